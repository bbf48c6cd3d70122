/- ParseEffect. -/
import Derived.Test.YtllhgjenkchniaaDoorI07
namespace Go.Proofs.YtllhgjenkchniaaDoor.Ident
open Go.RowKit Go.Lib
set_option linter.unusedVariables false
set_option linter.unusedSimpArgs false
set_option maxRecDepth 20000

def peV : Option (Int × Int × Int) → Value
  | some (a, b, p) => effV a b p
  | none => effV 0 0 0
def peE : Option (Int × Int × Int) → Int
  | some _ => 0
  | none => 10
/-- Where a text is read as an effect: the result's box, and the reader behind it. -/
structure PAt (w : World) (r : Rd) (W : World) : Prop where
  rd : RdAt W (w.heap.size + 1) r
  rb : W.heap[w.heap.size]? = some (eBox 0 0 0)
  bel : Below w.heap.size w W
  hv : Hv W
theorem PAt.later {w W W' : World} {r : Rd} (h : PAt w r W) (hb : Below W.heap.size W W') : PAt w r W' := by
  have h1 := (Array.getElem?_eq_some_iff.1 h.rb).1
  exact ⟨h.rd.later hb, (hb.block _ h1).trans h.rb, h.bel.trans (hb.mono h.bel.size), h.hv.later hb⟩
theorem PAt.call {w W W' : World} {r r' : Rd} (h : PAt w r W) (hH : Hv w) (hr : RdAt W' (w.heap.size + 1) r') (hb : But (w.heap.size + 1) W W') : PAt w r' W' := by
  have h1 := (Array.getElem?_eq_some_iff.1 h.rb).1
  exact ⟨hr, (hb.block _ h1 (by omega)).trans h.rb, h.bel.trans (hb.below (by omega) (by omega)), h.hv.but hb (hH.far (by omega))⟩
theorem PAt.fin {w W : World} {r : Rd} (h : PAt w r W) (u0 u1 u2 : Value) :
    (((W.setCell ⟨w.heap.size, 0, none⟩ u0).setCell ⟨w.heap.size, 1, none⟩ u1).setCell ⟨w.heap.size, 2, none⟩ u2).cell? ⟨w.heap.size, 0, none⟩ = some u0 ∧
    (((W.setCell ⟨w.heap.size, 0, none⟩ u0).setCell ⟨w.heap.size, 1, none⟩ u1).setCell ⟨w.heap.size, 2, none⟩ u2).cell? ⟨w.heap.size, 1, none⟩ = some u1 ∧
    (((W.setCell ⟨w.heap.size, 0, none⟩ u0).setCell ⟨w.heap.size, 1, none⟩ u1).setCell ⟨w.heap.size, 2, none⟩ u2).cell? ⟨w.heap.size, 2, none⟩ = some u2 ∧
    Below w.heap.size w (((W.setCell ⟨w.heap.size, 0, none⟩ u0).setCell ⟨w.heap.size, 1, none⟩ u1).setCell ⟨w.heap.size, 2, none⟩ u2) := by
  have h1 := heap_setCell_same W w.heap.size 0 _ _ u0 h.rb
  have h2 := heap_setCell_same _ w.heap.size 1 _ _ u1 h1
  have h3 := heap_setCell_same _ w.heap.size 2 _ _ u2 h2
  exact ⟨cell_of_row _ _ 0 _ _ _ h3, cell_of_row _ _ 1 _ _ _ h3, cell_of_row _ _ 2 _ _ _ h3, ((h.bel.setCell (Nat.le_refl _) _).setCell (Nat.le_refl _) _).setCell (Nat.le_refl _) _⟩
theorem PAt.cells {w W : World} {r : Rd} (h : PAt w r W) : W.cell? ⟨w.heap.size, 0, none⟩ = some (.int .i64 0) ∧ W.cell? ⟨w.heap.size, 1, none⟩ = some (.int .i64 0) ∧ W.cell? ⟨w.heap.size, 2, none⟩ = some (.int .i64 0) ∧ (∀ i, W.frozen? ⟨w.heap.size, i, none⟩ = false) :=
  ⟨cell_of_row W _ 0 _ TE _ h.rb, cell_of_row W _ 1 _ TE _ h.rb, cell_of_row W _ 2 _ TE _ h.rb, fun i => frozen_of_row W _ i _ TE h.rb⟩
theorem pat_new {w : World} (l : List UInt8) (hH : Hv w) : PAt w ⟨l, false⟩ ((w.alloc (.cells #[.int .i64 0, .int .i64 0, .int .i64 0] TE)).alloc (.cells #[.string (tx l), .bool false] 67)) := by
  have hb : Below w.heap.size w (w.alloc (.cells #[.int .i64 0, .int .i64 0, .int .i64 0] TE)) := (Below.refl _ _).alloc (Nat.le_refl _) _
  have hs : (w.alloc (.cells #[.int .i64 0, .int .i64 0, .int .i64 0] TE)).heap.size = w.heap.size + 1 := by show (w.heap.push _).size = _; rw [Array.size_push]
  have hb2 : Below w.heap.size w ((w.alloc (.cells #[.int .i64 0, .int .i64 0, .int .i64 0] TE)).alloc (.cells #[.string (tx l), .bool false] 67)) := hb.alloc (by omega) _
  refine ⟨?_, ?_, hb2, hH.later hb2⟩
  · show _ = _
    rw [← hs]; exact heap_alloc_new _ _
  · rw [Below.heap_alloc _ _ _ (by omega)]; exact heap_alloc_new _ _
theorem res_pe {o : Option (Int × Int × Int)} {e : Int} {a b p : Int} (hv : peV o = effV a b p) (he : peE o = e) : Ending.returned (.tuple #[effV a b p, .int .i64 e]) = .returned (.tuple #[peV o, .int .i64 (peE o)]) := by rw [hv, he]
theorem parse_any (l : List UInt8) (hl : l.length ≤ 100000000) (w : World) (hH : Hv w) :
    Calls Tryd.prog 16 #[.string (tx l)] w fun e w' => e = .returned (.tuple #[peV (pE l), .int .i64 (peE (pE l))]) ∧ Below w.heap.size w w' := by
  have P0 := Lib.hid (pat_new l hH)
  have hfar := Lib.hid (hH.far (b := w.heap.size + 1) (by omega))
  have hpe : pE l = if (effR ⟨l, false⟩).wrong = false ∧ (effR ⟨l, false⟩).rest = [] ∧ effOk (effA ⟨l, false⟩) (effB ⟨l, false⟩) (effP ⟨l, false⟩) then some (effA ⟨l, false⟩, effB ⟨l, false⟩, (effP ⟨l, false⟩ : Int)) else none := rfl
  have HE := Lib.hid (fun W h hH => rd_effect (w.heap.size + 1) ⟨l, false⟩ W h hH hfar.out hl)
  generalize effR ⟨l, false⟩ = r at *
  generalize effA ⟨l, false⟩ = A at *
  generalize effB ⟨l, false⟩ = B at *
  generalize ((effP ⟨l, false⟩ : Nat) : Int) = P at *
  have HPE := Lib.hid hpe
  clear hpe
  go_enter Tryd.func16, Tryd.ntmps16
  go_wp2_with fail
  refine (HE.out _ P0.out.rd P0.out.hv).mono ?_
  rintro e w1 ⟨rfl, hr1, hb1⟩
  have P1 := Lib.hid (P0.out.call hH hr1 hb1)
  clear P0 hr1 hb1 HE
  unfold effV
  go_wp2_with fail
  have P2 := Lib.hid (P1.out.later ((Below.refl _ w1).alloc (Nat.le_refl _) (.cells #[.int .i64 A, .int .i64 B, .int .i64 P] TE)))
  refine (end_any _ r _ P2.out.rd).mono ?_
  rintro e w2 ⟨rfl, rfl⟩
  cases hend : (!r.wrong && decide (r.rest = [])) with
  | false =>
    have hn : pE l = none := by
      rw [HPE.out, if_neg]
      rintro ⟨h1, h2, _⟩
      rw [h1, h2] at hend
      cases hend
    obtain ⟨y0, y1, y2, fz⟩ := P2.out.cells
    obtain ⟨z0, z1, z2, hb⟩ := P2.out.fin (.int .i64 0) (.int .i64 0) (.int .i64 0)
    replace hn := Lib.hid hn
    clear hend HPE
    go_wp2
    exact bodyPost_ret (res3e Tryd.results16 _ _ w.heap.size rfl z0 z1 z2) rfl ⟨by rw [hn.out]; rfl, hb⟩
  | true =>
    rw [Bool.and_eq_true, decide_eq_true_iff, Bool.not_eq_true'] at hend
    by_cases hok : effOk A B P
    · have hs : pE l = some (A, B, P) := by rw [HPE.out, if_pos ⟨hend.1, hend.2, hok⟩]
      have hc := Lib.hid (fun W => check_any A B P W)
      have ho : Hid (okE A B P = 0) := if_pos hok
      replace hs := Lib.hid hs
      clear hend HPE hok
      go_wp2_with fail
      refine (hc.out _).mono ?_
      rintro e w3 ⟨rfl, hb3⟩
      rw [ho.out]
      have P3 := Lib.hid (P2.out.later hb3)
      have hbx : w3.heap[w1.heap.size]? = some (eBox A B P) := (hb3.block _ (by show _ < (w1.heap.push _).size; rw [Array.size_push]; omega)).trans (heap_alloc_new w1 _)
      have x0 := cell_of_row w3 _ 0 _ _ _ hbx
      have x1 := cell_of_row w3 _ 1 _ _ _ hbx
      have x2 := cell_of_row w3 _ 2 _ _ _ hbx
      obtain ⟨y0, y1, y2, fz⟩ := P3.out.cells
      obtain ⟨z0, z1, z2, hb⟩ := P3.out.fin (.int .i64 A) (.int .i64 B) (.int .i64 P)
      clear hb3 hbx
      go_wp2
      exact bodyPost_ret (res3e Tryd.results16 _ _ w.heap.size rfl z0 z1 z2) rfl ⟨by rw [hs.out]; rfl, hb⟩
    · have hs : pE l = none := by rw [HPE.out, if_neg (fun h => hok h.2.2)]
      have hc := Lib.hid (fun W => check_any A B P W)
      have ho : Hid (okE A B P = 2) := if_neg hok
      replace hs := Lib.hid hs
      clear hend HPE hok
      go_wp2_with fail
      refine (hc.out _).mono ?_
      rintro e w3 ⟨rfl, hb3⟩
      rw [ho.out]
      have P3 := Lib.hid (P2.out.later hb3)
      obtain ⟨y0, y1, y2, fz⟩ := P3.out.cells
      obtain ⟨z0, z1, z2, hb⟩ := P3.out.fin (.int .i64 0) (.int .i64 0) (.int .i64 0)
      clear hb3
      go_wp2
      exact bodyPost_ret (res3e Tryd.results16 _ _ w.heap.size rfl z0 z1 z2) rfl ⟨by rw [hs.out]; rfl, hb⟩
end Go.Proofs.YtllhgjenkchniaaDoor.Ident
