/- ParseItem. -/
import Derived.Test.YtllhgjenkchniaaDoorI12
namespace Go.Proofs.YtllhgjenkchniaaDoor.Ident
open Go.RowKit Go.Lib
set_option linter.unusedVariables false
set_option linter.unusedSimpArgs false
set_option maxRecDepth 20000

def piX (o : Option It) : It := match o with | some x => x | none => it0
def piE (o : Option It) : Int := match o with | some _ => 0 | none => 10
/-- Where a text is read as an item: the result's box, and the reader behind it. -/
structure QAt (w : World) (r : Rd) (W : World) : Prop where
  rd : RdAt W (w.heap.size + 1) r
  rb : W.heap[w.heap.size]? = some (itB it0)
  bel : Below w.heap.size w W
  hv : Hv W
theorem QAt.later {w W W' : World} {r : Rd} (h : QAt w r W) (hb : Below W.heap.size W W') : QAt w r W' := by
  have h1 := (Array.getElem?_eq_some_iff.1 h.rb).1
  exact ⟨h.rd.later hb, (hb.block _ h1).trans h.rb, h.bel.trans (hb.mono h.bel.size), h.hv.later hb⟩
theorem QAt.call {w W W' : World} {r r' : Rd} (h : QAt w r W) (hH : Hv w) (hr : RdAt W' (w.heap.size + 1) r') (hb : But (w.heap.size + 1) W W') : QAt w r' W' := by
  have h1 := (Array.getElem?_eq_some_iff.1 h.rb).1
  exact ⟨hr, (hb.block _ h1 (by omega)).trans h.rb, h.bel.trans (hb.below (by omega) (by omega)), h.hv.but hb (hH.far (by omega))⟩
theorem qat_new {w : World} (l : List UInt8) (hH : Hv w) : QAt w ⟨l, false⟩ ((w.alloc (.cells #[.int .i64 0, .int .i64 0, .int .i64 0, .int .i64 0, .bool false, .int .i64 0] TI)).alloc (.cells #[.string (tx l), .bool false] 67)) := by
  have hb : Below w.heap.size w (w.alloc (.cells #[.int .i64 0, .int .i64 0, .int .i64 0, .int .i64 0, .bool false, .int .i64 0] TI)) := (Below.refl _ _).alloc (Nat.le_refl _) _
  have hs : (w.alloc (.cells #[.int .i64 0, .int .i64 0, .int .i64 0, .int .i64 0, .bool false, .int .i64 0] TI)).heap.size = w.heap.size + 1 := by show (w.heap.push _).size = _; rw [Array.size_push]
  have hb2 : Below w.heap.size w ((w.alloc (.cells #[.int .i64 0, .int .i64 0, .int .i64 0, .int .i64 0, .bool false, .int .i64 0] TI)).alloc (.cells #[.string (tx l), .bool false] 67)) := hb.alloc (by omega) _
  refine ⟨?_, ?_, hb2, hH.later hb2⟩
  · show _ = _
    rw [← hs]; exact heap_alloc_new _ _
  · rw [Below.heap_alloc _ _ _ (by omega)]; exact heap_alloc_new _ _
theorem parseI_any (l : List UInt8) (hl : l.length ≤ 100000000) (w : World) (hH : Hv w) :
    Calls Tryd.prog 22 #[.string (tx l)] w fun e w' => e = .returned (.tuple #[itV (piX (pI l)), .int .i64 (piE (pI l))]) ∧ Below w.heap.size w w' := by
  have P0 := Lib.hid (qat_new l hH)
  have hfar := Lib.hid (hH.far (b := w.heap.size + 1) (by omega))
  have hpe : pI l = if (itR ⟨l, false⟩).wrong = false ∧ (itR ⟨l, false⟩).rest = [] ∧ okIt (itX ⟨l, false⟩) then some (itX ⟨l, false⟩) else none := rfl
  have HE := Lib.hid (fun W h hH => rd_item (w.heap.size + 1) ⟨l, false⟩ W h hH hfar.out hl)
  generalize itR ⟨l, false⟩ = r at *
  obtain ⟨x, hx⟩ : ∃ x, itX ⟨l, false⟩ = x := ⟨_, rfl⟩
  rw [hx] at HE hpe
  clear hx
  obtain ⟨a, b, p, m, i, g⟩ := x
  have HPE := Lib.hid hpe
  clear hpe
  go_enter Tryd.func22, Tryd.ntmps22
  go_wp2_with fail
  refine (HE.out _ P0.out.rd P0.out.hv).mono ?_
  rintro e w1 ⟨rfl, hr1, hb1⟩
  have P1 := Lib.hid (P0.out.call hH hr1 hb1)
  clear P0 hr1 hb1 HE
  unfold itV
  go_wp2_with fail
  have P2 := Lib.hid (P1.out.later ((Below.refl _ w1).alloc (Nat.le_refl _) (.cells #[.int .i64 a, .int .i64 b, .int .i64 p, .int .i64 m, .bool i, .int .i64 g] TI)))
  refine (end_any _ r _ P2.out.rd).mono ?_
  rintro e w2 ⟨rfl, rfl⟩
  cases hend : (!r.wrong && decide (r.rest = [])) with
  | false =>
    have hn : pI l = none := by
      rw [HPE.out, if_neg]
      rintro ⟨h1, h2, _⟩
      rw [h1, h2] at hend
      cases hend
    obtain ⟨y0, y1, y2, y3, y4, y5, fz⟩ := ib_cells P2.out.rb
    have hbx := set6_blk P2.out.rb it0
    have hbt := set6_below P2.out.bel (Nat.le_refl _) it0
    replace hn := Lib.hid hn
    clear hend HPE
    go_wp2
    exact bodyPost_ret (res6e Tryd.results22 _ _ w.heap.size rfl hbx) rfl ⟨by rw [hn.out]; rfl, hbt⟩
  | true =>
    rw [Bool.and_eq_true, decide_eq_true_iff, Bool.not_eq_true'] at hend
    have hc := Lib.hid (fun W => checkI_any a b p m i g W)
    by_cases hok : okIt ⟨a, b, p, m, i, g⟩
    · have hs : pI l = some ⟨a, b, p, m, i, g⟩ := by rw [HPE.out, if_pos ⟨hend.1, hend.2, hok⟩]
      have ho := Lib.hid (show ckI ⟨a, b, p, m, i, g⟩ = 0 from if_pos hok)
      replace hs := Lib.hid hs
      clear hend HPE hok
      go_wp2_with fail
      refine (hc.out _).mono ?_
      rintro e w3 ⟨rfl, hb3⟩
      rw [ho.out]
      have P3 := Lib.hid (P2.out.later hb3)
      have hbx : w3.heap[w1.heap.size]? = some (itB ⟨a, b, p, m, i, g⟩) := (hb3.block _ (by show _ < (w1.heap.push _).size; rw [Array.size_push]; omega)).trans (heap_alloc_new w1 _)
      obtain ⟨x0, x1, x2, x3, x4, x5, _⟩ := ib_cells hbx
      obtain ⟨y0, y1, y2, y3, y4, y5, fz⟩ := ib_cells P3.out.rb
      have hby := set6_blk P3.out.rb ⟨a, b, p, m, i, g⟩
      have hbt := set6_below P3.out.bel (Nat.le_refl _) ⟨a, b, p, m, i, g⟩
      clear hb3 hbx
      go_wp2
      exact bodyPost_ret (res6e Tryd.results22 _ _ w.heap.size rfl hby) rfl ⟨by rw [hs.out]; rfl, hbt⟩
    · have hs : pI l = none := by rw [HPE.out, if_neg (fun h => hok h.2.2)]
      have ho := Lib.hid (show ckI ⟨a, b, p, m, i, g⟩ = 2 from if_neg hok)
      replace hs := Lib.hid hs
      clear hend HPE hok
      go_wp2_with fail
      refine (hc.out _).mono ?_
      rintro e w3 ⟨rfl, hb3⟩
      rw [ho.out]
      have P3 := Lib.hid (P2.out.later hb3)
      obtain ⟨y0, y1, y2, y3, y4, y5, fz⟩ := ib_cells P3.out.rb
      have hby := set6_blk P3.out.rb it0
      have hbt := set6_below P3.out.bel (Nat.le_refl _) it0
      clear hb3
      go_wp2
      exact bodyPost_ret (res6e Tryd.results22 _ _ w.heap.size rfl hby) rfl ⟨by rw [hs.out]; rfl, hbt⟩
end Go.Proofs.YtllhgjenkchniaaDoor.Ident
