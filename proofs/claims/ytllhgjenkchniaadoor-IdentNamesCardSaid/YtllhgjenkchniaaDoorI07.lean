/- The reader: an effect; ParseEffect. -/
import Derived.Test.YtllhgjenkchniaaDoorI06
namespace Go.Proofs.YtllhgjenkchniaaDoor.Ident
open Go.RowKit Go.Lib
set_option linter.unusedVariables false
set_option linter.unusedSimpArgs false
set_option maxRecDepth 20000

def eBox (a b p : Int) : Obj := .cells #[.int .i64 a, .int .i64 b, .int .i64 p] TE (0, 0)
/-- Where the reader reads an effect: the reader, the result's box and the variable's. -/
structure EAt (w : World) (b : Nat) (r : Rd) (a0 a1 a2 : Int) (W : World) : Prop where
  rd : RdAt W b r
  rb : W.heap[w.heap.size]? = some (eBox 0 0 0)
  eb : W.heap[w.heap.size + 1]? = some (eBox a0 a1 a2)
  but : But b w W
  hv : Hv W
  lt : b < w.heap.size
theorem EAt.call {w W W' : World} {b : Nat} {r r' : Rd} {a0 a1 a2 : Int} (h : EAt w b r a0 a1 a2 W) (hf : Far b) (hr : RdAt W' b r') (hb : But b W W') : EAt w b r' a0 a1 a2 W' := by
  have h1 := (Array.getElem?_eq_some_iff.1 h.rb).1
  have h2 := (Array.getElem?_eq_some_iff.1 h.eb).1
  have := h.lt
  exact ⟨hr, (hb.block _ h1 (by omega)).trans h.rb, (hb.block _ h2 (by omega)).trans h.eb, h.but.trans hb, h.hv.but hb hf, h.lt⟩
theorem far_set {w W : World} {b q i : Nat} {v : Value} (h : But b w W) (hq : w.heap.size ≤ q) : But b w (W.setCell ⟨q, i, none⟩ v) :=
  ⟨h.os, h.tape, h.output, by have := h.size; simpa [World.setCell] using this, fun k hk hn => (Below.heap_setCell _ _ _ _ (by show k ≠ q; omega)).trans (h.block k hk hn)⟩
theorem hv_set {W : World} {q i : Nat} {v : Value} (h : Hv W) (hf : Far q) : Hv (W.setCell ⟨q, i, none⟩ v) := h.but ((But.refl q W).setCell i v) hf
theorem EAt.set0 {w W : World} {b : Nat} {r : Rd} {a0 a1 a2 : Int} (h : EAt w b r a0 a1 a2 W) (hH : Hv w) (v : Int) : EAt w b r v a1 a2 (W.setCell ⟨w.heap.size + 1, 0, none⟩ (.int .i64 v)) := by
  have := h.lt
  exact ⟨(Below.heap_setCell _ _ _ _ (by show b ≠ w.heap.size + 1; omega)).trans h.rd, (Below.heap_setCell _ _ _ _ (by show w.heap.size ≠ w.heap.size + 1; omega)).trans h.rb, heap_setCell_same W _ 0 _ _ _ h.eb, far_set h.but (by omega), hv_set h.hv (hH.far (by omega)), h.lt⟩
theorem EAt.set1 {w W : World} {b : Nat} {r : Rd} {a0 a1 a2 : Int} (h : EAt w b r a0 a1 a2 W) (hH : Hv w) (v : Int) : EAt w b r a0 v a2 (W.setCell ⟨w.heap.size + 1, 1, none⟩ (.int .i64 v)) := by
  have := h.lt
  exact ⟨(Below.heap_setCell _ _ _ _ (by show b ≠ w.heap.size + 1; omega)).trans h.rd, (Below.heap_setCell _ _ _ _ (by show w.heap.size ≠ w.heap.size + 1; omega)).trans h.rb, heap_setCell_same W _ 1 _ _ _ h.eb, far_set h.but (by omega), hv_set h.hv (hH.far (by omega)), h.lt⟩
theorem EAt.set2 {w W : World} {b : Nat} {r : Rd} {a0 a1 a2 : Int} (h : EAt w b r a0 a1 a2 W) (hH : Hv w) (v : Int) : EAt w b r a0 a1 v (W.setCell ⟨w.heap.size + 1, 2, none⟩ (.int .i64 v)) := by
  have := h.lt
  exact ⟨(Below.heap_setCell _ _ _ _ (by show b ≠ w.heap.size + 1; omega)).trans h.rd, (Below.heap_setCell _ _ _ _ (by show w.heap.size ≠ w.heap.size + 1; omega)).trans h.rb, heap_setCell_same W _ 2 _ _ _ h.eb, far_set h.but (by omega), hv_set h.hv (hH.far (by omega)), h.lt⟩
theorem EAt.cells {w W : World} {b : Nat} {r : Rd} {a0 a1 a2 : Int} (h : EAt w b r a0 a1 a2 W) :
    W.cell? ⟨w.heap.size + 1, 0, none⟩ = some (.int .i64 a0) ∧ W.cell? ⟨w.heap.size + 1, 1, none⟩ = some (.int .i64 a1) ∧ W.cell? ⟨w.heap.size + 1, 2, none⟩ = some (.int .i64 a2) ∧
    (∀ i, W.frozen? ⟨w.heap.size + 1, i, none⟩ = false) ∧ W.cell? ⟨w.heap.size, 0, none⟩ = some (.int .i64 0) ∧ W.cell? ⟨w.heap.size, 1, none⟩ = some (.int .i64 0) ∧ W.cell? ⟨w.heap.size, 2, none⟩ = some (.int .i64 0) ∧ (∀ i, W.frozen? ⟨w.heap.size, i, none⟩ = false) :=
  ⟨cell_of_row W _ 0 _ TE _ h.eb, cell_of_row W _ 1 _ TE _ h.eb, cell_of_row W _ 2 _ TE _ h.eb, fun i => frozen_of_row W _ i _ TE h.eb, cell_of_row W _ 0 _ TE _ h.rb, cell_of_row W _ 1 _ TE _ h.rb, cell_of_row W _ 2 _ TE _ h.rb, fun i => frozen_of_row W _ i _ TE h.rb⟩
theorem eat_new {w : World} {b : Nat} {r : Rd} (hr : RdAt w b r) (hH : Hv w) : EAt w b r 0 0 0 ((w.alloc (.cells #[.int .i64 0, .int .i64 0, .int .i64 0] TE)).alloc (.cells #[.int .i64 0, .int .i64 0, .int .i64 0] TE)) := by
  have hb : Below w.heap.size w (w.alloc (.cells #[.int .i64 0, .int .i64 0, .int .i64 0] TE)) := (Below.refl _ _).alloc (Nat.le_refl _) _
  have hs : (w.alloc (.cells #[.int .i64 0, .int .i64 0, .int .i64 0] TE)).heap.size = w.heap.size + 1 := by show (w.heap.push _).size = _; rw [Array.size_push]
  have hb2 : Below w.heap.size w ((w.alloc (.cells #[.int .i64 0, .int .i64 0, .int .i64 0] TE)).alloc (.cells #[.int .i64 0, .int .i64 0, .int .i64 0] TE)) := hb.alloc (by omega) _
  refine ⟨hr.later hb2, ?_, ?_, But.of_below hb2, hH.later hb2, hr.lt⟩
  · rw [Below.heap_alloc _ _ _ (by omega)]; exact heap_alloc_new _ _
  · rw [← hs]; exact heap_alloc_new _ _

theorem EAt.fin {w W : World} {b : Nat} {r : Rd} {a0 a1 a2 : Int} (h : EAt w b r a0 a1 a2 W) (u0 u1 u2 : Value) :
    (((W.setCell ⟨w.heap.size, 0, none⟩ u0).setCell ⟨w.heap.size, 1, none⟩ u1).setCell ⟨w.heap.size, 2, none⟩ u2).cell? ⟨w.heap.size, 0, none⟩ = some u0 ∧
    (((W.setCell ⟨w.heap.size, 0, none⟩ u0).setCell ⟨w.heap.size, 1, none⟩ u1).setCell ⟨w.heap.size, 2, none⟩ u2).cell? ⟨w.heap.size, 1, none⟩ = some u1 ∧
    (((W.setCell ⟨w.heap.size, 0, none⟩ u0).setCell ⟨w.heap.size, 1, none⟩ u1).setCell ⟨w.heap.size, 2, none⟩ u2).cell? ⟨w.heap.size, 2, none⟩ = some u2 ∧
    RdAt (((W.setCell ⟨w.heap.size, 0, none⟩ u0).setCell ⟨w.heap.size, 1, none⟩ u1).setCell ⟨w.heap.size, 2, none⟩ u2) b r ∧ But b w (((W.setCell ⟨w.heap.size, 0, none⟩ u0).setCell ⟨w.heap.size, 1, none⟩ u1).setCell ⟨w.heap.size, 2, none⟩ u2) := by
  have h1 := heap_setCell_same W w.heap.size 0 _ _ u0 h.rb
  have h2 := heap_setCell_same _ w.heap.size 1 _ _ u1 h1
  have h3 := heap_setCell_same _ w.heap.size 2 _ _ u2 h2
  have hn : b ≠ w.heap.size := by have := h.lt; omega
  refine ⟨cell_of_row _ _ 0 _ _ _ h3, cell_of_row _ _ 1 _ _ _ h3, cell_of_row _ _ 2 _ _ _ h3, ?_, far_set (far_set (far_set h.but (Nat.le_refl _)) (Nat.le_refl _)) (Nat.le_refl _)⟩
  exact (Below.heap_setCell _ _ _ _ hn).trans ((Below.heap_setCell _ _ _ _ hn).trans ((Below.heap_setCell _ _ _ _ hn).trans h.rd))
theorem res3 {fn : Func} {t : Tmp} (hfn : fn.results = #[.cell t TE]) (tmps : Array Value) (W : World) (q : Nat) (h : tmps[t]?.getD undef = .pointer (some ⟨q, 0, none⟩)) {u0 u1 u2 : Value}
    (z0 : W.cell? ⟨q, 0, none⟩ = some u0) (z1 : W.cell? ⟨q, 1, none⟩ = some u1) (z2 : W.cell? ⟨q, 2, none⟩ = some u2) : (results fn tmps).run Tryd.prog W = .ok (.agg #[u0, u1, u2]) W := by
  simp [results, hfn, h, go_sem, z0, z1, z2]
theorem res3e {fn : Func} {t u : Tmp} (hfn : fn.results = #[.cell t TE, .tmp u]) (tmps : Array Value) (W : World) (q : Nat) (h : tmps[t]?.getD undef = .pointer (some ⟨q, 0, none⟩)) {u0 u1 u2 : Value}
    (z0 : W.cell? ⟨q, 0, none⟩ = some u0) (z1 : W.cell? ⟨q, 1, none⟩ = some u1) (z2 : W.cell? ⟨q, 2, none⟩ = some u2) : (results fn tmps).run Tryd.prog W = .ok (.tuple #[.agg #[u0, u1, u2], tmps.getD u undef]) W := by
  simp [results, hfn, h, go_sem, z0, z1, z2]
theorem need_len (p : List UInt8) (r : Rd) : (need p r).rest.length ≤ r.rest.length := by
  show (trimPrefix r.rest p).length ≤ _
  unfold trimPrefix
  split
  · rw [List.length_drop]; omega
  · exact Nat.le_refl _
theorem eff1_len (r : Rd) : (eff1 r).rest.length ≤ r.rest.length := Nat.le_trans (need_len _ _) (num_len r.rest).2
theorem rd_effect (b : Nat) (r : Rd) (w : World) (hr : RdAt w b r) (hH : Hv w) (hf : Far b) (hl : r.rest.length ≤ 100000000) :
    Calls Tryd.prog 41 #[.pointer (some ⟨b, 0, none⟩)] w fun e w' => e = .returned (effV (effA r) (effB r) (effP r : Nat)) ∧ RdAt w' b (effR r) ∧ But b w w' := by
  have E0 := Lib.hid (eat_new hr hH)
  go_enter Tryd.func41, Tryd.ntmps41
  have hfb := Lib.hid hf
  have l1 := Lib.hid (show (eff1 r).rest.length ≤ 100000000 from Nat.le_trans (eff1_len r) hl)
  have hN2 := Lib.hid (fun W (h : RdAt W b (eff1 r)) (hH : Hv W) => number_any b (eff1 r) W h hH hfb.out l1.out)
  go_wp2_with fail
  refine (number_any b r _ E0.out.rd E0.out.hv hfb.out hl).mono ?_
  rintro e w1 ⟨rfl, hr1, hb1⟩
  have E1 := Lib.hid (E0.out.call hfb.out hr1 hb1)
  obtain ⟨x0, x1, x2, fz, y0, y1, y2, fzr⟩ := E1.out.cells
  have E2 := Lib.hid (E1.out.set0 hH (numV r.rest))
  clear E0 hr1 hb1 E1
  go_wp2_with fail
  refine (need_any b _ [47] _ E2.out.rd).mono ?_
  rintro e w2 ⟨rfl, hr2, hb2⟩
  have E3 := Lib.hid (E2.out.call hfb.out hr2 hb2)
  clear E2 hr2 hb2 x0 x1 x2 fz y0 y1 y2 fzr
  go_wp2_with fail
  refine (hN2.out _ E3.out.rd E3.out.hv).mono ?_
  rintro e w3 ⟨rfl, hr3, hb3⟩
  have E4 := Lib.hid (E3.out.call hfb.out hr3 hb3)
  obtain ⟨x0, x1, x2, fz, y0, y1, y2, fzr⟩ := E4.out.cells
  have E5 := Lib.hid (E4.out.set1 hH (numV (eff1 r).rest))
  clear E3 hr3 hb3 E4
  go_wp2_with fail
  refine (need_any b _ [47] _ E5.out.rd).mono ?_
  rintro e w4 ⟨rfl, hr4, hb4⟩
  have E6 := Lib.hid (E5.out.call hfb.out hr4 hb4)
  clear E5 hr4 hb4 x0 x1 x2 fz y0 y1 y2 fzr
  go_wp2_with fail
  refine (phase_any b _ _ E6.out.rd).mono ?_
  rintro e w5 ⟨rfl, hr5, hb5⟩
  have E7 := Lib.hid (E6.out.call hfb.out hr5 hb5)
  obtain ⟨x0, x1, x2, fz, y0, y1, y2, fzr⟩ := E7.out.cells
  clear E6 hr5 hb5
  have E8 := Lib.hid (E7.out.set2 hH (phP (eff2 r).rest : Nat))
  clear E7
  go_wp2
  obtain ⟨z0, z1, z2, hrd, hbt⟩ := E8.out.fin (.int .i64 (numV r.rest)) (.int .i64 (numV (eff1 r).rest)) (.int .i64 (phP (eff2 r).rest : Nat))
  exact bodyPost_ret (v := effV (effA r) (effB r) (effP r : Nat)) (res3 Tryd.results41 _ _ w.heap.size rfl z0 z1 z2) rfl ⟨rfl, hrd, hbt⟩
end Go.Proofs.YtllhgjenkchniaaDoor.Ident
