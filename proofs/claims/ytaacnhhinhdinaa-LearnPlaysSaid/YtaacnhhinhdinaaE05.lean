/- What is known of a slot: refuses, with. -/
import Derived.Test.YtaacnhhinhdinaaE04
namespace Go.Proofs.Ytaacnhhinhdinaa.Lrn
open Go.RowKit Go.Maps Go.Lib
open Bal (TB bOk ckB ordV eqB eqB_t eqB_f eq_b alloc_b)
set_option linter.unusedVariables false
set_option linter.unusedSimpArgs false
set_option maxRecDepth 20000

theorem ba_list {a b : ByteArray} (h : a.toList = b.toList) : a = b := by
  rw [ByteArray.toList_eq, ByteArray.toList_eq] at h
  obtain ⟨⟨a⟩⟩ := a
  obtain ⟨⟨b⟩⟩ := b
  simp only at h
  rw [h]
def eqT (a b : ByteArray) : Bool := decide (a = b)
theorem eqT_t (a : ByteArray) : eqT a a = true := decide_eq_true rfl
theorem eqT_f {a b : ByteArray} (h : a ≠ b) : eqT a b = false := decide_eq_false h
theorem tl_eq (a b : ByteArray) : (a.toList == b.toList) = eqT a b := by
  by_cases h : a = b
  · subst h; rw [eqT_t]; simp
  · rw [eqT_f h, Bool.eq_false_iff]
    intro hh
    exact h (ba_list (by simpa using hh))
def refV (q : Kn) (v : ByteArray) : Bool := q.c && !eqT q.v v
abbrev kC (q : Kn) : Array Value := #[.bool q.c, .string q.v, .int .i64 q.r, .int .i64 q.m, .string q.t, .int .u64 q.x]
structure KBx (w : World) (b : Nat) (q : Kn) (W : World) : Prop where
  blk : W.heap[b]? = some (.cells (kC q) TK (0, 0))
  bel : Below w.heap.size w W
theorem KBx.lt {w W : World} {b : Nat} {q : Kn} (h : KBx w b q W) : b < W.heap.size := (Array.getElem?_eq_some_iff.1 h.blk).1
theorem KBx.later {w W W' : World} {b : Nat} {q : Kn} (h : KBx w b q W) (hb : Below W.heap.size W W') : KBx w b q W' := ⟨(hb.block _ h.lt).trans h.blk, h.bel.trans (hb.mono h.bel.size)⟩
theorem KBx.cells {w W : World} {b : Nat} {q : Kn} (h : KBx w b q W) :
    W.cell? ⟨b, 0, none⟩ = some (.bool q.c) ∧ W.cell? ⟨b, 1, none⟩ = some (.string q.v) ∧ W.cell? ⟨b, 2, none⟩ = some (.int .i64 q.r) ∧ W.cell? ⟨b, 3, none⟩ = some (.int .i64 q.m) ∧ W.cell? ⟨b, 4, none⟩ = some (.string q.t) ∧ W.cell? ⟨b, 5, none⟩ = some (.int .u64 q.x) :=
  ⟨cell_of_row W b 0 _ TK _ h.blk, cell_of_row W b 1 _ TK _ h.blk, cell_of_row W b 2 _ TK _ h.blk, cell_of_row W b 3 _ TK _ h.blk, cell_of_row W b 4 _ TK _ h.blk, cell_of_row W b 5 _ TK _ h.blk⟩
theorem KBx.frozen {w W : World} {b : Nat} {q : Kn} (h : KBx w b q W) (i : Nat) : W.frozen? ⟨b, i, none⟩ = false := frozen_of_row W b i _ TK h.blk
theorem kbx_new (w : World) (q : Kn) : KBx w w.heap.size q (w.alloc (.cells (kC q) TK)) := ⟨heap_alloc_new _ _, alloc_b _ _⟩
theorem refuses_any (q : Kn) (v : ByteArray) (w : World) :
    Calls Try.prog 34 #[vK q, .string v] w fun e w' => e = .returned (.bool (refV q v)) ∧ Below w.heap.size w w' := by
  obtain ⟨c, qv, r, m, t, x⟩ := q
  have hq := tl_eq qv v
  have e : Hid (refV ⟨c, qv, r, m, t, x⟩ v = (c && !eqT qv v)) := Lib.hid rfl
  generalize eqT qv v = z at *
  have hb := Lib.hid (kbx_new w ⟨c, qv, r, m, t, x⟩).bel
  cases c with
  | false =>
    go_enter Try.func34, Try.ntmps34
    go_wp2
    go_ret
    exact ⟨by rw [e.out]; rfl, hb.out⟩
  | true =>
    go_enter Try.func34, Try.ntmps34
    go_wp2
    go_ret
    exact ⟨by rw [e.out]; rfl, hb.out⟩

/-! with. -/
def withP (q : Kn) (r m : Int) (v : ByteArray) : Kn := if r = q.r ∧ m = q.m then q else ⟨q.c, q.v, r, m, v, 0⟩
def withK (q : Kn) (k r m : Int) (v : ByteArray) (n : Int) : Kn := ⟨(withP q r m v).c, (withP q r m v).v, (withP q r m v).r, (withP q r m v).m, (withP q r m v).t, Quo.wiV (withP q r m v).x k n⟩
theorem kset {W : World} {b : Nat} {p q : Kn} (h : W.heap[b]? = some (.cells (kC p) TK (0, 0))) :
    ((((((W.setCell ⟨b, 0, none⟩ (.bool q.c)).setCell ⟨b, 1, none⟩ (.string q.v)).setCell ⟨b, 2, none⟩ (.int .i64 q.r)).setCell ⟨b, 3, none⟩ (.int .i64 q.m)).setCell ⟨b, 4, none⟩ (.string q.t)).setCell ⟨b, 5, none⟩ (.int .u64 q.x)).heap[b]? = some (.cells (kC q) TK (0, 0)) := by
  have h0 := heap_setCell_same W b 0 _ TK (.bool q.c) h
  have h1 := heap_setCell_same _ b 1 _ TK (.string q.v) h0
  have h2 := heap_setCell_same _ b 2 _ TK (.int .i64 q.r) h1
  have h3 := heap_setCell_same _ b 3 _ TK (.int .i64 q.m) h2
  have h4 := heap_setCell_same _ b 4 _ TK (.string q.t) h3
  exact heap_setCell_same _ b 5 _ TK (.int .u64 q.x) h4
/-- The two boxes of the call: what is known, and the result. -/
structure WBx (w : World) (p : Kn) (W : World) : Prop where
  b1 : W.heap[w.heap.size]? = some (.cells (kC p) TK (0, 0))
  b2 : W.heap[w.heap.size + 1 + 1]? = some (.cells (kC zK) TK (0, 0))
  bel : Below w.heap.size w W
theorem wbx_new (w : World) (p : Kn) (r m : Int) : WBx w p (((w.alloc (.cells (kC p) TK)).alloc (.cells #[.int .i64 r, .int .i64 m] TB)).alloc (.cells (kC zK) TK)) := by
  have h1 := alloc_b w (.cells (kC p) TK)
  have h2 := h1.alloc h1.size (.cells #[.int .i64 r, .int .i64 m] TB)
  have h3 := h2.alloc h2.size (.cells (kC zK) TK)
  have e := heap_alloc_new ((w.alloc (.cells (kC p) TK)).alloc (.cells #[.int .i64 r, .int .i64 m] TB)) (.cells (kC zK) TK)
  rw [World.size_alloc, World.size_alloc] at e
  refine ⟨?_, e, h3⟩
  rw [Below.heap_alloc _ _ _ (by rw [World.size_alloc, World.size_alloc]; omega), Below.heap_alloc _ _ _ (by rw [World.size_alloc]; omega)]
  exact heap_alloc_new _ _
theorem WBx.later {w W W' : World} {p : Kn} (h : WBx w p W) (hb : Below W.heap.size W W') : WBx w p W' :=
  ⟨(hb.block _ (Array.getElem?_eq_some_iff.1 h.b1).1).trans h.b1, (hb.block _ (Array.getElem?_eq_some_iff.1 h.b2).1).trans h.b2, h.bel.trans (hb.mono h.bel.size)⟩
theorem WBx.set {w W : World} {p : Kn} (h : WBx w p W) (x : Nat) : WBx w ⟨p.c, p.v, p.r, p.m, p.t, x⟩ (W.setCell ⟨w.heap.size, 5, none⟩ (.int .u64 x)) :=
  ⟨heap_setCell_same W _ 5 _ TK (.int .u64 x) h.b1, (Below.heap_setCell _ _ _ _ (by show w.heap.size + 1 + 1 ≠ w.heap.size; omega)).trans h.b2, h.bel.setCell (Nat.le_refl _) _⟩
theorem WBx.old {w W : World} {p : Kn} (h : WBx w p W) : KBx w (w.heap.size + 1 + 1) zK W := ⟨h.b2, h.bel⟩
theorem WBx.cells {w W : World} {p : Kn} (h : WBx w p W) : KBx w w.heap.size p W := ⟨h.b1, h.bel⟩
theorem WBx.res {w W : World} {p : Kn} (h : WBx w p W) : KBx w (w.heap.size + 1 + 1) p
    ((((((W.setCell ⟨w.heap.size + 1 + 1, 0, none⟩ (.bool p.c)).setCell ⟨w.heap.size + 1 + 1, 1, none⟩ (.string p.v)).setCell ⟨w.heap.size + 1 + 1, 2, none⟩ (.int .i64 p.r)).setCell ⟨w.heap.size + 1 + 1, 3, none⟩ (.int .i64 p.m)).setCell ⟨w.heap.size + 1 + 1, 4, none⟩ (.string p.t)).setCell ⟨w.heap.size + 1 + 1, 5, none⟩ (.int .u64 p.x)) := by
  have k : w.heap.size ≤ w.heap.size + 1 + 1 := by omega
  exact ⟨kset h.b2, (((((h.bel.setCell k _).setCell k _).setCell k _).setCell k _).setCell k _).setCell k _⟩
theorem with_res {fn : Func} {t : Tmp} (hfn : fn.results = #[.cell t TK]) (tmps : Array Value) {w W : World} {b : Nat} {q : Kn} (h : tmps[t]?.getD undef = .pointer (some ⟨b, 0, none⟩)) (hb : KBx w b q W) :
    (results fn tmps).run Try.prog W = .ok (vK q) W := by
  obtain ⟨c0, c1, c2, c3, c4, c5⟩ := hb.cells
  simp [results, hfn, go_sem, h, c0, c1, c2, c3, c4, c5]
set_option maxHeartbeats 1000000 in
theorem with_any (q : Kn) (k r m : Int) (v : ByteArray) (n : Int) (hx : q.x < 18446744073709551616) (w : World) :
    Calls Try.prog 35 #[vK q, .int .i64 k, .agg #[.int .i64 r, .int .i64 m], .string v, .int .i64 n] w fun e w' => e = .returned (vK (withK q k r m v n)) ∧ Below w.heap.size w w' := by
  have hE : withK q k r m v n = ⟨(withP q r m v).c, (withP q r m v).v, (withP q r m v).r, (withP q r m v).m, (withP q r m v).t, Quo.wiV (withP q r m v).x k n⟩ := rfl
  rw [hE]
  clear hE
  have hq := fun W => eq_b r m q.r q.m W
  by_cases hz : r = q.r ∧ m = q.m
  · rw [eqB_t hz] at hq
    have hP : withP q r m v = q := if_pos hz
    rw [hP]
    have HB := Lib.hid (wbx_new w q r m)
    have hW := Lib.hid (fun (W : World) => Quo.with_any q.x hx k n W)
    obtain ⟨c, qv, qr, qm, t, x⟩ := q
    generalize Quo.wiV x k n = y at *
    clear hz hP hx
    go_enter Try.func35, Try.ntmps35
    go_wp2_with fail
    go_at_call 58
    refine (hW.out _).mono ?_
    rintro e w2 ⟨rfl, hb2⟩
    have h2 := HB.out.later hb2
    have f5 := h2.cells.frozen 5
    obtain ⟨_, _, _, _, _, d5⟩ := h2.cells.cells
    obtain ⟨g0, g1, g2, g3, g4, g5⟩ := h2.old.cells
    have k0 := h2.old.frozen 0
    have k1 := h2.old.frozen 1
    have k2 := h2.old.frozen 2
    have k3 := h2.old.frozen 3
    have k4 := h2.old.frozen 4
    have k5 := h2.old.frozen 5
    have h3 := h2.set y
    obtain ⟨c0, c1, c2, c3, c4, c5⟩ := h3.cells.cells
    have h10 := Lib.hid h3.res
    clear hb2 h3 h2
    go_wp2
    refine bodyPost_ret (v := vK ⟨c, qv, qr, qm, t, y⟩) ?_ rfl ⟨rfl, h10.out.bel⟩
    exact with_res Try.results35 _ rfl h10.out
  · rw [eqB_f hz] at hq
    have hP : withP q r m v = ⟨q.c, q.v, r, m, v, 0⟩ := if_neg hz
    rw [hP]
    have HB := Lib.hid (wbx_new w ⟨q.c, q.v, r, m, v, 0⟩ r m)
    have hW := Lib.hid (fun (W : World) => Quo.with_any 0 (by decide) k n W)
    obtain ⟨c, qv, qr, qm, t, x⟩ := q
    show Calls _ _ _ _ fun e w' => e = .returned (vK ⟨c, qv, r, m, v, Quo.wiV 0 k n⟩) ∧ _
    generalize Quo.wiV 0 k n = y at *
    clear hz hP hx
    go_enter Try.func35, Try.ntmps35
    go_wp2_with fail
    go_at_call 58
    refine (hW.out _).mono ?_
    rintro e w2 ⟨rfl, hb2⟩
    have h2 := HB.out.later hb2
    have f5 := h2.cells.frozen 5
    obtain ⟨_, _, _, _, _, d5⟩ := h2.cells.cells
    obtain ⟨g0, g1, g2, g3, g4, g5⟩ := h2.old.cells
    have k0 := h2.old.frozen 0
    have k1 := h2.old.frozen 1
    have k2 := h2.old.frozen 2
    have k3 := h2.old.frozen 3
    have k4 := h2.old.frozen 4
    have k5 := h2.old.frozen 5
    have h3 := h2.set y
    obtain ⟨c0, c1, c2, c3, c4, c5⟩ := h3.cells.cells
    have h10 := Lib.hid h3.res
    clear hb2 h3 h2
    go_wp2
    refine bodyPost_ret (v := vK ⟨c, qv, r, m, v, y⟩) ?_ rfl ⟨rfl, h10.out.bel⟩
    exact with_res Try.results35 _ rfl h10.out
end Go.Proofs.Ytaacnhhinhdinaa.Lrn
