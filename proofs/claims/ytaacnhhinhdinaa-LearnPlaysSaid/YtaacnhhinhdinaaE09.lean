/- Add. -/
import Derived.Test.YtaacnhhinhdinaaE08
namespace Go.Proofs.Ytaacnhhinhdinaa.Lrn
open Go.RowKit Go.Maps Go.Lib
open Bal (TB bOk ckB ordV eqB eqB_t eqB_f eq_b alloc_b order_any)
set_option linter.unusedVariables false
set_option linter.unusedSimpArgs false
set_option maxRecDepth 20000

/-- The ballot in the call's own box, and the learner. -/
structure PAt (w : World) (sb mb : Nat) (s : St) (x y : Int) (W : World) : Prop where
  b1 : W.heap[w.heap.size]? = some (.cells #[.int .i64 x, .int .i64 y] TB (0, 0))
  ax : Ax W sb mb s
  bel : Below w.heap.size w W
theorem PAt.later {w W W' : World} {sb mb : Nat} {s : St} {x y : Int} (h : PAt w sb mb s x y W) (hb : Below W.heap.size W W') : PAt w sb mb s x y W' :=
  ⟨(hb.block _ (Array.getElem?_eq_some_iff.1 h.b1).1).trans h.b1, h.ax.later hb, h.bel.trans (hb.mono h.bel.size)⟩
theorem PAt.cells {w W : World} {sb mb : Nat} {s : St} {x y : Int} (h : PAt w sb mb s x y W) : W.cell? ⟨w.heap.size, 0, none⟩ = some (.int .i64 x) ∧ W.cell? ⟨w.heap.size, 1, none⟩ = some (.int .i64 y) ∧ W.cell? ⟨sb, 2, none⟩ = some (.map (some mb)) :=
  ⟨cell_of_row W _ 0 _ TB _ h.b1, cell_of_row W _ 1 _ TB _ h.b1, h.ax.cells.2.2⟩
theorem pat_new {w : World} {sb mb : Nat} {s : St} (h : Ax w sb mb s) (x y : Int) : PAt w sb mb s x y (w.alloc (.cells #[.int .i64 x, .int .i64 y] TB)) :=
  ⟨heap_alloc_new _ _, h.alloc _, alloc_b _ _⟩
/-- With what is known of the slot in a second box. -/
structure AAt (w : World) (sb mb : Nat) (s : St) (x y : Int) (b : Nat) (q : Kn) (W : World) : Prop where
  b1 : W.heap[w.heap.size]? = some (.cells #[.int .i64 x, .int .i64 y] TB (0, 0))
  b2 : W.heap[b]? = some (.cells (kC q) TK (0, 0))
  ax : Ax W sb mb s
  bel : Below w.heap.size w W
  hb : w.heap.size < b
  hs : sb < w.heap.size ∧ mb < w.heap.size
section
variable {w W W' : World} {sb mb b : Nat} {s : St} {x y : Int} {q : Kn}
theorem AAt.later (h : AAt w sb mb s x y b q W) (hb : Below W.heap.size W W') : AAt w sb mb s x y b q W' :=
  ⟨(hb.block _ (Array.getElem?_eq_some_iff.1 h.b1).1).trans h.b1, (hb.block _ (Array.getElem?_eq_some_iff.1 h.b2).1).trans h.b2, h.ax.later hb, h.bel.trans (hb.mono h.bel.size), h.hb, h.hs⟩
theorem AAt.drew (h : AAt w sb mb s x y b q W) : AAt w sb mb s x y b q W.drew := h.later (Below.refl _ _).drew
theorem AAt.k (h : AAt w sb mb s x y b q W) : KBx w b q W := ⟨h.b2, h.bel⟩
theorem AAt.cells (h : AAt w sb mb s x y b q W) : W.cell? ⟨w.heap.size, 0, none⟩ = some (.int .i64 x) ∧ W.cell? ⟨w.heap.size, 1, none⟩ = some (.int .i64 y) ∧ W.cell? ⟨sb, 0, none⟩ = some (.int .i64 s.n) ∧ W.cell? ⟨sb, 2, none⟩ = some (.map (some mb)) :=
  ⟨cell_of_row W _ 0 _ TB _ h.b1, cell_of_row W _ 1 _ TB _ h.b1, h.ax.cells.1, h.ax.cells.2.2⟩
theorem aat_new (h : PAt w sb mb s x y W) (hs : sb < w.heap.size ∧ mb < w.heap.size) (q : Kn) : AAt w sb mb s x y W.heap.size q (W.alloc (.cells (kC q) TK)) := by
  have hl := (Array.getElem?_eq_some_iff.1 h.b1).1
  have h2 := h.later (alloc_b W (.cells (kC q) TK))
  exact ⟨h2.b1, heap_alloc_new _ _, h2.ax, h2.bel, hl, hs⟩
theorem AAt.kept (h : AAt w sb mb s x y b q W) (k : Keeps (fun i => i = b) W W') {p : Kn} (hp : W'.heap[b]? = some (.cells (kC p) TK (0, 0))) : AAt w sb mb s x y b p W' := by
  have o := h.hb
  have k1 := k.block w.heap.size (Array.getElem?_eq_some_iff.1 h.b1).1 (by show ¬ w.heap.size = b; omega)
  exact ⟨k1.trans h.b1, hp, h.ax.kept k (by have := h.hs.1; omega) (by have := h.hs.2; omega), ⟨k.os.trans h.bel.os, k.tape.trans h.bel.tape, k.output.trans h.bel.output, Nat.le_trans h.bel.size k.size, fun i hi => (k.block i (Nat.lt_of_lt_of_le hi h.bel.size) (by omega)).trans (h.bel.block i hi)⟩, o, h.hs⟩
theorem AAt.set6 (h : AAt w sb mb s x y b q W) (p : Kn) : AAt w sb mb s x y b p
    ((((((W.setCell ⟨b, 0, none⟩ (.bool p.c)).setCell ⟨b, 1, none⟩ (.string p.v)).setCell ⟨b, 2, none⟩ (.int .i64 p.r)).setCell ⟨b, 3, none⟩ (.int .i64 p.m)).setCell ⟨b, 4, none⟩ (.string p.t)).setCell ⟨b, 5, none⟩ (.int .u64 p.x)) :=
  h.kept ((((((Keeps.refl (fun i => i = b) W).setCell (p := ⟨b, 0, none⟩) (.inl rfl) _).setCell (p := ⟨b, 1, none⟩) (.inl rfl) _).setCell (p := ⟨b, 2, none⟩) (.inl rfl) _).setCell (p := ⟨b, 3, none⟩) (.inl rfl) _).setCell (p := ⟨b, 4, none⟩) (.inl rfl) _ |>.setCell (p := ⟨b, 5, none⟩) (.inl rfl) _) (kset h.b2)
theorem AAt.set2 (h : AAt w sb mb s x y b q W) (v : ByteArray) : AAt w sb mb s x y b ⟨true, v, q.r, q.m, q.t, q.x⟩ ((W.setCell ⟨b, 0, none⟩ (.bool true)).setCell ⟨b, 1, none⟩ (.string v)) :=
  h.kept (((Keeps.refl (fun i => i = b) W).setCell (p := ⟨b, 0, none⟩) (.inl rfl) _).setCell (p := ⟨b, 1, none⟩) (.inl rfl) _)
    (heap_setCell_same _ b 1 _ TK (.string v) (heap_setCell_same W b 0 _ TK (.bool true) h.b2))
end
def AddIs (w : World) (sb mb : Nat) (s : St) (nd x y k : Int) (v : ByteArray) (e : Ending) (w' : World) : Prop :=
  e = .returned (.tuple #[.bool (addB s nd x y k v), .int .i64 (addE s nd x y k v)]) ∧ Ax w' sb mb (addS s nd x y k v) ∧ Keeps (fun i => i = mb) w w'
theorem add_off {w W : World} {sb mb : Nat} {s : St} {nd x y k : Int} {v : ByteArray} (h0 : ¬ addOn s nd x y k v) {z : Int} (hz : addE s nd x y k v = z) (hA : Ax W sb mb s) (hb : Below w.heap.size w W) :
    AddIs w sb mb s nd x y k v (.returned (.tuple #[.bool false, .int .i64 z])) W := by
  refine ⟨?_, ?_, Keeps.of_below hb⟩
  · rw [hz]; unfold addB; rw [decide_eq_false h0, Bool.false_and]
  · unfold addS; rw [if_neg h0]; exact hA
theorem add_on {w W W' : World} {sb mb : Nat} {s : St} {nd x y k : Int} {v : ByteArray} (h0 : addOn s nd x y k v) {B : Bool} (hB : addN (withK (at' s k) nd x y v s.n) s.n = B) (hA : Ax W' sb mb ⟨s.n, s.b, putM s.M ⟨k, addW (at' s k) nd x y v s.n⟩⟩) (hb : Below w.heap.size w W) (hg : W.grownBy W' (some mb)) :
    AddIs w sb mb s nd x y k v (.returned (.tuple #[.bool B, .int .i64 0])) W' := by
  refine ⟨?_, ?_, (Keeps.of_below (F := fun i => i = mb) hb).grown hg fun g hg => by injection hg with hg; exact .inl hg.symm⟩
  · unfold addB addE
    rw [decide_eq_true h0, Bool.true_and, hB, if_pos h0.1, if_pos h0.2.1, if_neg h0.2.2.1, if_neg (by rw [h0.2.2.2]; decide)]
  · unfold addS; rw [if_pos h0]; exact hA
set_option maxHeartbeats 2000000 in
theorem add_node {sb mb : Nat} {s : St} (nd x y k : Int) (v : ByteArray) (w : World) (h : Ax w sb mb s) (h1 : ¬ (0 ≤ nd ∧ nd < s.n)) :
    Calls Try.prog 14 #[.pointer (some ⟨sb, 0, none⟩), .int .i64 nd, .agg #[.int .i64 x, .int .i64 y], .int .i64 k, .string v] w (AddIs w sb mb s nd x y k v) := by
  have P0 := pat_new h x y
  have HV := Lib.hid P0.ax.valid
  have HN := Lib.hid (isnode_any nd _ P0.ax)
  have HG := Lib.hid (good_any x y _ P0.ax)
  have HC := Lib.hid (fun W (hW : Ax W sb mb s) => chk_any k v W hW)
  obtain ⟨c0, c1, _⟩ := P0.cells
  have hlt := Lib.hid h.lt
  replace P0 := Lib.hid P0
  have b1 : decide (0 ≤ nd ∧ nd < s.n) = false := decide_eq_false h1
  have hno : Hid (∀ W, PAt w sb mb s x y W → AddIs w sb mb s nd x y k v (.returned (.tuple #[.bool false, .int .i64 2])) W) := Lib.hid fun W hW => add_off (fun h0 => h1 h0.1.1) (by unfold addE; rw [if_neg (fun h0 => h1 h0.1)]) hW.ax hW.bel
  generalize decide (0 ≤ nd ∧ nd < s.n) = g at *
  subst b1
  clear h1 h
  go_enter Try.func14, Try.ntmps14
  go_wp2_with (first
    | (go_at_call 29; refine HV.out.mono ?_; rintro e w' ⟨rfl, rfl⟩)
    | (go_at_call 30; refine HN.out.mono ?_; rintro e w' ⟨rfl, rfl⟩))
  go_ret2
  exact hno.out _ P0.out
set_option maxHeartbeats 2000000 in
theorem add_good {sb mb : Nat} {s : St} (nd x y k : Int) (v : ByteArray) (w : World) (h : Ax w sb mb s) (h1 : 0 ≤ nd ∧ nd < s.n) (h2 : ¬ Gd s.n x y) :
    Calls Try.prog 14 #[.pointer (some ⟨sb, 0, none⟩), .int .i64 nd, .agg #[.int .i64 x, .int .i64 y], .int .i64 k, .string v] w (AddIs w sb mb s nd x y k v) := by
  have P0 := pat_new h x y
  have HV := Lib.hid P0.ax.valid
  have HN := Lib.hid (isnode_any nd _ P0.ax)
  have HG := Lib.hid (good_any x y _ P0.ax)
  have HC := Lib.hid (fun W (hW : Ax W sb mb s) => chk_any k v W hW)
  obtain ⟨c0, c1, _⟩ := P0.cells
  have hlt := Lib.hid h.lt
  replace P0 := Lib.hid P0
  have b1 : decide (0 ≤ nd ∧ nd < s.n) = true := decide_eq_true h1
  have b2 : decide (Gd s.n x y) = false := decide_eq_false h2
  have hno : Hid (∀ W, PAt w sb mb s x y W → AddIs w sb mb s nd x y k v (.returned (.tuple #[.bool false, .int .i64 2])) W) := Lib.hid fun W hW => add_off (fun h0 => h2 h0.1.2) (by unfold addE; rw [if_neg (fun h0 => h2 h0.2)]) hW.ax hW.bel
  generalize decide (0 ≤ nd ∧ nd < s.n) = g at *
  subst b1
  generalize decide (Gd s.n x y) = g at *
  subst b2
  clear h1 h2 h
  go_enter Try.func14, Try.ntmps14
  go_wp2_with (first
    | (go_at_call 29; refine HV.out.mono ?_; rintro e w' ⟨rfl, rfl⟩)
    | (go_at_call 30; refine HN.out.mono ?_; rintro e w' ⟨rfl, rfl⟩)
    | (go_at_call 31; refine HG.out.mono ?_; rintro e w1 ⟨rfl, hb1⟩; have P1 := P0.out.later hb1; replace P1 := Lib.hid P1))
  go_ret2
  exact hno.out _ P1.out
set_option maxHeartbeats 2000000 in
theorem add_check {sb mb : Nat} {s : St} (nd x y k : Int) (v : ByteArray) (w : World) (h : Ax w sb mb s) (hv : isVote s.n nd x y) (hc : ckV s.b k v ≠ 0) :
    Calls Try.prog 14 #[.pointer (some ⟨sb, 0, none⟩), .int .i64 nd, .agg #[.int .i64 x, .int .i64 y], .int .i64 k, .string v] w (AddIs w sb mb s nd x y k v) := by
  have P0 := pat_new h x y
  have HV := Lib.hid P0.ax.valid
  have HN := Lib.hid (isnode_any nd _ P0.ax)
  have HG := Lib.hid (good_any x y _ P0.ax)
  have HC := Lib.hid (fun W (hW : Ax W sb mb s) => chk_any k v W hW)
  obtain ⟨c0, c1, _⟩ := P0.cells
  have hlt := Lib.hid h.lt
  replace P0 := Lib.hid P0
  have b1 : decide (0 ≤ nd ∧ nd < s.n) = true := decide_eq_true hv.1
  have b2 : decide (Gd s.n x y) = true := decide_eq_true hv.2

  have hno : Hid (∀ W, PAt w sb mb s x y W → AddIs w sb mb s nd x y k v (.returned (.tuple #[.bool false, .int .i64 (ckV s.b k v)])) W) := Lib.hid fun W hW => add_off (fun h0 => hc h0.2.1) (by unfold addE; rw [if_pos hv, if_neg hc]) hW.ax hW.bel

  generalize decide (0 ≤ nd ∧ nd < s.n) = g at *
  subst b1
  generalize decide (Gd s.n x y) = g at *
  subst b2

  generalize hz : ckV s.b k v = z at *
  have hz1 : (z == 0) = false := by simpa using hc
  have hz2 : (z = 0) = False := by simpa using hc
  clear hv hc hz h
  go_enter Try.func14, Try.ntmps14
  go_wp2_with (first
    | (go_at_call 29; refine HV.out.mono ?_; rintro e w' ⟨rfl, rfl⟩)
    | (go_at_call 30; refine HN.out.mono ?_; rintro e w' ⟨rfl, rfl⟩)
    | (go_at_call 31; refine HG.out.mono ?_; rintro e w1 ⟨rfl, hb1⟩; have P1 := P0.out.later hb1; replace P1 := Lib.hid P1)
    | (go_at_call 32; refine (HC.out _ P1.out.ax).mono ?_; rintro e w' ⟨rfl, rfl⟩))
  go_ret2
  exact hno.out _ P1.out
set_option maxHeartbeats 2000000 in
theorem add_late {sb mb : Nat} {s : St} (nd x y k : Int) (v : ByteArray) (w : World) (h : Ax w sb mb s) (hv : isVote s.n nd x y) (hc : ckV s.b k v = 0) (ho : ordV x y (at' s k).r (at' s k).m < 0) :
    Calls Try.prog 14 #[.pointer (some ⟨sb, 0, none⟩), .int .i64 nd, .agg #[.int .i64 x, .int .i64 y], .int .i64 k, .string v] w (AddIs w sb mb s nd x y k v) := by
  have P0 := pat_new h x y
  have HV := Lib.hid P0.ax.valid
  have HN := Lib.hid (isnode_any nd _ P0.ax)
  have HG := Lib.hid (good_any x y _ P0.ax)
  have HC := Lib.hid (fun W (hW : Ax W sb mb s) => chk_any k v W hW)
  obtain ⟨c0, c1, _⟩ := P0.cells
  have hlt := Lib.hid h.lt
  replace P0 := Lib.hid P0
  have b1 : decide (0 ≤ nd ∧ nd < s.n) = true := decide_eq_true hv.1
  have b2 : decide (Gd s.n x y) = true := decide_eq_true hv.2

  have hwf : Hid ((Lit.int .i64 k).wf = true) := Lib.hid (by obtain ⟨i0, i1, _, _⟩ := ck_in hc; exact wf64 (by omega) (by omega))
  have HO := Lib.hid (fun W => order_any x y (at' s k).r (at' s k).m W)

  have hc' : ∀ W, Ax W sb mb s → Calls Try.prog 32 #[.pointer (some ⟨sb, 0, none⟩), .int .i64 k, .string v] W fun e w' => e = .returned (.int .i64 0) ∧ W = w' := fun W hW => by have := HC.out W hW; rw [hc] at this; exact this
  replace HC := Lib.hid hc'
  clear hc'

  have hno : Hid (∀ W, Ax W sb mb s → Below w.heap.size w W → AddIs w sb mb s nd x y k v (.returned (.tuple #[.bool false, .int .i64 0])) W) := Lib.hid fun W hW hB => add_off (fun h0 => h0.2.2.1 ho) (by unfold addE; rw [if_pos hv, if_pos hc, if_pos ho]) hW hB

  generalize decide (0 ≤ nd ∧ nd < s.n) = g at *
  subst b1
  generalize decide (Gd s.n x y) = g at *
  subst b2

  obtain ⟨q, hqq⟩ : ∃ q, at' s k = q := ⟨_, rfl⟩
  rw [hqq] at HO ho
  obtain ⟨c, qv, qr, qm, t, u⟩ := q
  replace hqq := Lib.hid hqq

  have bo : decide (ordV x y qr qm < 0) = true := decide_eq_true ho
  clear hv hc h
  simp only at ho HO
  generalize ordV x y qr qm = o at *
  clear ho
  go_enter Try.func14, Try.ntmps14
  go_wp2_with (first
    | (go_at_call 29; refine HV.out.mono ?_; rintro e w' ⟨rfl, rfl⟩)
    | (go_at_call 30; refine HN.out.mono ?_; rintro e w' ⟨rfl, rfl⟩)
    | (go_at_call 31; refine HG.out.mono ?_; rintro e w1 ⟨rfl, hb1⟩; have P1 := P0.out.later hb1; have hlook := look_s P1.ax hwf.out; rw [hqq.out] at hlook; obtain ⟨p0, p1, p2⟩ := P1.cells; have A1 := aat_new P1 hlt.out ⟨c, qv, qr, qm, t, u⟩; obtain ⟨a0, a1, a2, a3⟩ := A1.cells; obtain ⟨d0, d1, d2, d3, d4, d5⟩ := A1.k.cells; replace A1 := Lib.hid A1; replace P1 := Lib.hid P1)
    | (go_at_call 32; refine (HC.out _ P1.out.ax).mono ?_; rintro e w' ⟨rfl, rfl⟩)
    | (go_at_call 33; refine (HO.out _).mono ?_; rintro e w2 ⟨rfl, hb2⟩; have A2 := A1.out.later hb2; obtain ⟨e0, e1, e2, e3⟩ := A2.cells; obtain ⟨g0, g1, g2, g3, g4, g5⟩ := A2.k.cells; replace A2 := Lib.hid A2))
  go_ret2
  exact hno.out _ A2.out.ax A2.out.bel
set_option maxHeartbeats 2000000 in
theorem add_other {sb mb : Nat} {s : St} (nd x y k : Int) (v : ByteArray) (w : World) (h : Ax w sb mb s) (hv : isVote s.n nd x y) (hc : ckV s.b k v = 0) (ho : ¬ ordV x y (at' s k).r (at' s k).m < 0) (he : eqB x y (at' s k).r (at' s k).m = true) (ht : eqT v (at' s k).t = false) :
    Calls Try.prog 14 #[.pointer (some ⟨sb, 0, none⟩), .int .i64 nd, .agg #[.int .i64 x, .int .i64 y], .int .i64 k, .string v] w (AddIs w sb mb s nd x y k v) := by
  have P0 := pat_new h x y
  have HV := Lib.hid P0.ax.valid
  have HN := Lib.hid (isnode_any nd _ P0.ax)
  have HG := Lib.hid (good_any x y _ P0.ax)
  have HC := Lib.hid (fun W (hW : Ax W sb mb s) => chk_any k v W hW)
  obtain ⟨c0, c1, _⟩ := P0.cells
  have hlt := Lib.hid h.lt
  replace P0 := Lib.hid P0
  have b1 : decide (0 ≤ nd ∧ nd < s.n) = true := decide_eq_true hv.1
  have b2 : decide (Gd s.n x y) = true := decide_eq_true hv.2

  have hwf : Hid ((Lit.int .i64 k).wf = true) := Lib.hid (by obtain ⟨i0, i1, _, _⟩ := ck_in hc; exact wf64 (by omega) (by omega))
  have HO := Lib.hid (fun W => order_any x y (at' s k).r (at' s k).m W)

  have hc' : ∀ W, Ax W sb mb s → Calls Try.prog 32 #[.pointer (some ⟨sb, 0, none⟩), .int .i64 k, .string v] W fun e w' => e = .returned (.int .i64 0) ∧ W = w' := fun W hW => by have := HC.out W hW; rw [hc] at this; exact this
  replace HC := Lib.hid hc'
  clear hc'

  have hbad : addBad (at' s k) x y v = true := by unfold addBad; rw [he, ht]; rfl
  have hno : Hid (∀ W, Ax W sb mb s → Below w.heap.size w W → AddIs w sb mb s nd x y k v (.returned (.tuple #[.bool false, .int .i64 9])) W) := Lib.hid fun W hW hB => add_off (fun h0 => by have := h0.2.2.2; rw [hbad] at this; cases this) (by unfold addE; rw [if_pos hv, if_pos hc, if_neg ho, if_pos hbad]) hW hB
  clear hbad

  generalize decide (0 ≤ nd ∧ nd < s.n) = g at *
  subst b1
  generalize decide (Gd s.n x y) = g at *
  subst b2

  obtain ⟨q, hqq⟩ : ∃ q, at' s k = q := ⟨_, rfl⟩
  rw [hqq] at HO ho he ht
  obtain ⟨c, qv, qr, qm, t, u⟩ := q
  replace hqq := Lib.hid hqq

  have bo : decide (ordV x y qr qm < 0) = false := decide_eq_false ho
  simp only at ho HO
  generalize ordV x y qr qm = o at *
  clear ho

  have hq := fun W => eq_b x y qr qm W
  rw [he] at hq
  have htl := tl_eq v t
  rw [ht] at htl
  clear hv hc h he ht
  go_enter Try.func14, Try.ntmps14
  go_wp2_with (first
    | (go_at_call 29; refine HV.out.mono ?_; rintro e w' ⟨rfl, rfl⟩)
    | (go_at_call 30; refine HN.out.mono ?_; rintro e w' ⟨rfl, rfl⟩)
    | (go_at_call 31; refine HG.out.mono ?_; rintro e w1 ⟨rfl, hb1⟩; have P1 := P0.out.later hb1; have hlook := look_s P1.ax hwf.out; rw [hqq.out] at hlook; obtain ⟨p0, p1, p2⟩ := P1.cells; have A1 := aat_new P1 hlt.out ⟨c, qv, qr, qm, t, u⟩; obtain ⟨a0, a1, a2, a3⟩ := A1.cells; obtain ⟨d0, d1, d2, d3, d4, d5⟩ := A1.k.cells; replace A1 := Lib.hid A1; replace P1 := Lib.hid P1)
    | (go_at_call 32; refine (HC.out _ P1.out.ax).mono ?_; rintro e w' ⟨rfl, rfl⟩)
    | (go_at_call 33; refine (HO.out _).mono ?_; rintro e w2 ⟨rfl, hb2⟩; have A2 := A1.out.later hb2; obtain ⟨e0, e1, e2, e3⟩ := A2.cells; obtain ⟨g0, g1, g2, g3, g4, g5⟩ := A2.k.cells; replace A2 := Lib.hid A2))
  go_ret2
  exact hno.out _ A2.out.ax A2.out.bel
set_option maxHeartbeats 2000000 in
theorem add_ref1 {sb mb : Nat} {s : St} (nd x y k : Int) (v : ByteArray) (w : World) (h : Ax w sb mb s) (hv : isVote s.n nd x y) (hc : ckV s.b k v = 0) (ho : ¬ ordV x y (at' s k).r (at' s k).m < 0) (he : eqB x y (at' s k).r (at' s k).m = true) (ht : eqT v (at' s k).t = true) (hr : refV (at' s k) v = true) :
    Calls Try.prog 14 #[.pointer (some ⟨sb, 0, none⟩), .int .i64 nd, .agg #[.int .i64 x, .int .i64 y], .int .i64 k, .string v] w (AddIs w sb mb s nd x y k v) := by
  have P0 := pat_new h x y
  have HV := Lib.hid P0.ax.valid
  have HN := Lib.hid (isnode_any nd _ P0.ax)
  have HG := Lib.hid (good_any x y _ P0.ax)
  have HC := Lib.hid (fun W (hW : Ax W sb mb s) => chk_any k v W hW)
  obtain ⟨c0, c1, _⟩ := P0.cells
  have hlt := Lib.hid h.lt
  replace P0 := Lib.hid P0
  have b1 : decide (0 ≤ nd ∧ nd < s.n) = true := decide_eq_true hv.1
  have b2 : decide (Gd s.n x y) = true := decide_eq_true hv.2

  have hwf : Hid ((Lit.int .i64 k).wf = true) := Lib.hid (by obtain ⟨i0, i1, _, _⟩ := ck_in hc; exact wf64 (by omega) (by omega))
  have HO := Lib.hid (fun W => order_any x y (at' s k).r (at' s k).m W)

  have hc' : ∀ W, Ax W sb mb s → Calls Try.prog 32 #[.pointer (some ⟨sb, 0, none⟩), .int .i64 k, .string v] W fun e w' => e = .returned (.int .i64 0) ∧ W = w' := fun W hW => by have := HC.out W hW; rw [hc] at this; exact this
  replace HC := Lib.hid hc'
  clear hc'

  have hbad : addBad (at' s k) x y v = true := by unfold addBad; rw [hr, Bool.or_true]
  have hno : Hid (∀ W, Ax W sb mb s → Below w.heap.size w W → AddIs w sb mb s nd x y k v (.returned (.tuple #[.bool false, .int .i64 9])) W) := Lib.hid fun W hW hB => add_off (fun h0 => by have := h0.2.2.2; rw [hbad] at this; cases this) (by unfold addE; rw [if_pos hv, if_pos hc, if_neg ho, if_pos hbad]) hW hB
  clear hbad
  have HR := Lib.hid (fun W => refuses_any (at' s k) v W)
  rw [hr] at HR

  generalize decide (0 ≤ nd ∧ nd < s.n) = g at *
  subst b1
  generalize decide (Gd s.n x y) = g at *
  subst b2

  obtain ⟨q, hqq⟩ : ∃ q, at' s k = q := ⟨_, rfl⟩
  rw [hqq] at HO ho he HR ht
  obtain ⟨c, qv, qr, qm, t, u⟩ := q
  replace hqq := Lib.hid hqq

  have bo : decide (ordV x y qr qm < 0) = false := decide_eq_false ho
  simp only at ho HO
  generalize ordV x y qr qm = o at *
  clear ho

  have hq := fun W => eq_b x y qr qm W
  rw [he] at hq
  have htl := tl_eq v t
  rw [ht] at htl
  clear ht
  clear hv hc h he hr
  go_enter Try.func14, Try.ntmps14
  go_wp2_with (first
    | (go_at_call 29; refine HV.out.mono ?_; rintro e w' ⟨rfl, rfl⟩)
    | (go_at_call 30; refine HN.out.mono ?_; rintro e w' ⟨rfl, rfl⟩)
    | (go_at_call 31; refine HG.out.mono ?_; rintro e w1 ⟨rfl, hb1⟩; have P1 := P0.out.later hb1; have hlook := look_s P1.ax hwf.out; rw [hqq.out] at hlook; obtain ⟨p0, p1, p2⟩ := P1.cells; have A1 := aat_new P1 hlt.out ⟨c, qv, qr, qm, t, u⟩; obtain ⟨a0, a1, a2, a3⟩ := A1.cells; obtain ⟨d0, d1, d2, d3, d4, d5⟩ := A1.k.cells; replace A1 := Lib.hid A1; replace P1 := Lib.hid P1)
    | (go_at_call 32; refine (HC.out _ P1.out.ax).mono ?_; rintro e w' ⟨rfl, rfl⟩)
    | (go_at_call 33; refine (HO.out _).mono ?_; rintro e w2 ⟨rfl, hb2⟩; have A2 := A1.out.later hb2; obtain ⟨e0, e1, e2, e3⟩ := A2.cells; obtain ⟨g0, g1, g2, g3, g4, g5⟩ := A2.k.cells; replace A2 := Lib.hid A2)
    | (go_at_call 34; refine (HR.out _).mono ?_; rintro e w3 ⟨rfl, hb3⟩; have A3 := A2.out.later hb3; replace A3 := Lib.hid A3))
  go_ret2
  exact hno.out _ A3.out.ax A3.out.bel
set_option maxHeartbeats 2000000 in
theorem add_ref2 {sb mb : Nat} {s : St} (nd x y k : Int) (v : ByteArray) (w : World) (h : Ax w sb mb s) (hv : isVote s.n nd x y) (hc : ckV s.b k v = 0) (ho : ¬ ordV x y (at' s k).r (at' s k).m < 0) (he : eqB x y (at' s k).r (at' s k).m = false) (hr : refV (at' s k) v = true) :
    Calls Try.prog 14 #[.pointer (some ⟨sb, 0, none⟩), .int .i64 nd, .agg #[.int .i64 x, .int .i64 y], .int .i64 k, .string v] w (AddIs w sb mb s nd x y k v) := by
  have P0 := pat_new h x y
  have HV := Lib.hid P0.ax.valid
  have HN := Lib.hid (isnode_any nd _ P0.ax)
  have HG := Lib.hid (good_any x y _ P0.ax)
  have HC := Lib.hid (fun W (hW : Ax W sb mb s) => chk_any k v W hW)
  obtain ⟨c0, c1, _⟩ := P0.cells
  have hlt := Lib.hid h.lt
  replace P0 := Lib.hid P0
  have b1 : decide (0 ≤ nd ∧ nd < s.n) = true := decide_eq_true hv.1
  have b2 : decide (Gd s.n x y) = true := decide_eq_true hv.2

  have hwf : Hid ((Lit.int .i64 k).wf = true) := Lib.hid (by obtain ⟨i0, i1, _, _⟩ := ck_in hc; exact wf64 (by omega) (by omega))
  have HO := Lib.hid (fun W => order_any x y (at' s k).r (at' s k).m W)

  have hc' : ∀ W, Ax W sb mb s → Calls Try.prog 32 #[.pointer (some ⟨sb, 0, none⟩), .int .i64 k, .string v] W fun e w' => e = .returned (.int .i64 0) ∧ W = w' := fun W hW => by have := HC.out W hW; rw [hc] at this; exact this
  replace HC := Lib.hid hc'
  clear hc'

  have hbad : addBad (at' s k) x y v = true := by unfold addBad; rw [hr, Bool.or_true]
  have hno : Hid (∀ W, Ax W sb mb s → Below w.heap.size w W → AddIs w sb mb s nd x y k v (.returned (.tuple #[.bool false, .int .i64 9])) W) := Lib.hid fun W hW hB => add_off (fun h0 => by have := h0.2.2.2; rw [hbad] at this; cases this) (by unfold addE; rw [if_pos hv, if_pos hc, if_neg ho, if_pos hbad]) hW hB
  clear hbad
  have HR := Lib.hid (fun W => refuses_any (at' s k) v W)
  rw [hr] at HR

  generalize decide (0 ≤ nd ∧ nd < s.n) = g at *
  subst b1
  generalize decide (Gd s.n x y) = g at *
  subst b2

  obtain ⟨q, hqq⟩ : ∃ q, at' s k = q := ⟨_, rfl⟩
  rw [hqq] at HO ho he HR
  obtain ⟨c, qv, qr, qm, t, u⟩ := q
  replace hqq := Lib.hid hqq

  have bo : decide (ordV x y qr qm < 0) = false := decide_eq_false ho
  simp only at ho HO
  generalize ordV x y qr qm = o at *
  clear ho

  have hq := fun W => eq_b x y qr qm W
  rw [he] at hq
  clear hv hc h he hr
  go_enter Try.func14, Try.ntmps14
  go_wp2_with (first
    | (go_at_call 29; refine HV.out.mono ?_; rintro e w' ⟨rfl, rfl⟩)
    | (go_at_call 30; refine HN.out.mono ?_; rintro e w' ⟨rfl, rfl⟩)
    | (go_at_call 31; refine HG.out.mono ?_; rintro e w1 ⟨rfl, hb1⟩; have P1 := P0.out.later hb1; have hlook := look_s P1.ax hwf.out; rw [hqq.out] at hlook; obtain ⟨p0, p1, p2⟩ := P1.cells; have A1 := aat_new P1 hlt.out ⟨c, qv, qr, qm, t, u⟩; obtain ⟨a0, a1, a2, a3⟩ := A1.cells; obtain ⟨d0, d1, d2, d3, d4, d5⟩ := A1.k.cells; replace A1 := Lib.hid A1; replace P1 := Lib.hid P1)
    | (go_at_call 32; refine (HC.out _ P1.out.ax).mono ?_; rintro e w' ⟨rfl, rfl⟩)
    | (go_at_call 33; refine (HO.out _).mono ?_; rintro e w2 ⟨rfl, hb2⟩; have A2 := A1.out.later hb2; obtain ⟨e0, e1, e2, e3⟩ := A2.cells; obtain ⟨g0, g1, g2, g3, g4, g5⟩ := A2.k.cells; replace A2 := Lib.hid A2)
    | (go_at_call 34; refine (HR.out _).mono ?_; rintro e w3 ⟨rfl, hb3⟩; have A3 := A2.out.later hb3; replace A3 := Lib.hid A3))
  go_ret2
  exact hno.out _ A3.out.ax A3.out.bel
set_option maxHeartbeats 2000000 in
theorem add_on1 {sb mb : Nat} {s : St} (nd x y k : Int) (v : ByteArray) (w : World) (h : Ax w sb mb s) (hv : isVote s.n nd x y) (hc : ckV s.b k v = 0) (ho : ¬ ordV x y (at' s k).r (at' s k).m < 0) (he : eqB x y (at' s k).r (at' s k).m = true) (ht : eqT v (at' s k).t = true) (hr : refV (at' s k) v = false) :
    Calls Try.prog 14 #[.pointer (some ⟨sb, 0, none⟩), .int .i64 nd, .agg #[.int .i64 x, .int .i64 y], .int .i64 k, .string v] w (AddIs w sb mb s nd x y k v) := by
  have P0 := pat_new h x y
  have HV := Lib.hid P0.ax.valid
  have HN := Lib.hid (isnode_any nd _ P0.ax)
  have HG := Lib.hid (good_any x y _ P0.ax)
  have HC := Lib.hid (fun W (hW : Ax W sb mb s) => chk_any k v W hW)
  obtain ⟨c0, c1, _⟩ := P0.cells
  have hlt := Lib.hid h.lt
  replace P0 := Lib.hid P0
  have b1 : decide (0 ≤ nd ∧ nd < s.n) = true := decide_eq_true hv.1
  have b2 : decide (Gd s.n x y) = true := decide_eq_true hv.2

  have hwf : Hid ((Lit.int .i64 k).wf = true) := Lib.hid (by obtain ⟨i0, i1, _, _⟩ := ck_in hc; exact wf64 (by omega) (by omega))
  have HO := Lib.hid (fun W => order_any x y (at' s k).r (at' s k).m W)

  have hc' : ∀ W, Ax W sb mb s → Calls Try.prog 32 #[.pointer (some ⟨sb, 0, none⟩), .int .i64 k, .string v] W fun e w' => e = .returned (.int .i64 0) ∧ W = w' := fun W hW => by have := HC.out W hW; rw [hc] at this; exact this
  replace HC := Lib.hid hc'
  clear hc'

  have hon : addOn s nd x y k v := ⟨hv, hc, ho, by unfold addBad; rw [hr, he]; rw [ht]; rfl⟩
  have hok := ok_add h.ok nd x y k v
  unfold addS at hok
  rw [if_pos hon] at hok
  have hx := (h.ok.get k).x64 h.ok.hn
  have HR := Lib.hid (fun W => refuses_any (at' s k) v W)
  rw [hr] at HR
  have HW := Lib.hid (fun W => with_any (at' s k) nd x y v s.n hx W)
  have hfin : Hid (∀ B, addN (withK (at' s k) nd x y v s.n) s.n = B → ∀ W W', Ax W' sb mb ⟨s.n, s.b, putM s.M ⟨k, addW (at' s k) nd x y v s.n⟩⟩ → Below w.heap.size w W → W.grownBy W' (some mb) → AddIs w sb mb s nd x y k v (.returned (.tuple #[.bool B, .int .i64 0])) W') := Lib.hid fun B hB W W' hA hb hg => add_on hon hB hA hb hg
  have HP := Lib.hid (fun W (hW : Ax W sb mb s) => put_run hW k (addW (at' s k) nd x y v s.n) hok hwf.out)
  have hpx := (ok_with (nd := nd) (r := x) (m := y) (v := v) (h.ok.get k) h.ok.hn (ck_in hc).2.2.1).x64 h.ok.hn
  have HI := Lib.hid (fun W => Quo.is_any (withK (at' s k) nd x y v s.n).x hpx s.n W)
  have hN : addN (withK (at' s k) nd x y v s.n) s.n = (Quo.isV s.n (withK (at' s k) nd x y v s.n).x && !(withK (at' s k) nd x y v s.n).c) := rfl
  have hA : addW (at' s k) nd x y v s.n = if addN (withK (at' s k) nd x y v s.n) s.n then ⟨true, v, (withK (at' s k) nd x y v s.n).r, (withK (at' s k) nd x y v s.n).m, (withK (at' s k) nd x y v s.n).t, (withK (at' s k) nd x y v s.n).x⟩ else withK (at' s k) nd x y v s.n := rfl
  generalize addW (at' s k) nd x y v s.n = aw at *
  generalize addN (withK (at' s k) nd x y v s.n) s.n = an at *
  clear hon hok hx hpx

  generalize decide (0 ≤ nd ∧ nd < s.n) = g at *
  subst b1
  generalize decide (Gd s.n x y) = g at *
  subst b2

  generalize withK (at' s k) nd x y v s.n = p at *
  generalize Quo.isV s.n p.x = maj at *
  generalize Quo.ckI s.n [p.x] = ci at *

  obtain ⟨q, hqq⟩ : ∃ q, at' s k = q := ⟨_, rfl⟩
  rw [hqq] at HO ho he HR HW ht
  obtain ⟨c, qv, qr, qm, t, u⟩ := q
  replace hqq := Lib.hid hqq

  have bo : decide (ordV x y qr qm < 0) = false := decide_eq_false ho
  simp only at ho HO
  generalize ordV x y qr qm = o at *
  clear ho

  have hq := fun W => eq_b x y qr qm W
  rw [he] at hq
  have htl := tl_eq v t
  rw [ht] at htl
  clear ht
  clear hv hc h he hr
  obtain ⟨pc, pv, pr, pm, pt, px⟩ := p
  go_enter Try.func14, Try.ntmps14
  go_wp2_with (first
    | (go_at_call 29; refine HV.out.mono ?_; rintro e w' ⟨rfl, rfl⟩)
    | (go_at_call 30; refine HN.out.mono ?_; rintro e w' ⟨rfl, rfl⟩)
    | (go_at_call 31; refine HG.out.mono ?_; rintro e w1 ⟨rfl, hb1⟩; have P1 := P0.out.later hb1; have hlook := look_s P1.ax hwf.out; rw [hqq.out] at hlook; obtain ⟨p0, p1, p2⟩ := P1.cells; have A1 := aat_new P1 hlt.out ⟨c, qv, qr, qm, t, u⟩; obtain ⟨a0, a1, a2, a3⟩ := A1.cells; obtain ⟨d0, d1, d2, d3, d4, d5⟩ := A1.k.cells; replace A1 := Lib.hid A1; replace P1 := Lib.hid P1)
    | (go_at_call 32; refine (HC.out _ P1.out.ax).mono ?_; rintro e w' ⟨rfl, rfl⟩)
    | (go_at_call 33; refine (HO.out _).mono ?_; rintro e w2 ⟨rfl, hb2⟩; have A2 := A1.out.later hb2; obtain ⟨e0, e1, e2, e3⟩ := A2.cells; obtain ⟨g0, g1, g2, g3, g4, g5⟩ := A2.k.cells; replace A2 := Lib.hid A2)
    | (go_at_call 34; refine (HR.out _).mono ?_; rintro e w3 ⟨rfl, hb3⟩; have A3 := A2.out.later hb3; replace A3 := Lib.hid A3))
  obtain ⟨e0, e1, e2, e3⟩ := A3.out.drew.cells
  obtain ⟨g0, g1, g2, g3, g4, g5⟩ := A3.out.drew.k.cells

  go_still_tail 8, (by kernel_rfl)
  change wpList _ _ _ _ _ w3.drew
  go_wp2_with fail
  go_at_call 35
  refine (HW.out _).mono ?_
  rintro e w4 ⟨rfl, hb4⟩
  have A4 := A3.out.drew.later hb4
  have f0 := A4.k.frozen 0
  have f1 := A4.k.frozen 1
  have f2 := A4.k.frozen 2
  have f3 := A4.k.frozen 3
  have f4 := A4.k.frozen 4
  have f5 := A4.k.frozen 5
  obtain ⟨g0, g1, g2, g3, g4, g5⟩ := A4.k.cells
  have A5 := A4.set6 ⟨pc, pv, pr, pm, pt, px⟩
  obtain ⟨k0, k1, k2, k3, k4, k5⟩ := A5.k.cells
  obtain ⟨m0, m1, m2, m3⟩ := A5.cells
  have A5d := Lib.hid A5.drew
  clear A4 hb4 A5 A3 A2 A1 P1 P0 hb3 hb2 hb1 HW HR HO HC HV HG HN
  go_wp2_with fail
  generalize ((((((w4.setCell ⟨w1.heap.size, 0, none⟩ (.bool pc)).setCell ⟨w1.heap.size, 1, none⟩ (.string pv)).setCell ⟨w1.heap.size, 2, none⟩ (.int .i64 pr)).setCell ⟨w1.heap.size, 3, none⟩ (.int .i64 pm)).setCell ⟨w1.heap.size, 4, none⟩ (.string pt)).setCell ⟨w1.heap.size, 5, none⟩ (.int .u64 px)) = W5 at *
  have HK : Hid (∀ W, AAt w sb mb s x y w1.heap.size ⟨pc, pv, pr, pm, pt, px⟩ W → W.cell? ⟨w1.heap.size, 5, none⟩ = some (.int .u64 px) ∧ W.cell? ⟨sb, 0, none⟩ = some (.int .i64 s.n) ∧ AAt w sb mb s x y w1.heap.size ⟨pc, pv, pr, pm, pt, px⟩ W) := Lib.hid fun W h => ⟨h.k.cells.2.2.2.2.2, h.cells.2.2.1, h⟩
  go_region_held3 (fun W => W.cell? ⟨w1.heap.size, 5, none⟩ = some (.int .u64 px) ∧ W.cell? ⟨sb, 0, none⟩ = some (.int .i64 s.n) ∧ AAt w sb mb s x y w1.heap.size ⟨pc, pv, pr, pm, pt, px⟩ W)
    ((first | exact HK.out _ A5d.out | exact HK.out _ (by assumption) | assumption))
    ((go_at_call 36; refine (HI.out _).mono ?_; rintro e2 w6 ⟨rfl, hb6⟩; have A6 := A5d.out.later hb6))
  have f0 := A6.k.frozen 0
  have f1 := A6.k.frozen 1
  obtain ⟨g0, g1, g2, g3, g4, g5⟩ := A6.k.cells
  obtain ⟨m0, m1, m2, m3⟩ := A6.cells
  clear k0 k1 k2 k3 k4 k5 hb6
  cases maj with
  | false =>
    obtain rfl : an = false := by rw [hN]; rfl
    obtain rfl : aw = ⟨pc, pv, pr, pm, pt, px⟩ := by rw [hA, if_neg (by decide)]
    clear hN hA
    have A6d := A6.drew
    obtain ⟨w8, hrun, hA8, hg8⟩ := HP.out _ A6d.ax
    have hF := Lib.hid (hfin.out _ rfl _ w8 hA8 A6d.bel hg8)
    clear hA8 hg8 A6d A6
    go_wp2_with fail
    go_region
    all_goals
      go_wp2
      go_ret2
      exact hF.out
  | true =>
    cases pc with
    | true =>
      obtain rfl : an = false := by rw [hN]; rfl
      obtain rfl : aw = ⟨true, pv, pr, pm, pt, px⟩ := by rw [hA, if_neg (by decide)]
      clear hN hA
      have A6d := A6.drew
      obtain ⟨w8, hrun, hA8, hg8⟩ := HP.out _ A6d.ax
      have hF := Lib.hid (hfin.out _ rfl _ w8 hA8 A6d.bel hg8)
      clear hA8 hg8 A6d A6
      go_wp2_with fail
      go_region
      all_goals
        go_wp2
        go_ret2
        exact hF.out
    | false =>
      obtain rfl : an = true := by rw [hN]; rfl
      obtain rfl : aw = ⟨true, v, pr, pm, pt, px⟩ := by rw [hA, if_pos rfl]
      clear hN hA
      have A7 := A6.set2 v
      obtain ⟨k0, k1, k2, k3, k4, k5⟩ := A7.k.cells
      obtain ⟨_, _, _, n3⟩ := A7.cells
      obtain ⟨w8, hrun, hA8, hg8⟩ := HP.out _ A7.drew.ax
      have hF := Lib.hid (hfin.out _ rfl _ w8 hA8 A7.drew.bel hg8)
      clear hA8 hg8 A7 A6
      go_wp2_with fail
      generalize (w6.setCell ⟨w1.heap.size, 0, none⟩ (.bool true)).setCell ⟨w1.heap.size, 1, none⟩ (.string v) = W7 at *
      go_region
      all_goals
        go_wp2
        go_ret2
        exact hF.out
set_option maxHeartbeats 2000000 in
theorem add_on2 {sb mb : Nat} {s : St} (nd x y k : Int) (v : ByteArray) (w : World) (h : Ax w sb mb s) (hv : isVote s.n nd x y) (hc : ckV s.b k v = 0) (ho : ¬ ordV x y (at' s k).r (at' s k).m < 0) (he : eqB x y (at' s k).r (at' s k).m = false) (hr : refV (at' s k) v = false) :
    Calls Try.prog 14 #[.pointer (some ⟨sb, 0, none⟩), .int .i64 nd, .agg #[.int .i64 x, .int .i64 y], .int .i64 k, .string v] w (AddIs w sb mb s nd x y k v) := by
  have P0 := pat_new h x y
  have HV := Lib.hid P0.ax.valid
  have HN := Lib.hid (isnode_any nd _ P0.ax)
  have HG := Lib.hid (good_any x y _ P0.ax)
  have HC := Lib.hid (fun W (hW : Ax W sb mb s) => chk_any k v W hW)
  obtain ⟨c0, c1, _⟩ := P0.cells
  have hlt := Lib.hid h.lt
  replace P0 := Lib.hid P0
  have b1 : decide (0 ≤ nd ∧ nd < s.n) = true := decide_eq_true hv.1
  have b2 : decide (Gd s.n x y) = true := decide_eq_true hv.2

  have hwf : Hid ((Lit.int .i64 k).wf = true) := Lib.hid (by obtain ⟨i0, i1, _, _⟩ := ck_in hc; exact wf64 (by omega) (by omega))
  have HO := Lib.hid (fun W => order_any x y (at' s k).r (at' s k).m W)

  have hc' : ∀ W, Ax W sb mb s → Calls Try.prog 32 #[.pointer (some ⟨sb, 0, none⟩), .int .i64 k, .string v] W fun e w' => e = .returned (.int .i64 0) ∧ W = w' := fun W hW => by have := HC.out W hW; rw [hc] at this; exact this
  replace HC := Lib.hid hc'
  clear hc'

  have hon : addOn s nd x y k v := ⟨hv, hc, ho, by unfold addBad; rw [hr, he]; rfl⟩
  have hok := ok_add h.ok nd x y k v
  unfold addS at hok
  rw [if_pos hon] at hok
  have hx := (h.ok.get k).x64 h.ok.hn
  have HR := Lib.hid (fun W => refuses_any (at' s k) v W)
  rw [hr] at HR
  have HW := Lib.hid (fun W => with_any (at' s k) nd x y v s.n hx W)
  have hfin : Hid (∀ B, addN (withK (at' s k) nd x y v s.n) s.n = B → ∀ W W', Ax W' sb mb ⟨s.n, s.b, putM s.M ⟨k, addW (at' s k) nd x y v s.n⟩⟩ → Below w.heap.size w W → W.grownBy W' (some mb) → AddIs w sb mb s nd x y k v (.returned (.tuple #[.bool B, .int .i64 0])) W') := Lib.hid fun B hB W W' hA hb hg => add_on hon hB hA hb hg
  have HP := Lib.hid (fun W (hW : Ax W sb mb s) => put_run hW k (addW (at' s k) nd x y v s.n) hok hwf.out)
  have hpx := (ok_with (nd := nd) (r := x) (m := y) (v := v) (h.ok.get k) h.ok.hn (ck_in hc).2.2.1).x64 h.ok.hn
  have HI := Lib.hid (fun W => Quo.is_any (withK (at' s k) nd x y v s.n).x hpx s.n W)
  have hN : addN (withK (at' s k) nd x y v s.n) s.n = (Quo.isV s.n (withK (at' s k) nd x y v s.n).x && !(withK (at' s k) nd x y v s.n).c) := rfl
  have hA : addW (at' s k) nd x y v s.n = if addN (withK (at' s k) nd x y v s.n) s.n then ⟨true, v, (withK (at' s k) nd x y v s.n).r, (withK (at' s k) nd x y v s.n).m, (withK (at' s k) nd x y v s.n).t, (withK (at' s k) nd x y v s.n).x⟩ else withK (at' s k) nd x y v s.n := rfl
  generalize addW (at' s k) nd x y v s.n = aw at *
  generalize addN (withK (at' s k) nd x y v s.n) s.n = an at *
  clear hon hok hx hpx

  generalize decide (0 ≤ nd ∧ nd < s.n) = g at *
  subst b1
  generalize decide (Gd s.n x y) = g at *
  subst b2

  generalize withK (at' s k) nd x y v s.n = p at *
  generalize Quo.isV s.n p.x = maj at *
  generalize Quo.ckI s.n [p.x] = ci at *

  obtain ⟨q, hqq⟩ : ∃ q, at' s k = q := ⟨_, rfl⟩
  rw [hqq] at HO ho he HR HW
  obtain ⟨c, qv, qr, qm, t, u⟩ := q
  replace hqq := Lib.hid hqq

  have bo : decide (ordV x y qr qm < 0) = false := decide_eq_false ho
  simp only at ho HO
  generalize ordV x y qr qm = o at *
  clear ho

  have hq := fun W => eq_b x y qr qm W
  rw [he] at hq
  clear hv hc h he hr
  obtain ⟨pc, pv, pr, pm, pt, px⟩ := p
  go_enter Try.func14, Try.ntmps14
  go_wp2_with (first
    | (go_at_call 29; refine HV.out.mono ?_; rintro e w' ⟨rfl, rfl⟩)
    | (go_at_call 30; refine HN.out.mono ?_; rintro e w' ⟨rfl, rfl⟩)
    | (go_at_call 31; refine HG.out.mono ?_; rintro e w1 ⟨rfl, hb1⟩; have P1 := P0.out.later hb1; have hlook := look_s P1.ax hwf.out; rw [hqq.out] at hlook; obtain ⟨p0, p1, p2⟩ := P1.cells; have A1 := aat_new P1 hlt.out ⟨c, qv, qr, qm, t, u⟩; obtain ⟨a0, a1, a2, a3⟩ := A1.cells; obtain ⟨d0, d1, d2, d3, d4, d5⟩ := A1.k.cells; replace A1 := Lib.hid A1; replace P1 := Lib.hid P1)
    | (go_at_call 32; refine (HC.out _ P1.out.ax).mono ?_; rintro e w' ⟨rfl, rfl⟩)
    | (go_at_call 33; refine (HO.out _).mono ?_; rintro e w2 ⟨rfl, hb2⟩; have A2 := A1.out.later hb2; obtain ⟨e0, e1, e2, e3⟩ := A2.cells; obtain ⟨g0, g1, g2, g3, g4, g5⟩ := A2.k.cells; replace A2 := Lib.hid A2)
    | (go_at_call 34; refine (HR.out _).mono ?_; rintro e w3 ⟨rfl, hb3⟩; have A3 := A2.out.later hb3; replace A3 := Lib.hid A3))
  obtain ⟨e0, e1, e2, e3⟩ := A3.out.drew.cells
  obtain ⟨g0, g1, g2, g3, g4, g5⟩ := A3.out.drew.k.cells

  go_still_tail 8, (by kernel_rfl)
  change wpList _ _ _ _ _ w3.drew
  go_wp2_with fail
  go_at_call 35
  refine (HW.out _).mono ?_
  rintro e w4 ⟨rfl, hb4⟩
  have A4 := A3.out.drew.later hb4
  have f0 := A4.k.frozen 0
  have f1 := A4.k.frozen 1
  have f2 := A4.k.frozen 2
  have f3 := A4.k.frozen 3
  have f4 := A4.k.frozen 4
  have f5 := A4.k.frozen 5
  obtain ⟨g0, g1, g2, g3, g4, g5⟩ := A4.k.cells
  have A5 := A4.set6 ⟨pc, pv, pr, pm, pt, px⟩
  obtain ⟨k0, k1, k2, k3, k4, k5⟩ := A5.k.cells
  obtain ⟨m0, m1, m2, m3⟩ := A5.cells
  have A5d := Lib.hid A5.drew
  clear A4 hb4 A5 A3 A2 A1 P1 P0 hb3 hb2 hb1 HW HR HO HC HV HG HN
  go_wp2_with fail
  generalize ((((((w4.setCell ⟨w1.heap.size, 0, none⟩ (.bool pc)).setCell ⟨w1.heap.size, 1, none⟩ (.string pv)).setCell ⟨w1.heap.size, 2, none⟩ (.int .i64 pr)).setCell ⟨w1.heap.size, 3, none⟩ (.int .i64 pm)).setCell ⟨w1.heap.size, 4, none⟩ (.string pt)).setCell ⟨w1.heap.size, 5, none⟩ (.int .u64 px)) = W5 at *
  have HK : Hid (∀ W, AAt w sb mb s x y w1.heap.size ⟨pc, pv, pr, pm, pt, px⟩ W → W.cell? ⟨w1.heap.size, 5, none⟩ = some (.int .u64 px) ∧ W.cell? ⟨sb, 0, none⟩ = some (.int .i64 s.n) ∧ AAt w sb mb s x y w1.heap.size ⟨pc, pv, pr, pm, pt, px⟩ W) := Lib.hid fun W h => ⟨h.k.cells.2.2.2.2.2, h.cells.2.2.1, h⟩
  go_region_held3 (fun W => W.cell? ⟨w1.heap.size, 5, none⟩ = some (.int .u64 px) ∧ W.cell? ⟨sb, 0, none⟩ = some (.int .i64 s.n) ∧ AAt w sb mb s x y w1.heap.size ⟨pc, pv, pr, pm, pt, px⟩ W)
    ((first | exact HK.out _ A5d.out | exact HK.out _ (by assumption) | assumption))
    ((go_at_call 36; refine (HI.out _).mono ?_; rintro e2 w6 ⟨rfl, hb6⟩; have A6 := A5d.out.later hb6))
  have f0 := A6.k.frozen 0
  have f1 := A6.k.frozen 1
  obtain ⟨g0, g1, g2, g3, g4, g5⟩ := A6.k.cells
  obtain ⟨m0, m1, m2, m3⟩ := A6.cells
  clear k0 k1 k2 k3 k4 k5 hb6
  cases maj with
  | false =>
    obtain rfl : an = false := by rw [hN]; rfl
    obtain rfl : aw = ⟨pc, pv, pr, pm, pt, px⟩ := by rw [hA, if_neg (by decide)]
    clear hN hA
    have A6d := A6.drew
    obtain ⟨w8, hrun, hA8, hg8⟩ := HP.out _ A6d.ax
    have hF := Lib.hid (hfin.out _ rfl _ w8 hA8 A6d.bel hg8)
    clear hA8 hg8 A6d A6
    go_wp2_with fail
    go_region
    all_goals
      go_wp2
      go_ret2
      exact hF.out
  | true =>
    cases pc with
    | true =>
      obtain rfl : an = false := by rw [hN]; rfl
      obtain rfl : aw = ⟨true, pv, pr, pm, pt, px⟩ := by rw [hA, if_neg (by decide)]
      clear hN hA
      have A6d := A6.drew
      obtain ⟨w8, hrun, hA8, hg8⟩ := HP.out _ A6d.ax
      have hF := Lib.hid (hfin.out _ rfl _ w8 hA8 A6d.bel hg8)
      clear hA8 hg8 A6d A6
      go_wp2_with fail
      go_region
      all_goals
        go_wp2
        go_ret2
        exact hF.out
    | false =>
      obtain rfl : an = true := by rw [hN]; rfl
      obtain rfl : aw = ⟨true, v, pr, pm, pt, px⟩ := by rw [hA, if_pos rfl]
      clear hN hA
      have A7 := A6.set2 v
      obtain ⟨k0, k1, k2, k3, k4, k5⟩ := A7.k.cells
      obtain ⟨_, _, _, n3⟩ := A7.cells
      obtain ⟨w8, hrun, hA8, hg8⟩ := HP.out _ A7.drew.ax
      have hF := Lib.hid (hfin.out _ rfl _ w8 hA8 A7.drew.bel hg8)
      clear hA8 hg8 A7 A6
      go_wp2_with fail
      generalize (w6.setCell ⟨w1.heap.size, 0, none⟩ (.bool true)).setCell ⟨w1.heap.size, 1, none⟩ (.string v) = W7 at *
      go_region
      all_goals
        go_wp2
        go_ret2
        exact hF.out
end Go.Proofs.Ytaacnhhinhdinaa.Lrn
