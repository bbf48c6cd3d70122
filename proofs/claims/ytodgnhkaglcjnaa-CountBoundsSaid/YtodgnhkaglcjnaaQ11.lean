/- The walk of CountBack. -/
import Derived.Test.YtodgnhkaglcjnaaQ10
import Derived.Test.YtodgnhkaglcjnaaQ08
namespace Go.Proofs.Ytodgnhkaglcjnaa.Cnt
open Go.RowKit
set_option linter.unusedVariables false
set_option linter.unusedSimpArgs false
set_option maxRecDepth 20000

abbrev pRow (v u d b o : Int) : Obj := .cells #[.int .i32 v, .int .u16 u, .int .u16 d, .int .u16 b, .int .u16 o] 41
/-- The counter of parts. -/
def mk (v u d b o : Int) : Ct := ⟨v, u, d, v - u - b, v + d + o⟩
theorem mk_ok {v u d b o : Int} (h : I32 v ∧ U16 u ∧ U16 d ∧ U16 b ∧ U16 o) : OkC (mk v u d b o) := by
  unfold I32 U16 at h
  simp only [OkC, mk, Ok]
  omega
/-- Less than 2^40: what is computed with such numbers is computed exactly. -/
def Sm (n : Int) : Prop := -1099511627776 ≤ n ∧ n ≤ 1099511627776
theorem Sm.ok {n : Int} (h : Sm n) : Ok n := by unfold Sm at h; unfold Ok; omega
theorem Sm.neg {n : Int} (h : Sm n) : IntKind.i64.wrap (-n) = -n := i64_ok h.ok
theorem held_free {v u d l g n : Int} (hc : OkC ⟨v, u, d, l, g⟩) (hn : Ok n) : (chC giveC ⟨v, u, d, l, g⟩ n).2 = if (if n < 0 then d else u) < max n (-n) then 9 else 0 := by
  by_cases h0 : 0 ≤ n
  · rw [freeP _ _ _ _ _ _ hc hn h0]
    have : ¬ n < 0 := by omega
    rw [if_neg this]
    split <;> split <;> first | rfl | omega
  · rw [freeN _ _ _ _ _ _ hc hn h0]
    have : n < 0 := by omega
    rw [if_pos this]
    split <;> split <;> first | rfl | omega
theorem held_undo {v u d l g n : Int} (hc : OkC ⟨v, u, d, l, g⟩) (hn : Ok n) : (chC takeC ⟨v, u, d, l, g⟩ n).2 = if (if n < 0 then d else u) < max n (-n) then 9 else 0 := by
  rw [undo_free, ← held_free hc hn]
  split
  · rename_i h; exact h.symm
  · rfl
/-- Undo directly behind Do leads back; Free leaves the value alone. -/
theorem do_err {v u d l g n : Int} (hc : OkC ⟨v, u, d, l, g⟩) (hn : Ok n) : (chC addC ⟨v, u, d, l, g⟩ n).2 = 0 ∨ chC addC ⟨v, u, d, l, g⟩ n = (zero, 7) := by
  by_cases h0 : 0 ≤ n
  · rw [doP _ _ _ _ _ _ hc hn h0]
    split
    · exact Or.inr rfl
    · exact Or.inl rfl
  · rw [doN _ _ _ _ _ _ hc hn h0]
    split
    · exact Or.inr rfl
    · exact Or.inl rfl
theorem do_back {c x : Ct} {n : Int} (hc : OkC c) (hn : Ok n) (h : chC addC c n = (x, 0)) : chC takeC x n = (c, 0) ∧ chC giveC x n = ({c with v := c.v + n}, 0) ∧ OkC x := by
  obtain ⟨v, u, d, l, g⟩ := c
  by_cases h0 : 0 ≤ n
  · rw [doP _ _ _ _ _ _ hc hn h0] at h
    split at h
    · simp at h
    · rename_i hh
      have h' := (Prod.mk.inj h).1
      subst h'
      have hx : OkC ⟨v + n, u + n, d, l, g⟩ := by
        simp only [OkC, Ok] at *
        omega
      refine ⟨?_, ?_, hx⟩
      · rw [undoP _ _ _ _ _ _ hx hn h0, if_neg (by obtain ⟨h1, h2, h3, h4, h5, h6, h7, h8, h9⟩ := hc; simp only at h6; omega)]
        simp only [Prod.mk.injEq, Ct.mk.injEq, and_true]
        omega
      · rw [freeP _ _ _ _ _ _ hx hn h0, if_neg (by obtain ⟨h1, h2, h3, h4, h5, h6, h7, h8, h9⟩ := hc; simp only at h6; omega)]
        simp only [Prod.mk.injEq, Ct.mk.injEq, and_true, true_and]
        omega
  · rw [doN _ _ _ _ _ _ hc hn h0] at h
    split at h
    · simp at h
    · rename_i hh
      have h' := (Prod.mk.inj h).1
      subst h'
      have hx : OkC ⟨v + n, u, d - n, l, g⟩ := by
        simp only [OkC, Ok] at *
        omega
      refine ⟨?_, ?_, hx⟩
      · rw [undoN _ _ _ _ _ _ hx hn h0, if_neg (by obtain ⟨h1, h2, h3, h4, h5, h6, h7, h8, h9⟩ := hc; simp only at h7; omega)]
        simp only [Prod.mk.injEq, Ct.mk.injEq, and_true, true_and]
        omega
      · rw [freeN _ _ _ _ _ _ hx hn h0, if_neg (by obtain ⟨h1, h2, h3, h4, h5, h6, h7, h8, h9⟩ := hc; simp only at h7; omega)]
        simp only [Prod.mk.injEq, Ct.mk.injEq, and_true, true_and]
        omega
theorem rw_new (w : World) (o : Obj) : (w.alloc o).heap[w.heap.size]? = some o := heap_alloc_new w o
theorem rw_later {w w2 : World} {q : Nat} {o : Obj} (h : w.heap[q]? = some o) (hb : Below w.heap.size w w2) : w2.heap[q]? = some o := (hb.block _ (Array.getElem?_eq_some_iff.1 h).1).trans h
/-- Boxes of the call's own, each with a counter. -/
structure Bxs (w : World) (L : List (Nat × Ct)) (W : World) : Prop where
  bel : Below w.heap.size w W
  all : ∀ p ∈ L, W.heap[p.1]? = some (cRow p.2.v p.2.u p.2.d p.2.l p.2.h)
theorem Bxs.nil {w W : World} (h : Below w.heap.size w W) : Bxs w [] W := ⟨h, fun _ hp => by cases hp⟩
theorem Bxs.later {w W W2 : World} {L : List (Nat × Ct)} (x : Bxs w L W) (hb : Below W.heap.size W W2) : Bxs w L W2 :=
  ⟨x.bel.trans (hb.mono x.bel.size), fun p hp => (hb.block _ (Array.getElem?_eq_some_iff.1 (x.all p hp)).1).trans (x.all p hp)⟩
theorem Bxs.alloc {w W : World} {L : List (Nat × Ct)} (x : Bxs w L W) (o : Obj) : Bxs w L (W.alloc o) := x.later (alloc_b _ _)
theorem Bxs.add {w W : World} {L : List (Nat × Ct)} (x : Bxs w L W) (v u d l h : Int) : Bxs w ((W.heap.size, ⟨v, u, d, l, h⟩) :: L) (W.alloc (cRow v u d l h)) :=
  ⟨(x.alloc _).bel, fun p hp => by
    rcases List.mem_cons.1 hp with rfl | hp
    · exact heap_alloc_new _ _
    · exact (x.alloc _).all p hp⟩
theorem Bxs.cells {w W : World} {L : List (Nat × Ct)} (x : Bxs w L W) (i : Nat) {q : Nat} {v u d l h : Int} (hi : L[i]? = some (q, ⟨v, u, d, l, h⟩)) :
    W.cell? ⟨q, 0, none⟩ = some (.int .i64 v) ∧ W.cell? ⟨q, 1, none⟩ = some (.int .i64 u) ∧ W.cell? ⟨q, 2, none⟩ = some (.int .i64 d) ∧ W.cell? ⟨q, 3, none⟩ = some (.int .i64 l) ∧ W.cell? ⟨q, 4, none⟩ = some (.int .i64 h) ∧ q < W.heap.size := by
  have hb := x.all _ (List.mem_of_getElem? hi)
  exact ⟨cell_of_row W q 0 _ TC _ hb, cell_of_row W q 1 _ TC _ hb, cell_of_row W q 2 _ TC _ hb, cell_of_row W q 3 _ TC _ hb, cell_of_row W q 4 _ TC _ hb, (Array.getElem?_eq_some_iff.1 hb).1⟩
set_option maxHeartbeats 4000000 in
theorem w_countBack (pv pu pd pb po n : Int) (w : World) (w0 : I32 pv ∧ U16 pu ∧ U16 pd ∧ U16 pb ∧ U16 po) (w1 : (Lit.int .i32 n).wf = true) :
    Calls Try.prog 7 #[pA pv pu pd pb po, .int .i32 n] w fun e w' => e = .returned (.bool true) ∧ Below w.heap.size w w' := by
  have hnb := bounds_i32 w1
  have hw := Lib.hid (fun W => works_any W)
  have hM := Lib.hid (fun W => made_any pv pu pd pb po W w0.1 w0.2.1 w0.2.2.1 w0.2.2.2.1 w0.2.2.2.2)
  have hok := mk_ok w0
  have hn : Ok n := by unfold Ok; omega
  have iw : IntKind.i64.wrap n = n := i64w (by omega) (by omega)
  have hsz := Lib.hid (fun W => size_any n W (i64_ok hn))
  have hvn : IntKind.i64.wrap (pv + n) = pv + n := by obtain ⟨⟨_, _⟩, _⟩ := w0; exact i64w (by omega) (by omega)
  have hD := fun W => do_any pv pu pd (pv - pu - pb) (pv + pd + po) n W
  have hU := fun W => undo_any pv pu pd (pv - pu - pb) (pv + pd + po) n W
  have hF := fun W => free_any pv pu pd (pv - pu - pb) (pv + pd + po) n W
  have eu : (chC takeC ⟨pv, pu, pd, pv - pu - pb, pv + pd + po⟩ n).2 = _ := held_undo hok hn
  have ef : (chC giveC ⟨pv, pu, pd, pv - pu - pb, pv + pd + po⟩ n).2 = _ := held_free hok hn
  have ed : (chC addC ⟨pv, pu, pd, pv - pu - pb, pv + pd + po⟩ n).2 = 0 ∨ chC addC ⟨pv, pu, pd, pv - pu - pb, pv + pd + po⟩ n = (zero, 7) := do_err hok hn
  have hback : ∀ x, chC addC ⟨pv, pu, pd, pv - pu - pb, pv + pd + po⟩ n = (x, 0) → chC takeC x n = (⟨pv, pu, pd, pv - pu - pb, pv + pd + po⟩, 0) ∧ chC giveC x n = (⟨pv + n, pu, pd, pv - pu - pb, pv + pd + po⟩, 0) ∧ OkC x := fun x hx => do_back hok hn hx
  generalize pv - pu - pb = l at *
  generalize pv + pd + po = g at *
  generalize chC takeC ⟨pv, pu, pd, l, g⟩ n = ru at *
  generalize chC giveC ⟨pv, pu, pd, l, g⟩ n = rf at *
  generalize chC addC ⟨pv, pu, pd, l, g⟩ n = rd at *
  obtain ⟨⟨ru0, ru1, ru2, ru3, ru4⟩, ru5⟩ := ru
  obtain ⟨⟨rf0, rf1, rf2, rf3, rf4⟩, rf5⟩ := rf
  obtain ⟨⟨rd0, rd1, rd2, rd3, rd4⟩, rd5⟩ := rd
  simp only at eu ef ed
  generalize max n (-n) = m at *
  have hb0 := Bxs.nil (alloc_b w (pRow pv pu pd pb po))
  replace hD := Lib.hid hD
  replace hU := Lib.hid hU
  replace hF := Lib.hid hF
  replace hback := Lib.hid hback
  have hneg : (n < 0) = True ∨ (n < 0) = False := by
    by_cases h : n < 0
    · exact Or.inl (eq_true h)
    · exact Or.inr (eq_false h)
  clear hnb w0 w1 hok hn
  rcases ed with ed | ed
  case inr =>
   obtain ⟨ed1, ed2⟩ := Prod.mk.inj ed
   unfold zero at ed1
   obtain ⟨rfl, rfl, rfl, rfl, rfl⟩ := Ct.mk.inj ed1
   subst ed2
   clear ed ed1 hback
   rcases hneg with hneg | hneg
   all_goals
     simp only [hneg, if_true, if_false] at eu ef
     by_cases hlt : (if n < 0 then pd else pu) < m
   all_goals
     simp only [hneg, if_true, if_false] at hlt
     simp only [hlt, if_true, if_false] at eu ef
     subst eu ef
     go_enter Try.func7, Try.ntmps7
     go_wp2_with fail
     refine (hM.out _).mono ?_
     rintro e w1 ⟨rfl, hb1⟩
     have hB := (hb0.later hb1).add pv pu pd l g
     go_wp2_with fail
     refine (hD.out _).mono ?_
     rintro e w2 ⟨rfl, hb2⟩
     replace hB := (hB.later hb2).add 0 0 0 0 0
     obtain ⟨c0, c1, c2, c3, c4, clt⟩ := hB.cells 1 rfl
     go_wp2_with fail
     refine (hU.out _).mono ?_
     rintro e w3 ⟨rfl, hb3⟩
     clear c0 c1 c2 c3 c4 clt
     replace hB := (hB.later hb3).add ru0 ru1 ru2 ru3 ru4
     obtain ⟨c0, c1, c2, c3, c4, clt⟩ := hB.cells 2 rfl
     go_wp2_with fail
     refine (hF.out _).mono ?_
     rintro e w4 ⟨rfl, hb4⟩
     clear c0 c1 c2 c3 c4 clt
     replace hB := (hB.later hb4).add rf0 rf1 rf2 rf3 rf4
     go_wp2_with (first
       | (go_at_call 33; refine (hsz.out _).mono ?_; rintro e w5 ⟨rfl, rfl⟩)
       | (go_at_call 20; refine (hw.out _).mono ?_; rintro e w6 ⟨rfl, hb6⟩; have hB6 := hB.later hb6))
     go_ret
     exact ⟨rfl, hB6.bel⟩
  case inl =>
   replace ed : rd5 = 0 := ed
   subst ed
   obtain ⟨g1, g2, g3⟩ := hback.out _ rfl
   have hU2 := fun W => undo_any rd0 rd1 rd2 rd3 rd4 n W
   have hF2 := fun W => free_any rd0 rd1 rd2 rd3 rd4 n W
   rw [g1] at hU2
   rw [g2] at hF2
   have q1 := eq_self pv pu pd l g
   have q2 := eq_self (pv + n) pu pd l g
   replace hU2 := Lib.hid hU2
   replace hF2 := Lib.hid hF2
   clear g1 g2 g3 hback
   rcases hneg with hneg | hneg
   all_goals
     simp only [hneg, if_true, if_false] at eu ef
     by_cases hlt : (if n < 0 then pd else pu) < m
   all_goals
     simp only [hneg, if_true, if_false] at hlt
     simp only [hlt, if_true, if_false] at eu ef
     subst eu ef
     go_enter Try.func7, Try.ntmps7
     go_wp2_with fail
     refine (hM.out _).mono ?_
     rintro e w1 ⟨rfl, hb1⟩
     have hB := (hb0.later hb1).add pv pu pd l g
     go_wp2_with fail
     refine (hD.out _).mono ?_
     rintro e w2 ⟨rfl, hb2⟩
     replace hB := (hB.later hb2).add rd0 rd1 rd2 rd3 rd4
     obtain ⟨c0, c1, c2, c3, c4, clt⟩ := hB.cells 1 rfl
     go_wp2_with fail
     refine (hU.out _).mono ?_
     rintro e w3 ⟨rfl, hb3⟩
     clear c0 c1 c2 c3 c4 clt
     replace hB := (hB.later hb3).add ru0 ru1 ru2 ru3 ru4
     obtain ⟨c0, c1, c2, c3, c4, clt⟩ := hB.cells 2 rfl
     go_wp2_with fail
     refine (hF.out _).mono ?_
     rintro e w4 ⟨rfl, hb4⟩
     clear c0 c1 c2 c3 c4 clt
     replace hB := (hB.later hb4).add rf0 rf1 rf2 rf3 rf4
     obtain ⟨c0, c1, c2, c3, c4, clt⟩ := hB.cells 2 rfl
     go_wp2_with (go_at_call 33; refine (hsz.out _).mono ?_; rintro e w5 ⟨rfl, rfl⟩)
     refine (hU2.out _).mono ?_
     rintro e w6 ⟨rfl, hb6⟩
     clear c0 c1 c2 c3 c4 clt
     replace hB := (hB.later hb6).add pv pu pd l g
     obtain ⟨c0, c1, c2, c3, c4, clt⟩ := hB.cells 3 rfl
     go_wp2_with fail
     refine (hF2.out _).mono ?_
     rintro e w7 ⟨rfl, hb7⟩
     clear c0 c1 c2 c3 c4 clt
     replace hB := (hB.later hb7).add (pv + n) pu pd l g
     have hB2 := hB.add (pv + n) pu pd l g
     obtain ⟨c0, c1, c2, c3, c4, clt⟩ := hB2.cells 6 rfl
     obtain ⟨d0, d1, d2, d3, d4, dlt⟩ := hB2.cells 2 rfl
     obtain ⟨e0, e1, e2, e3, e4, elt⟩ := hB2.cells 1 rfl
     obtain ⟨f0, f1, f2, f3, f4, flt⟩ := hB.cells 5 rfl
     go_wp2_with (first
       | (go_at_call 20; refine (hw.out _).mono ?_; rintro e w8 ⟨rfl, hb8⟩; have hB8 := hB2.later hb8))
     go_ret
     exact ⟨rfl, hB8.bel⟩
end Go.Proofs.Ytodgnhkaglcjnaa.Cnt
