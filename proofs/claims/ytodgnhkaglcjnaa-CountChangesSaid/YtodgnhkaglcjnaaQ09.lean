/- The walk of CountChanges. -/
import Derived.Test.YtodgnhkaglcjnaaQ08
import Derived.Deep.RegionHeld3
namespace Go.Proofs.Ytodgnhkaglcjnaa.Cnt
open Go.RowKit
set_option linter.unusedVariables false
set_option linter.unusedSimpArgs false
set_option maxRecDepth 20000

theorem wpAnyH_weaken {P : Program} {md : Region.Mode} {ops : Array Oper} {Q : Exit → Act → World → Prop} {S S' : World → Prop} (h : ∀ w, S' w → S w) :
    ∀ (fuel : Nat) (listed : Array Bool) (a : Act) (w : World), wpAnyH P md ops Q S' fuel listed a w → wpAnyH P md ops Q S fuel listed a w
  | 0, _, _, _, x => x
  | fuel + 1, _, _, _, x => ⟨x.1, fun i hi => wpOp_mono (fun a' w' y => ⟨h _ y.1, wpAnyH_weaken h fuel _ a' w' y.2⟩) (x.2 i hi)⟩
/-- What a cut asks: the code comes to its end, and this holds there. -/
def CutQ (R : Act → World → Prop) : Exit → Act → World → Prop := fun e a W => match e with | .normal => R a W | _ => False
/-- A cut behind a region: what its frame and its world are, whatever the order was. -/
theorem wp_cut {P : Program} {c : Code} {Q' : Exit → Act → World → Prop} {a : Act} {w : World} (F : Act → Nat → Nat → Act) (R : World → Nat → Nat → Prop)
    (h : ∀ R' : Act → World → Prop, Hid (∀ W p q, R W p q → R' (F a p q) W) → c.wp P (CutQ R') a w) (hk : ∀ W p q, R W p q → Q' Exit.normal (F a p q) W) : c.wp P Q' a w :=
  wp_mono (h (fun a' W => ∃ p q, a' = F a p q ∧ R W p q) (Lib.hid (fun W p q hr => ⟨p, q, rfl, hr⟩))) (fun e a' W hh => by
    cases e with
    | normal =>
      obtain ⟨p, q, rfl, h3⟩ := (show ∃ p q, a' = F a p q ∧ R W p q from hh)
      exact hk W p q h3
    | _ => exact False.elim hh)
theorem blk_set {w : World} {g : Nat} {cs : Array Value} {e : TypeId} (h : w.heap[g]? = some (.cells cs e (0, 0))) (i : Nat) (u : Value) : (w.setCell ⟨g, i, none⟩ u).heap[g]? = some (.cells (cs.setIfInBounds i u) e (0, 0)) := by
  simp [World.setCell, Array.getElem?_modify, h]
theorem set5_st {w1 : World} {q : Nat} {v0 u0 d0 l0 h0 : Int} (hq : w1.heap[q]? = some (cRow v0 u0 d0 l0 h0)) (v u d l h : Int) :
    St w1 (((((w1.setCell ⟨q, 0, none⟩ (.int .i64 v)).setCell ⟨q, 1, none⟩ (.int .i64 u)).setCell ⟨q, 2, none⟩ (.int .i64 d)).setCell ⟨q, 3, none⟩ (.int .i64 l)).setCell ⟨q, 4, none⟩ (.int .i64 h)) q v u d l h := by
  have b1 : (w1.setCell ⟨q, 0, none⟩ (.int .i64 v)).heap[q]? = some (cRow v u0 d0 l0 h0) := by simpa using blk_set hq 0 (.int .i64 v)
  have b2 : ((w1.setCell ⟨q, 0, none⟩ (.int .i64 v)).setCell ⟨q, 1, none⟩ (.int .i64 u)).heap[q]? = some (cRow v u d0 l0 h0) := by simpa using blk_set b1 1 (.int .i64 u)
  generalize hA : w1.setCell ⟨q, 0, none⟩ (.int .i64 v) = A at *
  generalize hB : A.setCell ⟨q, 1, none⟩ (.int .i64 u) = B at *
  have b3 : (B.setCell ⟨q, 2, none⟩ (.int .i64 d)).heap[q]? = some (cRow v u d l0 h0) := by simpa using blk_set b2 2 (.int .i64 d)
  generalize hC : B.setCell ⟨q, 2, none⟩ (.int .i64 d) = C at *
  have b4 : (C.setCell ⟨q, 3, none⟩ (.int .i64 l)).heap[q]? = some (cRow v u d l h0) := by simpa using blk_set b3 3 (.int .i64 l)
  generalize hD : C.setCell ⟨q, 3, none⟩ (.int .i64 l) = D at *
  have b5 : (D.setCell ⟨q, 4, none⟩ (.int .i64 h)).heap[q]? = some (cRow v u d l h) := by simpa using blk_set b4 4 (.int .i64 h)
  have o : ∀ (X Y : World) (i : Nat) (z : Value), X.setCell ⟨q, i, none⟩ z = Y → Y.os = X.os ∧ Y.tape = X.tape ∧ Y.output = X.output ∧ Y.heap.size = X.heap.size ∧ ∀ k, k ≠ q → Y.heap[k]? = X.heap[k]? := fun X Y i z e => by
    subst e
    exact ⟨rfl, rfl, rfl, by simp [World.setCell], fun k hk => Below.heap_setCell _ _ _ _ hk⟩
  obtain ⟨p1, p2, p3, p4, p5⟩ := o _ _ _ _ hA
  obtain ⟨q1, q2, q3, q4, q5⟩ := o _ _ _ _ hB
  obtain ⟨r1, r2, r3, r4, r5⟩ := o _ _ _ _ hC
  obtain ⟨s1, s2, s3, s4, s5⟩ := o _ _ _ _ hD
  obtain ⟨t1, t2, t3, t4, t5⟩ := o _ _ _ _ (rfl : D.setCell ⟨q, 4, none⟩ (.int .i64 h) = _)
  exact ⟨b5, fun k hk => by rw [t5 k hk, s5 k hk, r5 k hk, q5 k hk, p5 k hk], by rw [t4, s4, r4, q4, p4], by rw [t1, s1, r1, q1, p1], by rw [t2, s2, r2, q2, p2], by rw [t3, s3, r3, q3, p3]⟩
abbrev fnRow : Obj := .cells #[.func (.func 12) #[] #[], .func (.func 13) #[] #[], .func (.func 14) #[] #[]] 24
abbrev rfRow : Obj := .cells #[.func (.func 15) #[] #[], .func (.func 16) #[] #[], .func (.func 17) #[] #[]] 24
/-- The counter's box and the slice of functions. -/
structure Fx (w : World) (v u d l h : Int) (w' : World) : Prop where
  x : Cx w w.heap.size v u d l h w'
  fs : w'.heap[w.heap.size + 1]? = some fnRow
theorem Fx.later {w w' w2 : World} {v u d l h : Int} (x : Fx w v u d l h w') (hb : Below w'.heap.size w' w2) : Fx w v u d l h w2 :=
  ⟨x.x.later hb, (hb.block _ (Array.getElem?_eq_some_iff.1 x.fs).1).trans x.fs⟩
theorem Fx.alloc {w w' : World} {v u d l h : Int} (x : Fx w v u d l h w') (o : Obj) : Fx w v u d l h (w'.alloc o) := x.later (alloc_b _ _)
theorem Fx.drew {w w' : World} {v u d l h : Int} (x : Fx w v u d l h w') : Fx w v u d l h w'.drew := x.later (Below.refl _ _).drew
theorem Fx.lt {w w' : World} {v u d l h : Int} (x : Fx w v u d l h w') : w.heap.size + 1 < w'.heap.size := (Array.getElem?_eq_some_iff.1 x.fs).1
theorem Fx.other {w w1 w2 : World} {q : Nat} {v u d l h v' u' d' l' h' : Int} (x : Fx w v u d l h w1) (s : St w1 w2 q v' u' d' l' h') (hq : w.heap.size + 1 < q) : Fx w v u d l h w2 :=
  ⟨x.x.other s (by omega) (by omega), (s.oth _ (by omega)).trans x.fs⟩
theorem Fx.cells {w w' : World} {v u d l h : Int} (x : Fx w v u d l h w') :
    w'.cell? ⟨w.heap.size, 0, none⟩ = some (.int .i64 v) ∧ w'.cell? ⟨w.heap.size, 1, none⟩ = some (.int .i64 u) ∧ w'.cell? ⟨w.heap.size, 2, none⟩ = some (.int .i64 d) ∧ w'.cell? ⟨w.heap.size, 3, none⟩ = some (.int .i64 l) ∧ w'.cell? ⟨w.heap.size, 4, none⟩ = some (.int .i64 h) ∧
    w'.cell? ⟨w.heap.size + 1, 0, none⟩ = some (.func (.func 12) #[] #[]) ∧ w'.cell? ⟨w.heap.size + 1, 1, none⟩ = some (.func (.func 13) #[] #[]) ∧ w'.cell? ⟨w.heap.size + 1, 2, none⟩ = some (.func (.func 14) #[] #[]) :=
  ⟨x.x.cells.1, x.x.cells.2.1, x.x.cells.2.2.1, x.x.cells.2.2.2.1, x.x.cells.2.2.2.2, cell_of_row w' _ 0 _ _ _ x.fs, cell_of_row w' _ 1 _ _ _ x.fs, cell_of_row w' _ 2 _ _ _ x.fs⟩
theorem fx_new (w : World) (v u d l h : Int) : Fx w v u d l h ((w.alloc (cRow v u d l h)).alloc fnRow) := by
  refine ⟨(cx_new w v u d l h).alloc _, ?_⟩
  have := heap_alloc_new (w.alloc (cRow v u d l h)) fnRow
  simpa using this
/-- What lies in memory in a round: the counter, the functions, the first result's box. -/
structure Gx (w : World) (v u d l h : Int) (q : Nat) (x0 x1 x2 x3 x4 : Int) (w' : World) : Prop where
  f : Fx w v u d l h w'
  a : Cx w q x0 x1 x2 x3 x4 w'
theorem Gx.later {w w' w2 : World} {v u d l h : Int} {q : Nat} {x0 x1 x2 x3 x4 : Int} (x : Gx w v u d l h q x0 x1 x2 x3 x4 w') (hb : Below w'.heap.size w' w2) : Gx w v u d l h q x0 x1 x2 x3 x4 w2 := ⟨x.f.later hb, x.a.later hb⟩
theorem Gx.alloc {w w' : World} {v u d l h : Int} {q : Nat} {x0 x1 x2 x3 x4 : Int} (x : Gx w v u d l h q x0 x1 x2 x3 x4 w') (o : Obj) : Gx w v u d l h q x0 x1 x2 x3 x4 (w'.alloc o) := x.later (alloc_b _ _)
theorem Gx.other {w w1 w2 : World} {v u d l h : Int} {q p : Nat} {x0 x1 x2 x3 x4 v' u' d' l' h' : Int} (x : Gx w v u d l h q x0 x1 x2 x3 x4 w1) (s : St w1 w2 p v' u' d' l' h') (hq : w.heap.size + 1 < p) (hne : q ≠ p) : Gx w v u d l h q x0 x1 x2 x3 x4 w2 :=
  ⟨x.f.other s hq, x.a.other s (by omega) hne⟩
theorem row_new (w : World) (o : Obj) : (w.alloc o).heap[w.heap.size]? = some o := heap_alloc_new w o
theorem row_later {w w2 : World} {q : Nat} {o : Obj} (h : w.heap[q]? = some o) (hb : Below w.heap.size w w2) : w2.heap[q]? = some o := (hb.block _ (Array.getElem?_eq_some_iff.1 h).1).trans h
theorem row_st {w w2 : World} {q p : Nat} {o : Obj} {v u d l h : Int} (hr : w.heap[q]? = some o) (s : St w w2 p v u d l h) (hne : q ≠ p) : w2.heap[q]? = some o := (s.oth _ hne).trans hr
theorem row_lt {w : World} {q : Nat} {o : Obj} (hr : w.heap[q]? = some o) : q < w.heap.size := (Array.getElem?_eq_some_iff.1 hr).1
set_option maxHeartbeats 16000000 in
theorem w_countChanges (v u d l g n p : Int) (w : World) {P0 P1 P2 : Prop} (w0 : P0) (w1 : P1) (w2 : P2) :
    Calls Try.prog 3 #[cA v u d l g, .int .i64 n, .int .i64 p] w fun e w' => e = .returned (.bool true) ∧ Below w.heap.size w w' := by
  have hx := fx_new w v u d l g
  have hw := Lib.hid (fun W => works_any W)
  have d1 := fun W => do_any v u d l g n W
  have d2 := fun W => rdo_any v u d l g n W
  have d3 := fun W => app_1 v u d l g n W
  have u1 := fun W => undo_any v u d l g n W
  have u2 := fun W => rundo_any v u d l g n W
  have u3 := fun W => app_2 v u d l g n W
  have f1 := fun W => free_any v u d l g n W
  have f2 := fun W => rfree_any v u d l g n W
  have f3 := fun W => app_3 v u d l g n W
  have a1 := fun W => apply_any v u d l g p n W
  have a2 := fun W => rapply_any v u d l g p n W
  generalize appC ⟨v, u, d, l, g⟩ p n = ra at *
  generalize chC addC ⟨v, u, d, l, g⟩ n = rd at *
  generalize chC takeC ⟨v, u, d, l, g⟩ n = ru at *
  generalize chC giveC ⟨v, u, d, l, g⟩ n = rf at *
  obtain ⟨⟨ra0, ra1, ra2, ra3, ra4⟩, ra5⟩ := ra
  obtain ⟨⟨rd0, rd1, rd2, rd3, rd4⟩, rd5⟩ := rd
  obtain ⟨⟨ru0, ru1, ru2, ru3, ru4⟩, ru5⟩ := ru
  obtain ⟨⟨rf0, rf1, rf2, rf3, rf4⟩, rf5⟩ := rf
  have qaa := Lib.hid (fun W => eq_self ra0 ra1 ra2 ra3 ra4 W)
  have qd := Lib.hid (fun W => eq_self rd0 rd1 rd2 rd3 rd4 W)
  have qu := Lib.hid (fun W => eq_self ru0 ru1 ru2 ru3 ru4 W)
  have qf := Lib.hid (fun W => eq_self rf0 rf1 rf2 rf3 rf4 W)
  replace d1 := Lib.hid d1
  replace d2 := Lib.hid d2
  replace d3 := Lib.hid d3
  replace u1 := Lib.hid u1
  replace u2 := Lib.hid u2
  replace u3 := Lib.hid u3
  replace f1 := Lib.hid f1
  replace f2 := Lib.hid f2
  replace f3 := Lib.hid f3
  replace a1 := Lib.hid a1
  replace a2 := Lib.hid a2
  clear w0 w1 w2
  go_enter Try.func3, Try.ntmps3
  go_wp2
  refine wp_loop_rounds 4 ?_
  rw [rounds_succ]
  have cc := hx.cells
  obtain ⟨c0, c1, c2, c3, c4, k0, k1, k2⟩ := cc
  go_wp2_with fail
  clear c0 c1 c2 c3 c4 k0 k1 k2
  refine (d1.out _).mono ?_
  rintro e w1 ⟨rfl, hb1⟩
  replace hx := hx.later hb1
  have hlt1 := hx.lt
  have xa := Cx.new hx.x.bel rd0 rd1 rd2 rd3 rd4
  replace hx := hx.alloc (cRow rd0 rd1 rd2 rd3 rd4)
  go_wp2_with fail
  generalize hW1 : w1.alloc (cRow rd0 rd1 rd2 rd3 rd4) = W1 at *
  have hqa := hlt1
  generalize w1.heap.size = qa at *
  clear hW1 hb1
  refine wp_cut (fun a qb qs => (((((((((((((a.put (some 34) (.slice (some ⟨qs, 0, none⟩) 3 3)).put (some 35) (.int .i64 0)).put (some 36) (.pointer (some ⟨qs, 0, none⟩))).put (some 37) (.func (.func 15) #[] #[])).put (some 38) (cA v u d l g)).put (some 39) (.int .i64 n)).put (some 40) (rV (⟨rd0, rd1, rd2, rd3, rd4⟩, rd5))).put (some 33) (rV (⟨rd0, rd1, rd2, rd3, rd4⟩, rd5))).put (some 41) (cV ⟨rd0, rd1, rd2, rd3, rd4⟩)).put (some 42) (.int .i64 rd5)).put (some 11) (.pointer (some ⟨qb, 0, none⟩))).put (none) (undef)).put (some 12) (.int .i64 rd5))) (fun W qb qs => Gx w v u d l g qa rd0 rd1 rd2 rd3 rd4 W ∧ Cx w qb rd0 rd1 rd2 rd3 rd4 W) ?_ ?_
  case refine_1 =>
    intro R' hQ
    try simp only [Act.put, List.setIfInBounds_toArray, List.set_cons_zero, List.set_cons_succ] at hQ
    refine wp_region_held_drew (S := (fun W => Gx w v u d l g qa rd0 rd1 rd2 rd3 rd4 W)) (by kernel_rfl) (Gx.mk hx.drew xa.drew) (fun hS => ?_)
    try simp only [Act.put, List.setIfInBounds_toArray, List.set_cons_zero, List.set_cons_succ]
    have hG := Gx.mk hx.drew xa.drew
    replace hx := hx.drew
    replace xa := xa.drew
    generalize hWd : W1.drew = Wd at *
    clear hWd
    refine wpAnyH_take (i := 1) (v := .int .i64 0) rfl (by kernel_rfl) (by kernel_rfl) (by kernel_rfl) (fun _ _ _ h => h) (Or.inl ⟨by kernel_rfl, by intro w' hSw; go_simp⟩) hS ?_
    try simp only [Act.put, List.setIfInBounds_toArray, List.set_cons_zero, List.set_cons_succ]
    refine wpAnyH_take (i := 4) (v := cA v u d l g) rfl (by kernel_rfl) (by kernel_rfl) (by kernel_rfl) (fun _ _ _ h => h) (Or.inl ⟨by kernel_rfl, by intro w' hSw; obtain ⟨s0, s1, s2, s3, s4, _⟩ := hSw.f.cells; go_simp⟩) hS ?_
    try simp only [Act.put, List.setIfInBounds_toArray, List.set_cons_zero, List.set_cons_succ]
    refine wpAnyH_take (i := 5) (v := .int .i64 n) rfl (by kernel_rfl) (by kernel_rfl) (by kernel_rfl) (fun _ _ _ h => h) (Or.inl ⟨by kernel_rfl, by intro w' hSw; go_simp⟩) hS ?_
    try simp only [Act.put, List.setIfInBounds_toArray, List.set_cons_zero, List.set_cons_succ]
    have hG := Gx.mk hx xa
    refine wpAnyH_ready (rs := [0, 10]) (by kernel_rfl) (by simp) ?_
    refine AllReadyH.cons rfl (fun K hK => ?_) (AllReadyH.cons rfl (fun K hK => ?_) AllReadyH.nil)
    ·
      go_simp
      have yB := row_new Wd rfRow
      have hG0 := hG.alloc rfRow
      generalize hWs : Wd.alloc rfRow = Ws at *
      have hqs : Wd.heap.size < Ws.heap.size := row_lt yB
      generalize Wd.heap.size = qs at *
      clear hWs
      refine hK.out _ _ hG0 (fun hS0 => ?_)
      clear hK K
      try simp only [Act.put, List.setIfInBounds_toArray, List.set_cons_zero, List.set_cons_succ]
      clear hS hG
      have hS : (fun W => Gx w v u d l g qa rd0 rd1 rd2 rd3 rd4 W ∧ W.heap[qs]? = some rfRow) _ := ⟨hS0, yB⟩
      refine wpAnyH_weaken (S' := fun W => Gx w v u d l g qa rd0 rd1 rd2 rd3 rd4 W ∧ W.heap[qs]? = some rfRow) (fun _ h => h.1) _ _ _ _ ?_
      refine wpAnyH_take (i := 2) (v := .pointer (some ⟨qs, 0, none⟩)) rfl (by kernel_rfl) (by kernel_rfl) (by kernel_rfl) (fun _ _ _ h => h) (Or.inl ⟨by kernel_rfl, by intro w' hSw; go_simp⟩) hS ?_
      try simp only [Act.put, List.setIfInBounds_toArray, List.set_cons_zero, List.set_cons_succ]
      refine wpAnyH_take (i := 3) (v := .func (.func 15) #[] #[]) rfl (by kernel_rfl) (by kernel_rfl) (by kernel_rfl) (fun _ _ _ h => h) (Or.inl ⟨by kernel_rfl, by intro w' hSw; have s5 := cell_of_row w' _ 0 _ _ _ hSw.2; go_simp⟩) hS ?_
      try simp only [Act.put, List.setIfInBounds_toArray, List.set_cons_zero, List.set_cons_succ]
      refine wpAnyH_ready (rs := [6, 10]) (by kernel_rfl) (by simp) ?_
      refine AllReadyH.cons rfl (fun K hK => ?_) (AllReadyH.cons rfl (fun K hK => ?_) AllReadyH.nil)
      ·
        go_simp
        go_at_call 15
        refine (d2.out _).mono ?_
        rintro e w2 ⟨rfl, hb2⟩
        have hG2 := hG0.later hb2
        have yB2 := row_later yB hb2
        refine hK.out _ _ ⟨hG2, yB2⟩ (fun hS => ?_)
        clear hK K
        try simp only [Act.put, List.setIfInBounds_toArray, List.set_cons_zero, List.set_cons_succ]
        refine wpAnyH_take (i := 7) (v := rV (⟨rd0, rd1, rd2, rd3, rd4⟩, rd5)) rfl (by kernel_rfl) (by kernel_rfl) (by kernel_rfl) (fun _ _ _ h => h) (Or.inl ⟨by kernel_rfl, by intro w' hSw; go_simp⟩) hS ?_
        try simp only [Act.put, List.setIfInBounds_toArray, List.set_cons_zero, List.set_cons_succ]
        refine wpAnyH_take (i := 8) (v := cV ⟨rd0, rd1, rd2, rd3, rd4⟩) rfl (by kernel_rfl) (by kernel_rfl) (by kernel_rfl) (fun _ _ _ h => h) (Or.inl ⟨by kernel_rfl, by intro w' hSw; go_simp⟩) hS ?_
        try simp only [Act.put, List.setIfInBounds_toArray, List.set_cons_zero, List.set_cons_succ]
        refine wpAnyH_take (i := 9) (v := .int .i64 rd5) rfl (by kernel_rfl) (by kernel_rfl) (by kernel_rfl) (fun _ _ _ h => h) (Or.inl ⟨by kernel_rfl, by intro w' hSw; go_simp⟩) hS ?_
        try simp only [Act.put, List.setIfInBounds_toArray, List.set_cons_zero, List.set_cons_succ]
        refine wpAnyH_ready (rs := [10]) (by kernel_rfl) (by simp) ?_
        refine AllReadyH.cons rfl (fun K hK => ?_) AllReadyH.nil
        go_simp
        have hG := hG2.alloc (cRow 0 0 0 0 0)
        have xb := Cx.new hG2.f.x.bel 0 0 0 0 0
        have yB3' := row_later yB2 (alloc_b w2 (cRow 0 0 0 0 0))
        have hqs2 := row_lt yB2
        have hl1 := hG2.f.lt
        have hl2 := hG2.a.lt
        generalize hWb : w2.alloc (cRow 0 0 0 0 0) = Wb at *
        generalize w2.heap.size = qb at *
        clear hWb hb2 yB hG0
        refine hK.out _ _ ⟨hG, yB3'⟩ (fun hS => ?_)
        clear hK K
        try simp only [Act.put, List.setIfInBounds_toArray, List.set_cons_zero, List.set_cons_succ]
        have yB := yB3'
        clear hG2 yB2
        refine wpAnyH_ready (rs := [11]) (by kernel_rfl) (by simp) ?_
        refine AllReadyH.cons rfl (fun K hK => ?_) AllReadyH.nil
        obtain ⟨e0, e1, e2, e3, e4⟩ := xb.cells
        obtain ⟨f0', f1', f2', f3', f4'⟩ := xb.froz
        go_simp
        have hs5 := set5_st xb.blk rd0 rd1 rd2 rd3 rd4
        have hG3 := hG.other hs5 (by omega) (by omega)
        have xb3 := xb.self hs5 (by omega)
        have yB3 := row_st yB hs5 (by omega)
        clear e0 e1 e2 e3 e4 f0' f1' f2' f3' f4'
        generalize hwr : World.setCell (World.setCell _ _ _) _ _ = wr at *
        clear hwr hs5
        refine hK.out _ _ ⟨hG3, yB3⟩ (fun hS => ?_)
        clear hK K
        try simp only [Act.put, List.setIfInBounds_toArray, List.set_cons_zero, List.set_cons_succ]
        refine wpAnyH_ready (rs := [12]) (by kernel_rfl) (by simp) ?_
        refine AllReadyH.cons rfl (fun K hK => ?_) AllReadyH.nil
        go_simp
        refine hK.out _ _ hS (fun hS => ?_)
        clear hK K
        try simp only [Act.put, List.setIfInBounds_toArray, List.set_cons_zero, List.set_cons_succ]
        refine wpAnyH_done (by kernel_rfl) ?_ _
        clear hS
        exact hQ.out _ qb qs ⟨hG3, xb3⟩
      ·
        go_simp
        have hG2 := hG0.alloc (cRow 0 0 0 0 0)
        have xb0 := Cx.new hG0.f.x.bel 0 0 0 0 0
        have yB2 := row_later yB (alloc_b Ws (cRow 0 0 0 0 0))
        have hl1 := hG0.f.lt
        have hl2 := hG0.a.lt
        generalize hWb : Ws.alloc (cRow 0 0 0 0 0) = Wb at *
        generalize Ws.heap.size = qb at *
        clear hWb yB hG0 hS0
        refine hK.out _ _ ⟨hG2, yB2⟩ (fun hS => ?_)
        clear hK K
        try simp only [Act.put, List.setIfInBounds_toArray, List.set_cons_zero, List.set_cons_succ]
        refine wpAnyH_ready (rs := [6]) (by kernel_rfl) (by simp) ?_
        refine AllReadyH.cons rfl (fun K hK => ?_) AllReadyH.nil
        go_simp
        go_at_call 15
        refine (d2.out _).mono ?_
        rintro e w2 ⟨rfl, hb2⟩
        have hG := hG2.later hb2
        have yB := row_later yB2 hb2
        have xb := xb0.later hb2
        refine hK.out _ _ ⟨hG, yB⟩ (fun hS => ?_)
        clear hK K hG2 yB2 xb0 hb2
        try simp only [Act.put, List.setIfInBounds_toArray, List.set_cons_zero, List.set_cons_succ]
        refine wpAnyH_take (i := 7) (v := rV (⟨rd0, rd1, rd2, rd3, rd4⟩, rd5)) rfl (by kernel_rfl) (by kernel_rfl) (by kernel_rfl) (fun _ _ _ h => h) (Or.inl ⟨by kernel_rfl, by intro w' hSw; go_simp⟩) hS ?_
        try simp only [Act.put, List.setIfInBounds_toArray, List.set_cons_zero, List.set_cons_succ]
        refine wpAnyH_take (i := 8) (v := cV ⟨rd0, rd1, rd2, rd3, rd4⟩) rfl (by kernel_rfl) (by kernel_rfl) (by kernel_rfl) (fun _ _ _ h => h) (Or.inl ⟨by kernel_rfl, by intro w' hSw; go_simp⟩) hS ?_
        try simp only [Act.put, List.setIfInBounds_toArray, List.set_cons_zero, List.set_cons_succ]
        refine wpAnyH_take (i := 9) (v := .int .i64 rd5) rfl (by kernel_rfl) (by kernel_rfl) (by kernel_rfl) (fun _ _ _ h => h) (Or.inl ⟨by kernel_rfl, by intro w' hSw; go_simp⟩) hS ?_
        try simp only [Act.put, List.setIfInBounds_toArray, List.set_cons_zero, List.set_cons_succ]
        refine wpAnyH_ready (rs := [11]) (by kernel_rfl) (by simp) ?_
        refine AllReadyH.cons rfl (fun K hK => ?_) AllReadyH.nil
        obtain ⟨e0, e1, e2, e3, e4⟩ := xb.cells
        obtain ⟨f0', f1', f2', f3', f4'⟩ := xb.froz
        go_simp
        have hs5 := set5_st xb.blk rd0 rd1 rd2 rd3 rd4
        have hG3 := hG.other hs5 (by omega) (by omega)
        have xb3 := xb.self hs5 (by omega)
        have yB3 := row_st yB hs5 (by omega)
        clear e0 e1 e2 e3 e4 f0' f1' f2' f3' f4'
        generalize hwr : World.setCell (World.setCell _ _ _) _ _ = wr at *
        clear hwr hs5
        refine hK.out _ _ ⟨hG3, yB3⟩ (fun hS => ?_)
        clear hK K
        try simp only [Act.put, List.setIfInBounds_toArray, List.set_cons_zero, List.set_cons_succ]
        refine wpAnyH_ready (rs := [12]) (by kernel_rfl) (by simp) ?_
        refine AllReadyH.cons rfl (fun K hK => ?_) AllReadyH.nil
        go_simp
        refine hK.out _ _ hS (fun hS => ?_)
        clear hK K
        try simp only [Act.put, List.setIfInBounds_toArray, List.set_cons_zero, List.set_cons_succ]
        refine wpAnyH_done (by kernel_rfl) ?_ _
        clear hS
        exact hQ.out _ qb qs ⟨hG3, xb3⟩
    ·
      go_simp
      have hG0 := hG.alloc (cRow 0 0 0 0 0)
      have xb0 := Cx.new hG.f.x.bel 0 0 0 0 0
      have hl1 := hG.f.lt
      have hl2 := hG.a.lt
      generalize hWb : Wd.alloc (cRow 0 0 0 0 0) = Wb at *
      generalize Wd.heap.size = qb at *
      clear hWb hG
      refine hK.out _ _ hG0 (fun hS => ?_)
      clear hK K
      try simp only [Act.put, List.setIfInBounds_toArray, List.set_cons_zero, List.set_cons_succ]
      refine wpAnyH_ready (rs := [0]) (by kernel_rfl) (by simp) ?_
      refine AllReadyH.cons rfl (fun K hK => ?_) AllReadyH.nil
      go_simp
      have yB := row_new Wb rfRow
      have hG1 := hG0.alloc rfRow
      have xb1 := xb0.alloc rfRow
      have hqb := xb0.lt
      generalize hWs : Wb.alloc rfRow = Ws at *
      generalize Wb.heap.size = qs at *
      clear hWs hG0 xb0
      refine hK.out _ _ hG1 (fun hS0 => ?_)
      clear hK K hS
      try simp only [Act.put, List.setIfInBounds_toArray, List.set_cons_zero, List.set_cons_succ]
      have hS : (fun W => Gx w v u d l g qa rd0 rd1 rd2 rd3 rd4 W ∧ W.heap[qs]? = some rfRow) _ := ⟨hS0, yB⟩
      refine wpAnyH_weaken (S' := fun W => Gx w v u d l g qa rd0 rd1 rd2 rd3 rd4 W ∧ W.heap[qs]? = some rfRow) (fun _ h => h.1) _ _ _ _ ?_
      refine wpAnyH_take (i := 2) (v := .pointer (some ⟨qs, 0, none⟩)) rfl (by kernel_rfl) (by kernel_rfl) (by kernel_rfl) (fun _ _ _ h => h) (Or.inl ⟨by kernel_rfl, by intro w' hSw; go_simp⟩) hS ?_
      try simp only [Act.put, List.setIfInBounds_toArray, List.set_cons_zero, List.set_cons_succ]
      refine wpAnyH_take (i := 3) (v := .func (.func 15) #[] #[]) rfl (by kernel_rfl) (by kernel_rfl) (by kernel_rfl) (fun _ _ _ h => h) (Or.inl ⟨by kernel_rfl, by intro w' hSw; have s5 := cell_of_row w' _ 0 _ _ _ hSw.2; go_simp⟩) hS ?_
      try simp only [Act.put, List.setIfInBounds_toArray, List.set_cons_zero, List.set_cons_succ]
      refine wpAnyH_ready (rs := [6]) (by kernel_rfl) (by simp) ?_
      refine AllReadyH.cons rfl (fun K hK => ?_) AllReadyH.nil
      go_simp
      go_at_call 15
      refine (d2.out _).mono ?_
      rintro e w2 ⟨rfl, hb2⟩
      have hG := hG1.later hb2
      have yB2 := row_later yB hb2
      have xb := xb1.later hb2
      refine hK.out _ _ ⟨hG, yB2⟩ (fun hS => ?_)
      clear hK K hG1 xb1 yB hb2
      try simp only [Act.put, List.setIfInBounds_toArray, List.set_cons_zero, List.set_cons_succ]
      have yB := yB2
      clear yB2
      refine wpAnyH_take (i := 7) (v := rV (⟨rd0, rd1, rd2, rd3, rd4⟩, rd5)) rfl (by kernel_rfl) (by kernel_rfl) (by kernel_rfl) (fun _ _ _ h => h) (Or.inl ⟨by kernel_rfl, by intro w' hSw; go_simp⟩) hS ?_
      try simp only [Act.put, List.setIfInBounds_toArray, List.set_cons_zero, List.set_cons_succ]
      refine wpAnyH_take (i := 8) (v := cV ⟨rd0, rd1, rd2, rd3, rd4⟩) rfl (by kernel_rfl) (by kernel_rfl) (by kernel_rfl) (fun _ _ _ h => h) (Or.inl ⟨by kernel_rfl, by intro w' hSw; go_simp⟩) hS ?_
      try simp only [Act.put, List.setIfInBounds_toArray, List.set_cons_zero, List.set_cons_succ]
      refine wpAnyH_take (i := 9) (v := .int .i64 rd5) rfl (by kernel_rfl) (by kernel_rfl) (by kernel_rfl) (fun _ _ _ h => h) (Or.inl ⟨by kernel_rfl, by intro w' hSw; go_simp⟩) hS ?_
      try simp only [Act.put, List.setIfInBounds_toArray, List.set_cons_zero, List.set_cons_succ]
      refine wpAnyH_ready (rs := [11]) (by kernel_rfl) (by simp) ?_
      refine AllReadyH.cons rfl (fun K hK => ?_) AllReadyH.nil
      obtain ⟨e0, e1, e2, e3, e4⟩ := xb.cells
      obtain ⟨f0', f1', f2', f3', f4'⟩ := xb.froz
      go_simp
      have hs5 := set5_st xb.blk rd0 rd1 rd2 rd3 rd4
      have hG3 := hG.other hs5 (by omega) (by omega)
      have xb3 := xb.self hs5 (by omega)
      have yB3 := row_st yB hs5 (by omega)
      clear e0 e1 e2 e3 e4 f0' f1' f2' f3' f4'
      generalize hwr : World.setCell (World.setCell _ _ _) _ _ = wr at *
      clear hwr hs5
      refine hK.out _ _ ⟨hG3, yB3⟩ (fun hS => ?_)
      clear hK K
      try simp only [Act.put, List.setIfInBounds_toArray, List.set_cons_zero, List.set_cons_succ]
      refine wpAnyH_ready (rs := [12]) (by kernel_rfl) (by simp) ?_
      refine AllReadyH.cons rfl (fun K hK => ?_) AllReadyH.nil
      go_simp
      refine hK.out _ _ hS (fun hS => ?_)
      clear hK K
      try simp only [Act.put, List.setIfInBounds_toArray, List.set_cons_zero, List.set_cons_succ]
      refine wpAnyH_done (by kernel_rfl) ?_ _
      clear hS
      exact hQ.out _ qb qs ⟨hG3, xb3⟩
  case refine_2 =>
    rintro W3 qb qs ⟨hG, xb⟩
    clear hx xa
    try simp only [Act.put, List.setIfInBounds_toArray, List.set_cons_zero, List.set_cons_succ]
    obtain ⟨c0, c1, c2, c3, c4, k0, k1, k2⟩ := hG.f.cells
    go_wp2_with fail
    clear c0 c1 c2 c3 c4 k0 k1 k2
    refine (d3.out _).mono ?_
    rintro e w3 ⟨rfl, hb3⟩
    replace hG := hG.later hb3
    replace xb := xb.later hb3
    have xc := Cx.new hG.f.x.bel rd0 rd1 rd2 rd3 rd4
    replace hG := hG.alloc (cRow rd0 rd1 rd2 rd3 rd4)
    replace xb := xb.alloc (cRow rd0 rd1 rd2 rd3 rd4)
    obtain ⟨c0, c1, c2, c3, c4⟩ := hG.a.cells
    obtain ⟨d0', d1', d2', d3', d4'⟩ := xb.cells
    obtain ⟨e0', e1', e2', e3', e4'⟩ := xc.cells
    have hqq := qd.out
    go_wp2_with fail
    clear hqq c0 c1 c2 c3 c4 d0' d1' d2' d3' d4' e0' e1' e2' e3' e4'
    have hx := hG.f
    clear hG xb xc hb3
    generalize w3.alloc (cRow rd0 rd1 rd2 rd3 rd4) = W4 at *
    generalize w3.heap.size = qc at *
    clear hlt1 hqa
    rw [rounds_succ]
    have cc := hx.cells
    obtain ⟨c0, c1, c2, c3, c4, k0, k1, k2⟩ := cc
    go_wp2_with fail
    clear c0 c1 c2 c3 c4 k0 k1 k2
    refine (u1.out _).mono ?_
    rintro e w1 ⟨rfl, hb1⟩
    replace hx := hx.later hb1
    have hlt1 := hx.lt
    have xa := Cx.new hx.x.bel ru0 ru1 ru2 ru3 ru4
    replace hx := hx.alloc (cRow ru0 ru1 ru2 ru3 ru4)
    go_wp2_with fail
    generalize hW1 : w1.alloc (cRow ru0 ru1 ru2 ru3 ru4) = W1 at *
    have hqa := hlt1
    generalize w1.heap.size = qa at *
    clear hW1 hb1
    refine wp_cut (fun a qb qs => (((((((((((((a.put (some 34) (.slice (some ⟨qs, 0, none⟩) 3 3)).put (some 35) (.int .i64 1)).put (some 36) (.pointer (some ⟨qs, 1, none⟩))).put (some 37) (.func (.func 16) #[] #[])).put (some 38) (cA v u d l g)).put (some 39) (.int .i64 n)).put (some 40) (rV (⟨ru0, ru1, ru2, ru3, ru4⟩, ru5))).put (some 33) (rV (⟨ru0, ru1, ru2, ru3, ru4⟩, ru5))).put (some 41) (cV ⟨ru0, ru1, ru2, ru3, ru4⟩)).put (some 42) (.int .i64 ru5)).put (some 11) (.pointer (some ⟨qb, 0, none⟩))).put (none) (undef)).put (some 12) (.int .i64 ru5))) (fun W qb qs => Gx w v u d l g qa ru0 ru1 ru2 ru3 ru4 W ∧ Cx w qb ru0 ru1 ru2 ru3 ru4 W) ?_ ?_
    case refine_1 =>
      intro R' hQ
      try simp only [Act.put, List.setIfInBounds_toArray, List.set_cons_zero, List.set_cons_succ] at hQ
      refine wp_region_held_drew (S := (fun W => Gx w v u d l g qa ru0 ru1 ru2 ru3 ru4 W)) (by kernel_rfl) (Gx.mk hx.drew xa.drew) (fun hS => ?_)
      try simp only [Act.put, List.setIfInBounds_toArray, List.set_cons_zero, List.set_cons_succ]
      have hG := Gx.mk hx.drew xa.drew
      replace hx := hx.drew
      replace xa := xa.drew
      generalize hWd : W1.drew = Wd at *
      clear hWd
      refine wpAnyH_take (i := 1) (v := .int .i64 1) rfl (by kernel_rfl) (by kernel_rfl) (by kernel_rfl) (fun _ _ _ h => h) (Or.inl ⟨by kernel_rfl, by intro w' hSw; go_simp⟩) hS ?_
      try simp only [Act.put, List.setIfInBounds_toArray, List.set_cons_zero, List.set_cons_succ]
      refine wpAnyH_take (i := 4) (v := cA v u d l g) rfl (by kernel_rfl) (by kernel_rfl) (by kernel_rfl) (fun _ _ _ h => h) (Or.inl ⟨by kernel_rfl, by intro w' hSw; obtain ⟨s0, s1, s2, s3, s4, _⟩ := hSw.f.cells; go_simp⟩) hS ?_
      try simp only [Act.put, List.setIfInBounds_toArray, List.set_cons_zero, List.set_cons_succ]
      refine wpAnyH_take (i := 5) (v := .int .i64 n) rfl (by kernel_rfl) (by kernel_rfl) (by kernel_rfl) (fun _ _ _ h => h) (Or.inl ⟨by kernel_rfl, by intro w' hSw; go_simp⟩) hS ?_
      try simp only [Act.put, List.setIfInBounds_toArray, List.set_cons_zero, List.set_cons_succ]
      have hG := Gx.mk hx xa
      refine wpAnyH_ready (rs := [0, 10]) (by kernel_rfl) (by simp) ?_
      refine AllReadyH.cons rfl (fun K hK => ?_) (AllReadyH.cons rfl (fun K hK => ?_) AllReadyH.nil)
      ·
        go_simp
        have yB := row_new Wd rfRow
        have hG0 := hG.alloc rfRow
        generalize hWs : Wd.alloc rfRow = Ws at *
        have hqs : Wd.heap.size < Ws.heap.size := row_lt yB
        generalize Wd.heap.size = qs at *
        clear hWs
        refine hK.out _ _ hG0 (fun hS0 => ?_)
        clear hK K
        try simp only [Act.put, List.setIfInBounds_toArray, List.set_cons_zero, List.set_cons_succ]
        clear hS hG
        have hS : (fun W => Gx w v u d l g qa ru0 ru1 ru2 ru3 ru4 W ∧ W.heap[qs]? = some rfRow) _ := ⟨hS0, yB⟩
        refine wpAnyH_weaken (S' := fun W => Gx w v u d l g qa ru0 ru1 ru2 ru3 ru4 W ∧ W.heap[qs]? = some rfRow) (fun _ h => h.1) _ _ _ _ ?_
        refine wpAnyH_take (i := 2) (v := .pointer (some ⟨qs, 1, none⟩)) rfl (by kernel_rfl) (by kernel_rfl) (by kernel_rfl) (fun _ _ _ h => h) (Or.inl ⟨by kernel_rfl, by intro w' hSw; go_simp⟩) hS ?_
        try simp only [Act.put, List.setIfInBounds_toArray, List.set_cons_zero, List.set_cons_succ]
        refine wpAnyH_take (i := 3) (v := .func (.func 16) #[] #[]) rfl (by kernel_rfl) (by kernel_rfl) (by kernel_rfl) (fun _ _ _ h => h) (Or.inl ⟨by kernel_rfl, by intro w' hSw; have s5 := cell_of_row w' _ 1 _ _ _ hSw.2; go_simp⟩) hS ?_
        try simp only [Act.put, List.setIfInBounds_toArray, List.set_cons_zero, List.set_cons_succ]
        refine wpAnyH_ready (rs := [6, 10]) (by kernel_rfl) (by simp) ?_
        refine AllReadyH.cons rfl (fun K hK => ?_) (AllReadyH.cons rfl (fun K hK => ?_) AllReadyH.nil)
        ·
          go_simp
          go_at_call 16
          refine (u2.out _).mono ?_
          rintro e w2 ⟨rfl, hb2⟩
          have hG2 := hG0.later hb2
          have yB2 := row_later yB hb2
          refine hK.out _ _ ⟨hG2, yB2⟩ (fun hS => ?_)
          clear hK K
          try simp only [Act.put, List.setIfInBounds_toArray, List.set_cons_zero, List.set_cons_succ]
          refine wpAnyH_take (i := 7) (v := rV (⟨ru0, ru1, ru2, ru3, ru4⟩, ru5)) rfl (by kernel_rfl) (by kernel_rfl) (by kernel_rfl) (fun _ _ _ h => h) (Or.inl ⟨by kernel_rfl, by intro w' hSw; go_simp⟩) hS ?_
          try simp only [Act.put, List.setIfInBounds_toArray, List.set_cons_zero, List.set_cons_succ]
          refine wpAnyH_take (i := 8) (v := cV ⟨ru0, ru1, ru2, ru3, ru4⟩) rfl (by kernel_rfl) (by kernel_rfl) (by kernel_rfl) (fun _ _ _ h => h) (Or.inl ⟨by kernel_rfl, by intro w' hSw; go_simp⟩) hS ?_
          try simp only [Act.put, List.setIfInBounds_toArray, List.set_cons_zero, List.set_cons_succ]
          refine wpAnyH_take (i := 9) (v := .int .i64 ru5) rfl (by kernel_rfl) (by kernel_rfl) (by kernel_rfl) (fun _ _ _ h => h) (Or.inl ⟨by kernel_rfl, by intro w' hSw; go_simp⟩) hS ?_
          try simp only [Act.put, List.setIfInBounds_toArray, List.set_cons_zero, List.set_cons_succ]
          refine wpAnyH_ready (rs := [10]) (by kernel_rfl) (by simp) ?_
          refine AllReadyH.cons rfl (fun K hK => ?_) AllReadyH.nil
          go_simp
          have hG := hG2.alloc (cRow 0 0 0 0 0)
          have xb := Cx.new hG2.f.x.bel 0 0 0 0 0
          have yB3' := row_later yB2 (alloc_b w2 (cRow 0 0 0 0 0))
          have hqs2 := row_lt yB2
          have hl1 := hG2.f.lt
          have hl2 := hG2.a.lt
          generalize hWb : w2.alloc (cRow 0 0 0 0 0) = Wb at *
          generalize w2.heap.size = qb at *
          clear hWb hb2 yB hG0
          refine hK.out _ _ ⟨hG, yB3'⟩ (fun hS => ?_)
          clear hK K
          try simp only [Act.put, List.setIfInBounds_toArray, List.set_cons_zero, List.set_cons_succ]
          have yB := yB3'
          clear hG2 yB2
          refine wpAnyH_ready (rs := [11]) (by kernel_rfl) (by simp) ?_
          refine AllReadyH.cons rfl (fun K hK => ?_) AllReadyH.nil
          obtain ⟨e0, e1, e2, e3, e4⟩ := xb.cells
          obtain ⟨f0', f1', f2', f3', f4'⟩ := xb.froz
          go_simp
          have hs5 := set5_st xb.blk ru0 ru1 ru2 ru3 ru4
          have hG3 := hG.other hs5 (by omega) (by omega)
          have xb3 := xb.self hs5 (by omega)
          have yB3 := row_st yB hs5 (by omega)
          clear e0 e1 e2 e3 e4 f0' f1' f2' f3' f4'
          generalize hwr : World.setCell (World.setCell _ _ _) _ _ = wr at *
          clear hwr hs5
          refine hK.out _ _ ⟨hG3, yB3⟩ (fun hS => ?_)
          clear hK K
          try simp only [Act.put, List.setIfInBounds_toArray, List.set_cons_zero, List.set_cons_succ]
          refine wpAnyH_ready (rs := [12]) (by kernel_rfl) (by simp) ?_
          refine AllReadyH.cons rfl (fun K hK => ?_) AllReadyH.nil
          go_simp
          refine hK.out _ _ hS (fun hS => ?_)
          clear hK K
          try simp only [Act.put, List.setIfInBounds_toArray, List.set_cons_zero, List.set_cons_succ]
          refine wpAnyH_done (by kernel_rfl) ?_ _
          clear hS
          exact hQ.out _ qb qs ⟨hG3, xb3⟩
        ·
          go_simp
          have hG2 := hG0.alloc (cRow 0 0 0 0 0)
          have xb0 := Cx.new hG0.f.x.bel 0 0 0 0 0
          have yB2 := row_later yB (alloc_b Ws (cRow 0 0 0 0 0))
          have hl1 := hG0.f.lt
          have hl2 := hG0.a.lt
          generalize hWb : Ws.alloc (cRow 0 0 0 0 0) = Wb at *
          generalize Ws.heap.size = qb at *
          clear hWb yB hG0 hS0
          refine hK.out _ _ ⟨hG2, yB2⟩ (fun hS => ?_)
          clear hK K
          try simp only [Act.put, List.setIfInBounds_toArray, List.set_cons_zero, List.set_cons_succ]
          refine wpAnyH_ready (rs := [6]) (by kernel_rfl) (by simp) ?_
          refine AllReadyH.cons rfl (fun K hK => ?_) AllReadyH.nil
          go_simp
          go_at_call 16
          refine (u2.out _).mono ?_
          rintro e w2 ⟨rfl, hb2⟩
          have hG := hG2.later hb2
          have yB := row_later yB2 hb2
          have xb := xb0.later hb2
          refine hK.out _ _ ⟨hG, yB⟩ (fun hS => ?_)
          clear hK K hG2 yB2 xb0 hb2
          try simp only [Act.put, List.setIfInBounds_toArray, List.set_cons_zero, List.set_cons_succ]
          refine wpAnyH_take (i := 7) (v := rV (⟨ru0, ru1, ru2, ru3, ru4⟩, ru5)) rfl (by kernel_rfl) (by kernel_rfl) (by kernel_rfl) (fun _ _ _ h => h) (Or.inl ⟨by kernel_rfl, by intro w' hSw; go_simp⟩) hS ?_
          try simp only [Act.put, List.setIfInBounds_toArray, List.set_cons_zero, List.set_cons_succ]
          refine wpAnyH_take (i := 8) (v := cV ⟨ru0, ru1, ru2, ru3, ru4⟩) rfl (by kernel_rfl) (by kernel_rfl) (by kernel_rfl) (fun _ _ _ h => h) (Or.inl ⟨by kernel_rfl, by intro w' hSw; go_simp⟩) hS ?_
          try simp only [Act.put, List.setIfInBounds_toArray, List.set_cons_zero, List.set_cons_succ]
          refine wpAnyH_take (i := 9) (v := .int .i64 ru5) rfl (by kernel_rfl) (by kernel_rfl) (by kernel_rfl) (fun _ _ _ h => h) (Or.inl ⟨by kernel_rfl, by intro w' hSw; go_simp⟩) hS ?_
          try simp only [Act.put, List.setIfInBounds_toArray, List.set_cons_zero, List.set_cons_succ]
          refine wpAnyH_ready (rs := [11]) (by kernel_rfl) (by simp) ?_
          refine AllReadyH.cons rfl (fun K hK => ?_) AllReadyH.nil
          obtain ⟨e0, e1, e2, e3, e4⟩ := xb.cells
          obtain ⟨f0', f1', f2', f3', f4'⟩ := xb.froz
          go_simp
          have hs5 := set5_st xb.blk ru0 ru1 ru2 ru3 ru4
          have hG3 := hG.other hs5 (by omega) (by omega)
          have xb3 := xb.self hs5 (by omega)
          have yB3 := row_st yB hs5 (by omega)
          clear e0 e1 e2 e3 e4 f0' f1' f2' f3' f4'
          generalize hwr : World.setCell (World.setCell _ _ _) _ _ = wr at *
          clear hwr hs5
          refine hK.out _ _ ⟨hG3, yB3⟩ (fun hS => ?_)
          clear hK K
          try simp only [Act.put, List.setIfInBounds_toArray, List.set_cons_zero, List.set_cons_succ]
          refine wpAnyH_ready (rs := [12]) (by kernel_rfl) (by simp) ?_
          refine AllReadyH.cons rfl (fun K hK => ?_) AllReadyH.nil
          go_simp
          refine hK.out _ _ hS (fun hS => ?_)
          clear hK K
          try simp only [Act.put, List.setIfInBounds_toArray, List.set_cons_zero, List.set_cons_succ]
          refine wpAnyH_done (by kernel_rfl) ?_ _
          clear hS
          exact hQ.out _ qb qs ⟨hG3, xb3⟩
      ·
        go_simp
        have hG0 := hG.alloc (cRow 0 0 0 0 0)
        have xb0 := Cx.new hG.f.x.bel 0 0 0 0 0
        have hl1 := hG.f.lt
        have hl2 := hG.a.lt
        generalize hWb : Wd.alloc (cRow 0 0 0 0 0) = Wb at *
        generalize Wd.heap.size = qb at *
        clear hWb hG
        refine hK.out _ _ hG0 (fun hS => ?_)
        clear hK K
        try simp only [Act.put, List.setIfInBounds_toArray, List.set_cons_zero, List.set_cons_succ]
        refine wpAnyH_ready (rs := [0]) (by kernel_rfl) (by simp) ?_
        refine AllReadyH.cons rfl (fun K hK => ?_) AllReadyH.nil
        go_simp
        have yB := row_new Wb rfRow
        have hG1 := hG0.alloc rfRow
        have xb1 := xb0.alloc rfRow
        have hqb := xb0.lt
        generalize hWs : Wb.alloc rfRow = Ws at *
        generalize Wb.heap.size = qs at *
        clear hWs hG0 xb0
        refine hK.out _ _ hG1 (fun hS0 => ?_)
        clear hK K hS
        try simp only [Act.put, List.setIfInBounds_toArray, List.set_cons_zero, List.set_cons_succ]
        have hS : (fun W => Gx w v u d l g qa ru0 ru1 ru2 ru3 ru4 W ∧ W.heap[qs]? = some rfRow) _ := ⟨hS0, yB⟩
        refine wpAnyH_weaken (S' := fun W => Gx w v u d l g qa ru0 ru1 ru2 ru3 ru4 W ∧ W.heap[qs]? = some rfRow) (fun _ h => h.1) _ _ _ _ ?_
        refine wpAnyH_take (i := 2) (v := .pointer (some ⟨qs, 1, none⟩)) rfl (by kernel_rfl) (by kernel_rfl) (by kernel_rfl) (fun _ _ _ h => h) (Or.inl ⟨by kernel_rfl, by intro w' hSw; go_simp⟩) hS ?_
        try simp only [Act.put, List.setIfInBounds_toArray, List.set_cons_zero, List.set_cons_succ]
        refine wpAnyH_take (i := 3) (v := .func (.func 16) #[] #[]) rfl (by kernel_rfl) (by kernel_rfl) (by kernel_rfl) (fun _ _ _ h => h) (Or.inl ⟨by kernel_rfl, by intro w' hSw; have s5 := cell_of_row w' _ 1 _ _ _ hSw.2; go_simp⟩) hS ?_
        try simp only [Act.put, List.setIfInBounds_toArray, List.set_cons_zero, List.set_cons_succ]
        refine wpAnyH_ready (rs := [6]) (by kernel_rfl) (by simp) ?_
        refine AllReadyH.cons rfl (fun K hK => ?_) AllReadyH.nil
        go_simp
        go_at_call 16
        refine (u2.out _).mono ?_
        rintro e w2 ⟨rfl, hb2⟩
        have hG := hG1.later hb2
        have yB2 := row_later yB hb2
        have xb := xb1.later hb2
        refine hK.out _ _ ⟨hG, yB2⟩ (fun hS => ?_)
        clear hK K hG1 xb1 yB hb2
        try simp only [Act.put, List.setIfInBounds_toArray, List.set_cons_zero, List.set_cons_succ]
        have yB := yB2
        clear yB2
        refine wpAnyH_take (i := 7) (v := rV (⟨ru0, ru1, ru2, ru3, ru4⟩, ru5)) rfl (by kernel_rfl) (by kernel_rfl) (by kernel_rfl) (fun _ _ _ h => h) (Or.inl ⟨by kernel_rfl, by intro w' hSw; go_simp⟩) hS ?_
        try simp only [Act.put, List.setIfInBounds_toArray, List.set_cons_zero, List.set_cons_succ]
        refine wpAnyH_take (i := 8) (v := cV ⟨ru0, ru1, ru2, ru3, ru4⟩) rfl (by kernel_rfl) (by kernel_rfl) (by kernel_rfl) (fun _ _ _ h => h) (Or.inl ⟨by kernel_rfl, by intro w' hSw; go_simp⟩) hS ?_
        try simp only [Act.put, List.setIfInBounds_toArray, List.set_cons_zero, List.set_cons_succ]
        refine wpAnyH_take (i := 9) (v := .int .i64 ru5) rfl (by kernel_rfl) (by kernel_rfl) (by kernel_rfl) (fun _ _ _ h => h) (Or.inl ⟨by kernel_rfl, by intro w' hSw; go_simp⟩) hS ?_
        try simp only [Act.put, List.setIfInBounds_toArray, List.set_cons_zero, List.set_cons_succ]
        refine wpAnyH_ready (rs := [11]) (by kernel_rfl) (by simp) ?_
        refine AllReadyH.cons rfl (fun K hK => ?_) AllReadyH.nil
        obtain ⟨e0, e1, e2, e3, e4⟩ := xb.cells
        obtain ⟨f0', f1', f2', f3', f4'⟩ := xb.froz
        go_simp
        have hs5 := set5_st xb.blk ru0 ru1 ru2 ru3 ru4
        have hG3 := hG.other hs5 (by omega) (by omega)
        have xb3 := xb.self hs5 (by omega)
        have yB3 := row_st yB hs5 (by omega)
        clear e0 e1 e2 e3 e4 f0' f1' f2' f3' f4'
        generalize hwr : World.setCell (World.setCell _ _ _) _ _ = wr at *
        clear hwr hs5
        refine hK.out _ _ ⟨hG3, yB3⟩ (fun hS => ?_)
        clear hK K
        try simp only [Act.put, List.setIfInBounds_toArray, List.set_cons_zero, List.set_cons_succ]
        refine wpAnyH_ready (rs := [12]) (by kernel_rfl) (by simp) ?_
        refine AllReadyH.cons rfl (fun K hK => ?_) AllReadyH.nil
        go_simp
        refine hK.out _ _ hS (fun hS => ?_)
        clear hK K
        try simp only [Act.put, List.setIfInBounds_toArray, List.set_cons_zero, List.set_cons_succ]
        refine wpAnyH_done (by kernel_rfl) ?_ _
        clear hS
        exact hQ.out _ qb qs ⟨hG3, xb3⟩
    case refine_2 =>
      rintro W3 qb qs ⟨hG, xb⟩
      clear hx xa
      try simp only [Act.put, List.setIfInBounds_toArray, List.set_cons_zero, List.set_cons_succ]
      obtain ⟨c0, c1, c2, c3, c4, k0, k1, k2⟩ := hG.f.cells
      go_wp2_with fail
      clear c0 c1 c2 c3 c4 k0 k1 k2
      refine (u3.out _).mono ?_
      rintro e w3 ⟨rfl, hb3⟩
      replace hG := hG.later hb3
      replace xb := xb.later hb3
      have xc := Cx.new hG.f.x.bel ru0 ru1 ru2 ru3 ru4
      replace hG := hG.alloc (cRow ru0 ru1 ru2 ru3 ru4)
      replace xb := xb.alloc (cRow ru0 ru1 ru2 ru3 ru4)
      obtain ⟨c0, c1, c2, c3, c4⟩ := hG.a.cells
      obtain ⟨d0', d1', d2', d3', d4'⟩ := xb.cells
      obtain ⟨e0', e1', e2', e3', e4'⟩ := xc.cells
      have hqq := qu.out
      go_wp2_with fail
      clear hqq c0 c1 c2 c3 c4 d0' d1' d2' d3' d4' e0' e1' e2' e3' e4'
      have hx := hG.f
      clear hG xb xc hb3
      generalize w3.alloc (cRow ru0 ru1 ru2 ru3 ru4) = W4 at *
      generalize w3.heap.size = qc at *
      clear hlt1 hqa
      rw [rounds_succ]
      have cc := hx.cells
      obtain ⟨c0, c1, c2, c3, c4, k0, k1, k2⟩ := cc
      go_wp2_with fail
      clear c0 c1 c2 c3 c4 k0 k1 k2
      refine (f1.out _).mono ?_
      rintro e w1 ⟨rfl, hb1⟩
      replace hx := hx.later hb1
      have hlt1 := hx.lt
      have xa := Cx.new hx.x.bel rf0 rf1 rf2 rf3 rf4
      replace hx := hx.alloc (cRow rf0 rf1 rf2 rf3 rf4)
      go_wp2_with fail
      generalize hW1 : w1.alloc (cRow rf0 rf1 rf2 rf3 rf4) = W1 at *
      have hqa := hlt1
      generalize w1.heap.size = qa at *
      clear hW1 hb1
      refine wp_cut (fun a qb qs => (((((((((((((a.put (some 34) (.slice (some ⟨qs, 0, none⟩) 3 3)).put (some 35) (.int .i64 2)).put (some 36) (.pointer (some ⟨qs, 2, none⟩))).put (some 37) (.func (.func 17) #[] #[])).put (some 38) (cA v u d l g)).put (some 39) (.int .i64 n)).put (some 40) (rV (⟨rf0, rf1, rf2, rf3, rf4⟩, rf5))).put (some 33) (rV (⟨rf0, rf1, rf2, rf3, rf4⟩, rf5))).put (some 41) (cV ⟨rf0, rf1, rf2, rf3, rf4⟩)).put (some 42) (.int .i64 rf5)).put (some 11) (.pointer (some ⟨qb, 0, none⟩))).put (none) (undef)).put (some 12) (.int .i64 rf5))) (fun W qb qs => Gx w v u d l g qa rf0 rf1 rf2 rf3 rf4 W ∧ Cx w qb rf0 rf1 rf2 rf3 rf4 W) ?_ ?_
      case refine_1 =>
        intro R' hQ
        try simp only [Act.put, List.setIfInBounds_toArray, List.set_cons_zero, List.set_cons_succ] at hQ
        refine wp_region_held_drew (S := (fun W => Gx w v u d l g qa rf0 rf1 rf2 rf3 rf4 W)) (by kernel_rfl) (Gx.mk hx.drew xa.drew) (fun hS => ?_)
        try simp only [Act.put, List.setIfInBounds_toArray, List.set_cons_zero, List.set_cons_succ]
        have hG := Gx.mk hx.drew xa.drew
        replace hx := hx.drew
        replace xa := xa.drew
        generalize hWd : W1.drew = Wd at *
        clear hWd
        refine wpAnyH_take (i := 1) (v := .int .i64 2) rfl (by kernel_rfl) (by kernel_rfl) (by kernel_rfl) (fun _ _ _ h => h) (Or.inl ⟨by kernel_rfl, by intro w' hSw; go_simp⟩) hS ?_
        try simp only [Act.put, List.setIfInBounds_toArray, List.set_cons_zero, List.set_cons_succ]
        refine wpAnyH_take (i := 4) (v := cA v u d l g) rfl (by kernel_rfl) (by kernel_rfl) (by kernel_rfl) (fun _ _ _ h => h) (Or.inl ⟨by kernel_rfl, by intro w' hSw; obtain ⟨s0, s1, s2, s3, s4, _⟩ := hSw.f.cells; go_simp⟩) hS ?_
        try simp only [Act.put, List.setIfInBounds_toArray, List.set_cons_zero, List.set_cons_succ]
        refine wpAnyH_take (i := 5) (v := .int .i64 n) rfl (by kernel_rfl) (by kernel_rfl) (by kernel_rfl) (fun _ _ _ h => h) (Or.inl ⟨by kernel_rfl, by intro w' hSw; go_simp⟩) hS ?_
        try simp only [Act.put, List.setIfInBounds_toArray, List.set_cons_zero, List.set_cons_succ]
        have hG := Gx.mk hx xa
        refine wpAnyH_ready (rs := [0, 10]) (by kernel_rfl) (by simp) ?_
        refine AllReadyH.cons rfl (fun K hK => ?_) (AllReadyH.cons rfl (fun K hK => ?_) AllReadyH.nil)
        ·
          go_simp
          have yB := row_new Wd rfRow
          have hG0 := hG.alloc rfRow
          generalize hWs : Wd.alloc rfRow = Ws at *
          have hqs : Wd.heap.size < Ws.heap.size := row_lt yB
          generalize Wd.heap.size = qs at *
          clear hWs
          refine hK.out _ _ hG0 (fun hS0 => ?_)
          clear hK K
          try simp only [Act.put, List.setIfInBounds_toArray, List.set_cons_zero, List.set_cons_succ]
          clear hS hG
          have hS : (fun W => Gx w v u d l g qa rf0 rf1 rf2 rf3 rf4 W ∧ W.heap[qs]? = some rfRow) _ := ⟨hS0, yB⟩
          refine wpAnyH_weaken (S' := fun W => Gx w v u d l g qa rf0 rf1 rf2 rf3 rf4 W ∧ W.heap[qs]? = some rfRow) (fun _ h => h.1) _ _ _ _ ?_
          refine wpAnyH_take (i := 2) (v := .pointer (some ⟨qs, 2, none⟩)) rfl (by kernel_rfl) (by kernel_rfl) (by kernel_rfl) (fun _ _ _ h => h) (Or.inl ⟨by kernel_rfl, by intro w' hSw; go_simp⟩) hS ?_
          try simp only [Act.put, List.setIfInBounds_toArray, List.set_cons_zero, List.set_cons_succ]
          refine wpAnyH_take (i := 3) (v := .func (.func 17) #[] #[]) rfl (by kernel_rfl) (by kernel_rfl) (by kernel_rfl) (fun _ _ _ h => h) (Or.inl ⟨by kernel_rfl, by intro w' hSw; have s5 := cell_of_row w' _ 2 _ _ _ hSw.2; go_simp⟩) hS ?_
          try simp only [Act.put, List.setIfInBounds_toArray, List.set_cons_zero, List.set_cons_succ]
          refine wpAnyH_ready (rs := [6, 10]) (by kernel_rfl) (by simp) ?_
          refine AllReadyH.cons rfl (fun K hK => ?_) (AllReadyH.cons rfl (fun K hK => ?_) AllReadyH.nil)
          ·
            go_simp
            go_at_call 17
            refine (f2.out _).mono ?_
            rintro e w2 ⟨rfl, hb2⟩
            have hG2 := hG0.later hb2
            have yB2 := row_later yB hb2
            refine hK.out _ _ ⟨hG2, yB2⟩ (fun hS => ?_)
            clear hK K
            try simp only [Act.put, List.setIfInBounds_toArray, List.set_cons_zero, List.set_cons_succ]
            refine wpAnyH_take (i := 7) (v := rV (⟨rf0, rf1, rf2, rf3, rf4⟩, rf5)) rfl (by kernel_rfl) (by kernel_rfl) (by kernel_rfl) (fun _ _ _ h => h) (Or.inl ⟨by kernel_rfl, by intro w' hSw; go_simp⟩) hS ?_
            try simp only [Act.put, List.setIfInBounds_toArray, List.set_cons_zero, List.set_cons_succ]
            refine wpAnyH_take (i := 8) (v := cV ⟨rf0, rf1, rf2, rf3, rf4⟩) rfl (by kernel_rfl) (by kernel_rfl) (by kernel_rfl) (fun _ _ _ h => h) (Or.inl ⟨by kernel_rfl, by intro w' hSw; go_simp⟩) hS ?_
            try simp only [Act.put, List.setIfInBounds_toArray, List.set_cons_zero, List.set_cons_succ]
            refine wpAnyH_take (i := 9) (v := .int .i64 rf5) rfl (by kernel_rfl) (by kernel_rfl) (by kernel_rfl) (fun _ _ _ h => h) (Or.inl ⟨by kernel_rfl, by intro w' hSw; go_simp⟩) hS ?_
            try simp only [Act.put, List.setIfInBounds_toArray, List.set_cons_zero, List.set_cons_succ]
            refine wpAnyH_ready (rs := [10]) (by kernel_rfl) (by simp) ?_
            refine AllReadyH.cons rfl (fun K hK => ?_) AllReadyH.nil
            go_simp
            have hG := hG2.alloc (cRow 0 0 0 0 0)
            have xb := Cx.new hG2.f.x.bel 0 0 0 0 0
            have yB3' := row_later yB2 (alloc_b w2 (cRow 0 0 0 0 0))
            have hqs2 := row_lt yB2
            have hl1 := hG2.f.lt
            have hl2 := hG2.a.lt
            generalize hWb : w2.alloc (cRow 0 0 0 0 0) = Wb at *
            generalize w2.heap.size = qb at *
            clear hWb hb2 yB hG0
            refine hK.out _ _ ⟨hG, yB3'⟩ (fun hS => ?_)
            clear hK K
            try simp only [Act.put, List.setIfInBounds_toArray, List.set_cons_zero, List.set_cons_succ]
            have yB := yB3'
            clear hG2 yB2
            refine wpAnyH_ready (rs := [11]) (by kernel_rfl) (by simp) ?_
            refine AllReadyH.cons rfl (fun K hK => ?_) AllReadyH.nil
            obtain ⟨e0, e1, e2, e3, e4⟩ := xb.cells
            obtain ⟨f0', f1', f2', f3', f4'⟩ := xb.froz
            go_simp
            have hs5 := set5_st xb.blk rf0 rf1 rf2 rf3 rf4
            have hG3 := hG.other hs5 (by omega) (by omega)
            have xb3 := xb.self hs5 (by omega)
            have yB3 := row_st yB hs5 (by omega)
            clear e0 e1 e2 e3 e4 f0' f1' f2' f3' f4'
            generalize hwr : World.setCell (World.setCell _ _ _) _ _ = wr at *
            clear hwr hs5
            refine hK.out _ _ ⟨hG3, yB3⟩ (fun hS => ?_)
            clear hK K
            try simp only [Act.put, List.setIfInBounds_toArray, List.set_cons_zero, List.set_cons_succ]
            refine wpAnyH_ready (rs := [12]) (by kernel_rfl) (by simp) ?_
            refine AllReadyH.cons rfl (fun K hK => ?_) AllReadyH.nil
            go_simp
            refine hK.out _ _ hS (fun hS => ?_)
            clear hK K
            try simp only [Act.put, List.setIfInBounds_toArray, List.set_cons_zero, List.set_cons_succ]
            refine wpAnyH_done (by kernel_rfl) ?_ _
            clear hS
            exact hQ.out _ qb qs ⟨hG3, xb3⟩
          ·
            go_simp
            have hG2 := hG0.alloc (cRow 0 0 0 0 0)
            have xb0 := Cx.new hG0.f.x.bel 0 0 0 0 0
            have yB2 := row_later yB (alloc_b Ws (cRow 0 0 0 0 0))
            have hl1 := hG0.f.lt
            have hl2 := hG0.a.lt
            generalize hWb : Ws.alloc (cRow 0 0 0 0 0) = Wb at *
            generalize Ws.heap.size = qb at *
            clear hWb yB hG0 hS0
            refine hK.out _ _ ⟨hG2, yB2⟩ (fun hS => ?_)
            clear hK K
            try simp only [Act.put, List.setIfInBounds_toArray, List.set_cons_zero, List.set_cons_succ]
            refine wpAnyH_ready (rs := [6]) (by kernel_rfl) (by simp) ?_
            refine AllReadyH.cons rfl (fun K hK => ?_) AllReadyH.nil
            go_simp
            go_at_call 17
            refine (f2.out _).mono ?_
            rintro e w2 ⟨rfl, hb2⟩
            have hG := hG2.later hb2
            have yB := row_later yB2 hb2
            have xb := xb0.later hb2
            refine hK.out _ _ ⟨hG, yB⟩ (fun hS => ?_)
            clear hK K hG2 yB2 xb0 hb2
            try simp only [Act.put, List.setIfInBounds_toArray, List.set_cons_zero, List.set_cons_succ]
            refine wpAnyH_take (i := 7) (v := rV (⟨rf0, rf1, rf2, rf3, rf4⟩, rf5)) rfl (by kernel_rfl) (by kernel_rfl) (by kernel_rfl) (fun _ _ _ h => h) (Or.inl ⟨by kernel_rfl, by intro w' hSw; go_simp⟩) hS ?_
            try simp only [Act.put, List.setIfInBounds_toArray, List.set_cons_zero, List.set_cons_succ]
            refine wpAnyH_take (i := 8) (v := cV ⟨rf0, rf1, rf2, rf3, rf4⟩) rfl (by kernel_rfl) (by kernel_rfl) (by kernel_rfl) (fun _ _ _ h => h) (Or.inl ⟨by kernel_rfl, by intro w' hSw; go_simp⟩) hS ?_
            try simp only [Act.put, List.setIfInBounds_toArray, List.set_cons_zero, List.set_cons_succ]
            refine wpAnyH_take (i := 9) (v := .int .i64 rf5) rfl (by kernel_rfl) (by kernel_rfl) (by kernel_rfl) (fun _ _ _ h => h) (Or.inl ⟨by kernel_rfl, by intro w' hSw; go_simp⟩) hS ?_
            try simp only [Act.put, List.setIfInBounds_toArray, List.set_cons_zero, List.set_cons_succ]
            refine wpAnyH_ready (rs := [11]) (by kernel_rfl) (by simp) ?_
            refine AllReadyH.cons rfl (fun K hK => ?_) AllReadyH.nil
            obtain ⟨e0, e1, e2, e3, e4⟩ := xb.cells
            obtain ⟨f0', f1', f2', f3', f4'⟩ := xb.froz
            go_simp
            have hs5 := set5_st xb.blk rf0 rf1 rf2 rf3 rf4
            have hG3 := hG.other hs5 (by omega) (by omega)
            have xb3 := xb.self hs5 (by omega)
            have yB3 := row_st yB hs5 (by omega)
            clear e0 e1 e2 e3 e4 f0' f1' f2' f3' f4'
            generalize hwr : World.setCell (World.setCell _ _ _) _ _ = wr at *
            clear hwr hs5
            refine hK.out _ _ ⟨hG3, yB3⟩ (fun hS => ?_)
            clear hK K
            try simp only [Act.put, List.setIfInBounds_toArray, List.set_cons_zero, List.set_cons_succ]
            refine wpAnyH_ready (rs := [12]) (by kernel_rfl) (by simp) ?_
            refine AllReadyH.cons rfl (fun K hK => ?_) AllReadyH.nil
            go_simp
            refine hK.out _ _ hS (fun hS => ?_)
            clear hK K
            try simp only [Act.put, List.setIfInBounds_toArray, List.set_cons_zero, List.set_cons_succ]
            refine wpAnyH_done (by kernel_rfl) ?_ _
            clear hS
            exact hQ.out _ qb qs ⟨hG3, xb3⟩
        ·
          go_simp
          have hG0 := hG.alloc (cRow 0 0 0 0 0)
          have xb0 := Cx.new hG.f.x.bel 0 0 0 0 0
          have hl1 := hG.f.lt
          have hl2 := hG.a.lt
          generalize hWb : Wd.alloc (cRow 0 0 0 0 0) = Wb at *
          generalize Wd.heap.size = qb at *
          clear hWb hG
          refine hK.out _ _ hG0 (fun hS => ?_)
          clear hK K
          try simp only [Act.put, List.setIfInBounds_toArray, List.set_cons_zero, List.set_cons_succ]
          refine wpAnyH_ready (rs := [0]) (by kernel_rfl) (by simp) ?_
          refine AllReadyH.cons rfl (fun K hK => ?_) AllReadyH.nil
          go_simp
          have yB := row_new Wb rfRow
          have hG1 := hG0.alloc rfRow
          have xb1 := xb0.alloc rfRow
          have hqb := xb0.lt
          generalize hWs : Wb.alloc rfRow = Ws at *
          generalize Wb.heap.size = qs at *
          clear hWs hG0 xb0
          refine hK.out _ _ hG1 (fun hS0 => ?_)
          clear hK K hS
          try simp only [Act.put, List.setIfInBounds_toArray, List.set_cons_zero, List.set_cons_succ]
          have hS : (fun W => Gx w v u d l g qa rf0 rf1 rf2 rf3 rf4 W ∧ W.heap[qs]? = some rfRow) _ := ⟨hS0, yB⟩
          refine wpAnyH_weaken (S' := fun W => Gx w v u d l g qa rf0 rf1 rf2 rf3 rf4 W ∧ W.heap[qs]? = some rfRow) (fun _ h => h.1) _ _ _ _ ?_
          refine wpAnyH_take (i := 2) (v := .pointer (some ⟨qs, 2, none⟩)) rfl (by kernel_rfl) (by kernel_rfl) (by kernel_rfl) (fun _ _ _ h => h) (Or.inl ⟨by kernel_rfl, by intro w' hSw; go_simp⟩) hS ?_
          try simp only [Act.put, List.setIfInBounds_toArray, List.set_cons_zero, List.set_cons_succ]
          refine wpAnyH_take (i := 3) (v := .func (.func 17) #[] #[]) rfl (by kernel_rfl) (by kernel_rfl) (by kernel_rfl) (fun _ _ _ h => h) (Or.inl ⟨by kernel_rfl, by intro w' hSw; have s5 := cell_of_row w' _ 2 _ _ _ hSw.2; go_simp⟩) hS ?_
          try simp only [Act.put, List.setIfInBounds_toArray, List.set_cons_zero, List.set_cons_succ]
          refine wpAnyH_ready (rs := [6]) (by kernel_rfl) (by simp) ?_
          refine AllReadyH.cons rfl (fun K hK => ?_) AllReadyH.nil
          go_simp
          go_at_call 17
          refine (f2.out _).mono ?_
          rintro e w2 ⟨rfl, hb2⟩
          have hG := hG1.later hb2
          have yB2 := row_later yB hb2
          have xb := xb1.later hb2
          refine hK.out _ _ ⟨hG, yB2⟩ (fun hS => ?_)
          clear hK K hG1 xb1 yB hb2
          try simp only [Act.put, List.setIfInBounds_toArray, List.set_cons_zero, List.set_cons_succ]
          have yB := yB2
          clear yB2
          refine wpAnyH_take (i := 7) (v := rV (⟨rf0, rf1, rf2, rf3, rf4⟩, rf5)) rfl (by kernel_rfl) (by kernel_rfl) (by kernel_rfl) (fun _ _ _ h => h) (Or.inl ⟨by kernel_rfl, by intro w' hSw; go_simp⟩) hS ?_
          try simp only [Act.put, List.setIfInBounds_toArray, List.set_cons_zero, List.set_cons_succ]
          refine wpAnyH_take (i := 8) (v := cV ⟨rf0, rf1, rf2, rf3, rf4⟩) rfl (by kernel_rfl) (by kernel_rfl) (by kernel_rfl) (fun _ _ _ h => h) (Or.inl ⟨by kernel_rfl, by intro w' hSw; go_simp⟩) hS ?_
          try simp only [Act.put, List.setIfInBounds_toArray, List.set_cons_zero, List.set_cons_succ]
          refine wpAnyH_take (i := 9) (v := .int .i64 rf5) rfl (by kernel_rfl) (by kernel_rfl) (by kernel_rfl) (fun _ _ _ h => h) (Or.inl ⟨by kernel_rfl, by intro w' hSw; go_simp⟩) hS ?_
          try simp only [Act.put, List.setIfInBounds_toArray, List.set_cons_zero, List.set_cons_succ]
          refine wpAnyH_ready (rs := [11]) (by kernel_rfl) (by simp) ?_
          refine AllReadyH.cons rfl (fun K hK => ?_) AllReadyH.nil
          obtain ⟨e0, e1, e2, e3, e4⟩ := xb.cells
          obtain ⟨f0', f1', f2', f3', f4'⟩ := xb.froz
          go_simp
          have hs5 := set5_st xb.blk rf0 rf1 rf2 rf3 rf4
          have hG3 := hG.other hs5 (by omega) (by omega)
          have xb3 := xb.self hs5 (by omega)
          have yB3 := row_st yB hs5 (by omega)
          clear e0 e1 e2 e3 e4 f0' f1' f2' f3' f4'
          generalize hwr : World.setCell (World.setCell _ _ _) _ _ = wr at *
          clear hwr hs5
          refine hK.out _ _ ⟨hG3, yB3⟩ (fun hS => ?_)
          clear hK K
          try simp only [Act.put, List.setIfInBounds_toArray, List.set_cons_zero, List.set_cons_succ]
          refine wpAnyH_ready (rs := [12]) (by kernel_rfl) (by simp) ?_
          refine AllReadyH.cons rfl (fun K hK => ?_) AllReadyH.nil
          go_simp
          refine hK.out _ _ hS (fun hS => ?_)
          clear hK K
          try simp only [Act.put, List.setIfInBounds_toArray, List.set_cons_zero, List.set_cons_succ]
          refine wpAnyH_done (by kernel_rfl) ?_ _
          clear hS
          exact hQ.out _ qb qs ⟨hG3, xb3⟩
      case refine_2 =>
        rintro W3 qb qs ⟨hG, xb⟩
        clear hx xa
        try simp only [Act.put, List.setIfInBounds_toArray, List.set_cons_zero, List.set_cons_succ]
        obtain ⟨c0, c1, c2, c3, c4, k0, k1, k2⟩ := hG.f.cells
        go_wp2_with fail
        clear c0 c1 c2 c3 c4 k0 k1 k2
        refine (f3.out _).mono ?_
        rintro e w3 ⟨rfl, hb3⟩
        replace hG := hG.later hb3
        replace xb := xb.later hb3
        have xc := Cx.new hG.f.x.bel rf0 rf1 rf2 rf3 rf4
        replace hG := hG.alloc (cRow rf0 rf1 rf2 rf3 rf4)
        replace xb := xb.alloc (cRow rf0 rf1 rf2 rf3 rf4)
        obtain ⟨c0, c1, c2, c3, c4⟩ := hG.a.cells
        obtain ⟨d0', d1', d2', d3', d4'⟩ := xb.cells
        obtain ⟨e0', e1', e2', e3', e4'⟩ := xc.cells
        have hqq := qf.out
        go_wp2_with fail
        clear hqq c0 c1 c2 c3 c4 d0' d1' d2' d3' d4' e0' e1' e2' e3' e4'
        have hx := hG.f
        clear hG xb xc hb3
        generalize w3.alloc (cRow rf0 rf1 rf2 rf3 rf4) = W4 at *
        generalize w3.heap.size = qc at *
        clear hlt1 hqa
        rw [rounds_succ]
        obtain ⟨c0, c1, c2, c3, c4, k0, k1, k2⟩ := hx.cells
        go_wp2_with fail
        clear c0 c1 c2 c3 c4 k0 k1 k2
        refine (a1.out _).mono ?_
        rintro e w1 ⟨rfl, hb1⟩
        replace hx := hx.later hb1
        have xa := Cx.new hx.x.bel ra0 ra1 ra2 ra3 ra4
        replace hx := hx.alloc (cRow ra0 ra1 ra2 ra3 ra4)
        obtain ⟨c0, c1, c2, c3, c4, k0, k1, k2⟩ := hx.cells
        go_wp2_with fail
        clear c0 c1 c2 c3 c4 k0 k1 k2
        refine (a2.out _).mono ?_
        rintro e w2 ⟨rfl, hb2⟩
        replace xa := (xa.later hb2).alloc (cRow ra0 ra1 ra2 ra3 ra4)
        obtain ⟨c0, c1, c2, c3, c4⟩ := xa.cells
        have hqq := qaa.out
        go_wp2_with (go_at_call 20; refine (hw.out _).mono ?_; rintro e w3 ⟨rfl, hb3⟩; have xz := xa.later hb3)
        go_ret
        exact ⟨rfl, xz.bel⟩
end Go.Proofs.Ytodgnhkaglcjnaa.Cnt
