/- The walk of CountOrders. -/
import Derived.Test.YtodgnhkaglcjnaaQ13
namespace Go.Proofs.Ytodgnhkaglcjnaa.Cnt
open Go.RowKit
set_option linter.unusedVariables false
set_option linter.unusedSimpArgs false
set_option maxRecDepth 20000

theorem eq_no {v u d l h v' u' d' l' h' : Int} (hne : ¬ (⟨v, u, d, l, h⟩ : Ct) = ⟨v', u', d', l', h'⟩) (w : World) : (Op.equalIn 10000 TC (cA v u d l h) (cA v' u' d' l' h')).run Try.prog w = .ok false w := by
  rw [eq_c, eqC_f hne]
set_option maxHeartbeats 8000000 in
theorem orders_true (pv pu pd pb po a b n : Int) (w : World) (w0 : I32 pv ∧ U16 pu ∧ U16 pd ∧ U16 pb ∧ U16 po) (ha : -32768 ≤ a ∧ a ≤ 32767) (hb : -32768 ≤ b ∧ b ≤ 32767) (hn : -32768 ≤ n ∧ n ≤ 32767) :
    Calls Try.prog 9 #[pA pv pu pd pb po, .int .i16 a, .int .i16 b, .int .i16 n, .bool true] w fun e w' => e = .returned (.bool true) ∧ Below w.heap.size w w' := by
  have hw := Lib.hid (fun W => works_any W)
  have hM := Lib.hid (fun W => made_any pv pu pd pb po W w0.1 w0.2.1 w0.2.2.1 w0.2.2.2.1 w0.2.2.2.2)
  have oa : Ok a := by unfold Ok; omega
  have ob : Ok b := by unfold Ok; omega
  have on_ : Ok n := by unfold Ok; omega
  have ia : IntKind.i64.wrap a = a := i64w (by omega) (by omega)
  have ib : IntKind.i64.wrap b = b := i64w (by omega) (by omega)
  have in_ : IntKind.i64.wrap n = n := i64w (by omega) (by omega)
  have hc0 := mk_ok w0
  unfold mk at hc0
  generalize pv - pu - pb = l at *
  generalize pv + pd + po = g at *
  have d0 := fun W => do_any pv pu pd l g n W
  have e0 := do_err hc0 on_
  have hheld : ∀ x, chC addC ⟨pv, pu, pd, l, g⟩ n = (x, 0) → OkC x ∧ max n 0 ≤ x.u ∧ max (-n) 0 ≤ x.d := fun x hx => do_held hc0 on_ hx
  have hb0 := Bxs.nil (alloc_b w (pRow pv pu pd pb po))
  clear w0 ha hb hn
  generalize chC addC ⟨pv, pu, pd, l, g⟩ n = r0 at *
  obtain ⟨⟨k0, k1, k2, k3, k4⟩, k5⟩ := r0
  rcases e0 with e0 | e0
  case inr =>
    obtain ⟨e1, e2⟩ := Prod.mk.inj e0
    unfold zero at e1
    obtain ⟨rfl, rfl, rfl, rfl, rfl⟩ := Ct.mk.inj e1
    subst e2
    clear e0 e1 hheld oa ob on_ hc0
    replace d0 := Lib.hid d0
    go_enter Try.func9, Try.ntmps9
    go_wp2_with (first
      | (go_at_call 31; refine (hM.out _).mono ?_; rintro e w1 ⟨rfl, hb1⟩; have hB1 := hb0.later hb1)
      | (go_at_call 12; refine (d0.out _).mono ?_; rintro e w2 ⟨rfl, hb2⟩; have hB2 := (hB1.later hb2).add 0 0 0 0 0)
      | (go_at_call 20; refine (hw.out _).mono ?_; rintro e w6 ⟨rfl, hb6⟩; have hB6 := hB2.later hb6))
    go_ret
    exact ⟨rfl, hB6.bel⟩
  case inl =>
  replace e0 : k5 = 0 := e0
  subst e0
  obtain ⟨hc, hr⟩ := hheld _ rfl
  clear hheld hc0
  have d1 := fun W => do_any k0 k1 k2 k3 k4 a W
  have e1 := do_err hc oa
  have d6 := fun W => do_any k0 k1 k2 k3 k4 b W
  have hF : ∀ x y, chC addC ⟨k0, k1, k2, k3, k4⟩ a = (x, 0) → chC addC x b = (y, 0) → _ := fun x y hx hy => free_two hc hr oa ob on_ hx hy
  have hD : ∀ x y u v, chC addC ⟨k0, k1, k2, k3, k4⟩ a = (x, 0) → chC addC x b = (y, 0) → chC addC ⟨k0, k1, k2, k3, k4⟩ b = (u, 0) → chC addC u a = (v, 0) → v = y := fun x y u v hx hy hu hv => do_two hc oa ob hx hy hu hv
  clear hc hr oa ob on_
  generalize chC addC ⟨k0, k1, k2, k3, k4⟩ a = r1 at *
  obtain ⟨⟨x0, x1, x2, x3, x4⟩, x5⟩ := r1
  replace d0 := Lib.hid d0
  rcases e1 with e1 | e1
  case inr =>
    obtain ⟨e1, e2⟩ := Prod.mk.inj e1
    unfold zero at e1
    obtain ⟨rfl, rfl, rfl, rfl, rfl⟩ := Ct.mk.inj e1
    subst e2
    clear e1 hF hD d6
    replace d1 := Lib.hid d1
    go_enter Try.func9, Try.ntmps9
    go_wp2_with (first
      | (go_at_call 31; refine (hM.out _).mono ?_; rintro e w1 ⟨rfl, hb1⟩; have hB1 := hb0.later hb1)
      | (go_at_call_of 12 (cA pv pu pd l g); refine (d0.out _).mono ?_; rintro e w2 ⟨rfl, hb2⟩; have hB2 := (hB1.later hb2).add k0 k1 k2 k3 k4; obtain ⟨c0, c1, c2, c3, c4, clt⟩ := hB2.cells 0 rfl)
      | (go_at_call_of 12 (Value.agg #[.int .i64 k0, .int .i64 k1, .int .i64 k2, .int .i64 k3, .int .i64 k4]); refine (d1.out _).mono ?_; rintro e w3 ⟨rfl, hb3⟩; have hB3 := (hB2.later hb3).add 0 0 0 0 0)
      | (go_at_call 20; refine (hw.out _).mono ?_; rintro e w6 ⟨rfl, hb6⟩; have hB6 := hB3.later hb6))
    go_ret
    exact ⟨rfl, hB6.bel⟩
  case inl =>
  replace e1 : x5 = 0 := e1
  subst e1
  have d2 := fun W => do_any x0 x1 x2 x3 x4 b W
  have s2 := fun W => free_any x0 x1 x2 x3 x4 n W
  have hF1 := fun y hy => hF ⟨x0, x1, x2, x3, x4⟩ y rfl hy
  have hD1 := fun y u v hy hu hv => hD ⟨x0, x1, x2, x3, x4⟩ y u v rfl hy hu hv
  clear hF hD
  generalize chC addC ⟨x0, x1, x2, x3, x4⟩ b = r2 at *
  generalize chC addC ⟨k0, k1, k2, k3, k4⟩ b = r6 at *
  generalize chC giveC ⟨x0, x1, x2, x3, x4⟩ n = r4 at *
  obtain ⟨⟨y0, y1, y2, y3, y4⟩, y5⟩ := r2
  obtain ⟨⟨u0, u1, u2, u3, u4⟩, u5⟩ := r6
  obtain ⟨⟨s0, s1, s2', s3, s4⟩, s5⟩ := r4
  have d3 := fun W => free_any y0 y1 y2 y3 y4 n W
  have d5 := fun W => do_any s0 s1 s2' s3 s4 b W
  have d7 := fun W => do_any u0 u1 u2 u3 u4 a W
  have hF2 := hF1 ⟨y0, y1, y2, y3, y4⟩
  have hD2 := hD1 ⟨y0, y1, y2, y3, y4⟩ ⟨u0, u1, u2, u3, u4⟩
  clear hF1 hD1
  generalize chC giveC ⟨y0, y1, y2, y3, y4⟩ n = r3 at *
  generalize hr5 : chC addC ⟨s0, s1, s2', s3, s4⟩ b = r5 at *
  generalize chC addC ⟨u0, u1, u2, u3, u4⟩ a = r7 at *
  obtain ⟨⟨z0, z1, z2, z3, z4⟩, z5⟩ := r3
  obtain ⟨⟨t0, t1, t2, t3, t4⟩, t5⟩ := r5
  obtain ⟨⟨v0, v1, v2, v3, v4⟩, v5⟩ := r7
  simp only [Prod.mk.injEq, true_and] at hF2 hD2
  replace d1 := Lib.hid d1
  replace d2 := Lib.hid d2
  replace d3 := Lib.hid d3
  replace s2 := Lib.hid s2
  replace d5 := Lib.hid d5
  replace d6 := Lib.hid d6
  replace d7 := Lib.hid d7
  have hcase : (y5 = 0 ∧ z5 = 0 ∧ s5 = 0 ∧ t5 = 0 ∧ (⟨t0, t1, t2, t3, t4⟩ : Ct) = ⟨z0, z1, z2, z3, z4⟩) ∨ y5 ≠ 0 := by
    by_cases hy : y5 = 0
    · left
      obtain ⟨Z, S, ⟨rfl, h1⟩, ⟨rfl, h2⟩, h3⟩ := hF2 hy
      have h4 := Prod.mk.inj (hr5.symm.trans h3)
      exact ⟨hy, h1, h2, h4.2, h4.1⟩
    · exact Or.inr hy
  have hcase2 : (u5 = 0 ∧ v5 = 0 ∧ (y5 = 0 → (⟨v0, v1, v2, v3, v4⟩ : Ct) = ⟨y0, y1, y2, y3, y4⟩)) ∨ u5 ≠ 0 ∨ (u5 = 0 ∧ v5 ≠ 0) := by
    by_cases hu : u5 = 0
    · by_cases hv : v5 = 0
      · exact Or.inl ⟨hu, hv, fun hy => hD2 _ hy hu ⟨rfl, hv⟩⟩
      · exact Or.inr (Or.inr ⟨hu, hv⟩)
    · exact Or.inr (Or.inl hu)
  clear hF2 hD2 hr5
  rcases hcase with hA | hB5
  case inr =>
    have by0 : (y5 == 0) = false := by simpa using hB5
    have by01 : (y5 = 0) = False := eq_false hB5
    have by02 : decide (y5 = 0) = false := by simpa using hB5
    clear hB5 hcase2
    go_enter Try.func9, Try.ntmps9
    have hB := hb0
    go_wp2_with fail
    refine (hM.out _).mono ?_
    rintro e V ⟨rfl, VB⟩
    replace hB := (hB.later VB)
    clear VB
    go_wp2_with fail
    refine (d0.out _).mono ?_
    rintro e V ⟨rfl, VB⟩
    replace hB := (hB.later VB).add k0 k1 k2 k3 k4
    clear VB
    obtain ⟨c0, c1, c2, c3, c4, clt⟩ := hB.cells 0 rfl
    go_wp2_with fail
    refine (d1.out _).mono ?_
    rintro e V ⟨rfl, VB⟩
    clear c0 c1 c2 c3 c4 clt
    replace hB := (hB.later VB).add x0 x1 x2 x3 x4
    clear VB
    obtain ⟨c0, c1, c2, c3, c4, clt⟩ := hB.cells 0 rfl
    go_wp2_with fail
    refine (d2.out _).mono ?_
    rintro e V ⟨rfl, VB⟩
    clear c0 c1 c2 c3 c4 clt
    replace hB := (hB.later VB).add y0 y1 y2 y3 y4
    clear VB
    obtain ⟨c0, c1, c2, c3, c4, clt⟩ := hB.cells 0 rfl
    go_wp2_with fail
    refine (d3.out _).mono ?_
    rintro e V ⟨rfl, VB⟩
    clear c0 c1 c2 c3 c4 clt
    replace hB := (hB.later VB).add z0 z1 z2 z3 z4
    clear VB
    obtain ⟨c0, c1, c2, c3, c4, clt⟩ := hB.cells 2 rfl
    go_wp2_with fail
    refine (s2.out _).mono ?_
    rintro e V ⟨rfl, VB⟩
    clear c0 c1 c2 c3 c4 clt
    replace hB := (hB.later VB).add s0 s1 s2' s3 s4
    clear VB
    obtain ⟨c0, c1, c2, c3, c4, clt⟩ := hB.cells 0 rfl
    go_wp2_with fail
    refine (d5.out _).mono ?_
    rintro e V ⟨rfl, VB⟩
    clear c0 c1 c2 c3 c4 clt
    replace hB := (hB.later VB).add t0 t1 t2 t3 t4
    clear VB
    obtain ⟨c0, c1, c2, c3, c4, clt⟩ := hB.cells 0 rfl
    obtain ⟨f0, f1, f2, f3, f4, flt⟩ := hB.cells 2 rfl
    obtain ⟨g0, g1, g2, g3, g4, glt⟩ := hB.cells 5 rfl
    go_wp2_with fail
    refine (d6.out _).mono ?_
    rintro e V ⟨rfl, VB⟩
    clear c0 c1 c2 c3 c4 clt f0 f1 f2 f3 f4 flt g0 g1 g2 g3 g4 glt
    replace hB := (hB.later VB).add u0 u1 u2 u3 u4
    clear VB
    obtain ⟨c0, c1, c2, c3, c4, clt⟩ := hB.cells 0 rfl
    go_wp2_with fail
    refine (d7.out _).mono ?_
    rintro e V ⟨rfl, VB⟩
    clear c0 c1 c2 c3 c4 clt
    replace hB := (hB.later VB).add v0 v1 v2 v3 v4
    clear VB
    obtain ⟨c0, c1, c2, c3, c4, clt⟩ := hB.cells 0 rfl
    obtain ⟨f0, f1, f2, f3, f4, flt⟩ := hB.cells 5 rfl
    go_wp2_with (go_at_call 20; refine (hw.out _).mono ?_; rintro e w6 ⟨rfl, hb6⟩; have hB6 := hB.later hb6)
    go_ret
    exact ⟨rfl, hB6.bel⟩
  case inl =>
  obtain ⟨rfl, rfl, rfl, rfl, hT⟩ := hA
  obtain ⟨rfl, rfl, rfl, rfl, rfl⟩ := Ct.mk.inj hT
  clear hT
  have qz := eq_self t0 t1 t2 t3 t4
  rcases hcase2 with ⟨rfl, rfl, hv⟩ | hu | ⟨rfl, hv⟩
  · obtain ⟨rfl, rfl, rfl, rfl, rfl⟩ := Ct.mk.inj (hv rfl)
    clear hv
    have qv := eq_self v0 v1 v2 v3 v4
    go_enter Try.func9, Try.ntmps9
    have hB := hb0
    go_wp2_with fail
    refine (hM.out _).mono ?_
    rintro e V ⟨rfl, VB⟩
    replace hB := (hB.later VB)
    clear VB
    go_wp2_with fail
    refine (d0.out _).mono ?_
    rintro e V ⟨rfl, VB⟩
    replace hB := (hB.later VB).add k0 k1 k2 k3 k4
    clear VB
    obtain ⟨c0, c1, c2, c3, c4, clt⟩ := hB.cells 0 rfl
    go_wp2_with fail
    refine (d1.out _).mono ?_
    rintro e V ⟨rfl, VB⟩
    clear c0 c1 c2 c3 c4 clt
    replace hB := (hB.later VB).add x0 x1 x2 x3 x4
    clear VB
    obtain ⟨c0, c1, c2, c3, c4, clt⟩ := hB.cells 0 rfl
    go_wp2_with fail
    refine (d2.out _).mono ?_
    rintro e V ⟨rfl, VB⟩
    clear c0 c1 c2 c3 c4 clt
    replace hB := (hB.later VB).add v0 v1 v2 v3 v4
    clear VB
    obtain ⟨c0, c1, c2, c3, c4, clt⟩ := hB.cells 0 rfl
    go_wp2_with fail
    refine (d3.out _).mono ?_
    rintro e V ⟨rfl, VB⟩
    clear c0 c1 c2 c3 c4 clt
    replace hB := (hB.later VB).add t0 t1 t2 t3 t4
    clear VB
    obtain ⟨c0, c1, c2, c3, c4, clt⟩ := hB.cells 2 rfl
    go_wp2_with fail
    refine (s2.out _).mono ?_
    rintro e V ⟨rfl, VB⟩
    clear c0 c1 c2 c3 c4 clt
    replace hB := (hB.later VB).add s0 s1 s2' s3 s4
    clear VB
    obtain ⟨c0, c1, c2, c3, c4, clt⟩ := hB.cells 0 rfl
    go_wp2_with fail
    refine (d5.out _).mono ?_
    rintro e V ⟨rfl, VB⟩
    clear c0 c1 c2 c3 c4 clt
    replace hB := (hB.later VB).add t0 t1 t2 t3 t4
    clear VB
    obtain ⟨c0, c1, c2, c3, c4, clt⟩ := hB.cells 0 rfl
    obtain ⟨f0, f1, f2, f3, f4, flt⟩ := hB.cells 2 rfl
    obtain ⟨g0, g1, g2, g3, g4, glt⟩ := hB.cells 5 rfl
    go_wp2_with fail
    refine (d6.out _).mono ?_
    rintro e V ⟨rfl, VB⟩
    clear c0 c1 c2 c3 c4 clt f0 f1 f2 f3 f4 flt g0 g1 g2 g3 g4 glt
    replace hB := (hB.later VB).add u0 u1 u2 u3 u4
    clear VB
    obtain ⟨c0, c1, c2, c3, c4, clt⟩ := hB.cells 0 rfl
    go_wp2_with fail
    refine (d7.out _).mono ?_
    rintro e V ⟨rfl, VB⟩
    clear c0 c1 c2 c3 c4 clt
    replace hB := (hB.later VB).add v0 v1 v2 v3 v4
    clear VB
    obtain ⟨c0, c1, c2, c3, c4, clt⟩ := hB.cells 0 rfl
    obtain ⟨f0, f1, f2, f3, f4, flt⟩ := hB.cells 5 rfl
    go_wp2_with (go_at_call 20; refine (hw.out _).mono ?_; rintro e w6 ⟨rfl, hb6⟩; have hB6 := hB.later hb6)
    go_ret
    exact ⟨rfl, hB6.bel⟩
  · have bu : (u5 == 0) = false := by simpa using hu
    have bu1 : (u5 = 0) = False := eq_false hu
    have bu2 : decide (u5 = 0) = false := by simpa using hu
    clear hu
    go_enter Try.func9, Try.ntmps9
    have hB := hb0
    go_wp2_with fail
    refine (hM.out _).mono ?_
    rintro e V ⟨rfl, VB⟩
    replace hB := (hB.later VB)
    clear VB
    go_wp2_with fail
    refine (d0.out _).mono ?_
    rintro e V ⟨rfl, VB⟩
    replace hB := (hB.later VB).add k0 k1 k2 k3 k4
    clear VB
    obtain ⟨c0, c1, c2, c3, c4, clt⟩ := hB.cells 0 rfl
    go_wp2_with fail
    refine (d1.out _).mono ?_
    rintro e V ⟨rfl, VB⟩
    clear c0 c1 c2 c3 c4 clt
    replace hB := (hB.later VB).add x0 x1 x2 x3 x4
    clear VB
    obtain ⟨c0, c1, c2, c3, c4, clt⟩ := hB.cells 0 rfl
    go_wp2_with fail
    refine (d2.out _).mono ?_
    rintro e V ⟨rfl, VB⟩
    clear c0 c1 c2 c3 c4 clt
    replace hB := (hB.later VB).add y0 y1 y2 y3 y4
    clear VB
    obtain ⟨c0, c1, c2, c3, c4, clt⟩ := hB.cells 0 rfl
    go_wp2_with fail
    refine (d3.out _).mono ?_
    rintro e V ⟨rfl, VB⟩
    clear c0 c1 c2 c3 c4 clt
    replace hB := (hB.later VB).add t0 t1 t2 t3 t4
    clear VB
    obtain ⟨c0, c1, c2, c3, c4, clt⟩ := hB.cells 2 rfl
    go_wp2_with fail
    refine (s2.out _).mono ?_
    rintro e V ⟨rfl, VB⟩
    clear c0 c1 c2 c3 c4 clt
    replace hB := (hB.later VB).add s0 s1 s2' s3 s4
    clear VB
    obtain ⟨c0, c1, c2, c3, c4, clt⟩ := hB.cells 0 rfl
    go_wp2_with fail
    refine (d5.out _).mono ?_
    rintro e V ⟨rfl, VB⟩
    clear c0 c1 c2 c3 c4 clt
    replace hB := (hB.later VB).add t0 t1 t2 t3 t4
    clear VB
    obtain ⟨c0, c1, c2, c3, c4, clt⟩ := hB.cells 0 rfl
    obtain ⟨f0, f1, f2, f3, f4, flt⟩ := hB.cells 2 rfl
    obtain ⟨g0, g1, g2, g3, g4, glt⟩ := hB.cells 5 rfl
    go_wp2_with fail
    refine (d6.out _).mono ?_
    rintro e V ⟨rfl, VB⟩
    clear c0 c1 c2 c3 c4 clt f0 f1 f2 f3 f4 flt g0 g1 g2 g3 g4 glt
    replace hB := (hB.later VB).add u0 u1 u2 u3 u4
    clear VB
    obtain ⟨c0, c1, c2, c3, c4, clt⟩ := hB.cells 0 rfl
    go_wp2_with fail
    refine (d7.out _).mono ?_
    rintro e V ⟨rfl, VB⟩
    clear c0 c1 c2 c3 c4 clt
    replace hB := (hB.later VB).add v0 v1 v2 v3 v4
    clear VB
    obtain ⟨c0, c1, c2, c3, c4, clt⟩ := hB.cells 0 rfl
    obtain ⟨f0, f1, f2, f3, f4, flt⟩ := hB.cells 5 rfl
    go_wp2_with (go_at_call 20; refine (hw.out _).mono ?_; rintro e w6 ⟨rfl, hb6⟩; have hB6 := hB.later hb6)
    go_ret
    exact ⟨rfl, hB6.bel⟩
  · have bv : (v5 == 0) = false := by simpa using hv
    have bv1 : (v5 = 0) = False := eq_false hv
    have bv2 : decide (v5 = 0) = false := by simpa using hv
    clear hv
    go_enter Try.func9, Try.ntmps9
    have hB := hb0
    go_wp2_with fail
    refine (hM.out _).mono ?_
    rintro e V ⟨rfl, VB⟩
    replace hB := (hB.later VB)
    clear VB
    go_wp2_with fail
    refine (d0.out _).mono ?_
    rintro e V ⟨rfl, VB⟩
    replace hB := (hB.later VB).add k0 k1 k2 k3 k4
    clear VB
    obtain ⟨c0, c1, c2, c3, c4, clt⟩ := hB.cells 0 rfl
    go_wp2_with fail
    refine (d1.out _).mono ?_
    rintro e V ⟨rfl, VB⟩
    clear c0 c1 c2 c3 c4 clt
    replace hB := (hB.later VB).add x0 x1 x2 x3 x4
    clear VB
    obtain ⟨c0, c1, c2, c3, c4, clt⟩ := hB.cells 0 rfl
    go_wp2_with fail
    refine (d2.out _).mono ?_
    rintro e V ⟨rfl, VB⟩
    clear c0 c1 c2 c3 c4 clt
    replace hB := (hB.later VB).add y0 y1 y2 y3 y4
    clear VB
    obtain ⟨c0, c1, c2, c3, c4, clt⟩ := hB.cells 0 rfl
    go_wp2_with fail
    refine (d3.out _).mono ?_
    rintro e V ⟨rfl, VB⟩
    clear c0 c1 c2 c3 c4 clt
    replace hB := (hB.later VB).add t0 t1 t2 t3 t4
    clear VB
    obtain ⟨c0, c1, c2, c3, c4, clt⟩ := hB.cells 2 rfl
    go_wp2_with fail
    refine (s2.out _).mono ?_
    rintro e V ⟨rfl, VB⟩
    clear c0 c1 c2 c3 c4 clt
    replace hB := (hB.later VB).add s0 s1 s2' s3 s4
    clear VB
    obtain ⟨c0, c1, c2, c3, c4, clt⟩ := hB.cells 0 rfl
    go_wp2_with fail
    refine (d5.out _).mono ?_
    rintro e V ⟨rfl, VB⟩
    clear c0 c1 c2 c3 c4 clt
    replace hB := (hB.later VB).add t0 t1 t2 t3 t4
    clear VB
    obtain ⟨c0, c1, c2, c3, c4, clt⟩ := hB.cells 0 rfl
    obtain ⟨f0, f1, f2, f3, f4, flt⟩ := hB.cells 2 rfl
    obtain ⟨g0, g1, g2, g3, g4, glt⟩ := hB.cells 5 rfl
    go_wp2_with fail
    refine (d6.out _).mono ?_
    rintro e V ⟨rfl, VB⟩
    clear c0 c1 c2 c3 c4 clt f0 f1 f2 f3 f4 flt g0 g1 g2 g3 g4 glt
    replace hB := (hB.later VB).add u0 u1 u2 u3 u4
    clear VB
    obtain ⟨c0, c1, c2, c3, c4, clt⟩ := hB.cells 0 rfl
    go_wp2_with fail
    refine (d7.out _).mono ?_
    rintro e V ⟨rfl, VB⟩
    clear c0 c1 c2 c3 c4 clt
    replace hB := (hB.later VB).add v0 v1 v2 v3 v4
    clear VB
    obtain ⟨c0, c1, c2, c3, c4, clt⟩ := hB.cells 0 rfl
    obtain ⟨f0, f1, f2, f3, f4, flt⟩ := hB.cells 5 rfl
    go_wp2_with (go_at_call 20; refine (hw.out _).mono ?_; rintro e w6 ⟨rfl, hb6⟩; have hB6 := hB.later hb6)
    go_ret
    exact ⟨rfl, hB6.bel⟩
set_option maxHeartbeats 8000000 in
theorem orders_false (pv pu pd pb po a b n : Int) (w : World) (w0 : I32 pv ∧ U16 pu ∧ U16 pd ∧ U16 pb ∧ U16 po) (ha : -32768 ≤ a ∧ a ≤ 32767) (hb : -32768 ≤ b ∧ b ≤ 32767) (hn : -32768 ≤ n ∧ n ≤ 32767) :
    Calls Try.prog 9 #[pA pv pu pd pb po, .int .i16 a, .int .i16 b, .int .i16 n, .bool false] w fun e w' => e = .returned (.bool true) ∧ Below w.heap.size w w' := by
  have hw := Lib.hid (fun W => works_any W)
  have hM := Lib.hid (fun W => made_any pv pu pd pb po W w0.1 w0.2.1 w0.2.2.1 w0.2.2.2.1 w0.2.2.2.2)
  have oa : Ok a := by unfold Ok; omega
  have ob : Ok b := by unfold Ok; omega
  have on_ : Ok n := by unfold Ok; omega
  have ia : IntKind.i64.wrap a = a := i64w (by omega) (by omega)
  have ib : IntKind.i64.wrap b = b := i64w (by omega) (by omega)
  have in_ : IntKind.i64.wrap n = n := i64w (by omega) (by omega)
  have hc0 := mk_ok w0
  unfold mk at hc0
  generalize pv - pu - pb = l at *
  generalize pv + pd + po = g at *
  have d0 := fun W => do_any pv pu pd l g n W
  have e0 := do_err hc0 on_
  have hheld : ∀ x, chC addC ⟨pv, pu, pd, l, g⟩ n = (x, 0) → OkC x ∧ max n 0 ≤ x.u ∧ max (-n) 0 ≤ x.d := fun x hx => do_held hc0 on_ hx
  have hb0 := Bxs.nil (alloc_b w (pRow pv pu pd pb po))
  clear w0 ha hb hn
  generalize chC addC ⟨pv, pu, pd, l, g⟩ n = r0 at *
  obtain ⟨⟨k0, k1, k2, k3, k4⟩, k5⟩ := r0
  rcases e0 with e0 | e0
  case inr =>
    obtain ⟨e1, e2⟩ := Prod.mk.inj e0
    unfold zero at e1
    obtain ⟨rfl, rfl, rfl, rfl, rfl⟩ := Ct.mk.inj e1
    subst e2
    clear e0 e1 hheld oa ob on_ hc0
    replace d0 := Lib.hid d0
    go_enter Try.func9, Try.ntmps9
    go_wp2_with (first
      | (go_at_call 31; refine (hM.out _).mono ?_; rintro e w1 ⟨rfl, hb1⟩; have hB1 := hb0.later hb1)
      | (go_at_call 12; refine (d0.out _).mono ?_; rintro e w2 ⟨rfl, hb2⟩; have hB2 := (hB1.later hb2).add 0 0 0 0 0)
      | (go_at_call 20; refine (hw.out _).mono ?_; rintro e w6 ⟨rfl, hb6⟩; have hB6 := hB2.later hb6))
    go_ret
    exact ⟨rfl, hB6.bel⟩
  case inl =>
  replace e0 : k5 = 0 := e0
  subst e0
  obtain ⟨hc, hr⟩ := hheld _ rfl
  clear hheld hc0
  have d1 := fun W => do_any k0 k1 k2 k3 k4 a W
  have e1 := do_err hc oa
  have d6 := fun W => do_any k0 k1 k2 k3 k4 b W
  have hF : ∀ x y, chC addC ⟨k0, k1, k2, k3, k4⟩ a = (x, 0) → chC addC x b = (y, 0) → _ := fun x y hx hy => undo_two hc hr oa ob on_ hx hy
  have hD : ∀ x y u v, chC addC ⟨k0, k1, k2, k3, k4⟩ a = (x, 0) → chC addC x b = (y, 0) → chC addC ⟨k0, k1, k2, k3, k4⟩ b = (u, 0) → chC addC u a = (v, 0) → v = y := fun x y u v hx hy hu hv => do_two hc oa ob hx hy hu hv
  clear hc hr oa ob on_
  generalize chC addC ⟨k0, k1, k2, k3, k4⟩ a = r1 at *
  obtain ⟨⟨x0, x1, x2, x3, x4⟩, x5⟩ := r1
  replace d0 := Lib.hid d0
  rcases e1 with e1 | e1
  case inr =>
    obtain ⟨e1, e2⟩ := Prod.mk.inj e1
    unfold zero at e1
    obtain ⟨rfl, rfl, rfl, rfl, rfl⟩ := Ct.mk.inj e1
    subst e2
    clear e1 hF hD d6
    replace d1 := Lib.hid d1
    go_enter Try.func9, Try.ntmps9
    go_wp2_with (first
      | (go_at_call 31; refine (hM.out _).mono ?_; rintro e w1 ⟨rfl, hb1⟩; have hB1 := hb0.later hb1)
      | (go_at_call_of 12 (cA pv pu pd l g); refine (d0.out _).mono ?_; rintro e w2 ⟨rfl, hb2⟩; have hB2 := (hB1.later hb2).add k0 k1 k2 k3 k4; obtain ⟨c0, c1, c2, c3, c4, clt⟩ := hB2.cells 0 rfl)
      | (go_at_call_of 12 (Value.agg #[.int .i64 k0, .int .i64 k1, .int .i64 k2, .int .i64 k3, .int .i64 k4]); refine (d1.out _).mono ?_; rintro e w3 ⟨rfl, hb3⟩; have hB3 := (hB2.later hb3).add 0 0 0 0 0)
      | (go_at_call 20; refine (hw.out _).mono ?_; rintro e w6 ⟨rfl, hb6⟩; have hB6 := hB3.later hb6))
    go_ret
    exact ⟨rfl, hB6.bel⟩
  case inl =>
  replace e1 : x5 = 0 := e1
  subst e1
  have d2 := fun W => do_any x0 x1 x2 x3 x4 b W
  have s2 := fun W => undo_any x0 x1 x2 x3 x4 n W
  have hF1 := fun y hy => hF ⟨x0, x1, x2, x3, x4⟩ y rfl hy
  have hD1 := fun y u v hy hu hv => hD ⟨x0, x1, x2, x3, x4⟩ y u v rfl hy hu hv
  clear hF hD
  generalize chC addC ⟨x0, x1, x2, x3, x4⟩ b = r2 at *
  generalize chC addC ⟨k0, k1, k2, k3, k4⟩ b = r6 at *
  generalize chC takeC ⟨x0, x1, x2, x3, x4⟩ n = r4 at *
  obtain ⟨⟨y0, y1, y2, y3, y4⟩, y5⟩ := r2
  obtain ⟨⟨u0, u1, u2, u3, u4⟩, u5⟩ := r6
  obtain ⟨⟨s0, s1, s2', s3, s4⟩, s5⟩ := r4
  have d3 := fun W => undo_any y0 y1 y2 y3 y4 n W
  have d5 := fun W => do_any s0 s1 s2' s3 s4 b W
  have d7 := fun W => do_any u0 u1 u2 u3 u4 a W
  have hF2 := hF1 ⟨y0, y1, y2, y3, y4⟩
  have hD2 := hD1 ⟨y0, y1, y2, y3, y4⟩ ⟨u0, u1, u2, u3, u4⟩
  clear hF1 hD1
  generalize chC takeC ⟨y0, y1, y2, y3, y4⟩ n = r3 at *
  generalize hr5 : chC addC ⟨s0, s1, s2', s3, s4⟩ b = r5 at *
  generalize chC addC ⟨u0, u1, u2, u3, u4⟩ a = r7 at *
  obtain ⟨⟨z0, z1, z2, z3, z4⟩, z5⟩ := r3
  obtain ⟨⟨t0, t1, t2, t3, t4⟩, t5⟩ := r5
  obtain ⟨⟨v0, v1, v2, v3, v4⟩, v5⟩ := r7
  simp only [Prod.mk.injEq, true_and] at hF2 hD2
  replace d1 := Lib.hid d1
  replace d2 := Lib.hid d2
  replace d3 := Lib.hid d3
  replace s2 := Lib.hid s2
  replace d5 := Lib.hid d5
  replace d6 := Lib.hid d6
  replace d7 := Lib.hid d7
  have hcase : (y5 = 0 ∧ z5 = 0 ∧ s5 = 0 ∧ (t5 = 0 → (⟨t0, t1, t2, t3, t4⟩ : Ct) = ⟨z0, z1, z2, z3, z4⟩)) ∨ y5 ≠ 0 := by
    by_cases hy : y5 = 0
    · left
      obtain ⟨Z, S, ⟨rfl, h1⟩, ⟨rfl, h2⟩, h3⟩ := hF2 hy
      exact ⟨hy, h1, h2, fun ht => h3 _ (hr5.trans (by rw [ht]))⟩
    · exact Or.inr hy
  have hcase2 : (u5 = 0 ∧ v5 = 0 ∧ (y5 = 0 → (⟨v0, v1, v2, v3, v4⟩ : Ct) = ⟨y0, y1, y2, y3, y4⟩)) ∨ u5 ≠ 0 ∨ (u5 = 0 ∧ v5 ≠ 0) := by
    by_cases hu : u5 = 0
    · by_cases hv : v5 = 0
      · exact Or.inl ⟨hu, hv, fun hy => hD2 _ hy hu ⟨rfl, hv⟩⟩
      · exact Or.inr (Or.inr ⟨hu, hv⟩)
    · exact Or.inr (Or.inl hu)
  clear hF2 hD2 hr5
  rcases hcase with hA | hB5
  case inr =>
    have by0 : (y5 == 0) = false := by simpa using hB5
    have by01 : (y5 = 0) = False := eq_false hB5
    have by02 : decide (y5 = 0) = false := by simpa using hB5
    clear hB5 hcase2
    go_enter Try.func9, Try.ntmps9
    have hB := hb0
    go_wp2_with fail
    refine (hM.out _).mono ?_
    rintro e V ⟨rfl, VB⟩
    replace hB := (hB.later VB)
    clear VB
    go_wp2_with fail
    refine (d0.out _).mono ?_
    rintro e V ⟨rfl, VB⟩
    replace hB := (hB.later VB).add k0 k1 k2 k3 k4
    clear VB
    obtain ⟨c0, c1, c2, c3, c4, clt⟩ := hB.cells 0 rfl
    go_wp2_with fail
    refine (d1.out _).mono ?_
    rintro e V ⟨rfl, VB⟩
    clear c0 c1 c2 c3 c4 clt
    replace hB := (hB.later VB).add x0 x1 x2 x3 x4
    clear VB
    obtain ⟨c0, c1, c2, c3, c4, clt⟩ := hB.cells 0 rfl
    go_wp2_with fail
    refine (d2.out _).mono ?_
    rintro e V ⟨rfl, VB⟩
    clear c0 c1 c2 c3 c4 clt
    replace hB := (hB.later VB).add y0 y1 y2 y3 y4
    clear VB
    obtain ⟨c0, c1, c2, c3, c4, clt⟩ := hB.cells 0 rfl
    go_wp2_with fail
    refine (d3.out _).mono ?_
    rintro e V ⟨rfl, VB⟩
    clear c0 c1 c2 c3 c4 clt
    replace hB := (hB.later VB).add z0 z1 z2 z3 z4
    clear VB
    obtain ⟨c0, c1, c2, c3, c4, clt⟩ := hB.cells 2 rfl
    go_wp2_with fail
    refine (s2.out _).mono ?_
    rintro e V ⟨rfl, VB⟩
    clear c0 c1 c2 c3 c4 clt
    replace hB := (hB.later VB).add s0 s1 s2' s3 s4
    clear VB
    obtain ⟨c0, c1, c2, c3, c4, clt⟩ := hB.cells 0 rfl
    go_wp2_with fail
    refine (d5.out _).mono ?_
    rintro e V ⟨rfl, VB⟩
    clear c0 c1 c2 c3 c4 clt
    replace hB := (hB.later VB).add t0 t1 t2 t3 t4
    clear VB
    obtain ⟨c0, c1, c2, c3, c4, clt⟩ := hB.cells 0 rfl
    obtain ⟨f0, f1, f2, f3, f4, flt⟩ := hB.cells 2 rfl
    obtain ⟨g0, g1, g2, g3, g4, glt⟩ := hB.cells 5 rfl
    go_wp2_with fail
    refine (d6.out _).mono ?_
    rintro e V ⟨rfl, VB⟩
    clear c0 c1 c2 c3 c4 clt f0 f1 f2 f3 f4 flt g0 g1 g2 g3 g4 glt
    replace hB := (hB.later VB).add u0 u1 u2 u3 u4
    clear VB
    obtain ⟨c0, c1, c2, c3, c4, clt⟩ := hB.cells 0 rfl
    go_wp2_with fail
    refine (d7.out _).mono ?_
    rintro e V ⟨rfl, VB⟩
    clear c0 c1 c2 c3 c4 clt
    replace hB := (hB.later VB).add v0 v1 v2 v3 v4
    clear VB
    obtain ⟨c0, c1, c2, c3, c4, clt⟩ := hB.cells 0 rfl
    obtain ⟨f0, f1, f2, f3, f4, flt⟩ := hB.cells 5 rfl
    go_wp2_with (go_at_call 20; refine (hw.out _).mono ?_; rintro e w6 ⟨rfl, hb6⟩; have hB6 := hB.later hb6)
    go_ret
    exact ⟨rfl, hB6.bel⟩
  case inl =>
  obtain ⟨rfl, rfl, rfl, hT⟩ := hA
  by_cases ht : t5 = 0
  · subst ht
    obtain ⟨rfl, rfl, rfl, rfl, rfl⟩ := Ct.mk.inj (hT rfl)
    clear hT
    have qz := eq_self t0 t1 t2 t3 t4
    rcases hcase2 with ⟨rfl, rfl, hv⟩ | hu | ⟨rfl, hv⟩
    · obtain ⟨rfl, rfl, rfl, rfl, rfl⟩ := Ct.mk.inj (hv rfl)
      clear hv
      have qv := eq_self v0 v1 v2 v3 v4
      go_enter Try.func9, Try.ntmps9
      have hB := hb0
      go_wp2_with fail
      refine (hM.out _).mono ?_
      rintro e V ⟨rfl, VB⟩
      replace hB := (hB.later VB)
      clear VB
      go_wp2_with fail
      refine (d0.out _).mono ?_
      rintro e V ⟨rfl, VB⟩
      replace hB := (hB.later VB).add k0 k1 k2 k3 k4
      clear VB
      obtain ⟨c0, c1, c2, c3, c4, clt⟩ := hB.cells 0 rfl
      go_wp2_with fail
      refine (d1.out _).mono ?_
      rintro e V ⟨rfl, VB⟩
      clear c0 c1 c2 c3 c4 clt
      replace hB := (hB.later VB).add x0 x1 x2 x3 x4
      clear VB
      obtain ⟨c0, c1, c2, c3, c4, clt⟩ := hB.cells 0 rfl
      go_wp2_with fail
      refine (d2.out _).mono ?_
      rintro e V ⟨rfl, VB⟩
      clear c0 c1 c2 c3 c4 clt
      replace hB := (hB.later VB).add v0 v1 v2 v3 v4
      clear VB
      obtain ⟨c0, c1, c2, c3, c4, clt⟩ := hB.cells 0 rfl
      go_wp2_with fail
      refine (d3.out _).mono ?_
      rintro e V ⟨rfl, VB⟩
      clear c0 c1 c2 c3 c4 clt
      replace hB := (hB.later VB).add t0 t1 t2 t3 t4
      clear VB
      obtain ⟨c0, c1, c2, c3, c4, clt⟩ := hB.cells 2 rfl
      go_wp2_with fail
      refine (s2.out _).mono ?_
      rintro e V ⟨rfl, VB⟩
      clear c0 c1 c2 c3 c4 clt
      replace hB := (hB.later VB).add s0 s1 s2' s3 s4
      clear VB
      obtain ⟨c0, c1, c2, c3, c4, clt⟩ := hB.cells 0 rfl
      go_wp2_with fail
      refine (d5.out _).mono ?_
      rintro e V ⟨rfl, VB⟩
      clear c0 c1 c2 c3 c4 clt
      replace hB := (hB.later VB).add t0 t1 t2 t3 t4
      clear VB
      obtain ⟨c0, c1, c2, c3, c4, clt⟩ := hB.cells 0 rfl
      obtain ⟨f0, f1, f2, f3, f4, flt⟩ := hB.cells 2 rfl
      obtain ⟨g0, g1, g2, g3, g4, glt⟩ := hB.cells 5 rfl
      go_wp2_with fail
      refine (d6.out _).mono ?_
      rintro e V ⟨rfl, VB⟩
      clear c0 c1 c2 c3 c4 clt f0 f1 f2 f3 f4 flt g0 g1 g2 g3 g4 glt
      replace hB := (hB.later VB).add u0 u1 u2 u3 u4
      clear VB
      obtain ⟨c0, c1, c2, c3, c4, clt⟩ := hB.cells 0 rfl
      go_wp2_with fail
      refine (d7.out _).mono ?_
      rintro e V ⟨rfl, VB⟩
      clear c0 c1 c2 c3 c4 clt
      replace hB := (hB.later VB).add v0 v1 v2 v3 v4
      clear VB
      obtain ⟨c0, c1, c2, c3, c4, clt⟩ := hB.cells 0 rfl
      obtain ⟨f0, f1, f2, f3, f4, flt⟩ := hB.cells 5 rfl
      go_wp2_with (go_at_call 20; refine (hw.out _).mono ?_; rintro e w6 ⟨rfl, hb6⟩; have hB6 := hB.later hb6)
      go_ret
      exact ⟨rfl, hB6.bel⟩
    · have bu : (u5 == 0) = false := by simpa using hu
      have bu1 : (u5 = 0) = False := eq_false hu
      have bu2 : decide (u5 = 0) = false := by simpa using hu
      clear hu
      go_enter Try.func9, Try.ntmps9
      have hB := hb0
      go_wp2_with fail
      refine (hM.out _).mono ?_
      rintro e V ⟨rfl, VB⟩
      replace hB := (hB.later VB)
      clear VB
      go_wp2_with fail
      refine (d0.out _).mono ?_
      rintro e V ⟨rfl, VB⟩
      replace hB := (hB.later VB).add k0 k1 k2 k3 k4
      clear VB
      obtain ⟨c0, c1, c2, c3, c4, clt⟩ := hB.cells 0 rfl
      go_wp2_with fail
      refine (d1.out _).mono ?_
      rintro e V ⟨rfl, VB⟩
      clear c0 c1 c2 c3 c4 clt
      replace hB := (hB.later VB).add x0 x1 x2 x3 x4
      clear VB
      obtain ⟨c0, c1, c2, c3, c4, clt⟩ := hB.cells 0 rfl
      go_wp2_with fail
      refine (d2.out _).mono ?_
      rintro e V ⟨rfl, VB⟩
      clear c0 c1 c2 c3 c4 clt
      replace hB := (hB.later VB).add y0 y1 y2 y3 y4
      clear VB
      obtain ⟨c0, c1, c2, c3, c4, clt⟩ := hB.cells 0 rfl
      go_wp2_with fail
      refine (d3.out _).mono ?_
      rintro e V ⟨rfl, VB⟩
      clear c0 c1 c2 c3 c4 clt
      replace hB := (hB.later VB).add t0 t1 t2 t3 t4
      clear VB
      obtain ⟨c0, c1, c2, c3, c4, clt⟩ := hB.cells 2 rfl
      go_wp2_with fail
      refine (s2.out _).mono ?_
      rintro e V ⟨rfl, VB⟩
      clear c0 c1 c2 c3 c4 clt
      replace hB := (hB.later VB).add s0 s1 s2' s3 s4
      clear VB
      obtain ⟨c0, c1, c2, c3, c4, clt⟩ := hB.cells 0 rfl
      go_wp2_with fail
      refine (d5.out _).mono ?_
      rintro e V ⟨rfl, VB⟩
      clear c0 c1 c2 c3 c4 clt
      replace hB := (hB.later VB).add t0 t1 t2 t3 t4
      clear VB
      obtain ⟨c0, c1, c2, c3, c4, clt⟩ := hB.cells 0 rfl
      obtain ⟨f0, f1, f2, f3, f4, flt⟩ := hB.cells 2 rfl
      obtain ⟨g0, g1, g2, g3, g4, glt⟩ := hB.cells 5 rfl
      go_wp2_with fail
      refine (d6.out _).mono ?_
      rintro e V ⟨rfl, VB⟩
      clear c0 c1 c2 c3 c4 clt f0 f1 f2 f3 f4 flt g0 g1 g2 g3 g4 glt
      replace hB := (hB.later VB).add u0 u1 u2 u3 u4
      clear VB
      obtain ⟨c0, c1, c2, c3, c4, clt⟩ := hB.cells 0 rfl
      go_wp2_with fail
      refine (d7.out _).mono ?_
      rintro e V ⟨rfl, VB⟩
      clear c0 c1 c2 c3 c4 clt
      replace hB := (hB.later VB).add v0 v1 v2 v3 v4
      clear VB
      obtain ⟨c0, c1, c2, c3, c4, clt⟩ := hB.cells 0 rfl
      obtain ⟨f0, f1, f2, f3, f4, flt⟩ := hB.cells 5 rfl
      go_wp2_with (go_at_call 20; refine (hw.out _).mono ?_; rintro e w6 ⟨rfl, hb6⟩; have hB6 := hB.later hb6)
      go_ret
      exact ⟨rfl, hB6.bel⟩
    · have bv : (v5 == 0) = false := by simpa using hv
      have bv1 : (v5 = 0) = False := eq_false hv
      have bv2 : decide (v5 = 0) = false := by simpa using hv
      clear hv
      go_enter Try.func9, Try.ntmps9
      have hB := hb0
      go_wp2_with fail
      refine (hM.out _).mono ?_
      rintro e V ⟨rfl, VB⟩
      replace hB := (hB.later VB)
      clear VB
      go_wp2_with fail
      refine (d0.out _).mono ?_
      rintro e V ⟨rfl, VB⟩
      replace hB := (hB.later VB).add k0 k1 k2 k3 k4
      clear VB
      obtain ⟨c0, c1, c2, c3, c4, clt⟩ := hB.cells 0 rfl
      go_wp2_with fail
      refine (d1.out _).mono ?_
      rintro e V ⟨rfl, VB⟩
      clear c0 c1 c2 c3 c4 clt
      replace hB := (hB.later VB).add x0 x1 x2 x3 x4
      clear VB
      obtain ⟨c0, c1, c2, c3, c4, clt⟩ := hB.cells 0 rfl
      go_wp2_with fail
      refine (d2.out _).mono ?_
      rintro e V ⟨rfl, VB⟩
      clear c0 c1 c2 c3 c4 clt
      replace hB := (hB.later VB).add y0 y1 y2 y3 y4
      clear VB
      obtain ⟨c0, c1, c2, c3, c4, clt⟩ := hB.cells 0 rfl
      go_wp2_with fail
      refine (d3.out _).mono ?_
      rintro e V ⟨rfl, VB⟩
      clear c0 c1 c2 c3 c4 clt
      replace hB := (hB.later VB).add t0 t1 t2 t3 t4
      clear VB
      obtain ⟨c0, c1, c2, c3, c4, clt⟩ := hB.cells 2 rfl
      go_wp2_with fail
      refine (s2.out _).mono ?_
      rintro e V ⟨rfl, VB⟩
      clear c0 c1 c2 c3 c4 clt
      replace hB := (hB.later VB).add s0 s1 s2' s3 s4
      clear VB
      obtain ⟨c0, c1, c2, c3, c4, clt⟩ := hB.cells 0 rfl
      go_wp2_with fail
      refine (d5.out _).mono ?_
      rintro e V ⟨rfl, VB⟩
      clear c0 c1 c2 c3 c4 clt
      replace hB := (hB.later VB).add t0 t1 t2 t3 t4
      clear VB
      obtain ⟨c0, c1, c2, c3, c4, clt⟩ := hB.cells 0 rfl
      obtain ⟨f0, f1, f2, f3, f4, flt⟩ := hB.cells 2 rfl
      obtain ⟨g0, g1, g2, g3, g4, glt⟩ := hB.cells 5 rfl
      go_wp2_with fail
      refine (d6.out _).mono ?_
      rintro e V ⟨rfl, VB⟩
      clear c0 c1 c2 c3 c4 clt f0 f1 f2 f3 f4 flt g0 g1 g2 g3 g4 glt
      replace hB := (hB.later VB).add u0 u1 u2 u3 u4
      clear VB
      obtain ⟨c0, c1, c2, c3, c4, clt⟩ := hB.cells 0 rfl
      go_wp2_with fail
      refine (d7.out _).mono ?_
      rintro e V ⟨rfl, VB⟩
      clear c0 c1 c2 c3 c4 clt
      replace hB := (hB.later VB).add v0 v1 v2 v3 v4
      clear VB
      obtain ⟨c0, c1, c2, c3, c4, clt⟩ := hB.cells 0 rfl
      obtain ⟨f0, f1, f2, f3, f4, flt⟩ := hB.cells 5 rfl
      go_wp2_with (go_at_call 20; refine (hw.out _).mono ?_; rintro e w6 ⟨rfl, hb6⟩; have hB6 := hB.later hb6)
      go_ret
      exact ⟨rfl, hB6.bel⟩
  · have bt : (t5 == 0) = false := by simpa using ht
    have bt1 : (t5 = 0) = False := eq_false ht
    have bt2 : decide (t5 = 0) = false := by simpa using ht
    clear ht hT
    rcases hcase2 with ⟨rfl, rfl, hv⟩ | hu | ⟨rfl, hv⟩
    · obtain ⟨rfl, rfl, rfl, rfl, rfl⟩ := Ct.mk.inj (hv rfl)
      clear hv
      have qv := eq_self v0 v1 v2 v3 v4
      go_enter Try.func9, Try.ntmps9
      have hB := hb0
      go_wp2_with fail
      refine (hM.out _).mono ?_
      rintro e V ⟨rfl, VB⟩
      replace hB := (hB.later VB)
      clear VB
      go_wp2_with fail
      refine (d0.out _).mono ?_
      rintro e V ⟨rfl, VB⟩
      replace hB := (hB.later VB).add k0 k1 k2 k3 k4
      clear VB
      obtain ⟨c0, c1, c2, c3, c4, clt⟩ := hB.cells 0 rfl
      go_wp2_with fail
      refine (d1.out _).mono ?_
      rintro e V ⟨rfl, VB⟩
      clear c0 c1 c2 c3 c4 clt
      replace hB := (hB.later VB).add x0 x1 x2 x3 x4
      clear VB
      obtain ⟨c0, c1, c2, c3, c4, clt⟩ := hB.cells 0 rfl
      go_wp2_with fail
      refine (d2.out _).mono ?_
      rintro e V ⟨rfl, VB⟩
      clear c0 c1 c2 c3 c4 clt
      replace hB := (hB.later VB).add v0 v1 v2 v3 v4
      clear VB
      obtain ⟨c0, c1, c2, c3, c4, clt⟩ := hB.cells 0 rfl
      go_wp2_with fail
      refine (d3.out _).mono ?_
      rintro e V ⟨rfl, VB⟩
      clear c0 c1 c2 c3 c4 clt
      replace hB := (hB.later VB).add z0 z1 z2 z3 z4
      clear VB
      obtain ⟨c0, c1, c2, c3, c4, clt⟩ := hB.cells 2 rfl
      go_wp2_with fail
      refine (s2.out _).mono ?_
      rintro e V ⟨rfl, VB⟩
      clear c0 c1 c2 c3 c4 clt
      replace hB := (hB.later VB).add s0 s1 s2' s3 s4
      clear VB
      obtain ⟨c0, c1, c2, c3, c4, clt⟩ := hB.cells 0 rfl
      go_wp2_with fail
      refine (d5.out _).mono ?_
      rintro e V ⟨rfl, VB⟩
      clear c0 c1 c2 c3 c4 clt
      replace hB := (hB.later VB).add t0 t1 t2 t3 t4
      clear VB
      obtain ⟨c0, c1, c2, c3, c4, clt⟩ := hB.cells 0 rfl
      obtain ⟨f0, f1, f2, f3, f4, flt⟩ := hB.cells 2 rfl
      obtain ⟨g0, g1, g2, g3, g4, glt⟩ := hB.cells 5 rfl
      go_wp2_with fail
      refine (d6.out _).mono ?_
      rintro e V ⟨rfl, VB⟩
      clear c0 c1 c2 c3 c4 clt f0 f1 f2 f3 f4 flt g0 g1 g2 g3 g4 glt
      replace hB := (hB.later VB).add u0 u1 u2 u3 u4
      clear VB
      obtain ⟨c0, c1, c2, c3, c4, clt⟩ := hB.cells 0 rfl
      go_wp2_with fail
      refine (d7.out _).mono ?_
      rintro e V ⟨rfl, VB⟩
      clear c0 c1 c2 c3 c4 clt
      replace hB := (hB.later VB).add v0 v1 v2 v3 v4
      clear VB
      obtain ⟨c0, c1, c2, c3, c4, clt⟩ := hB.cells 0 rfl
      obtain ⟨f0, f1, f2, f3, f4, flt⟩ := hB.cells 5 rfl
      go_wp2_with (go_at_call 20; refine (hw.out _).mono ?_; rintro e w6 ⟨rfl, hb6⟩; have hB6 := hB.later hb6)
      go_ret
      exact ⟨rfl, hB6.bel⟩
    · have bu : (u5 == 0) = false := by simpa using hu
      have bu1 : (u5 = 0) = False := eq_false hu
      have bu2 : decide (u5 = 0) = false := by simpa using hu
      clear hu
      go_enter Try.func9, Try.ntmps9
      have hB := hb0
      go_wp2_with fail
      refine (hM.out _).mono ?_
      rintro e V ⟨rfl, VB⟩
      replace hB := (hB.later VB)
      clear VB
      go_wp2_with fail
      refine (d0.out _).mono ?_
      rintro e V ⟨rfl, VB⟩
      replace hB := (hB.later VB).add k0 k1 k2 k3 k4
      clear VB
      obtain ⟨c0, c1, c2, c3, c4, clt⟩ := hB.cells 0 rfl
      go_wp2_with fail
      refine (d1.out _).mono ?_
      rintro e V ⟨rfl, VB⟩
      clear c0 c1 c2 c3 c4 clt
      replace hB := (hB.later VB).add x0 x1 x2 x3 x4
      clear VB
      obtain ⟨c0, c1, c2, c3, c4, clt⟩ := hB.cells 0 rfl
      go_wp2_with fail
      refine (d2.out _).mono ?_
      rintro e V ⟨rfl, VB⟩
      clear c0 c1 c2 c3 c4 clt
      replace hB := (hB.later VB).add y0 y1 y2 y3 y4
      clear VB
      obtain ⟨c0, c1, c2, c3, c4, clt⟩ := hB.cells 0 rfl
      go_wp2_with fail
      refine (d3.out _).mono ?_
      rintro e V ⟨rfl, VB⟩
      clear c0 c1 c2 c3 c4 clt
      replace hB := (hB.later VB).add z0 z1 z2 z3 z4
      clear VB
      obtain ⟨c0, c1, c2, c3, c4, clt⟩ := hB.cells 2 rfl
      go_wp2_with fail
      refine (s2.out _).mono ?_
      rintro e V ⟨rfl, VB⟩
      clear c0 c1 c2 c3 c4 clt
      replace hB := (hB.later VB).add s0 s1 s2' s3 s4
      clear VB
      obtain ⟨c0, c1, c2, c3, c4, clt⟩ := hB.cells 0 rfl
      go_wp2_with fail
      refine (d5.out _).mono ?_
      rintro e V ⟨rfl, VB⟩
      clear c0 c1 c2 c3 c4 clt
      replace hB := (hB.later VB).add t0 t1 t2 t3 t4
      clear VB
      obtain ⟨c0, c1, c2, c3, c4, clt⟩ := hB.cells 0 rfl
      obtain ⟨f0, f1, f2, f3, f4, flt⟩ := hB.cells 2 rfl
      obtain ⟨g0, g1, g2, g3, g4, glt⟩ := hB.cells 5 rfl
      go_wp2_with fail
      refine (d6.out _).mono ?_
      rintro e V ⟨rfl, VB⟩
      clear c0 c1 c2 c3 c4 clt f0 f1 f2 f3 f4 flt g0 g1 g2 g3 g4 glt
      replace hB := (hB.later VB).add u0 u1 u2 u3 u4
      clear VB
      obtain ⟨c0, c1, c2, c3, c4, clt⟩ := hB.cells 0 rfl
      go_wp2_with fail
      refine (d7.out _).mono ?_
      rintro e V ⟨rfl, VB⟩
      clear c0 c1 c2 c3 c4 clt
      replace hB := (hB.later VB).add v0 v1 v2 v3 v4
      clear VB
      obtain ⟨c0, c1, c2, c3, c4, clt⟩ := hB.cells 0 rfl
      obtain ⟨f0, f1, f2, f3, f4, flt⟩ := hB.cells 5 rfl
      go_wp2_with (go_at_call 20; refine (hw.out _).mono ?_; rintro e w6 ⟨rfl, hb6⟩; have hB6 := hB.later hb6)
      go_ret
      exact ⟨rfl, hB6.bel⟩
    · have bv : (v5 == 0) = false := by simpa using hv
      have bv1 : (v5 = 0) = False := eq_false hv
      have bv2 : decide (v5 = 0) = false := by simpa using hv
      clear hv
      go_enter Try.func9, Try.ntmps9
      have hB := hb0
      go_wp2_with fail
      refine (hM.out _).mono ?_
      rintro e V ⟨rfl, VB⟩
      replace hB := (hB.later VB)
      clear VB
      go_wp2_with fail
      refine (d0.out _).mono ?_
      rintro e V ⟨rfl, VB⟩
      replace hB := (hB.later VB).add k0 k1 k2 k3 k4
      clear VB
      obtain ⟨c0, c1, c2, c3, c4, clt⟩ := hB.cells 0 rfl
      go_wp2_with fail
      refine (d1.out _).mono ?_
      rintro e V ⟨rfl, VB⟩
      clear c0 c1 c2 c3 c4 clt
      replace hB := (hB.later VB).add x0 x1 x2 x3 x4
      clear VB
      obtain ⟨c0, c1, c2, c3, c4, clt⟩ := hB.cells 0 rfl
      go_wp2_with fail
      refine (d2.out _).mono ?_
      rintro e V ⟨rfl, VB⟩
      clear c0 c1 c2 c3 c4 clt
      replace hB := (hB.later VB).add y0 y1 y2 y3 y4
      clear VB
      obtain ⟨c0, c1, c2, c3, c4, clt⟩ := hB.cells 0 rfl
      go_wp2_with fail
      refine (d3.out _).mono ?_
      rintro e V ⟨rfl, VB⟩
      clear c0 c1 c2 c3 c4 clt
      replace hB := (hB.later VB).add z0 z1 z2 z3 z4
      clear VB
      obtain ⟨c0, c1, c2, c3, c4, clt⟩ := hB.cells 2 rfl
      go_wp2_with fail
      refine (s2.out _).mono ?_
      rintro e V ⟨rfl, VB⟩
      clear c0 c1 c2 c3 c4 clt
      replace hB := (hB.later VB).add s0 s1 s2' s3 s4
      clear VB
      obtain ⟨c0, c1, c2, c3, c4, clt⟩ := hB.cells 0 rfl
      go_wp2_with fail
      refine (d5.out _).mono ?_
      rintro e V ⟨rfl, VB⟩
      clear c0 c1 c2 c3 c4 clt
      replace hB := (hB.later VB).add t0 t1 t2 t3 t4
      clear VB
      obtain ⟨c0, c1, c2, c3, c4, clt⟩ := hB.cells 0 rfl
      obtain ⟨f0, f1, f2, f3, f4, flt⟩ := hB.cells 2 rfl
      obtain ⟨g0, g1, g2, g3, g4, glt⟩ := hB.cells 5 rfl
      go_wp2_with fail
      refine (d6.out _).mono ?_
      rintro e V ⟨rfl, VB⟩
      clear c0 c1 c2 c3 c4 clt f0 f1 f2 f3 f4 flt g0 g1 g2 g3 g4 glt
      replace hB := (hB.later VB).add u0 u1 u2 u3 u4
      clear VB
      obtain ⟨c0, c1, c2, c3, c4, clt⟩ := hB.cells 0 rfl
      go_wp2_with fail
      refine (d7.out _).mono ?_
      rintro e V ⟨rfl, VB⟩
      clear c0 c1 c2 c3 c4 clt
      replace hB := (hB.later VB).add v0 v1 v2 v3 v4
      clear VB
      obtain ⟨c0, c1, c2, c3, c4, clt⟩ := hB.cells 0 rfl
      obtain ⟨f0, f1, f2, f3, f4, flt⟩ := hB.cells 5 rfl
      go_wp2_with (go_at_call 20; refine (hw.out _).mono ?_; rintro e w6 ⟨rfl, hb6⟩; have hB6 := hB.later hb6)
      go_ret
      exact ⟨rfl, hB6.bel⟩
theorem w_countOrders (pv pu pd pb po a b n : Int) (f : Bool) (w : World) {P : Prop} (w0 : I32 pv ∧ U16 pu ∧ U16 pd ∧ U16 pb ∧ U16 po) (w1 : (Lit.int .i16 a).wf = true) (w2 : (Lit.int .i16 b).wf = true) (w3 : (Lit.int .i16 n).wf = true) (w4 : P) :
    Calls Try.prog 9 #[pA pv pu pd pb po, .int .i16 a, .int .i16 b, .int .i16 n, .bool f] w fun e w' => e = .returned (.bool true) ∧ Below w.heap.size w w' := by
  have h1 := bounds_i16 w1
  have h2 := bounds_i16 w2
  have h3 := bounds_i16 w3
  cases f
  · exact orders_false pv pu pd pb po a b n w w0 h1 h2 h3
  · exact orders_true pv pu pd pb po a b n w w0 h1 h2 h3
end Go.Proofs.Ytodgnhkaglcjnaa.Cnt
