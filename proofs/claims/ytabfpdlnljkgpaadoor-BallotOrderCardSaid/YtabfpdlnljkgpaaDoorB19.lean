/- The walk of BallotOrder. -/
import Derived.Test.YtabfpdlnljkgpaaDoorB17
import Derived.Test.YtabfpdlnljkgpaaDoorB11
import Derived.Test.YtabfpdlnljkgpaaDoorB09
namespace Go.Proofs.YtabfpdlnljkgpaaDoor.Bal
open Go.RowKit Go.Lib
set_option linter.unusedVariables false
set_option linter.unusedSimpArgs false
set_option maxRecDepth 20000

theorem ord_zero {a b x y : Int} : ordV a b x y = 0 ↔ (a = x ∧ b = y) := by
  unfold ordV fdV compareInt
  by_cases h1 : a < x
  · simp [h1]; omega
  · by_cases h2 : x < a
    · simp [h1, h2]; omega
    · have h3 : a = x := by omega
      subst h3
      by_cases h4 : b < y
      · simp [h4]; omega
      · by_cases h5 : y < b
        · simp [h4, h5]; omega
        · simp [h4, h5]; omega
theorem ord_rng (a b x y : Int) : ordV a b x y = -1 ∨ ordV a b x y = 0 ∨ ordV a b x y = 1 := by
  unfold ordV fdV compareInt
  by_cases h1 : a < x
  · simp [h1]
  · by_cases h2 : x < a
    · simp [h1, h2]
    · by_cases h4 : b < y
      · simp [h1, h2, h4]
      · by_cases h5 : y < b
        · simp [h1, h2, h4, h5]
        · simp [h1, h2, h4, h5]
theorem ord_le {a b x y : Int} : ordV a b x y ≤ 0 ↔ (a < x ∨ (a = x ∧ b ≤ y)) := by
  have h1 := ord_lt (a := a) (b := b) (x := x) (y := y)
  have h2 := ord_zero (a := a) (b := b) (x := x) (y := y)
  omega
theorem ord_min {a0 a1 b0 b1 c0 c1 : Int} (h1 : ordV a0 a1 b0 b1 ≤ 0) (h2 : ordV b0 b1 c0 c1 ≤ 0) : ordV a0 a1 c0 c1 = min (ordV a0 a1 b0 b1) (ordV b0 b1 c0 c1) := by
  have l1 := ord_lt (a := a0) (b := a1) (x := b0) (y := b1)
  have l2 := ord_lt (a := b0) (b := b1) (x := c0) (y := c1)
  have l3 := ord_lt (a := a0) (b := a1) (x := c0) (y := c1)
  have z1 := ord_zero (a := a0) (b := a1) (x := b0) (y := b1)
  have z2 := ord_zero (a := b0) (b := b1) (x := c0) (y := c1)
  have z3 := ord_zero (a := a0) (b := a1) (x := c0) (y := c1)
  have r1 := ord_rng a0 a1 b0 b1
  have r2 := ord_rng b0 b1 c0 c1
  have r3 := ord_rng a0 a1 c0 c1
  generalize ordV a0 a1 b0 b1 = x at *
  generalize ordV b0 b1 c0 c1 = y at *
  generalize ordV a0 a1 c0 c1 = z at *
  omega
theorem mx3 (a b c : Int × Int) : mxL [a, b, c] = mxF (mxF a b) c := rfl
theorem mxF_or (m x : Int × Int) : mxF m x = m ∨ mxF m x = x := by unfold mxF; split <;> simp
theorem mxF_ge (m x : Int × Int) : 0 ≤ ordV (mxF m x).1 (mxF m x).2 m.1 m.2 ∧ 0 ≤ ordV (mxF m x).1 (mxF m x).2 x.1 x.2 := by
  unfold mxF
  split
  · rename_i h
    exact ⟨by omega, by rw [ord_zero.2 ⟨rfl, rfl⟩]; omega⟩
  · rename_i h
    refine ⟨by rw [ord_zero.2 ⟨rfl, rfl⟩]; omega, ?_⟩
    have := ord_anti x.1 x.2 m.1 m.2
    omega
theorem ord_tr {a b x y u v : Int} (h1 : 0 ≤ ordV a b x y) (h2 : 0 ≤ ordV x y u v) : 0 ≤ ordV a b u v := by
  have e1 := ord_anti a b x y
  have e2 := ord_anti x y u v
  have e3 := ord_anti a b u v
  have l1 := ord_le (a := x) (b := y) (x := a) (y := b)
  have l2 := ord_le (a := u) (b := v) (x := x) (y := y)
  have l3 := ord_le (a := u) (b := v) (x := a) (y := b)
  omega
theorem mx3_ge (a b c : Int × Int) : 0 ≤ ordV (mxL [a, b, c]).1 (mxL [a, b, c]).2 a.1 a.2 ∧ 0 ≤ ordV (mxL [a, b, c]).1 (mxL [a, b, c]).2 b.1 b.2 ∧ 0 ≤ ordV (mxL [a, b, c]).1 (mxL [a, b, c]).2 c.1 c.2 := by
  rw [mx3]
  obtain ⟨h1, h2⟩ := mxF_ge a b
  obtain ⟨h3, h4⟩ := mxF_ge (mxF a b) c
  exact ⟨ord_tr h3 h1, ord_tr h3 h2, h4⟩
theorem mx3_or (a b c : Int × Int) : mxL [a, b, c] = a ∨ mxL [a, b, c] = b ∨ mxL [a, b, c] = c := by
  rw [mx3]
  rcases mxF_or (mxF a b) c with h | h
  · rw [h]
    rcases mxF_or a b with h' | h'
    · exact .inl h'
    · exact .inr (.inl h')
  · exact .inr (.inr h)
theorem bs_three (W : World) (a0 a1 b0 b1 c0 c1 : Int) : Bs (W.alloc (.cells #[.int .i64 a0, .int .i64 a1, .int .i64 b0, .int .i64 b1, .int .i64 c0, .int .i64 c1] TB)) (.slice (some ⟨W.heap.size, 0, none⟩) 3 3) [(a0, a1), (b0, b1), (c0, c1)] := by
  refine ⟨_, 3, rfl, fun _ => ⟨_, 0, rfl, ?_⟩⟩
  intro i x hx
  have hi : i < 3 := (List.getElem?_eq_some_iff.1 hx).1
  obtain rfl | rfl | rfl : i = 0 ∨ i = 1 ∨ i = 2 := by omega
  · cases hx
    exact ⟨cell_of_row _ _ 0 _ _ _ (heap_alloc_new _ _), cell_of_row _ _ 1 _ _ _ (heap_alloc_new _ _)⟩
  · cases hx
    exact ⟨cell_of_row _ _ 2 _ _ _ (heap_alloc_new _ _), cell_of_row _ _ 3 _ _ _ (heap_alloc_new _ _)⟩
  · cases hx
    exact ⟨cell_of_row _ _ 4 _ _ _ (heap_alloc_new _ _), cell_of_row _ _ 5 _ _ _ (heap_alloc_new _ _)⟩
/-- The three ballots in their boxes. -/
structure T3 (w : World) (a0 a1 b0 b1 c0 c1 : Int) (W : World) : Prop where
  p1 : Bx w w.heap.size a0 a1 W
  p2 : Bx w (w.heap.size + 1) b0 b1 W
  p3 : Bx w (w.heap.size + 1 + 1) c0 c1 W
theorem T3.later {w W W' : World} {a0 a1 b0 b1 c0 c1 : Int} (h : T3 w a0 a1 b0 b1 c0 c1 W) (hb : Below W.heap.size W W') : T3 w a0 a1 b0 b1 c0 c1 W' := ⟨h.p1.later hb, h.p2.later hb, h.p3.later hb⟩
theorem T3.cells {w W : World} {a0 a1 b0 b1 c0 c1 : Int} (h : T3 w a0 a1 b0 b1 c0 c1 W) :
    W.cell? ⟨w.heap.size, 0, none⟩ = some (.int .i64 a0) ∧ W.cell? ⟨w.heap.size, 1, none⟩ = some (.int .i64 a1) ∧ W.cell? ⟨w.heap.size + 1, 0, none⟩ = some (.int .i64 b0) ∧ W.cell? ⟨w.heap.size + 1, 1, none⟩ = some (.int .i64 b1) ∧
    W.cell? ⟨w.heap.size + 1 + 1, 0, none⟩ = some (.int .i64 c0) ∧ W.cell? ⟨w.heap.size + 1 + 1, 1, none⟩ = some (.int .i64 c1) :=
  ⟨h.p1.cells.1, h.p1.cells.2.1, h.p2.cells.1, h.p2.cells.2.1, h.p3.cells.1, h.p3.cells.2.1⟩
theorem t3_new (w : World) (a0 a1 b0 b1 c0 c1 : Int) : T3 w a0 a1 b0 b1 c0 c1 (((w.alloc (.cells #[.int .i64 a0, .int .i64 a1] TB)).alloc (.cells #[.int .i64 b0, .int .i64 b1] TB)).alloc (.cells #[.int .i64 c0, .int .i64 c1] TB)) := by
  have h2 := bx_new2 w (.cells #[.int .i64 a0, .int .i64 a1] TB) b0 b1
  have h3 := bx_at h2.bel c0 c1
  have hs : ((w.alloc (.cells #[.int .i64 a0, .int .i64 a1] TB)).alloc (.cells #[.int .i64 b0, .int .i64 b1] TB)).heap.size = w.heap.size + 1 + 1 := by
    show ((w.heap.push _).push _).size = _
    rw [Array.size_push, Array.size_push]
  rw [hs] at h3
  exact ⟨((bx_new w a0 a1).alloc _).alloc _, h2.alloc _, h3⟩
set_option maxHeartbeats 8000000 in
theorem order_go (a0 a1 b0 b1 c0 c1 : Int) (w : World) (hH : Hv w) :
    Calls Tryd.prog 7 #[.agg #[.int .i64 a0, .int .i64 a1], .agg #[.int .i64 b0, .int .i64 b1], .agg #[.int .i64 c0, .int .i64 c1]] w fun e w' => e = .returned (.bool true) ∧ Below w.heap.size w w' := by
  have hx := t3_new w a0 a1 b0 b1 c0 c1
  obtain ⟨k0, k1, k2, k3, k4, k5⟩ := hx.cells
  have o1 := fun W => order_any a0 a1 b0 b1 W
  have o2 := fun W => order_any b0 b1 c0 c1 W
  have o3 := fun W => order_any b0 b1 a0 a1 W
  rw [ord_anti a0 a1 b0 b1] at o3
  have o4 := fun W => order_any a0 a1 a0 a1 W
  rw [ord_zero.2 ⟨rfl, rfl⟩] at o4
  have o5 := fun W => order_any a0 a1 c0 c1 W
  have hmin := fun h1 h2 => ord_min (a0 := a0) (a1 := a1) (b0 := b0) (b1 := b1) (c0 := c0) (c1 := c1) h1 h2
  have hq := fun W => eq_b a0 a1 b0 b1 W
  have hz : (ordV a0 a1 b0 b1 == 0) = eqB a0 a1 b0 b1 := by
    unfold eqB
    rw [Bool.eq_iff_iff, beq_iff_eq, decide_eq_true_iff]
    exact ord_zero
  have hz2 : decide (ordV a0 a1 b0 b1 = 0) = eqB a0 a1 b0 b1 := by rw [← hz]; rfl
  have hr := ord_rng a0 a1 b0 b1
  have hM := fun W v h => max_any v [(a0, a1), (b0, b1), (c0, c1)] W h (by simp)
  have hB := fun W => bs_three W a0 a1 b0 b1 c0 c1
  obtain ⟨g1, g2, g3⟩ := mx3_ge (a0, a1) (b0, b1) (c0, c1)
  have hor := mx3_or (a0, a1) (b0, b1) (c0, c1)
  generalize mxL [(a0, a1), (b0, b1), (c0, c1)] = m at *
  obtain ⟨m0, m1⟩ := m
  simp only [Prod.mk.injEq] at hor g1 g2 g3 hM
  have p1 := fun W => order_any m0 m1 a0 a1 W
  have p2 := fun W => order_any m0 m1 b0 b1 W
  have p3 := fun W => order_any m0 m1 c0 c1 W
  have q1 := fun W => eq_b m0 m1 a0 a1 W
  have q2 := fun W => eq_b m0 m1 b0 b1 W
  have q3 := fun W => eq_b m0 m1 c0 c1 W
  generalize ordV m0 m1 a0 a1 = u1 at *
  generalize ordV m0 m1 b0 b1 = u2 at *
  generalize ordV m0 m1 c0 c1 = u3 at *
  generalize ordV a0 a1 b0 b1 = x at *
  generalize ordV b0 b1 c0 c1 = y at *
  generalize ordV a0 a1 c0 c1 = z at *
  generalize eqB a0 a1 b0 b1 = zb at *
  have d1 : ¬ x < -1 := by omega
  have d2 : ¬ 1 < x := by omega
  have d3 : IntKind.i64.wrap (-x) = -x := wr (by omega) (by omega)
  replace o1 := Lib.hid o1
  replace o2 := Lib.hid o2
  replace o3 := Lib.hid o3
  replace o4 := Lib.hid o4
  replace hM := Lib.hid hM
  replace hB := Lib.hid hB
  replace p1 := Lib.hid p1
  replace p2 := Lib.hid p2
  replace p3 := Lib.hid p3
  replace hx := Lib.hid hx
  clear hr
  have hs : (x ≤ 0 ∧ y ≤ 0 ∧ z = min x y) ∨ (x ≤ 0 ∧ ¬ y ≤ 0) ∨ ¬ x ≤ 0 := by
    by_cases h1 : x ≤ 0
    · by_cases h2 : y ≤ 0
      · exact .inl ⟨h1, h2, hmin h1 h2⟩
      · exact .inr (.inl ⟨h1, h2⟩)
    · exact .inr (.inr h1)
  clear hmin
  have ht : (eqB m0 m1 a0 a1 = true) ∨ (eqB m0 m1 a0 a1 = false ∧ eqB m0 m1 b0 b1 = true) ∨ (eqB m0 m1 a0 a1 = false ∧ eqB m0 m1 b0 b1 = false ∧ eqB m0 m1 c0 c1 = true) := by
    cases h1 : eqB m0 m1 a0 a1
    · cases h2 : eqB m0 m1 b0 b1
      · refine .inr (.inr ⟨rfl, rfl, ?_⟩)
        rcases hor with h | h | h
        · rw [eqB_t h] at h1; cases h1
        · rw [eqB_t h] at h2; cases h2
        · exact eqB_t h
      · exact .inr (.inl ⟨rfl, rfl⟩)
    · exact .inl rfl
  clear hor
  rcases hs with ⟨s1, s2, rfl⟩ | hs
  · replace o5 := Lib.hid o5
    rcases ht with t1 | ⟨t1, t2⟩ | ⟨t1, t2, t3⟩
    all_goals
      (try rw [t1] at q1)
      (try rw [t2] at q2)
      (try rw [t3] at q3)
      go_enter Tryd.func7, Tryd.ntmps7
      go_wp2_with fail
      refine (o1.out _).mono ?_
      rintro e w1 ⟨rfl, hb1⟩
      have hx1 := hx.out.later hb1
      obtain ⟨i0, i1, i2, i3, i4, i5⟩ := hx1.cells
      clear hb1 k0 k1 k2 k3 k4 k5 hx
      replace hx1 := Lib.hid hx1
      go_wp2_with fail
      refine (o2.out _).mono ?_
      rintro e w2 ⟨rfl, hb2⟩
      have hx2 := hx1.out.later hb2
      obtain ⟨k0, k1, k2, k3, k4, k5⟩ := hx2.cells
      clear hb2 i0 i1 i2 i3 i4 i5 hx1
      replace hx2 := Lib.hid hx2
      go_wp2_with fail
      refine (o3.out _).mono ?_
      rintro e w3 ⟨rfl, hb3⟩
      have hx3 := hx2.out.later hb3
      obtain ⟨i0, i1, i2, i3, i4, i5⟩ := hx3.cells
      clear hb3 k0 k1 k2 k3 k4 k5 hx2
      replace hx3 := Lib.hid hx3
      go_wp2_with fail
      refine (o4.out _).mono ?_
      rintro e w4 ⟨rfl, hb4⟩
      have hx4 := hx3.out.later hb4
      obtain ⟨k0, k1, k2, k3, k4, k5⟩ := hx4.cells
      clear hb4 i0 i1 i2 i3 i4 i5 hx3
      replace hx4 := Lib.hid hx4
      go_wp2_with fail
      refine (o5.out _).mono ?_
      rintro e w5 ⟨rfl, hb5⟩
      have hx5 := hx4.out.later hb5
      obtain ⟨i0, i1, i2, i3, i4, i5⟩ := hx5.cells
      clear hb5 k0 k1 k2 k3 k4 k5 hx4
      replace hx5 := Lib.hid hx5
      go_wp2_with fail
      have hl6 := hB.out w5
      refine (hM.out _ _ hl6).mono ?_
      rintro e w6 ⟨rfl, hb6⟩
      have hx6' := (hx5.out.later (alloc_b w5 _)).later hb6
      have hx6 := hx6'.later (alloc_b w6 (.cells #[.int .i64 m0, .int .i64 m1] TB))
      have hm6 := bx_at hx6'.p1.bel m0 m1
      obtain ⟨j0, j1, j2, j3, j4, j5⟩ := hx6.cells
      obtain ⟨j6, j7, _, _⟩ := hm6.cells
      clear hb6 hx6' hx5 i0 i1 i2 i3 i4 i5 hl6
      replace hx6 := Lib.hid hx6
      replace hm6 := Lib.hid hm6
      go_wp2_with fail
      refine (p1.out _).mono ?_
      rintro e w7 ⟨rfl, hb7⟩
      have hx7 := hx6.out.later hb7
      have hm7 := hm6.out.later hb7
      obtain ⟨l0, l1, l2, l3, l4, l5⟩ := hx7.cells
      obtain ⟨l6, l7, _, _⟩ := hm7.cells
      clear hb7 hx6 hm6 j0 j1 j2 j3 j4 j5 j6 j7
      replace hx7 := Lib.hid hx7
      replace hm7 := Lib.hid hm7
      go_wp2_with fail
      refine (p2.out _).mono ?_
      rintro e w8 ⟨rfl, hb8⟩
      have hx8 := hx7.out.later hb8
      have hm8 := hm7.out.later hb8
      obtain ⟨j0, j1, j2, j3, j4, j5⟩ := hx8.cells
      obtain ⟨j6, j7, _, _⟩ := hm8.cells
      clear hb8 hx7 hm7 l0 l1 l2 l3 l4 l5 l6 l7
      replace hx8 := Lib.hid hx8
      replace hm8 := Lib.hid hm8
      go_wp2_with fail
      refine (p3.out _).mono ?_
      rintro e w9 ⟨rfl, hb9⟩
      have hx9 := hx8.out.later hb9
      have hm9 := hm8.out.later hb9
      obtain ⟨l0, l1, l2, l3, l4, l5⟩ := hx9.cells
      obtain ⟨l6, l7, _, _⟩ := hm9.cells
      clear hb9 hx8 hm8 hx9 j0 j1 j2 j3 j4 j5 j6 j7
      replace hm9 := Lib.hid hm9
      go_wp2_with fail
      refine (works_any _ (hH.later hm9.out.bel)).mono ?_
      rintro e w10 ⟨rfl, hb10⟩
      have hz10 := below2 hm9.out.bel hb10
      clear hb10 hm9
      go_wp2
      go_ret
      exact ⟨rfl, hz10⟩
  · clear o5
    rcases hs with ⟨s1, s2⟩ | s1
    all_goals
     rcases ht with t1 | ⟨t1, t2⟩ | ⟨t1, t2, t3⟩
     all_goals
      (try rw [t1] at q1)
      (try rw [t2] at q2)
      (try rw [t3] at q3)
      go_enter Tryd.func7, Tryd.ntmps7
      go_wp2_with fail
      refine (o1.out _).mono ?_
      rintro e w1 ⟨rfl, hb1⟩
      have hx1 := hx.out.later hb1
      obtain ⟨i0, i1, i2, i3, i4, i5⟩ := hx1.cells
      clear hb1 k0 k1 k2 k3 k4 k5 hx
      replace hx1 := Lib.hid hx1
      go_wp2_with fail
      refine (o2.out _).mono ?_
      rintro e w2 ⟨rfl, hb2⟩
      have hx2 := hx1.out.later hb2
      obtain ⟨k0, k1, k2, k3, k4, k5⟩ := hx2.cells
      clear hb2 i0 i1 i2 i3 i4 i5 hx1
      replace hx2 := Lib.hid hx2
      go_wp2_with fail
      refine (o3.out _).mono ?_
      rintro e w3 ⟨rfl, hb3⟩
      have hx3 := hx2.out.later hb3
      obtain ⟨i0, i1, i2, i3, i4, i5⟩ := hx3.cells
      clear hb3 k0 k1 k2 k3 k4 k5 hx2
      replace hx3 := Lib.hid hx3
      go_wp2_with fail
      refine (o4.out _).mono ?_
      rintro e w4 ⟨rfl, hb4⟩
      have hx4 := hx3.out.later hb4
      obtain ⟨k0, k1, k2, k3, k4, k5⟩ := hx4.cells
      clear hb4 i0 i1 i2 i3 i4 i5 hx3
      replace hx4 := Lib.hid hx4
      go_wp2_with fail
      have hl6 := hB.out w4
      refine (hM.out _ _ hl6).mono ?_
      rintro e w6 ⟨rfl, hb6⟩
      have hx6' := (hx4.out.later (alloc_b w4 _)).later hb6
      have hx6 := hx6'.later (alloc_b w6 (.cells #[.int .i64 m0, .int .i64 m1] TB))
      have hm6 := bx_at hx6'.p1.bel m0 m1
      obtain ⟨j0, j1, j2, j3, j4, j5⟩ := hx6.cells
      obtain ⟨j6, j7, _, _⟩ := hm6.cells
      clear hb6 hx6' hx4 k0 k1 k2 k3 k4 k5 hl6
      replace hx6 := Lib.hid hx6
      replace hm6 := Lib.hid hm6
      go_wp2_with fail
      refine (p1.out _).mono ?_
      rintro e w7 ⟨rfl, hb7⟩
      have hx7 := hx6.out.later hb7
      have hm7 := hm6.out.later hb7
      obtain ⟨l0, l1, l2, l3, l4, l5⟩ := hx7.cells
      obtain ⟨l6, l7, _, _⟩ := hm7.cells
      clear hb7 hx6 hm6 j0 j1 j2 j3 j4 j5 j6 j7
      replace hx7 := Lib.hid hx7
      replace hm7 := Lib.hid hm7
      go_wp2_with fail
      refine (p2.out _).mono ?_
      rintro e w8 ⟨rfl, hb8⟩
      have hx8 := hx7.out.later hb8
      have hm8 := hm7.out.later hb8
      obtain ⟨j0, j1, j2, j3, j4, j5⟩ := hx8.cells
      obtain ⟨j6, j7, _, _⟩ := hm8.cells
      clear hb8 hx7 hm7 l0 l1 l2 l3 l4 l5 l6 l7
      replace hx8 := Lib.hid hx8
      replace hm8 := Lib.hid hm8
      go_wp2_with fail
      refine (p3.out _).mono ?_
      rintro e w9 ⟨rfl, hb9⟩
      have hx9 := hx8.out.later hb9
      have hm9 := hm8.out.later hb9
      obtain ⟨l0, l1, l2, l3, l4, l5⟩ := hx9.cells
      obtain ⟨l6, l7, _, _⟩ := hm9.cells
      clear hb9 hx8 hm8 hx9 j0 j1 j2 j3 j4 j5 j6 j7
      replace hm9 := Lib.hid hm9
      go_wp2_with fail
      refine (works_any _ (hH.later hm9.out.bel)).mono ?_
      rintro e w10 ⟨rfl, hb10⟩
      have hz10 := below2 hm9.out.bel hb10
      clear hb10 hm9
      go_wp2
      go_ret
      exact ⟨rfl, hz10⟩
theorem w_ballotOrder (a0 a1 b0 b1 c0 c1 : Int) (w : World) (w0 : True) (w1 : True) (w2 : True) (hH : Hv w) :
    Calls Tryd.prog 7 #[.agg #[.int .i64 a0, .int .i64 a1], .agg #[.int .i64 b0, .int .i64 b1], .agg #[.int .i64 c0, .int .i64 c1]] w fun e w' => e = .returned (.bool true) ∧ Below w.heap.size w w' := order_go a0 a1 b0 b1 c0 c1 w hH
end Go.Proofs.YtabfpdlnljkgpaaDoor.Bal
