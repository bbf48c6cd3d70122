/- The walk of IdentNumbers. -/
import Derived.Test.YtllhgjenkchniaaDoorI22
namespace Go.Proofs.YtllhgjenkchniaaDoor.Ident
open Go.RowKit Go.Lib
set_option linter.unusedVariables false
set_option linter.unusedSimpArgs false
set_option maxRecDepth 20000

theorem numbers_go (a b p m : Int) (i : Bool) (g n : Int) (h0 : -9223372036854775808 ≤ n) (h1 : n ≤ 9223372036854775807) (w : World) (hH : Hv w) :
    Calls Tryd.prog 5 #[.agg #[.int .i64 a, .int .i64 b, .int .i64 p, .int .i64 m, .bool i, .int .i64 g], .int .i64 n] w fun e w' => e = .returned (.bool true) ∧ Below w.heap.size w w' := by
  have hN : ∀ W, Hv W → Calls Tryd.prog 26 #[.agg #[.int .i64 a, .int .i64 b, .int .i64 p, .int .i64 m, .bool i, .int .i64 g]] W fun e w' => e = .returned (.tuple #[.int .i64 (nmI ⟨a, b, p, m, i, g⟩), .int .i64 (ckI ⟨a, b, p, m, i, g⟩)]) ∧ Below W.heap.size W w' := fun W hW => number_it ⟨a, b, p, m, i, g⟩ W hW
  have hR : ∀ W, Hv W → Calls Tryd.prog 27 #[.agg #[.int .i64 a, .int .i64 b, .int .i64 p, .int .i64 m, .bool i, .int .i64 g]] W fun e w' => e = .returned (.tuple #[.int .i64 (nmI ⟨a, b, p, m, i, g⟩), .int .i64 (ckI ⟨a, b, p, m, i, g⟩)]) ∧ Below W.heap.size W w' := fun W hW => ref_number_it ⟨a, b, p, m, i, g⟩ W hW
  have hF := fun W => from_any n h0 h1 W
  have hG := fun W => ref_from n W
  generalize nmI ⟨a, b, p, m, i, g⟩ = u at *
  generalize ckI ⟨a, b, p, m, i, g⟩ = c at *
  generalize frC n = d at *
  obtain ⟨x, hx⟩ : ∃ x, frX n = x := ⟨_, rfl⟩
  rw [hx] at hF hG
  clear hx
  obtain ⟨xa, xb, xp, xm, xi, xg⟩ := x
  unfold itV at hF hG
  dsimp only at hF hG
  replace hF := Lib.hid hF
  replace hG := Lib.hid hG
  replace hN := Lib.hid hN
  replace hR := Lib.hid hR
  have hq1 : (xi == xi) = true := by simp
  go_enter Tryd.func5, Tryd.ntmps5
  have b0 := alloc_b w (.cells #[.int .i64 a, .int .i64 b, .int .i64 p, .int .i64 m, .bool i, .int .i64 g] TI)
  have X0 := Lib.hid (kp_new w #[.int .i64 a, .int .i64 b, .int .i64 p, .int .i64 m, .bool i, .int .i64 g] TI)
  replace b0 := Lib.hid b0
  go_wp2_with fail
  refine (hN.out _ (hH.later b0.out)).mono ?_
  rintro e w1 ⟨rfl, hb1⟩
  have B1 := Lib.hid (below2 b0.out hb1)
  have X1 := X0.out.later hb1
  obtain ⟨z0, z1, z2, z3, z4, z5, _⟩ := ib_cells (x := ⟨a, b, p, m, i, g⟩) X1
  clear hb1 X0 X1
  go_wp2_with fail
  clear z0 z1 z2 z3 z4 z5
  refine (hR.out _ (hH.later B1.out)).mono ?_
  rintro e w2 ⟨rfl, hb2⟩
  have B2 := Lib.hid (below2 B1.out hb2)
  clear B1 hb2
  go_wp2_with fail
  refine (hF.out _).mono ?_
  rintro e w3 ⟨rfl, hb3⟩
  have b3 := alloc_b w3 (.cells #[.int .i64 xa, .int .i64 xb, .int .i64 xp, .int .i64 xm, .bool xi, .int .i64 xg] TI)
  have B3 := Lib.hid (below2 (below2 B2.out hb3) b3)
  have X3 := Lib.hid (kp_new w3 #[.int .i64 xa, .int .i64 xb, .int .i64 xp, .int .i64 xm, .bool xi, .int .i64 xg] TI)
  clear B2 hb3 b3
  go_wp2_with fail
  refine (hG.out _).mono ?_
  rintro e w4 ⟨rfl, hb4⟩
  have b4 := alloc_b w4 (.cells #[.int .i64 xa, .int .i64 xb, .int .i64 xp, .int .i64 xm, .bool xi, .int .i64 xg] TI)
  have B4 := Lib.hid (below2 (below2 B3.out hb4) b4)
  have X4 := (X3.out.later hb4).later b4
  obtain ⟨z0, z1, z2, z3, z4, z5, _⟩ := ib_cells (x := ⟨xa, xb, xp, xm, xi, xg⟩) X4
  clear B3 hb4 b4 X3 X4
  go_wp2_with fail
  refine (works_any _ (hH.later B4.out)).mono ?_
  rintro e w5 ⟨rfl, hb5⟩
  have B5 := below2 B4.out hb5
  go_wp2
  go_ret
  exact ⟨rfl, B5⟩

/-! The document's Order and Name; the walk of IdentOrders. -/
theorem ref_compare (x y : Int) (w : World) : Calls Tryd.prog 51 #[.int .i64 x, .int .i64 y] w fun e w' => e = .returned (.int .i64 (compareInt x y)) ∧ w = w' := by
  rcases Int.lt_trichotomy x y with h | h | h
  · have d1 : decide (x < y) = true := by simpa using h
    have e := Lib.hid (show compareInt x y = -1 from if_pos h)
    go_enter Tryd.func51, Tryd.ntmps51
    go_wp2
    go_ret
    exact ⟨by rw [e.out]; rfl, rfl⟩
  · subst h
    have e := Lib.hid (show compareInt x x = 0 by unfold compareInt; rw [if_neg (by omega), if_neg (by omega)])
    have d1 : decide (x < x) = false := by simp
    go_enter Tryd.func51, Tryd.ntmps51
    go_wp2
    go_ret
    exact ⟨by rw [e.out]; rfl, rfl⟩
  · have d1 : decide (x < y) = false := by simp; omega
    have d2 : decide (y < x) = true := by simpa using h
    have e := Lib.hid (show compareInt x y = 1 by unfold compareInt; rw [if_neg (by omega), if_pos h])
    go_enter Tryd.func51, Tryd.ntmps51
    go_wp2
    go_ret
    exact ⟨by rw [e.out]; rfl, rfl⟩
theorem cmp_zero (x y : Int) : (compareInt x y = 0 ↔ x = y) := by unfold compareInt; split <;> (try split) <;> omega
theorem ord_1 {a b p x y z : Int} (h : a ≠ x) : ordV a b p x y z = compareInt a x := by unfold ordV orV; rw [if_neg (fun e => h ((cmp_zero _ _).1 e))]
theorem ord_2 {b p x y z : Int} (h : b ≠ y) : ordV x b p x y z = compareInt b y := by unfold ordV orV; rw [if_pos ((cmp_zero _ _).2 rfl), if_neg (fun e => h ((cmp_zero _ _).1 e))]
theorem ord_3 {p x y z : Int} : ordV x y p x y z = compareInt p z := by unfold ordV orV; rw [if_pos ((cmp_zero _ _).2 rfl), if_pos ((cmp_zero _ _).2 rfl)]
theorem ref_order (a b p x y z : Int) (w : World) :
    Calls Tryd.prog 33 #[.agg #[.int .i64 a, .int .i64 b, .int .i64 p], .agg #[.int .i64 x, .int .i64 y, .int .i64 z]] w fun e w' => e = .returned (.int .i64 (ordV a b p x y z)) ∧ Below w.heap.size w w' := by
  have O0 := oat_new w a b p x y z
  have hC := Lib.hid (fun u v W => ref_compare u v W)
  by_cases h1 : a = x
  · subst h1
    by_cases h2 : b = y
    · subst h2
      rw [ord_3]
      go_enter Tryd.func33, Tryd.ntmps33
      go_wp2_with (go_at_call 51; refine (hC.out _ _ _).mono ?_; rintro e w' ⟨rfl, rfl⟩)
      go_ret
      exact ⟨rfl, O0.bel⟩
    · rw [ord_2 h2]
      have d2 : (b == y) = false := by simpa using h2
      go_enter Tryd.func33, Tryd.ntmps33
      go_wp2_with (go_at_call 51; refine (hC.out _ _ _).mono ?_; rintro e w' ⟨rfl, rfl⟩)
      go_ret
      exact ⟨rfl, O0.bel⟩
  · rw [ord_1 h1]
    have d1 : (a == x) = false := by simpa using h1
    go_enter Tryd.func33, Tryd.ntmps33
    go_wp2_with (go_at_call 51; refine (hC.out _ _ _).mono ?_; rintro e w' ⟨rfl, rfl⟩)
    go_ret
    exact ⟨rfl, O0.bel⟩
end Go.Proofs.YtllhgjenkchniaaDoor.Ident
