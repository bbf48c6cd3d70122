/- The walks of NumClamps, NumExact and NumRing. -/
import Derived.Test.YthippkbaehcfeaaC07
namespace Go.Proofs.Ythippkbaehcfeaa.Num
open Go.RowKit Go.ChangeShapes
set_option linter.unusedVariables false

theorem clamp_is (a l h v e : Int) (hv : clV a l h = v) (he : clE l h = e) (w : World) :
    Calls Try.prog 27 #[.int .i64 a, .int .i64 l, .int .i64 h] w fun x w' => x = .returned (.tuple #[.int .i64 v, .int .i64 e]) ∧ w = w' := by
  rw [← hv, ← he]; exact clamp_any a l h w
theorem within_is (a l h : Int) (r : Bool) (hr : (decide (l ≤ a) && decide (a ≤ h)) = r) (w : World) :
    Calls Try.prog 29 #[.int .i64 a, .int .i64 l, .int .i64 h] w fun e w' => e = .returned (.bool r) ∧ w = w' := by
  rw [← hr]; exact within_any a l h w

/-- What is known of the nearest number x of the range from l to h, and of the range that is turned round. -/
structure Near (a l h x : Int) (i : Bool) : Prop where
  v : clV a l h = x
  e : clE l h = 0
  i1 : (decide (l ≤ a) && decide (a ≤ h)) = i
  i2 : (decide (l ≤ x) && decide (x ≤ h)) = true

theorem near_lo (a l h : Int) (hl : l ≤ h) (g : a < l) : Near a l h l false :=
  ⟨by unfold clV; rw [if_neg (by omega)]; omega, by unfold clE; rw [if_neg (by omega)], by simp; omega, by simp; omega⟩
theorem near_in (a l h : Int) (hl : l ≤ h) (g : l ≤ a) (g2 : a ≤ h) : Near a l h a true :=
  ⟨by unfold clV; rw [if_neg (by omega)]; omega, by unfold clE; rw [if_neg (by omega)], by simp; omega, by simp; omega⟩
theorem near_hi (a l h : Int) (hl : l ≤ h) (g : h < a) : Near a l h h false :=
  ⟨by unfold clV; rw [if_neg (by omega)]; omega, by unfold clE; rw [if_neg (by omega)], by simp; omega, by simp; omega⟩

set_option maxRecDepth 100000 in
set_option maxHeartbeats 1000000 in
theorem nc_lt_lo (a l h : Int) (w : World) (ho : l < h) (g : a < l) :
    Calls Try.prog 10 #[.int .i64 a, .int .i64 l, .int .i64 h] w fun e w' => e = .returned (.bool true) ∧ Below w.heap.size w w' := by
  have near := near_lo a l h (by omega) g
  have b1 : (l == a) = false := beq_eq_false_iff_ne.2 (by omega)
  have b2 : (l == h) = false := beq_eq_false_iff_ne.2 (by omega)
  have k1 := Lib.hid (show clV a h l = 0 by unfold clV; rw [if_pos ho])
  have k2 := Lib.hid (show clE h l = 2 by unfold clE; rw [if_pos ho])
  have k3 := Lib.hid (show (decide (h ≤ a) && decide (a ≤ l)) = false by simp; omega)
  go_enter Try.func10, Try.ntmps10
  go_wp2_with (first
    | (go_at_call 27; ((with_reducible refine (clamp_is a l h _ _ near.v near.e _).mono ?_)); rintro e w' ⟨rfl, rfl⟩)
    | (go_at_call 29; ((with_reducible refine (within_is a l h _ near.i1 _).mono ?_)); rintro e w' ⟨rfl, rfl⟩)
    | (go_at_call 29; ((with_reducible refine (within_is _ l h _ near.i2 _).mono ?_)); rintro e w' ⟨rfl, rfl⟩)
    | (go_at_call 27; ((with_reducible refine (clamp_is a h l 0 2 k1.out k2.out _).mono ?_)); rintro e w' ⟨rfl, rfl⟩)
    | (go_at_call 29; ((with_reducible refine (within_is a h l _ k3.out _).mono ?_)); rintro e w' ⟨rfl, rfl⟩)
    | (go_at_call 21; refine (works_any _).mono ?_; rintro e w' ⟨rfl, hb⟩))
  go_ret
  exact ⟨rfl, hb⟩

set_option maxRecDepth 100000 in
set_option maxHeartbeats 1000000 in
theorem nc_lt_in (a l h : Int) (w : World) (ho : l < h) (g : l ≤ a) (g2 : a ≤ h) :
    Calls Try.prog 10 #[.int .i64 a, .int .i64 l, .int .i64 h] w fun e w' => e = .returned (.bool true) ∧ Below w.heap.size w w' := by
  have near := near_in a l h (by omega) g g2
  have b2 : (l == h) = false := beq_eq_false_iff_ne.2 (by omega)
  have k1 := Lib.hid (show clV a h l = 0 by unfold clV; rw [if_pos ho])
  have k2 := Lib.hid (show clE h l = 2 by unfold clE; rw [if_pos ho])
  have k3 := Lib.hid (show (decide (h ≤ a) && decide (a ≤ l)) = false by simp; omega)
  go_enter Try.func10, Try.ntmps10
  go_wp2_with (first
    | (go_at_call 27; ((with_reducible refine (clamp_is a l h _ _ near.v near.e _).mono ?_)); rintro e w' ⟨rfl, rfl⟩)
    | (go_at_call 29; ((with_reducible refine (within_is a l h _ near.i1 _).mono ?_)); rintro e w' ⟨rfl, rfl⟩)
    | (go_at_call 29; ((with_reducible refine (within_is _ l h _ near.i2 _).mono ?_)); rintro e w' ⟨rfl, rfl⟩)
    | (go_at_call 27; ((with_reducible refine (clamp_is a h l 0 2 k1.out k2.out _).mono ?_)); rintro e w' ⟨rfl, rfl⟩)
    | (go_at_call 29; ((with_reducible refine (within_is a h l _ k3.out _).mono ?_)); rintro e w' ⟨rfl, rfl⟩)
    | (go_at_call 21; refine (works_any _).mono ?_; rintro e w' ⟨rfl, hb⟩))
  go_ret
  exact ⟨rfl, hb⟩

set_option maxRecDepth 100000 in
set_option maxHeartbeats 1000000 in
theorem nc_lt_hi (a l h : Int) (w : World) (ho : l < h) (g : h < a) :
    Calls Try.prog 10 #[.int .i64 a, .int .i64 l, .int .i64 h] w fun e w' => e = .returned (.bool true) ∧ Below w.heap.size w w' := by
  have near := near_hi a l h (by omega) g
  have b1 : (h == a) = false := beq_eq_false_iff_ne.2 (by omega)
  have b2 : (l == h) = false := beq_eq_false_iff_ne.2 (by omega)
  have k1 := Lib.hid (show clV a h l = 0 by unfold clV; rw [if_pos ho])
  have k2 := Lib.hid (show clE h l = 2 by unfold clE; rw [if_pos ho])
  have k3 := Lib.hid (show (decide (h ≤ a) && decide (a ≤ l)) = false by simp; omega)
  go_enter Try.func10, Try.ntmps10
  go_wp2_with (first
    | (go_at_call 27; ((with_reducible refine (clamp_is a l h _ _ near.v near.e _).mono ?_)); rintro e w' ⟨rfl, rfl⟩)
    | (go_at_call 29; ((with_reducible refine (within_is a l h _ near.i1 _).mono ?_)); rintro e w' ⟨rfl, rfl⟩)
    | (go_at_call 29; ((with_reducible refine (within_is _ l h _ near.i2 _).mono ?_)); rintro e w' ⟨rfl, rfl⟩)
    | (go_at_call 27; ((with_reducible refine (clamp_is a h l 0 2 k1.out k2.out _).mono ?_)); rintro e w' ⟨rfl, rfl⟩)
    | (go_at_call 29; ((with_reducible refine (within_is a h l _ k3.out _).mono ?_)); rintro e w' ⟨rfl, rfl⟩)
    | (go_at_call 21; refine (works_any _).mono ?_; rintro e w' ⟨rfl, hb⟩))
  go_ret
  exact ⟨rfl, hb⟩

set_option maxRecDepth 100000 in
set_option maxHeartbeats 1000000 in
theorem nc_eq_lo (a l : Int) (w : World)  (g : a < l) :
    Calls Try.prog 10 #[.int .i64 a, .int .i64 l, .int .i64 l] w fun e w' => e = .returned (.bool true) ∧ Below w.heap.size w w' := by
  have near := near_lo a l l (by omega) g
  have b1 : (l == a) = false := beq_eq_false_iff_ne.2 (by omega)
  go_enter Try.func10, Try.ntmps10
  go_wp2_with (first
    | (go_at_call 27; ((with_reducible refine (clamp_is a l l _ _ near.v near.e _).mono ?_)); rintro e w' ⟨rfl, rfl⟩)
    | (go_at_call 29; ((with_reducible refine (within_is a l l _ near.i1 _).mono ?_)); rintro e w' ⟨rfl, rfl⟩)
    | (go_at_call 29; ((with_reducible refine (within_is _ l l _ near.i2 _).mono ?_)); rintro e w' ⟨rfl, rfl⟩)
    | (go_at_call 21; refine (works_any _).mono ?_; rintro e w' ⟨rfl, hb⟩))
  go_ret
  exact ⟨rfl, hb⟩

set_option maxRecDepth 100000 in
set_option maxHeartbeats 1000000 in
theorem nc_eq_in (a l : Int) (w : World)  (g : l ≤ a) (g2 : a ≤ l) :
    Calls Try.prog 10 #[.int .i64 a, .int .i64 l, .int .i64 l] w fun e w' => e = .returned (.bool true) ∧ Below w.heap.size w w' := by
  have near := near_in a l l (by omega) g g2
  go_enter Try.func10, Try.ntmps10
  go_wp2_with (first
    | (go_at_call 27; ((with_reducible refine (clamp_is a l l _ _ near.v near.e _).mono ?_)); rintro e w' ⟨rfl, rfl⟩)
    | (go_at_call 29; ((with_reducible refine (within_is a l l _ near.i1 _).mono ?_)); rintro e w' ⟨rfl, rfl⟩)
    | (go_at_call 29; ((with_reducible refine (within_is _ l l _ near.i2 _).mono ?_)); rintro e w' ⟨rfl, rfl⟩)
    | (go_at_call 21; refine (works_any _).mono ?_; rintro e w' ⟨rfl, hb⟩))
  go_ret
  exact ⟨rfl, hb⟩

set_option maxRecDepth 100000 in
set_option maxHeartbeats 1000000 in
theorem nc_eq_hi (a l : Int) (w : World)  (g : l < a) :
    Calls Try.prog 10 #[.int .i64 a, .int .i64 l, .int .i64 l] w fun e w' => e = .returned (.bool true) ∧ Below w.heap.size w w' := by
  have near := near_hi a l l (by omega) g
  have b1 : (l == a) = false := beq_eq_false_iff_ne.2 (by omega)
  go_enter Try.func10, Try.ntmps10
  go_wp2_with (first
    | (go_at_call 27; ((with_reducible refine (clamp_is a l l _ _ near.v near.e _).mono ?_)); rintro e w' ⟨rfl, rfl⟩)
    | (go_at_call 29; ((with_reducible refine (within_is a l l _ near.i1 _).mono ?_)); rintro e w' ⟨rfl, rfl⟩)
    | (go_at_call 29; ((with_reducible refine (within_is _ l l _ near.i2 _).mono ?_)); rintro e w' ⟨rfl, rfl⟩)
    | (go_at_call 21; refine (works_any _).mono ?_; rintro e w' ⟨rfl, hb⟩))
  go_ret
  exact ⟨rfl, hb⟩

set_option maxRecDepth 100000 in
set_option maxHeartbeats 1000000 in
theorem nc_gt_lo (a l h : Int) (w : World) (ho : l < h) (g : a < l) :
    Calls Try.prog 10 #[.int .i64 a, .int .i64 h, .int .i64 l] w fun e w' => e = .returned (.bool true) ∧ Below w.heap.size w w' := by
  have near := near_lo a l h (by omega) g
  have b1 : (l == a) = false := beq_eq_false_iff_ne.2 (by omega)
  have b2 : (l == h) = false := beq_eq_false_iff_ne.2 (by omega)
  have k1 := Lib.hid (show clV a h l = 0 by unfold clV; rw [if_pos ho])
  have k2 := Lib.hid (show clE h l = 2 by unfold clE; rw [if_pos ho])
  have k3 := Lib.hid (show (decide (h ≤ a) && decide (a ≤ l)) = false by simp; omega)
  go_enter Try.func10, Try.ntmps10
  go_wp2_with (first
    | (go_at_call 27; ((with_reducible refine (clamp_is a l h _ _ near.v near.e _).mono ?_)); rintro e w' ⟨rfl, rfl⟩)
    | (go_at_call 29; ((with_reducible refine (within_is a l h _ near.i1 _).mono ?_)); rintro e w' ⟨rfl, rfl⟩)
    | (go_at_call 29; ((with_reducible refine (within_is _ l h _ near.i2 _).mono ?_)); rintro e w' ⟨rfl, rfl⟩)
    | (go_at_call 27; ((with_reducible refine (clamp_is a h l 0 2 k1.out k2.out _).mono ?_)); rintro e w' ⟨rfl, rfl⟩)
    | (go_at_call 29; ((with_reducible refine (within_is a h l _ k3.out _).mono ?_)); rintro e w' ⟨rfl, rfl⟩)
    | (go_at_call 21; refine (works_any _).mono ?_; rintro e w' ⟨rfl, hb⟩))
  go_ret
  exact ⟨rfl, hb⟩

set_option maxRecDepth 100000 in
set_option maxHeartbeats 1000000 in
theorem nc_gt_in (a l h : Int) (w : World) (ho : l < h) (g : l ≤ a) (g2 : a ≤ h) :
    Calls Try.prog 10 #[.int .i64 a, .int .i64 h, .int .i64 l] w fun e w' => e = .returned (.bool true) ∧ Below w.heap.size w w' := by
  have near := near_in a l h (by omega) g g2
  have b2 : (l == h) = false := beq_eq_false_iff_ne.2 (by omega)
  have k1 := Lib.hid (show clV a h l = 0 by unfold clV; rw [if_pos ho])
  have k2 := Lib.hid (show clE h l = 2 by unfold clE; rw [if_pos ho])
  have k3 := Lib.hid (show (decide (h ≤ a) && decide (a ≤ l)) = false by simp; omega)
  go_enter Try.func10, Try.ntmps10
  go_wp2_with (first
    | (go_at_call 27; ((with_reducible refine (clamp_is a l h _ _ near.v near.e _).mono ?_)); rintro e w' ⟨rfl, rfl⟩)
    | (go_at_call 29; ((with_reducible refine (within_is a l h _ near.i1 _).mono ?_)); rintro e w' ⟨rfl, rfl⟩)
    | (go_at_call 29; ((with_reducible refine (within_is _ l h _ near.i2 _).mono ?_)); rintro e w' ⟨rfl, rfl⟩)
    | (go_at_call 27; ((with_reducible refine (clamp_is a h l 0 2 k1.out k2.out _).mono ?_)); rintro e w' ⟨rfl, rfl⟩)
    | (go_at_call 29; ((with_reducible refine (within_is a h l _ k3.out _).mono ?_)); rintro e w' ⟨rfl, rfl⟩)
    | (go_at_call 21; refine (works_any _).mono ?_; rintro e w' ⟨rfl, hb⟩))
  go_ret
  exact ⟨rfl, hb⟩

set_option maxRecDepth 100000 in
set_option maxHeartbeats 1000000 in
theorem nc_gt_hi (a l h : Int) (w : World) (ho : l < h) (g : h < a) :
    Calls Try.prog 10 #[.int .i64 a, .int .i64 h, .int .i64 l] w fun e w' => e = .returned (.bool true) ∧ Below w.heap.size w w' := by
  have near := near_hi a l h (by omega) g
  have b1 : (h == a) = false := beq_eq_false_iff_ne.2 (by omega)
  have b2 : (l == h) = false := beq_eq_false_iff_ne.2 (by omega)
  have k1 := Lib.hid (show clV a h l = 0 by unfold clV; rw [if_pos ho])
  have k2 := Lib.hid (show clE h l = 2 by unfold clE; rw [if_pos ho])
  have k3 := Lib.hid (show (decide (h ≤ a) && decide (a ≤ l)) = false by simp; omega)
  go_enter Try.func10, Try.ntmps10
  go_wp2_with (first
    | (go_at_call 27; ((with_reducible refine (clamp_is a l h _ _ near.v near.e _).mono ?_)); rintro e w' ⟨rfl, rfl⟩)
    | (go_at_call 29; ((with_reducible refine (within_is a l h _ near.i1 _).mono ?_)); rintro e w' ⟨rfl, rfl⟩)
    | (go_at_call 29; ((with_reducible refine (within_is _ l h _ near.i2 _).mono ?_)); rintro e w' ⟨rfl, rfl⟩)
    | (go_at_call 27; ((with_reducible refine (clamp_is a h l 0 2 k1.out k2.out _).mono ?_)); rintro e w' ⟨rfl, rfl⟩)
    | (go_at_call 29; ((with_reducible refine (within_is a h l _ k3.out _).mono ?_)); rintro e w' ⟨rfl, rfl⟩)
    | (go_at_call 21; refine (works_any _).mono ?_; rintro e w' ⟨rfl, hb⟩))
  go_ret
  exact ⟨rfl, hb⟩

theorem w_numClamps (a0 : Int) (a1 : Int) (a2 : Int) (w0 : (Lit.int .i64 a0).wf = true) (w1 : (Lit.int .i64 a1).wf = true) (w2 : (Lit.int .i64 a2).wf = true) (w : World) :
    Calls Try.prog 10 #[.int .i64 a0, .int .i64 a1, .int .i64 a2] w fun e w' => e = .returned (.bool true) ∧ Below w.heap.size w w' := by
  rcases (by omega : a1 < a2 ∨ a1 = a2 ∨ a2 < a1) with o | rfl | o
  · rcases (by omega : a0 < a1 ∨ (a1 ≤ a0 ∧ a0 ≤ a2) ∨ a2 < a0) with g | ⟨g, g2⟩ | g
    · exact nc_lt_lo a0 a1 a2 w o g
    · exact nc_lt_in a0 a1 a2 w o g g2
    · exact nc_lt_hi a0 a1 a2 w o g
  · rcases (by omega : a0 < a1 ∨ (a1 ≤ a0 ∧ a0 ≤ a1) ∨ a1 < a0) with g | ⟨g, g2⟩ | g
    · exact nc_eq_lo a0 a1 w g
    · exact nc_eq_in a0 a1 w g g2
    · exact nc_eq_hi a0 a1 w g
  · rcases (by omega : a0 < a2 ∨ (a2 ≤ a0 ∧ a0 ≤ a1) ∨ a1 < a0) with g | ⟨g, g2⟩ | g
    · exact nc_gt_lo a0 a2 a1 w o g
    · exact nc_gt_in a0 a2 a1 w o g g2
    · exact nc_gt_hi a0 a2 a1 w o g

end Go.Proofs.Ythippkbaehcfeaa.Num
