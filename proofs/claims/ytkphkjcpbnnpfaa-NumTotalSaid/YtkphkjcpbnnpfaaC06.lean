/- Contracts of num.Clamp, Zig and Zag, of the document's answers for them, and of the examples. -/
import Derived.Test.YtkphkjcpbnnpfaaC05
import Derived.Test.YtkphkjcpbnnpfaaC04
import Derived.Laws.DeepNot64
namespace Go.Proofs.Ytkphkjcpbnnpfaa.Num
open Go.RowKit

theorem ret_int {k : IntKind} {a b : Int} (h : a = b) : Ending.returned (.int k a) = .returned (.int k b) := by rw [h]
theorem ret_pair {k j : IntKind} {a b c : Int} (h : a = b) : Ending.returned (.tuple #[.int k a, .int j c]) = .returned (.tuple #[.int k b, .int j c]) := by rw [h]
theorem not_u64 (x : Int) (h0 : 0 ≤ x) (h : x ≤ 18446744073709551615) : bits .xor .u64 IntKind.u64.max x = 18446744073709551615 - x := by
  obtain ⟨n, rfl⟩ := Int.eq_ofNat_of_zero_le h0
  have e : IntKind.u64.max = ((18446744073709551615 : Nat) : Int) := by decide
  rw [e, bits_xor_u64_nat _ _ (by omega) (by omega)]
  have h1 : (BitVec.allOnes 64 ^^^ BitVec.ofNat 64 n).toNat = (~~~ (BitVec.ofNat 64 n)).toNat := by rw [BitVec.allOnes_xor]
  rw [BitVec.toNat_xor, BitVec.toNat_not, BitVec.toNat_allOnes, BitVec.toNat_ofNat, Nat.mod_eq_of_lt (by omega)] at h1
  have h2 : (18446744073709551615 ^^^ n) = 18446744073709551615 - n := h1
  rw [h2]
  omega
theorem not_i64 (x : Int) (h0 : 0 ≤ x) (h : x ≤ 9223372036854775807) : bits .xor .i64 (-1) x = -1 - x := by
  obtain ⟨n, rfl⟩ := Int.eq_ofNat_of_zero_le h0
  exact i64_not n (by omega)
theorem and1_u64 (x : Int) (h0 : 0 ≤ x) (h : x ≤ 18446744073709551615) : bits .and .u64 x 1 = x % 2 := by
  obtain ⟨n, rfl⟩ := Int.eq_ofNat_of_zero_le h0
  have := bits_and_u64_nat n 1 (by omega) (by omega)
  rw [Nat.and_one_is_mod] at this
  exact this
theorem sg_u64 : IntKind.u64.signed = false := rfl
theorem sg_i64 : IntKind.i64.signed = true := rfl

def clV (a l h : Int) : Int := if h < l then 0 else max l (min a h)
def clE (l h : Int) : Int := if h < l then 2 else 0

def U64 (u : Int) : Prop := 0 ≤ u ∧ u ≤ 18446744073709551615
def zigV (a : Int) : Int := if a < 0 then -2 * a - 1 else 2 * a
def zagV (u : Int) : Int := if u % 2 = 1 then -(u / 2) - 1 else u / 2

theorem clamp_any (a l h : Int) (w : World) :
    Calls Try.prog 27 #[.int .i64 a, .int .i64 l, .int .i64 h] w fun e w' => e = .returned (.tuple #[.int .i64 (clV a l h), .int .i64 (clE l h)]) ∧ w = w' := by
  by_cases g : h < l
  · have e1 : clV a l h = 0 := by simp [clV, g]
    have e2 : clE l h = 2 := by simp [clE, g]
    rw [e1, e2]
    clear e1 e2
    go_enter Try.func27, Try.ntmps27
    go_wp2
    go_ret2
    exact ⟨rfl, rfl⟩
  · have e1 : clV a l h = max l (min a h) := by simp [clV, g]
    have e2 : clE l h = 0 := by simp [clE, g]
    rw [e1, e2]
    clear e1 e2
    have g : l ≤ h := by omega
    go_enter Try.func27, Try.ntmps27
    go_wp2
    all_goals
      go_ret2
      exact ⟨ret_pair (by omega), rfl⟩

theorem within_any (a l h : Int) (w : World) :
    Calls Try.prog 29 #[.int .i64 a, .int .i64 l, .int .i64 h] w fun e w' => e = .returned (.bool (decide (l ≤ a) && decide (a ≤ h))) ∧ w = w' := by
  by_cases g : l ≤ a
  · by_cases g2 : a ≤ h
    · rw [decide_eq_true g, decide_eq_true g2]
      go_enter Try.func29, Try.ntmps29
      go_wp2
      go_ret
      exact ⟨by simp <;> omega, rfl⟩
    · rw [decide_eq_true g, decide_eq_false g2]
      have g3 : h < a := by omega
      clear g2
      go_enter Try.func29, Try.ntmps29
      go_wp2
      go_ret
      exact ⟨by simp <;> omega, rfl⟩
  · rw [decide_eq_false g]
    have g3 : a < l := by omega
    clear g
    go_enter Try.func29, Try.ntmps29
    go_wp2
    go_ret
    exact ⟨by simp <;> omega, rfl⟩

theorem zig_any (a : Int) (w : World) (h : I64 a) :
    Calls Try.prog 31 #[.int .i64 a] w fun e w' => e = .returned (.int .u64 (zigV a)) ∧ w = w' := by
  unfold I64 at h
  by_cases g : a < 0
  · have n1 := not_u64 (IntKind.u64.wrap (IntKind.u64.wrap a * 2)) (by rw [IntKind.wrap_u64]; omega) (by rw [IntKind.wrap_u64]; omega)
    have e1 : 18446744073709551615 - IntKind.u64.wrap (IntKind.u64.wrap a * 2) = zigV a := by
      rw [IntKind.wrap_u64, IntKind.wrap_u64]; unfold zigV; rw [if_pos g]; omega
    rw [e1] at n1
    clear e1
    have s1 := sg_u64
    go_enter Try.func31, Try.ntmps31
    go_wp2
    go_ret
    exact ⟨rfl, rfl⟩
  · have e1 : a * 2 = zigV a := by unfold zigV; rw [if_neg g]; omega
    go_enter Try.func31, Try.ntmps31
    go_wp2
    go_ret
    exact ⟨rfl, rfl⟩

theorem zag_any (u : Int) (w : World) (h : U64 u) :
    Calls Try.prog 33 #[.int .u64 u] w fun e w' => e = .returned (.int .i64 (zagV u)) ∧ w = w' := by
  unfold U64 at h
  have n2 := and1_u64 u h.1 h.2
  by_cases g : u % 2 = 1
  · have n1 := not_i64 (u / 2) (by omega) (by omega)
    have e1 : -1 - u / 2 = zagV u := by unfold zagV; rw [if_pos g]; omega
    rw [e1] at n1
    clear e1
    have s1 := sg_i64
    go_enter Try.func33, Try.ntmps33
    go_wp2
    go_ret
    exact ⟨rfl, rfl⟩
  · have e1 : u / 2 = zagV u := by unfold zagV; rw [if_neg g]
    go_enter Try.func33, Try.ntmps33
    go_wp2
    go_ret
    exact ⟨rfl, rfl⟩

theorem rclamp_any (a l h : Int) (w : World) :
    Calls Try.prog 28 #[.int .i64 a, .int .i64 l, .int .i64 h] w fun e w' => e = .returned (.tuple #[.int .i64 (clV a l h), .int .i64 (clE l h)]) ∧ w = w' := by
  by_cases g : h < l
  · have e1 : clV a l h = 0 := by simp [clV, g]
    have e2 : clE l h = 2 := by simp [clE, g]
    rw [e1, e2]
    clear e1 e2
    go_enter Try.func28, Try.ntmps28
    go_wp2
    go_ret2
    exact ⟨rfl, rfl⟩
  · have e1 : clV a l h = max l (min a h) := by simp [clV, g]
    have e2 : clE l h = 0 := by simp [clE, g]
    rw [e1, e2]
    clear e1 e2
    have g : l ≤ h := by omega
    go_enter Try.func28, Try.ntmps28
    go_wp2
    all_goals
      go_ret2
      exact ⟨ret_pair (by omega), rfl⟩

theorem rwithin_any (a l h : Int) (w : World) :
    Calls Try.prog 30 #[.int .i64 a, .int .i64 l, .int .i64 h] w fun e w' => e = .returned (.bool (decide (l ≤ a) && decide (a ≤ h))) ∧ w = w' := by
  by_cases g : l ≤ a
  · by_cases g2 : a ≤ h
    · rw [decide_eq_true g, decide_eq_true g2]
      go_enter Try.func30, Try.ntmps30
      go_wp2
      go_ret
      exact ⟨by simp <;> omega, rfl⟩
    · rw [decide_eq_true g, decide_eq_false g2]
      have g3 : h < a := by omega
      clear g2
      go_enter Try.func30, Try.ntmps30
      go_wp2
      go_ret
      exact ⟨by simp <;> omega, rfl⟩
  · rw [decide_eq_false g]
    have g3 : a < l := by omega
    clear g
    go_enter Try.func30, Try.ntmps30
    go_wp2
    go_ret
    exact ⟨by simp <;> omega, rfl⟩

theorem rzig_any (a : Int) (w : World) (h : I64 a) :
    Calls Try.prog 32 #[.int .i64 a] w fun e w' => e = .returned (.int .u64 (zigV a)) ∧ w = w' := by
  unfold I64 at h
  by_cases g : a < 0
  · go_enter Try.func32, Try.ntmps32
    go_wp2
    go_ret
    exact ⟨ret_int (by unfold zigV; rw [if_pos g]; omega), rfl⟩
  · go_enter Try.func32, Try.ntmps32
    go_wp2
    go_ret
    exact ⟨ret_int (by unfold zigV; rw [if_neg (by omega)]), rfl⟩

theorem rzag_any (u : Int) (w : World) (h : U64 u) :
    Calls Try.prog 34 #[.int .u64 u] w fun e w' => e = .returned (.int .i64 (zagV u)) ∧ w = w' := by
  unfold U64 at h
  by_cases g : u % 2 = 1
  · go_enter Try.func34, Try.ntmps34
    go_wp2
    go_ret
    exact ⟨ret_int (by unfold zagV; rw [if_pos g]), rfl⟩
  · go_enter Try.func34, Try.ntmps34
    go_wp2
    go_ret
    exact ⟨ret_int (by unfold zagV; rw [if_neg g]), rfl⟩

/-! The examples. -/
theorem ex_add (w : World) : Calls Try.prog 13 #[.int .i64 1152921504606846976, .int .i64 (-1)] w fun e w' => e = .returned (.tuple #[.int .i64 1152921504606846975, .int .i64 0]) ∧ Below w.heap.size w w' :=
  add_ok 1152921504606846976 (-1) w (by unfold Ok; omega) (by unfold Ok; omega) (by unfold Ok; omega)
theorem ex_sub (w : World) : Calls Try.prog 17 #[.int .i64 (-1152921504606846976), .int .i64 1] w fun e w' => e = .returned (.tuple #[.int .i64 0, .int .i64 7]) ∧ Below w.heap.size w w' :=
  sub_no3 (-1152921504606846976) 1 w (by unfold Ok; omega) (by unfold Ok; omega) (by unfold Ok; omega)
theorem ex_mul (w : World) : Calls Try.prog 19 #[.int .i64 1073741824, .int .i64 (-1073741824)] w fun e w' => e = .returned (.tuple #[.int .i64 (-1152921504606846976), .int .i64 0]) ∧ Below w.heap.size w w' :=
  mul_ok 1073741824 (-1073741824) w (by unfold Ok; omega) (by unfold Ok; omega) (by unfold Ok; omega)
theorem ex_sum (b : Nat) (cap : Nat) (w : World) (h0 : w.cell? ⟨b, 0, none⟩ = some (.int .i64 1152921504606846976)) (h1 : w.cell? ⟨b, 1, none⟩ = some (.int .i64 1152921504606846976)) (h2 : w.cell? ⟨b, 2, none⟩ = some (.int .i64 (-1152921504606846976))) :
    Calls Try.prog 24 #[.slice (some ⟨b, 0, none⟩) 3 cap] w fun e w' => e = .returned (.tuple #[.int .i64 1152921504606846976, .int .i64 0]) ∧ Below w.heap.size w w' := by
  have := sum_some b 0 cap [1152921504606846976, 1152921504606846976, -1152921504606846976] w (by simp) (by simp)
    (fun i hi => by
      have : i = 0 ∨ i = 1 ∨ i = 2 := by simp at hi; omega
      rcases this with rfl | rfl | rfl
      · exact h0
      · exact h1
      · exact h2)
    (fun i hi => by
      have : i = 0 ∨ i = 1 ∨ i = 2 := by simp at hi; omega
      rcases this with rfl | rfl | rfl <;> (show I64 _; unfold I64; simp))
  exact this
theorem ex_clamp (w : World) : Calls Try.prog 27 #[.int .i64 9, .int .i64 1, .int .i64 5] w fun e w' => e = .returned (.tuple #[.int .i64 5, .int .i64 0]) ∧ w = w' := clamp_any 9 1 5 w
theorem ex_zig (w : World) : Calls Try.prog 31 #[.int .i64 (-2)] w fun e w' => e = .returned (.int .u64 3) ∧ w = w' := zig_any (-2) w (by unfold I64; omega)
theorem ex_zag (w : World) : Calls Try.prog 33 #[.int .u64 1] w fun e w' => e = .returned (.int .i64 (-1)) ∧ w = w' := zag_any 1 w (by unfold U64; omega)
theorem ex_check1 (w : World) : Calls Try.prog 15 #[.int .i64 1152921504606846976] w fun e w' => e = .returned (.int .i64 0) ∧ w = w' := check_ok _ w (by unfold Ok; omega)
theorem ex_check2 (w : World) : Calls Try.prog 15 #[.int .i64 1152921504606846977] w fun e w' => e = .returned (.int .i64 7) ∧ w = w' := check_no _ w (by unfold Ok; omega)
theorem ex_within (w : World) : Calls Try.prog 29 #[.int .i64 5, .int .i64 5, .int .i64 5] w fun e w' => e = .returned (.bool true) ∧ w = w' := within_yes 5 5 5 w (by omega) (by omega)

set_option maxRecDepth 100000 in
set_option maxHeartbeats 2000000 in
theorem works_any (w : World) : Calls Try.prog 21 #[] w fun e w' => e = .returned (.bool true) ∧ Below w.heap.size w w' := by
  go_enter Try.func21, Try.ntmps21
  go_wp2_with (first
    | (go_at_call 13; refine (ex_add _).mono ?_; rintro e w1 ⟨rfl, hb1⟩)
    | (go_at_call 17; refine (ex_sub _).mono ?_; rintro e w2 ⟨rfl, hb2⟩)
    | (go_at_call 19; refine (ex_mul _).mono ?_; rintro e w3 ⟨rfl, hb3⟩)
    | (go_at_call 24; refine (ex_sum _ _ _ (by simp [go_sem]) (by simp [go_sem]) (by simp [go_sem])).mono ?_; rintro e w4 ⟨rfl, hb4⟩)
    | (go_at_call 27; refine (ex_clamp _).mono ?_; rintro e w' ⟨rfl, rfl⟩)
    | (go_at_call_of 15 (1152921504606846976 : Int); refine (ex_check1 _).mono ?_; rintro e w' ⟨rfl, rfl⟩)
    | (go_at_call_of 15 (1152921504606846977 : Int); refine (ex_check2 _).mono ?_; rintro e w' ⟨rfl, rfl⟩)
    | (go_at_call 29; refine (ex_within _).mono ?_; rintro e w' ⟨rfl, rfl⟩)
    | (go_at_call 31; refine (ex_zig _).mono ?_; rintro e w' ⟨rfl, rfl⟩)
    | (go_at_call 33; refine (ex_zag _).mono ?_; rintro e w' ⟨rfl, rfl⟩))
  go_ret
  have g3 := Below.more (Below.more (Below.more (Below.refl _ w) hb1) hb2) hb3
  exact ⟨rfl, Below.more (g3.alloc g3.size _) hb4⟩

end Go.Proofs.Ytkphkjcpbnnpfaa.Num
