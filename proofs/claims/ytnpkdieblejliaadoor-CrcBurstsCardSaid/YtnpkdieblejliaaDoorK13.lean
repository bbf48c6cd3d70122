/- The walks of CrcJoins, CrcRefuses, CrcOrder. -/
import Derived.Test.YtnpkdieblejliaaDoorK12
namespace Go.Proofs.YtnpkdieblejliaaDoor.Crc
open Go.RowKit Go.ChangeShapes
set_option linter.unusedVariables false

theorem more_b {w w1 w2 : World} (h : Below w.heap.size w w1) (k : Below w1.heap.size w1 w2) : Below w.heap.size w w2 := h.trans (k.mono h.size)
theorem nat_u32 {a : Int} (h : (Lit.int .u32 a).wf = true) : ∃ n : Nat, a = n ∧ n < 4294967296 := by
  have hb := bounds_u32 h
  obtain ⟨n, rfl⟩ := Int.eq_ofNat_of_zero_le hb.1
  exact ⟨n, rfl, by omega⟩
def jv (a b : Nat) (n : Int) : Nat := if n < 0 ∨ 2147483648 < n then 0 else stps (8 * n.toNat) a ^^^ b
def je (n : Int) : Nat := if n < 0 ∨ 2147483648 < n then 2 else 0
theorem join_any (a b : Nat) (n : Int) (ha : a < 4294967296) (hb : b < 4294967296) (w : World) (hH : Hv w) :
    Calls Tryd.prog 20 #[.int .u32 a, .int .u32 b, .int .i64 n] w fun e w' => e = .returned (.tuple #[.int .u32 (jv a b n : Nat), .int .i64 (je n : Nat)]) ∧ Below w.heap.size w w' := by
  unfold jv je
  by_cases h : n < 0 ∨ 2147483648 < n
  · rw [if_pos h, if_pos h]
    rcases h with h | h
    · exact join_neg a b n h w
    · exact join_great a b n h w
  · rw [if_neg h, if_neg h]
    obtain ⟨m, rfl⟩ := Int.eq_ofNat_of_zero_le (show 0 ≤ n by omega)
    rw [Int.toNat_natCast]
    exact join_yes a b m ha hb (by omega) w hH
theorem ref_join_any (a b : Nat) (n : Int) (ha : a < 4294967296) (hb : b < 4294967296) (w : World) :
    Calls Tryd.prog 21 #[.int .u32 a, .int .u32 b, .int .i64 n] w fun e w' => e = .returned (.tuple #[.int .u32 (jv a b n : Nat), .int .i64 (je n : Nat)]) ∧ w = w' := by
  unfold jv je
  by_cases h : n < 0 ∨ 2147483648 < n
  · rw [if_pos h, if_pos h]
    rcases h with h | h
    · exact ref_join_neg a b n h w
    · exact ref_join_great a b n h w
  · rw [if_neg h, if_neg h]
    obtain ⟨m, rfl⟩ := Int.eq_ofNat_of_zero_le (show 0 ≤ n by omega)
    rw [Int.toNat_natCast]
    exact ref_join_yes a b m ha hb (by omega) w

theorem w_crcJoins (a0 : Int) (a1 : Int) (a2 : Int) (w0 : (Lit.int .u32 a0).wf = true) (w1 : (Lit.int .u32 a1).wf = true) (w2 : (Lit.int .i64 a2).wf = true) (w : World) (hH : Hv w) :
    Calls Tryd.prog 4 #[.int .u32 a0, .int .u32 a1, .int .i64 a2] w fun e w' => e = .returned (.bool true) ∧ Below w.heap.size w w' := by
  obtain ⟨a, rfl, ha⟩ := nat_u32 w0
  obtain ⟨b, rfl, hb⟩ := nat_u32 w1
  clear w0 w1 w2
  go_enter Tryd.func4, Tryd.ntmps4
  go_wp2_with (first
    | (go_at_call 20; refine (join_any a b a2 ha hb _ hH).mono ?_; rintro e w1 ⟨rfl, G⟩)
    | (go_at_call 21; refine (ref_join_any a b a2 ha hb _).mono ?_; rintro e w' ⟨rfl, rfl⟩)
    | (go_at_call 13; refine (works_any _ (hH.later G)).mono ?_; rintro e w2 ⟨rfl, hb2⟩; have G := more_b G hb2))
  go_ret
  exact ⟨rfl, G⟩

theorem join_is (a b n r : Nat) (h : stps (8 * n) a ^^^ b = r) (ha : a < 4294967296) (hb : b < 4294967296) (hn : n ≤ 2147483648) (w : World) (hH : Hv w) :
    Calls Tryd.prog 20 #[.int .u32 a, .int .u32 b, .int .i64 n] w fun e w' => e = .returned (.tuple #[.int .u32 r, .int .i64 0]) ∧ Below w.heap.size w w' := by
  subst h
  exact join_yes a b n ha hb hn w hH

theorem refuses_out (a b : Nat) (n : Int) (ha : a < 4294967296) (hb : b < 4294967296) (w : World) (hH : Hv w) (h : n < 0 ∨ 2147483648 < n) :
    Calls Tryd.prog 10 #[.int .u32 a, .int .u32 b, .int .i64 n] w fun e w' => e = .returned (.bool true) ∧ Below w.heap.size w w' := by
  have hx := u32_xor_nat a b ha hb
  have hj := join_any 0 b n (by omega) hb
  have hz : jv 0 b n = 0 := by unfold jv; rw [if_pos h]
  have he : je n = 2 := by unfold je; rw [if_pos h]
  rw [hz, he] at hj
  have HJ : Hid (∀ w : World, Hv w → Calls Tryd.prog 20 #[.int .u32 0, .int .u32 b, .int .i64 n] w fun e w' => e = .returned (.tuple #[.int .u32 0, .int .i64 2]) ∧ Below w.heap.size w w') := hj
  have H0 : Hid (∀ w : World, Hv w → Calls Tryd.prog 20 #[.int .u32 a, .int .u32 b, .int .i64 0] w fun e w' => e = .returned (.tuple #[.int .u32 (a ^^^ b : Nat), .int .i64 0]) ∧ Below w.heap.size w w') := join_is a b 0 (a ^^^ b) rfl ha hb (by omega)
  generalize a ^^^ b = c at *
  clear hj hz he
  rcases h with h | h
  · have hd : decide (n < 0) = true := by simpa using h
    go_enter Tryd.func10, Tryd.ntmps10
    go_wp2_with fail
    refine (H0.out _ hH).mono ?_
    rintro e w1 ⟨rfl, G⟩
    go_wp2_with fail
    refine (HJ.out _ (hH.later G)).mono ?_
    rintro e w2 ⟨rfl, hb2⟩
    have G := more_b G hb2
    go_wp2_with (go_at_call 13; refine (works_any _ (hH.later G)).mono ?_; rintro e w2 ⟨rfl, hb2⟩; have G := more_b G hb2)
    go_ret
    exact ⟨rfl, G⟩
  · have hd : decide (n < 0) = false := by simp; omega
    have hd2 : decide (2147483648 < n) = true := by simpa using h
    go_enter Tryd.func10, Tryd.ntmps10
    go_wp2_with fail
    refine (H0.out _ hH).mono ?_
    rintro e w1 ⟨rfl, G⟩
    go_wp2_with fail
    refine (HJ.out _ (hH.later G)).mono ?_
    rintro e w2 ⟨rfl, hb2⟩
    have G := more_b G hb2
    go_wp2_with (go_at_call 13; refine (works_any _ (hH.later G)).mono ?_; rintro e w2 ⟨rfl, hb2⟩; have G := more_b G hb2)
    go_ret
    exact ⟨rfl, G⟩
theorem refuses_in (a b n : Nat) (ha : a < 4294967296) (hb : b < 4294967296) (hn : n ≤ 2147483648) (w : World) (hH : Hv w) :
    Calls Tryd.prog 10 #[.int .u32 a, .int .u32 b, .int .i64 n] w fun e w' => e = .returned (.bool true) ∧ Below w.heap.size w w' := by
  have hx := u32_xor_nat a b ha hb
  have HJ : Hid (∀ w : World, Hv w → Calls Tryd.prog 20 #[.int .u32 0, .int .u32 b, .int .i64 n] w fun e w' => e = .returned (.tuple #[.int .u32 b, .int .i64 0]) ∧ Below w.heap.size w w') := join_is 0 b n b (by rw [stps_zero, Nat.zero_xor]) (by omega) hb hn
  have H0 : Hid (∀ w : World, Hv w → Calls Tryd.prog 20 #[.int .u32 a, .int .u32 b, .int .i64 0] w fun e w' => e = .returned (.tuple #[.int .u32 (a ^^^ b : Nat), .int .i64 0]) ∧ Below w.heap.size w w') := join_is a b 0 (a ^^^ b) rfl ha hb (by omega)
  have hd : decide ((n : Int) < 0) = false := by simp
  have hd2 : decide (2147483648 < (n : Int)) = false := by simp; omega
  generalize a ^^^ b = c at *
  go_enter Tryd.func10, Tryd.ntmps10
  go_wp2_with fail
  refine (H0.out _ hH).mono ?_
  rintro e w1 ⟨rfl, G⟩
  go_wp2_with fail
  refine (HJ.out _ (hH.later G)).mono ?_
  rintro e w2 ⟨rfl, hb2⟩
  have G := more_b G hb2
  go_wp2_with (go_at_call 13; refine (works_any _ (hH.later G)).mono ?_; rintro e w2 ⟨rfl, hb2⟩; have G := more_b G hb2)
  go_ret
  exact ⟨rfl, G⟩
theorem w_crcRefuses (a0 : Int) (a1 : Int) (a2 : Int) (w0 : (Lit.int .u32 a0).wf = true) (w1 : (Lit.int .u32 a1).wf = true) (w2 : (Lit.int .i64 a2).wf = true) (w : World) (hH : Hv w) :
    Calls Tryd.prog 10 #[.int .u32 a0, .int .u32 a1, .int .i64 a2] w fun e w' => e = .returned (.bool true) ∧ Below w.heap.size w w' := by
  obtain ⟨a, rfl, ha⟩ := nat_u32 w0
  obtain ⟨b, rfl, hb⟩ := nat_u32 w1
  by_cases h : a2 < 0 ∨ 2147483648 < a2
  · exact refuses_out a b a2 ha hb w hH h
  · obtain ⟨n, rfl⟩ := Int.eq_ofNat_of_zero_le (show 0 ≤ a2 by omega)
    exact refuses_in a b n ha hb (by omega) w hH

theorem order_eq (a b c k l : Nat) : stps (8 * l) (stps (8 * k) a ^^^ b) ^^^ c = stps (8 * (k + l)) a ^^^ (stps (8 * l) b ^^^ c) := by
  rw [stps_xor, ← stps_add, show 8 * k + 8 * l = 8 * (k + l) by omega, Nat.xor_assoc]
set_option maxHeartbeats 400000 in
theorem w_crcOrder (a0 : Int) (a1 : Int) (a2 : Int) (a3 : Int) (a4 : Int) (w0 : (Lit.int .u32 a0).wf = true) (w1 : (Lit.int .u32 a1).wf = true) (w2 : (Lit.int .u32 a2).wf = true) (w3 : (Lit.int .u32 a3).wf = true) (w4 : (Lit.int .u32 a4).wf = true) (w : World) (hH : Hv w) :
    Calls Tryd.prog 9 #[.int .u32 a0, .int .u32 a1, .int .u32 a2, .int .u32 a3, .int .u32 a4] w fun e w' => e = .returned (.bool true) ∧ Below w.heap.size w w' := by
  obtain ⟨a, rfl, ha⟩ := nat_u32 w0
  obtain ⟨b, rfl, hb⟩ := nat_u32 w1
  obtain ⟨c, rfl, hc⟩ := nat_u32 w2
  obtain ⟨n, rfl, hn⟩ := nat_u32 w3
  obtain ⟨m, rfl, hm⟩ := nat_u32 w4
  obtain ⟨k, hk, hk2⟩ : ∃ k : Nat, (n : Int) % 1073741825 = k ∧ k ≤ 1073741824 := ⟨n % 1073741825, by omega, by omega⟩
  obtain ⟨l, hl, hl2⟩ : ∃ l : Nat, (m : Int) % 1073741825 = l ∧ l ≤ 1073741824 := ⟨m % 1073741825, by omega, by omega⟩
  clear w0 w1 w2 w3 w4
  have hx := Nat.xor_lt_two_pow (n := 32) (stps_lt (8 * k) a ha) hb
  have hz := Nat.xor_lt_two_pow (n := 32) (stps_lt (8 * l) b hb) hc
  obtain ⟨X, hX⟩ : ∃ X, stps (8 * k) a ^^^ b = X := ⟨_, rfl⟩
  obtain ⟨Y, hY⟩ : ∃ Y, stps (8 * l) X ^^^ c = Y := ⟨_, rfl⟩
  obtain ⟨Z, hZ⟩ : ∃ Z, stps (8 * l) b ^^^ c = Z := ⟨_, rfl⟩
  have hU : stps (8 * (k + l)) a ^^^ Z = Y := by rw [← hZ, ← order_eq, hX, hY]
  rw [hX] at hx
  rw [hZ] at hz
  have HX := Lib.hid (join_is a b k X hX ha hb (by omega))
  have HY := Lib.hid (join_is X c l Y hY hx hc (by omega))
  have HZ := Lib.hid (join_is b c l Z hZ hb hc (by omega))
  have HU : Hid (∀ w : World, Hv w → Calls Tryd.prog 20 #[.int .u32 a, .int .u32 Z, .int .i64 ((k : Int) + (l : Int))] w fun e w' => e = .returned (.tuple #[.int .u32 Y, .int .i64 0]) ∧ Below w.heap.size w w') := join_is a Z (k + l) Y hU ha hz (by omega)
  clear hX hY hZ hU
  go_enter Tryd.func9, Tryd.ntmps9
  go_wp2_with fail
  refine (HX.out _ hH).mono ?_
  rintro e w1 ⟨rfl, G⟩
  go_wp2_with fail
  refine (HY.out _ (hH.later G)).mono ?_
  rintro e w2 ⟨rfl, hb2⟩
  have G := more_b G hb2
  go_wp2_with fail
  refine (HZ.out _ (hH.later G)).mono ?_
  rintro e w3 ⟨rfl, hb3⟩
  have G := more_b G hb3
  go_wp2_with fail
  refine (HU.out _ (hH.later G)).mono ?_
  rintro e w4 ⟨rfl, hb4⟩
  have G := more_b G hb4
  go_wp2_with (go_at_call 13; refine (works_any _ (hH.later G)).mono ?_; rintro e w2 ⟨rfl, hb2⟩; have G := more_b G hb2)
  go_ret
  exact ⟨rfl, G⟩
end Go.Proofs.YtnpkdieblejliaaDoor.Crc
