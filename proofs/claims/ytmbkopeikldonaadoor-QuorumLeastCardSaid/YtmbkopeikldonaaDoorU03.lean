/- OnesCount64, Count, TrailingZeros64; Size, Is, Survives, With. -/
import Derived.Test.YtmbkopeikldonaaDoorU02
namespace Go.Proofs.YtmbkopeikldonaaDoor.Quo
open Go.RowKit Go.Lib
set_option linter.unusedVariables false
set_option linter.unusedSimpArgs false
set_option maxRecDepth 20000

theorem and_u (a m b : Nat) (ha : a < 18446744073709551616) (hm : m < 18446744073709551616) (h : a &&& m = b) (z : Int) (hz : z = (a : Int)) : bits BinOp.and IntKind.u64 z (m : Int) = (b : Int) := by
  rw [hz, bits_and_u64_nat a m ha hm, h]
theorem bits_and_i64_nat (a b : Nat) (ha : a < 9223372036854775808) (hb : b < 9223372036854775808) :
    bits .and .i64 (a : Int) (b : Int) = ((a &&& b : Nat) : Int) := by
  have hx : a &&& b ≤ a := Nat.and_le_left
  have h1 : (BitVec.ofInt 64 (a : Int)).toNat = a := by
    rw [BitVec.ofInt_natCast, BitVec.toNat_ofNat]; exact Nat.mod_eq_of_lt (by omega)
  have h2 : (BitVec.ofInt 64 (b : Int)).toNat = b := by
    rw [BitVec.ofInt_natCast, BitVec.toNat_ofNat]; exact Nat.mod_eq_of_lt (by omega)
  show IntKind.i64.wrap ((BitVec.ofInt 64 (a : Int) &&& BitVec.ofInt 64 (b : Int)).toNat : Int) = _
  rw [BitVec.toNat_and, h1, h2, IntKind.wrap_i64]
  omega
theorem ones_core (x a b c v p q r n : Nat)
    (e1 : IntKind.u64.wrap (bits BinOp.and IntKind.u64 ((x : Int) / 2) 6148914691236517205 + bits BinOp.and IntKind.u64 (x : Int) 6148914691236517205) = (a : Int))
    (e2 : IntKind.u64.wrap (bits BinOp.and IntKind.u64 ((a : Int) / 4) 3689348814741910323 + bits BinOp.and IntKind.u64 (a : Int) 3689348814741910323) = (b : Int))
    (e3 : IntKind.u64.wrap ((b : Int) / 16 + b) = (c : Int))
    (e4 : bits BinOp.and IntKind.u64 (c : Int) 1085102592571150095 = (v : Int))
    (e5 : IntKind.u64.wrap ((v : Int) + (v : Int) / 256) = (p : Int))
    (e6 : IntKind.u64.wrap ((p : Int) + (p : Int) / 65536) = (q : Int))
    (e7 : IntKind.u64.wrap ((q : Int) + (q : Int) / 4294967296) = (r : Int))
    (e8 : IntKind.i64.wrap (r : Int) = (r : Int))
    (e9 : bits BinOp.and IntKind.i64 (r : Int) 127 = (n : Int)) (w : World) :
    Calls Tryd.prog 33 #[.int .u64 x] w fun e w' => e = .returned (.int .i64 n) ∧ w = w' := by
  go_enter Tryd.func33, Tryd.ntmps33
  go_wp2
  go_ret
  exact ⟨rfl, rfl⟩
theorem congr2 {α β γ : Type} (f : α → β → γ) {a a' : α} {b b' : β} (h : a = a') (k : b = b') : f a b = f a' b' := by rw [h, k]
theorem ones_any (x : Nat) (hx : x < 18446744073709551616) (w : World) :
    Calls Tryd.prog 33 #[.int .u64 x] w fun e w' => e = .returned (.int .i64 (pc x : Nat)) ∧ w = w' := by
  obtain ⟨a, b, v, p, q, r, h1, h2, h3, h4, h5, h6, h7, l1, l2, l3, l4, l5, l6⟩ := count_steps x hx
  have k1 : x / 2 &&& 6148914691236517205 ≤ 6148914691236517205 := Nat.and_le_right
  have k2 : x &&& 6148914691236517205 ≤ 6148914691236517205 := Nat.and_le_right
  have k3 : a / 4 &&& 3689348814741910323 ≤ 3689348814741910323 := Nat.and_le_right
  have k4 : a &&& 3689348814741910323 ≤ 3689348814741910323 := Nat.and_le_right
  refine ones_core x a b (b / 16 + b) v p q r (pc x) ?_ ?_ ?_ ?_ ?_ ?_ ?_ ?_ ?_ w
  · have a1 := and_u (x / 2) 6148914691236517205 _ (by omega) (by omega) rfl ((x : Int) / 2) (by omega)
    have a2 := and_u x 6148914691236517205 _ (by omega) (by omega) rfl (x : Int) rfl
    refine (congr2 (fun s t => IntKind.u64.wrap (s + t)) a1 a2).trans ?_
    rw [← h1]
    exact (congrArg IntKind.u64.wrap (Int.natCast_add _ _).symm).trans (wu (by omega))
  · have a1 := and_u (a / 4) 3689348814741910323 _ (by omega) (by omega) rfl ((a : Int) / 4) (by omega)
    have a2 := and_u a 3689348814741910323 _ (by omega) (by omega) rfl (a : Int) rfl
    refine (congr2 (fun s t => IntKind.u64.wrap (s + t)) a1 a2).trans ?_
    rw [← h2]
    exact (congrArg IntKind.u64.wrap (Int.natCast_add _ _).symm).trans (wu (by omega))
  · rw [show (b : Int) / 16 + b = ((b / 16 + b : Nat) : Int) by omega]
    exact wu (by omega)
  · exact and_u (b / 16 + b) 1085102592571150095 v (by omega) (by omega) h3 _ rfl
  · rw [show (v : Int) + v / 256 = ((v + v / 256 : Nat) : Int) by omega, h4]
    exact wu (by omega)
  · rw [show (p : Int) + p / 65536 = ((p + p / 65536 : Nat) : Int) by omega, h5]
    exact wu (by omega)
  · rw [show (q : Int) + q / 4294967296 = ((q + q / 4294967296 : Nat) : Int) by omega, h6]
    exact wu (by omega)
  · exact wr (by omega) (by omega)
  · have a1 := bits_and_i64_nat r 127 (by omega) (by omega)
    refine Eq.trans a1 ?_
    rw [show (127 : Nat) = 2 ^ 7 - 1 from rfl, and_low, ← h7]
theorem count_any (x : Nat) (hx : x < 18446744073709551616) (w : World) :
    Calls Tryd.prog 26 #[.int .u64 x] w fun e w' => e = .returned (.int .i64 (pc x : Nat)) ∧ w = w' := by
  have hO := Lib.hid (fun W => ones_any x hx W)
  clear hx
  generalize pc x = n at *
  go_enter Tryd.func26, Tryd.ntmps26
  go_wp2_with (go_at_call 33; refine (hO.out _).mono ?_; rintro e w' ⟨rfl, rfl⟩)
  go_ret
  exact ⟨rfl, rfl⟩

/-! TrailingZeros64. -/
theorem tz_core (x k idx : Nat) (w : World) (hx0 : ((x : Int) == 0) = false)
    (key : IntKind.u64.wrap (bits BinOp.and IntKind.u64 (x : Int) (IntKind.u64.wrap (-(x : Int))) * 285870213051353865) / 288230376151711744 = (idx : Int))
    (hi : idx < 64) (hk : k < 64) (hcell : w.cell? ⟨0, idx, none⟩ = some (.int .u8 k)) :
    Calls Tryd.prog 42 #[.int .u64 x] w fun e w' => e = .returned (.int .i64 k) ∧ w = w' := by
  go_enter Tryd.func42, Tryd.ntmps42
  go_wp2_with (simp only [key])
  go_ret
  exact ⟨rfl, rfl⟩
theorem tz_key (x a : Nat) (hx : x < 18446744073709551616) (hx0 : x ≠ 0) (hlow : x &&& (18446744073709551616 - x) = a) :
    IntKind.u64.wrap (bits BinOp.and IntKind.u64 (x : Int) (IntKind.u64.wrap (-(x : Int))) * 285870213051353865) / 288230376151711744 = ((a * 285870213051353865 % 18446744073709551616 / 288230376151711744 : Nat) : Int) := by
  have e1 : IntKind.u64.wrap (-(x : Int)) = ((18446744073709551616 - x : Nat) : Int) := by rw [IntKind.wrap_u64]; omega
  rw [e1, bits_and_u64_nat x _ hx (by omega), hlow, IntKind.wrap_u64]
  omega
theorem tz_any (x : Nat) (h0 : x ≠ 0) (hx : x < 18446744073709551616) (w : World) (hH : Hv w) :
    Calls Tryd.prog 42 #[.int .u64 x] w fun e w' => e = .returned (.int .i64 (ctz 64 x : Nat)) ∧ w = w' := by
  obtain ⟨hlow, hk⟩ := Lib.lowest_bit 64 x h0 hx
  obtain ⟨hi, htab⟩ := Lib.deBruijn64_at _ hk
  have hcell := hH _ hi
  rw [htab] at hcell
  exact tz_core x _ _ w (by simp; omega) (tz_key x _ hx h0 hlow) hi hk hcell

/-! What is asked of groups. -/
def ckI (n : Int) (l : List Nat) : Int := if 1 ≤ n ∧ n ≤ 7 then ckL n.toNat l else 2
theorem ckI_bad {n : Int} (h : n < 1 ∨ 7 < n) (l : List Nat) : ckI n l = 2 := if_neg (by omega)
theorem ckI_in {n : Nat} (h1 : 1 ≤ n) (h7 : n ≤ 7) (l : List Nat) : ckI n l = ckL n l := by unfold ckI; rw [if_pos (by omega), Int.toNat_natCast]
theorem inAll1 (n x : Nat) : inAll n [x] = decide (x ≤ all1 n) := by simp [inAll]
theorem inAll2 (n x y : Nat) : inAll n [x, y] = (decide (x ≤ all1 n) && decide (y ≤ all1 n)) := by simp [inAll]
abbrev TU : TypeId := 22
theorem check1 (n x : Nat) (h1 : 1 ≤ n) (h7 : n ≤ 7) (w : World) :
    Calls Tryd.prog 34 #[.int .i64 n, .slice (some ⟨w.heap.size, 0, none⟩) 1 1] (w.alloc (.cells #[.int .u64 x] TU)) fun e w' => e = .returned (.int .i64 (ckL n [x])) ∧ w.alloc (.cells #[.int .u64 x] TU) = w' :=
  check_in n h1 h7 _ [x] _ (blk_ns (heap_alloc_new w (.cells (nums .u64 [x]).toArray TU)) rfl) (by simp)
theorem check0 (n : Nat) (h1 : 1 ≤ n) (h7 : n ≤ 7) (w : World) :
    Calls Tryd.prog 34 #[.int .i64 n, .slice none 0 0] w fun e w' => e = .returned (.int .i64 0) ∧ w = w' :=
  check_in n h1 h7 _ [] _ (ns_nil _ _) (by simp)

theorem size_bad (n : Int) (hn : n < 1 ∨ 7 < n) (w : World) :
    Calls Tryd.prog 21 #[.int .i64 n] w fun e w' => e = .returned (.tuple #[.int .i64 0, .int .i64 2]) ∧ w = w' := by
  have hC := Lib.hid (fun v W => check_bad n hn v W)
  clear hn
  go_enter Tryd.func21, Tryd.ntmps21
  go_wp2_with (go_at_call 34; refine (hC.out _ _).mono ?_; rintro e w' ⟨rfl, rfl⟩)
  go_ret2
  exact ⟨rfl, rfl⟩
theorem size_ok (n : Nat) (h1 : 1 ≤ n) (h7 : n ≤ 7) (w : World) :
    Calls Tryd.prog 21 #[.int .i64 n] w fun e w' => e = .returned (.tuple #[.int .i64 (n / 2 + 1 : Nat), .int .i64 0]) ∧ w = w' := by
  have hC := Lib.hid (fun W => check0 n h1 h7 W)
  have e1 : (n : Int).tdiv 2 = ((n / 2 : Nat) : Int) := (Int.ofNat_tdiv n 2).symm
  have e3 : (n : Int) / 2 = ((n / 2 : Nat) : Int) := by omega
  have hm : n / 2 < 10 := by omega
  generalize n / 2 = m at *
  have e2 : IntKind.i64.wrap ((m : Int) + 1) = ((m + 1 : Nat) : Int) := wr (by omega) (by omega)
  clear h1 h7
  go_enter Tryd.func21, Tryd.ntmps21
  go_wp2_with (go_at_call 34; refine (hC.out _).mono ?_; rintro e w' ⟨rfl, rfl⟩)
  go_ret2
  exact ⟨rfl, rfl⟩

/-- Whether a set is a majority, where it is one of the group's. -/
def isV (n : Int) (x : Nat) : Bool := decide (ckI n [x] = 0 ∧ n.toNat / 2 < pc x)
theorem is_any (x : Nat) (hx : x < 18446744073709551616) (n : Int) (w : World) :
    Calls Tryd.prog 12 #[.int .u64 x, .int .i64 n] w fun e w' => e = .returned (.tuple #[.bool (isV n x), .int .i64 (ckI n [x])]) ∧ Below w.heap.size w w' := by
  have hb := alloc_b w (.cells #[.int .u64 x] TU)
  by_cases hn : 1 ≤ n ∧ n ≤ 7
  · obtain ⟨h1, h7⟩ := hn
    obtain ⟨k, rfl⟩ := Int.eq_ofNat_of_zero_le (show 0 ≤ n by omega)
    have hC := Lib.hid (check1 k x (by omega) (by omega) w)
    have hO := Lib.hid (fun W => count_any x hx W)
    have hI : isV k x = decide (ckL k [x] = 0 ∧ k / 2 < pc x) := by unfold isV; rw [ckI_in (by omega) (by omega), Int.toNat_natCast]
    rw [hI, ckI_in (by omega) (by omega)]
    have e1 : (k : Int).tdiv 2 = ((k / 2 : Nat) : Int) := (Int.ofNat_tdiv k 2).symm
    have e3 : (k : Int) / 2 = ((k / 2 : Nat) : Int) := by omega
    by_cases hc : x ≤ all1 k
    · have ht : ckL k [x] = 0 := ckL_t (by rw [inAll1]; exact decide_eq_true hc)
      rw [ht] at hC ⊢
      have HP := Lib.hid (show decide (0 = 0 ∧ k / 2 < pc x) = decide (k / 2 < pc x) by simp)
      have hm : k / 2 < 10 := by omega
      have hc64 := pc_le x
      generalize k / 2 = m at *
      generalize pc x = c at *
      clear hI hc ht h1 h7
      have hb := Lib.hid hb
      go_enter Tryd.func12, Tryd.ntmps12
      go_wp2_with (first
        | (go_at_call 34; refine hC.out.mono ?_; rintro e w' ⟨rfl, rfl⟩)
        | (go_at_call 26; refine (hO.out _).mono ?_; rintro e w' ⟨rfl, rfl⟩))
      go_ret2
      refine ⟨?_, hb.out⟩
      simp
    · have ht : ckL k [x] = 2 := ckL_f (by rw [inAll1]; exact decide_eq_false hc)
      rw [ht] at hC ⊢
      have HP := Lib.hid (show decide ((2 : Int) = 0 ∧ k / 2 < pc x) = false by simp)
      rw [HP.out]
      clear hI hc ht h1 h7
      have hb := Lib.hid hb
      go_enter Tryd.func12, Tryd.ntmps12
      go_wp2_with (first
        | (go_at_call 34; refine hC.out.mono ?_; rintro e w' ⟨rfl, rfl⟩)
        | (go_at_call 26; refine (hO.out _).mono ?_; rintro e w' ⟨rfl, rfl⟩))
      go_ret2
      exact ⟨rfl, hb.out⟩
  · have hC := Lib.hid (fun v W => check_bad n (by omega) v W)
    have hI : isV n x = false := by unfold isV; rw [ckI_bad (by omega)]; simp
    rw [hI, ckI_bad (by omega)]
    clear hn hI
    have hb := Lib.hid hb
    go_enter Tryd.func12, Tryd.ntmps12
    go_wp2_with (go_at_call 34; refine (hC.out _ _).mono ?_; rintro e w' ⟨rfl, rfl⟩)
    go_ret2
    exact ⟨rfl, hb.out⟩
end Go.Proofs.YtmbkopeikldonaaDoor.Quo
