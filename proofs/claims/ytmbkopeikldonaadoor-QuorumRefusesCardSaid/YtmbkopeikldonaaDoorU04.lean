/- Survives, With; a group and a set by numbers; the document's Check and Size. -/
import Derived.Test.YtmbkopeikldonaaDoorU03
namespace Go.Proofs.YtmbkopeikldonaaDoor.Quo
open Go.RowKit Go.Lib
set_option linter.unusedVariables false
set_option linter.unusedSimpArgs false
set_option maxRecDepth 20000

theorem andNot_all : ∀ n, n < 8 → ∀ x, x < 128 → x ≤ all1 n → bits .andNot .u64 (all1 n : Nat) (x : Nat) = ((all1 n - x : Nat) : Int) := by decide +kernel
theorem all1_7 {n : Nat} (h : n ≤ 7) : all1 n ≤ 127 := by
  have : 2 ^ n ≤ 2 ^ 7 := Nat.pow_le_pow_right (by decide) h
  unfold all1
  omega
theorem ckL1_t {n x : Nat} (h : x ≤ all1 n) : ckL n [x] = 0 := ckL_t (by rw [inAll1]; exact decide_eq_true h)
theorem ckL1_f {n x : Nat} (h : ¬ x ≤ all1 n) : ckL n [x] = 2 := ckL_f (by rw [inAll1]; exact decide_eq_false h)
def svV (n : Int) (x : Nat) : Bool := decide (ckI n [x] = 0 ∧ n.toNat / 2 < pc (all1 n.toNat - x))
theorem survives_any (x : Nat) (hx : x < 18446744073709551616) (n : Int) (w : World) :
    Calls Tryd.prog 14 #[.int .u64 x, .int .i64 n] w fun e w' => e = .returned (.tuple #[.bool (svV n x), .int .i64 (ckI n [x])]) ∧ Below w.heap.size w w' := by
  have hb := Lib.hid (alloc_b w (.cells #[.int .u64 x] TU))
  by_cases hn : 1 ≤ n ∧ n ≤ 7
  · obtain ⟨h1, h7⟩ := hn
    obtain ⟨k, rfl⟩ := Int.eq_ofNat_of_zero_le (show 0 ≤ n by omega)
    have hC := Lib.hid (check1 k x (by omega) (by omega) w)
    have hE := Lib.hid (fun W => everyone_any k (by omega) W)
    have hS : svV k x = decide (ckL k [x] = 0 ∧ k / 2 < pc (all1 k - x)) := by unfold svV; rw [ckI_in (by omega) (by omega), Int.toNat_natCast]
    rw [hS, ckI_in (by omega) (by omega)]
    have hm := all1_7 (show k ≤ 7 by omega)
    by_cases hc : x ≤ all1 k
    · have ha := andNot_all k (by omega) x (by omega) hc
      have hI := Lib.hid (fun W => is_any (all1 k - x) (by omega) k W)
      have e1 : ckI k [all1 k - x] = 0 := by rw [ckI_in (by omega) (by omega)]; exact ckL1_t (by omega)
      have e2 : isV k (all1 k - x) = decide (k / 2 < pc (all1 k - x)) := by unfold isV; rw [e1, Int.toNat_natCast]; simp
      rw [e1, e2] at hI
      have ht : ckL k [x] = 0 := ckL1_t hc
      rw [ht] at hC ⊢
      have HP := Lib.hid (show decide ((0 : Int) = 0 ∧ k / 2 < pc (all1 k - x)) = decide (k / 2 < pc (all1 k - x)) by simp)
      rw [HP.out]
      clear HP
      generalize all1 k - x = y at *
      generalize all1 k = m at *
      generalize decide (k / 2 < pc y) = B at *
      clear hS hc ht h1 h7 hm e1 e2
      go_enter Tryd.func14, Tryd.ntmps14
      go_wp2_with (first
        | (go_at_call 34; refine hC.out.mono ?_; rintro e w' ⟨rfl, rfl⟩)
        | (go_at_call 36; refine (hE.out _).mono ?_; rintro e w' ⟨rfl, rfl⟩)
        | (go_at_call 12; refine (hI.out _).mono ?_; rintro e w' ⟨rfl, hb2⟩))
      go_ret2
      exact ⟨rfl, below2 hb.out hb2⟩
    · have ht : ckL k [x] = 2 := ckL1_f hc
      rw [ht] at hC ⊢
      have HP : decide ((2 : Int) = 0 ∧ k / 2 < pc (all1 k - x)) = false := by simp
      rw [HP]
      clear hS hc ht h1 h7 hm HP
      go_enter Tryd.func14, Tryd.ntmps14
      go_wp2_with (go_at_call 34; refine hC.out.mono ?_; rintro e w' ⟨rfl, rfl⟩)
      go_ret2
      exact ⟨rfl, hb.out⟩
  · have hC := Lib.hid (fun v W => check_bad n (by omega) v W)
    have hI : svV n x = false := by unfold svV; rw [ckI_bad (by omega)]; simp
    rw [hI, ckI_bad (by omega)]
    clear hn hI
    go_enter Tryd.func14, Tryd.ntmps14
    go_wp2_with (go_at_call 34; refine (hC.out _ _).mono ?_; rintro e w' ⟨rfl, rfl⟩)
    go_ret2
    exact ⟨rfl, hb.out⟩

/-! With. -/
def wiO (x : Nat) (k n : Int) : Prop := ckI n [x] = 0 ∧ 0 ≤ k ∧ k < n
instance (x : Nat) (k n : Int) : Decidable (wiO x k n) := by unfold wiO; exact inferInstance
def wiV (x : Nat) (k n : Int) : Nat := if wiO x k n then x ||| 2 ^ k.toNat else 0
def wiE (x : Nat) (k n : Int) : Int := if wiO x k n then 0 else 2
theorem with_any (x : Nat) (hx : x < 18446744073709551616) (k n : Int) (w : World) :
    Calls Tryd.prog 16 #[.int .u64 x, .int .i64 k, .int .i64 n] w fun e w' => e = .returned (.tuple #[.int .u64 (wiV x k n : Nat), .int .i64 (wiE x k n)]) ∧ Below w.heap.size w w' := by
  have hb := Lib.hid (alloc_b w (.cells #[.int .u64 x] TU))
  by_cases hn : 1 ≤ n ∧ n ≤ 7
  · obtain ⟨h1, h7⟩ := hn
    obtain ⟨m, rfl⟩ := Int.eq_ofNat_of_zero_le (show 0 ≤ n by omega)
    have hC := Lib.hid (check1 m x (by omega) (by omega) w)
    by_cases hc : x ≤ all1 m
    · have ht : ckL m [x] = 0 := ckL1_t hc
      rw [ht] at hC
      by_cases hk : 0 ≤ k ∧ k < m
      · obtain ⟨j, rfl⟩ := Int.eq_ofNat_of_zero_le hk.1
        have ho : wiO x j m := ⟨by rw [ckI_in (by omega) (by omega)]; exact ht, hk⟩
        have e1 : wiV x j m = x ||| 2 ^ j := by unfold wiV; rw [if_pos ho, Int.toNat_natCast]
        have e2 : wiE x j m = 0 := if_pos ho
        rw [e1, e2]
        have hO := Lib.hid (fun W => only_any j (by omega) W)
        have hor := bits_or_u64_nat x (2 ^ j) hx (pow_lt j (by omega))
        have b1 : decide ((j : Int) < 0) = false := by simp
        have b2 : decide ((m : Int) ≤ (j : Int)) = false := by simp; omega
        have b3 : decide (m ≤ j) = false := by simp; omega
        generalize x ||| 2 ^ j = z at *
        generalize 2 ^ j = q at *
        clear e1 e2 ho hk hc ht h1 h7
        go_enter Tryd.func16, Tryd.ntmps16
        go_wp2_with (first
          | (go_at_call 34; refine hC.out.mono ?_; rintro e w' ⟨rfl, rfl⟩)
          | (go_at_call 37; refine (hO.out _).mono ?_; rintro e w' ⟨rfl, rfl⟩))
        go_ret2
        exact ⟨rfl, hb.out⟩
      · have ho : ¬ wiO x k m := fun h => hk h.2
        have e1 : wiV x k m = 0 := if_neg ho
        have e2 : wiE x k m = 2 := if_neg ho
        rw [e1, e2]
        by_cases h0 : k < 0
        · have b1 : decide (k < 0) = true := by simpa using h0
          clear e1 e2 ho hk hc ht h1 h7 h0
          go_enter Tryd.func16, Tryd.ntmps16
          go_wp2_with (go_at_call 34; refine hC.out.mono ?_; rintro e w' ⟨rfl, rfl⟩)
          go_ret2
          exact ⟨rfl, hb.out⟩
        · have b1 : decide (k < 0) = false := by simpa using h0
          have b2 : decide ((m : Int) ≤ k) = true := by simp; omega
          clear e1 e2 ho hk hc ht h1 h7 h0
          go_enter Tryd.func16, Tryd.ntmps16
          go_wp2_with (go_at_call 34; refine hC.out.mono ?_; rintro e w' ⟨rfl, rfl⟩)
          go_ret2
          exact ⟨rfl, hb.out⟩
    · have ht : ckL m [x] = 2 := ckL1_f hc
      rw [ht] at hC
      have ho : ¬ wiO x k m := fun h => by have := h.1; rw [ckI_in (by omega) (by omega), ht] at this; omega
      have e1 : wiV x k m = 0 := if_neg ho
      have e2 : wiE x k m = 2 := if_neg ho
      rw [e1, e2]
      clear e1 e2 ho hc ht h1 h7
      go_enter Tryd.func16, Tryd.ntmps16
      go_wp2_with (go_at_call 34; refine hC.out.mono ?_; rintro e w' ⟨rfl, rfl⟩)
      go_ret2
      exact ⟨rfl, hb.out⟩
  · have hC := Lib.hid (fun v W => check_bad n (by omega) v W)
    have ho : ¬ wiO x k n := fun h => by have := h.1; rw [ckI_bad (by omega)] at this; omega
    have e1 : wiV x k n = 0 := if_neg ho
    have e2 : wiE x k n = 2 := if_neg ho
    rw [e1, e2]
    clear hn e1 e2 ho
    go_enter Tryd.func16, Tryd.ntmps16
    go_wp2_with (go_at_call 34; refine (hC.out _ _).mono ?_; rintro e w' ⟨rfl, rfl⟩)
    go_ret2
    exact ⟨rfl, hb.out⟩

/-! A group and a set by numbers. -/
def grN (a : Nat) : Nat := 1 + a % 7
def grX (a b : Nat) : Nat := b % 2 ^ grN a
theorem grN_in (a : Nat) : 1 ≤ grN a ∧ grN a ≤ 7 := by unfold grN; omega
theorem grX_in (a b : Nat) : grX a b ≤ all1 (grN a) := by
  have := Nat.mod_lt b (Nat.two_pow_pos (grN a))
  unfold grX all1
  omega
theorem group_any (a b : Nat) (ha : a < 256) (hb : b < 256) (w : World) :
    Calls Tryd.prog 31 #[.int .u8 a, .int .u8 b] w fun e w' => e = .returned (.tuple #[.int .i64 (grN a : Nat), .int .u64 (grX a b : Nat)]) ∧ Below w.heap.size w w' := by
  have c1 : IntKind.i64.wrap (a : Int) = a := wr (by omega) (by omega)
  have c2 : IntKind.u64.wrap (b : Int) = b := wu (by omega)
  have c3 : (a : Int).tmod 7 = ((a % 7 : Nat) : Int) := (Int.ofNat_tmod a 7).symm
  have c4 : (a : Int) % 7 = ((a % 7 : Nat) : Int) := by omega
  have hm : a % 7 < 7 := by omega
  have hg := grN_in a
  have ec := all_in (grN a) (by omega)
  have ep := pow_in (grN a) (by omega)
  have ea := bits_and_u64_nat b (all1 (grN a)) (by omega) (all1_lt _ (by omega))
  have ex : b &&& all1 (grN a) = grX a b := by unfold all1 grX; exact and_low _ _
  rw [ex] at ea
  have en : (grN a : Nat) = 1 + a % 7 := rfl
  generalize grX a b = x at *
  generalize all1 (grN a) = m at *
  generalize hq : 2 ^ grN a = q at *
  clear ex hq
  generalize grN a = n at *
  generalize a % 7 = r at *
  have e5 : (1 : Int) + (r : Int) = (n : Int) := by omega
  have e6 : IntKind.i64.wrap (1 + (r : Int)) = (n : Int) := by rw [e5]; exact wr (by omega) (by omega)
  have n0 : 0 ≤ (n : Int) := by omega
  have n1 : (n : Int) < 64 := by omega

  clear en e5 hg
  go_enter Tryd.func31, Tryd.ntmps31
  go_wp2
  go_quiet (fail)
  go_wp2
  go_ret2
  exact ⟨rfl, ⟨rfl, rfl, rfl, Nat.le_refl _, fun _ _ => rfl⟩⟩
end Go.Proofs.YtmbkopeikldonaaDoor.Quo
