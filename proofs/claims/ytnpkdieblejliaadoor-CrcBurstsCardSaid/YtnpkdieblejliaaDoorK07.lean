/- Contracts of Join: the document's. -/
import Derived.Test.YtnpkdieblejliaaDoorK06
namespace Go.Proofs.YtnpkdieblejliaaDoor.Crc
open Go.RowKit Go.ChangeShapes
set_option linter.unusedVariables false

theorem tms_bit (a b i k : Nat) (h : i + k = 31) (hb : b / 2 ^ i % 2 = 1) : tms a b (k + 1) = tms a b k ^^^ stps k a := by
  show _ ^^^ _ = _
  rw [show 31 - k = i by omega, if_pos hb]
theorem tms_nobit (a b i k : Nat) (h : i + k = 31) (hb : ¬ b / 2 ^ i % 2 = 1) : tms a b (k + 1) = tms a b k := by
  show _ ^^^ _ = _
  rw [show 31 - k = i by omega, if_neg hb, Nat.xor_zero]

theorem times_any (a b : Nat) (ha : a < 4294967296) (hbb : b < 4294967296) (w : World) :
    Calls Tryd.prog 34 #[.int .u32 a, .int .u32 b] w fun e w' => e = .returned (.int .u32 (tms a b 32 : Nat)) ∧ w = w' := by
  go_enter Tryd.func34, Tryd.ntmps34
  go_wp2
  go_loop [0, 5, 6] (fun x t i => ∃ j k : Nat, j + k = 32 ∧ i = .int .i64 ((j : Int) - 1) ∧ x = .int .u32 (stps k a : Nat) ∧ t = .int .u32 (tms a b k : Nat)) (fun _ _ i => (intOf i + 1).toNat)
  case atStart => exact ⟨32, 0, by omega, rfl, rfl, rfl⟩
  case round =>
    obtain ⟨j, k, hjk, rfl, rfl, rfl⟩ := hrel
    have hs := stps_lt k a ha
    have ht := tms_lt a b k ha
    by_cases hlt : 0 < j
    · obtain ⟨i, rfl⟩ : ∃ i, j = i + 1 := ⟨j - 1, by omega⟩
      have hi : ((i + 1 : Nat) : Int) - 1 = (i : Int) := by omega
      have hn : stp (stps k a) = stps (k + 1) a := by rw [← stps_stp]; rfl
      rw [hi]
      clear hi
      by_cases hb : b / 2 ^ i % 2 = 1
      · have hy := bit_yes b i hbb hb
        have ho := tms_bit a b i k (by omega) hb
        generalize stps k a = x at *
        generalize tms a b k = t at *
        have hx := u32_xor_nat t x ht hs
        have HN := Lib.hid hn
        have HO := Lib.hid ho
        clear hn ho hb
        go_wp2_with (go_at_call 33; refine (step_any _ hs _).mono ?_; rintro e w' ⟨rfl, rfl⟩)
        go_round
        case rel => exact ⟨i, k + 1, by omega, rfl, by rw [HN.out], by rw [HO.out]⟩
        case measure => simp [intOf]
      · have hy := bit_no b i hbb hb
        have ho := tms_nobit a b i k (by omega) hb
        generalize stps k a = x at *
        generalize tms a b k = t at *
        have HN := Lib.hid hn
        have HO := Lib.hid ho
        clear hn ho hb
        go_wp2_with (go_at_call 33; refine (step_any _ hs _).mono ?_; rintro e w' ⟨rfl, rfl⟩)
        go_round
        case rel => exact ⟨i, k + 1, by omega, rfl, by rw [HN.out], by rw [HO.out]⟩
        case measure => simp [intOf]
    · obtain rfl : j = 0 := by omega
      obtain rfl : k = 32 := by omega
      go_wp2
      go_ret
      exact ⟨rfl, rfl⟩

theorem ref_join_neg (a b : Nat) (n : Int) (h : n < 0) (w : World) :
    Calls Tryd.prog 21 #[.int .u32 a, .int .u32 b, .int .i64 n] w fun e w' => e = .returned (.tuple #[.int .u32 0, .int .i64 2]) ∧ w = w' := by
  have hd : decide (n < 0) = true := by simpa using h
  go_enter Tryd.func21, Tryd.ntmps21
  go_wp2
  go_ret2
  exact ⟨rfl, rfl⟩
theorem ref_join_great (a b : Nat) (n : Int) (h : 2147483648 < n) (w : World) :
    Calls Tryd.prog 21 #[.int .u32 a, .int .u32 b, .int .i64 n] w fun e w' => e = .returned (.tuple #[.int .u32 0, .int .i64 2]) ∧ w = w' := by
  have hd : decide (n < 0) = false := by simp; omega
  have hd2 : decide (2147483648 < n) = true := by simp; omega
  go_enter Tryd.func21, Tryd.ntmps21
  go_wp2
  go_ret2
  exact ⟨rfl, rfl⟩
theorem tms_of_stps (n m : Nat) : tms (stps n 2147483648) (stps m 2147483648) 32 = stps (n + m) 2147483648 := by
  rw [tms_stps _ _ (stps_lt _ _ (by omega)), ← stps_add]
theorem ref_join_yes (a b n : Nat) (ha : a < 4294967296) (hbb : b < 4294967296) (hn : n ≤ 2147483648) (w : World) :
    Calls Tryd.prog 21 #[.int .u32 a, .int .u32 b, .int .i64 n] w fun e w' => e = .returned (.tuple #[.int .u32 (stps (8 * n) a ^^^ b : Nat), .int .i64 0]) ∧ w = w' := by
  have hd : decide ((n : Int) < 0) = false := by simp
  have hd2 : decide (2147483648 < (n : Int)) = false := by simp; omega
  go_enter Tryd.func21, Tryd.ntmps21
  go_wp2
  go_loop [9, 10] (fun x i => ∃ k : Nat, k ≤ 8 ∧ i = .int .i64 k ∧ x = .int .u32 (stps k 2147483648 : Nat)) (fun _ i => 8 - (intOf i).toNat)
  case atStart => exact ⟨0, by omega, rfl, rfl⟩
  case round =>
    obtain ⟨k, hk, rfl, rfl⟩ := hrel
    by_cases hlt : k < 8
    · have hs := stps_lt k 2147483648 (by omega)
      have hn : stp (stps k 2147483648) = stps (k + 1) 2147483648 := by rw [← stps_stp]; rfl
      generalize stps k 2147483648 = x at *
      have HN := Lib.hid hn
      clear hn
      go_wp2_with (go_at_call 33; refine (step_any _ hs _).mono ?_; rintro e w' ⟨rfl, rfl⟩)
      go_round
      case rel => exact ⟨k + 1, by omega, by go_num, by rw [HN.out]⟩
      case measure => simp [intOf]; omega
    · obtain rfl : k = 8 := by omega
      clear hk hlt
      go_wp2
      go_loop [2, 8, 9] (fun m x y => ∃ M A E : Nat, M ≤ 2147483648 ∧ m = .int .i64 M ∧ x = .int .u32 (stps A 2147483648 : Nat) ∧ y = .int .u32 (stps E 2147483648 : Nat) ∧ A + E * M = 8 * n) (fun m _ _ => (intOf m).toNat)
      case atStart => exact ⟨n, 0, 8, hn, rfl, rfl, rfl, by omega⟩
      case round =>
        obtain ⟨M, A, E, hM, rfl, rfl, rfl, hsum⟩ := hrel
        have HS := Lib.hid hsum
        clear hsum
        have hA := stps_lt A 2147483648 (by omega)
        have hE := stps_lt E 2147483648 (by omega)
        by_cases hlt : 0 < M
        · have hgt : decide (0 < (M : Int)) = true := by simp; omega
          have hEE := tms_of_stps E E
          by_cases hodd : M % 2 = 1
          · have hb1 : ((M : Int) % 2 == 1) = true := by rw [beq_iff_eq]; omega
            have hAE := tms_of_stps A E
            have hsum := half_odd HS.out hodd
            have HS := Lib.hid hsum
            clear hodd hsum
            generalize stps A 2147483648 = x at *
            generalize stps E 2147483648 = y at *
            have HA := Lib.hid hAE
            have HE := Lib.hid hEE
            clear hAE hEE
            go_wp2_with (go_at_call 34; refine (times_any _ _ (by assumption) (by assumption) _).mono ?_; rintro e w' ⟨rfl, rfl⟩)
            go_round
            case rel => exact ⟨M / 2, A + E, E + E, by omega, by go_num, by rw [HA.out], by rw [HE.out], HS.out⟩
            case measure => simp [intOf]; omega
          · have hb1 : ((M : Int) % 2 == 1) = false := by rw [beq_eq_false_iff_ne]; omega
            have hsum := half_even HS.out hodd
            have HS := Lib.hid hsum
            clear hodd hsum
            generalize hx : stps A 2147483648 = x at *
            have HX := Lib.hid hx
            clear hx
            generalize stps E 2147483648 = y at *
            have HE := Lib.hid hEE
            clear hEE
            go_wp2_with (go_at_call 34; refine (times_any _ _ (by assumption) (by assumption) _).mono ?_; rintro e w' ⟨rfl, rfl⟩)
            go_round
            case rel => exact ⟨M / 2, A, E + E, by omega, by go_num, by rw [HX.out], by rw [HE.out], HS.out⟩
            case measure => simp [intOf]; omega
        · obtain rfl : M = 0 := by omega
          have hA8 : A = 8 * n := by have := HS.out; omega
          subst hA8
          have hfin := tms_stps (8 * n) a ha
          have hl := stps_lt (8 * n) a ha
          generalize stps (8 * n) 2147483648 = x at *
          generalize hq : stps (8 * n) a = q at *
          have HQ := Lib.hid hq
          have HF := Lib.hid hfin
          have hx := u32_xor_nat q b hl hbb
          clear hq hfin
          go_wp2_with (go_at_call 34; refine (times_any _ _ ha hA _).mono ?_; rintro e w' ⟨rfl, rfl⟩; rw [HF.out])
          go_ret2
          exact ⟨by rw [HQ.out]; rfl, rfl⟩
end Go.Proofs.YtnpkdieblejliaaDoor.Crc
