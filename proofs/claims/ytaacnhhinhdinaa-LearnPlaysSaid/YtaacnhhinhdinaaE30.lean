/- The document's learner: size; few. -/
import Derived.Test.YtaacnhhinhdinaaE28
namespace Go.Proofs.Ytaacnhhinhdinaa.Lrn
open Go.RowKit Go.Maps Go.Lib
open Bal (TB bOk ckB ordV eqB eqB_t eqB_f eq_b alloc_b)
set_option linter.unusedVariables false
set_option linter.unusedSimpArgs false
set_option maxRecDepth 20000

theorem sum_succ : ∀ n x : Nat, Quo.sumBits (n + 1) x = Quo.sumBits n x + x / 2 ^ n % 2
  | 0, x => by simp [Quo.sumBits]
  | n + 1, x => by
    show x % 2 + Quo.sumBits (n + 1) (x / 2) = (x % 2 + Quo.sumBits n (x / 2)) + _
    rw [sum_succ n (x / 2), Nat.div_div_eq_div_mul, show 2 * 2 ^ n = 2 ^ (n + 1) by rw [Nat.pow_succ, Nat.mul_comm]]
    omega
theorem cnt_sum (x : Nat) : ∀ n, cnt n x = Quo.sumBits n x
  | 0 => rfl
  | n + 1 => by rw [sum_succ, ← cnt_sum x n]; rfl
theorem cnt_64 (x : Nat) : cnt 64 x = Quo.pc x := (cnt_sum x 64).trans (Quo.pc_sum x).symm
theorem rsize_any (x : Nat) (hx : x < 18446744073709551616) (w : World) :
    Calls Try.prog 41 #[.int .u64 x] w fun e w' => e = .returned (.int .i64 (Quo.pc x : Nat)) ∧ w = w' := by
  have h64 := Lib.hid (cnt_64 x)
  have hsg : IntKind.u64.signed = false := rfl
  go_enter Try.func41, Try.ntmps41
  go_wp2
  go_loopw [3, 4] (fun cc ii W => ∃ i : Nat, i ≤ 64 ∧ ii = .int .i64 i ∧ cc = .int .i64 (cnt i x) ∧ W = w) (fun _ ii _ => 64 - nOf ii)
  case atStart => exact ⟨0, Nat.zero_le _, rfl, rfl, rfl⟩
  case round =>
    obtain ⟨i, hi, rfl, rfl, rfl⟩ := hrel
    by_cases hin : i < 64
    · have o1 : decide ((i : Int) < 64) = true := by simp; omega
      have o2 : 0 ≤ (i : Int) := by omega
      have o3 : (i : Int) < 64 := by omega
      have hsr := shr_nat x i
      have hz : x / 2 ^ i < 18446744073709551616 := Nat.lt_of_le_of_lt (Nat.div_le_self _ _) hx
      have hcs : cnt (i + 1) x = cnt i x + x / 2 ^ i % 2 := rfl
      have hcl := cnt_le x i
      generalize x / 2 ^ i = z at *
      have hb1 := and_1 z hz
      have hz2 : z % 2 < 2 := Nat.mod_lt _ (by decide)
      generalize z % 2 = rr at *
      have o4 : IntKind.i64.wrap (rr : Int) = rr := by rw [IntKind.wrap_i64]; omega
      have o5 : IntKind.i64.wrap ((cnt i x : Int) + (rr : Int)) = (cnt (i + 1) x : Nat) := by rw [hcs, IntKind.wrap_i64]; omega
      replace hcs := Lib.hid hcs
      clear hz hz2 hcl
      obtain ⟨c2, hc2⟩ : ∃ c2, cnt (i + 1) x = c2 := ⟨_, rfl⟩
      rw [hc2] at o5
      replace hc2 := Lib.hid hc2
      go_wp2
      go_roundw
      case rel => exact ⟨i + 1, by omega, by go_num, by rw [hc2.out], trivial⟩
      case measure => simp [nOf]; omega
    · have hin' : i = 64 := by omega
      subst hin'
      rw [h64.out]
      go_wp2
      go_ret
      exact ⟨rfl, rfl⟩

/-! few. -/
theorem IsSt.at {w W : World} {a : Option Addr} {len cap : Nat} {S : Nat → Sp} (h : IsSt w a len cap S) (hb : Below w.heap.size w W) {i : Nat} (hi : i < len) : ∃ b off, a = some ⟨b, off, Option.none⟩ ∧ b < w.heap.size ∧ Sc W b (off + i * 6) (S i) := by
  obtain ⟨b, off, rfl, hlt, hc⟩ := h.cell (by omega)
  exact ⟨b, off, rfl, hlt, (hc i hi).same (hb.block b hlt)⟩
theorem few_any (a : Option Addr) (len cap : Nat) (S : Nat → Sp) (w : World) (h : IsSt w a len cap S) :
    Calls Try.prog 10 #[.slice a len cap] w fun e w' => ∃ B : Bool, e = .returned (.bool B) ∧ (B = true → len ≤ 100) ∧ Below w.heap.size w w' := by
  have hfit := h.fit
  have H := Lib.hid h
  clear h
  go_enter Try.func10, Try.ntmps10
  go_wp2
  go_loopw [3, 8] (fun s i wr => ∃ (k : Nat) (z : Int), k ≤ len ∧ i = .int .i64 k ∧ s = .int .i64 z ∧ Below w.heap.size w wr) (fun _ i _ => len - nOf i)
  case atStart => exact ⟨0, 0, Nat.zero_le _, rfl, rfl, Below.refl _ _⟩
  case round =>
    obtain ⟨k, z, hk, rfl, rfl, hB⟩ := hrel
    by_cases hlt : k < len
    · obtain ⟨b, off, rfl, hbl, hc⟩ := H.out.at hB hlt
      obtain ⟨c0, c1, c2, c3, c4, c5⟩ := hc
      generalize S k = s at *
      obtain ⟨sd, sn, sk, sr, sm, sv⟩ := s
      simp only at c0 c1 c2 c3 c4 c5
      have i1 : 0 ≤ (k : Int) := by omega
      have i2 : (k : Int) < (len : Int) := by omega
      have i3 : decide ((k : Int) < (len : Int)) = true := by simpa using i2
      have i4 : IntKind.i64.wrap ((k : Int) + 1) = ((k + 1 : Nat) : Int) := by rw [IntKind.wrap_i64]; omega
      have hx := heap_alloc_new wr (.cells #[.int .i64 sd, .int .i64 sn, .int .i64 sk, .int .i64 sr, .int .i64 sm, .string sv] TP)
      have d5 := cell_of_row _ _ 5 _ TP _ hx
      have hB2 := Lib.hid (hB.alloc hB.size (.cells #[.int .i64 sd, .int .i64 sn, .int .i64 sk, .int .i64 sr, .int .i64 sm, .string sv] TP))
      clear hx hB
      go_wp2
      go_roundw
      case rel => exact ⟨k + 1, _, by omega, by go_num, rfl, hB2.out⟩
      case measure => simp [nOf]; omega
    · have hkl : k = len := by omega
      subst hkl
      have i3 : decide ((k : Int) < (k : Int)) = false := by simp
      by_cases h1 : k ≤ 100
      · have b1 : decide ((k : Int) ≤ 100) = true := by simp; omega
        go_wp2
        go_ret
        exact ⟨_, rfl, fun _ => h1, hB⟩
      · have b1 : decide ((k : Int) ≤ 100) = false := by simp; omega
        go_wp2
        go_ret
        exact ⟨_, rfl, fun h => (by cases h), hB⟩
end Go.Proofs.Ytaacnhhinhdinaa.Lrn
