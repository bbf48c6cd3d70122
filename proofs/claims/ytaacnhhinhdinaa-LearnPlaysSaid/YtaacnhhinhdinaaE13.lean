/- Plain facts on sets of nodes; what a learner knows in LearnMajority. -/
import Derived.Test.YtaacnhhinhdinaaE12
namespace Go.Proofs.Ytaacnhhinhdinaa.Lrn
open Go.RowKit Go.Maps Go.Lib
open Bal (TB bOk ckB ordV eqB eqB_t eqB_f eq_b alloc_b)
set_option linter.unusedVariables false
set_option linter.unusedSimpArgs false
set_option maxRecDepth 20000

def cnt : Nat → Nat → Nat
  | 0, _ => 0
  | i + 1, x => cnt i x + x / 2 ^ i % 2
theorem cnt_pc : ∀ n, n < 8 → ∀ x, x < 128 → x ≤ Quo.all1 n → cnt n x = Quo.pc x ∧ Quo.pc x ≤ n := by decide +kernel
theorem cnt_le (x : Nat) : ∀ i, cnt i x ≤ i
  | 0 => Nat.le_refl _
  | i + 1 => by
    have := cnt_le x i
    have h : x / 2 ^ i % 2 < 2 := Nat.mod_lt _ (by decide)
    show cnt i x + x / 2 ^ i % 2 ≤ i + 1
    omega
theorem more_pc : ∀ x, x < 128 → ∀ k, k < 7 → Quo.pc x ≤ Quo.pc (x ||| 2 ^ k) ∧ 1 ≤ Quo.pc (x ||| 2 ^ k) ∧ x ||| 2 ^ k ≠ 0 := by decide +kernel
theorem or_low {n x k : Nat} (h7 : n ≤ 7) (hx : x ≤ Quo.all1 n) (hk : k < n) : x ||| 2 ^ k ≤ Quo.all1 n := or_in n (by omega) k hk x hx
theorem ck_set {n x : Nat} (h1 : 1 ≤ n) (h7 : n ≤ 7) (h : x ≤ Quo.all1 n) : Quo.ckI n [x] = 0 := by rw [Quo.ckI_in h1 h7]; exact Quo.ckL1_t h
theorem is_in {n x : Nat} (h1 : 1 ≤ n) (h7 : n ≤ 7) (h : x ≤ Quo.all1 n) : Quo.isV n x = decide (n / 2 < Quo.pc x) := by
  unfold Quo.isV
  rw [ck_set h1 h7 h, Int.toNat_natCast]
  simp
theorem wi_or {n x k : Nat} (h1 : 1 ≤ n) (h7 : n ≤ 7) (h : x ≤ Quo.all1 n) (hk : k < n) : Quo.wiV x k n = x ||| 2 ^ k := by
  have ho : Quo.wiO x k n := ⟨ck_set h1 h7 h, by omega, by omega⟩
  unfold Quo.wiV
  rw [if_pos ho, Int.toNat_natCast]
theorem shr_nat (x k : Nat) : (x : Int) / 2 ^ k = ((x / 2 ^ k : Nat) : Int) := by
  rw [show (2 : Int) ^ k = ((2 ^ k : Nat) : Int) by rw [Int.natCast_pow]; rfl, ← Int.natCast_ediv]
theorem and_1 (x : Nat) (h : x < 18446744073709551616) : bits .and .u64 (x : Int) 1 = ((x % 2 : Nat) : Int) := by
  have := bits_and_u64_nat x 1 h (by omega)
  refine Eq.trans this ?_
  rw [show (1 : Nat) = 2 ^ 1 - 1 from rfl, Quo.and_low]
theorem min_n (k a n : Nat) (h : min a k = n) (ts : Array TypeId) (t : TypeId) (w : World) :
    (Builtin.min_ ts t #[.int .i64 a, .int .i64 k]).run Try.prog w = .ok (.int .i64 n) w := by
  have e : (if (k : Int) < (a : Int) then (k : Int) else (a : Int)) = (n : Int) := by split <;> omega
  have h3 := run_min_int2 (P := Try.prog) w ts t .i64 .i64 a k
  rw [h3, e]
def nOf : Value → Nat
  | .int _ k => k.toNat
  | _ => 0
theorem IsU.at {w W : World} {a : Option Addr} {len cap : Nat} {S : Nat → Nat} (h : IsU w a len cap S) (hb : Below w.heap.size w W) {i : Nat} (hi : i < len) : ∃ b off, a = some ⟨b, off, Option.none⟩ ∧ b < w.heap.size ∧ W.cell? ⟨b, off + i, Option.none⟩ = some (.int .u8 (S i : Nat)) := by
  obtain ⟨b, off, rfl, hlt, hc⟩ := (h.later hb).cell (by omega)
  obtain ⟨b', off', e, hlt', _⟩ := h.cell (by omega)
  injection e with e
  injection e with e1 e2
  subst e1 e2
  exact ⟨b, off, rfl, hlt', hc i hi⟩
theorem IsB2.at {w W : World} {a : Option Addr} {len cap : Nat} {S : Nat → B2} (h : IsB2 w a len cap S) (hb : Below w.heap.size w W) {i : Nat} (hi : i < len) : ∃ b off, a = some ⟨b, off, Option.none⟩ ∧ b < w.heap.size ∧
    W.cell? ⟨b, off + i * 2, Option.none⟩ = some (.int .u8 ((S i).x : Nat)) ∧ W.cell? ⟨b, off + i * 2 + 1, Option.none⟩ = some (.int .u8 ((S i).y : Nat)) := by
  obtain ⟨b, off, rfl, hlt, hc⟩ := (h.later hb).cell (by omega)
  obtain ⟨b', off', e, hlt', _⟩ := h.cell (by omega)
  injection e with e
  injection e with e1 e2
  subst e1 e2
  exact ⟨b, off, rfl, hlt', hc i hi⟩

/-! One slot, one ballot. -/
def mj (n x : Nat) : Bool := decide (n / 2 < Quo.pc x)
def mjK (n : Nat) (r m : Int) (v : ByteArray) (x : Nat) : Kn := ⟨mj n x, if mj n x then v else ⟨#[]⟩, r, m, v, x⟩
def mjS (n : Nat) (k r m : Int) (v : ByteArray) (x : Nat) : St := if x = 0 then newS n else ⟨n, 0, [⟨k, mjK n r m v x⟩]⟩
theorem mj_z (n : Nat) : mj n 0 = false := by
  have : Quo.pc 0 = 0 := by decide +kernel
  unfold mj
  rw [this]
  exact decide_eq_false (by omega)
theorem mjS_n (n : Nat) (k r m : Int) (v : ByteArray) (x : Nat) : (mjS n k r m v x).n = n := by unfold mjS; split <;> rfl
theorem mjS_b (n : Nat) (k r m : Int) (v : ByteArray) (x : Nat) : (mjS n k r m v x).b = 0 := by unfold mjS; split <;> rfl
theorem one_get (k : Int) (q : Kn) : getM [⟨k, q⟩] k = some ⟨k, q⟩ := by simp [getM]
theorem one_put (k : Int) (p q : Kn) : putM [⟨k, p⟩] ⟨k, q⟩ = [⟨k, q⟩] := by simp [putM, delM, insM]
theorem nil_put (k : Int) (q : Kn) : putM [] ⟨k, q⟩ = [⟨k, q⟩] := by simp [putM, delM, insM]
theorem mjS_at (n : Nat) (k r m : Int) (v : ByteArray) (x : Nat) : at' (mjS n k r m v x) k = if x = 0 then zK else mjK n r m v x := by
  unfold mjS
  split
  · rfl
  · show gK (getM [_] k) = _
    rw [one_get]
theorem mjS_put (n : Nat) (k r m : Int) (v : ByteArray) (x y : Nat) (hy : y ≠ 0) : (⟨(mjS n k r m v x).n, (mjS n k r m v x).b, putM (mjS n k r m v x).M ⟨k, mjK n r m v y⟩⟩ : St) = mjS n k r m v y := by
  rw [mjS_n, mjS_b]
  unfold mjS
  rw [if_neg hy]
  split
  · rw [show (newS n).M = [] from rfl, nil_put]
  · rw [one_put]
theorem ord_self (r m : Int) : ordV r m r m = 0 := by
  unfold ordV Bal.fdV compareInt
  simp
theorem ord_zero {n r m : Int} (h : Gd n r m) : ¬ ordV r m 0 0 < 0 := by
  obtain ⟨h1, h2, h3, h4⟩ := h
  unfold ordV Bal.fdV compareInt
  split <;> split <;> omega
theorem maj_add {n : Nat} (h1 : 1 ≤ n) (h7 : n ≤ 7) {k r m : Int} {v : ByteArray} {x nd : Nat} (hx : x ≤ Quo.all1 n) (hnd : nd < n) (hk : 0 ≤ k ∧ k < 4096) (hg : Gd n r m) (hv : v.size ≤ 65536) :
    addB (mjS n k r m v x) nd r m k v = (mj n (x ||| 2 ^ nd) && !mj n x) ∧ addE (mjS n k r m v x) nd r m k v = 0 ∧ addS (mjS n k r m v x) nd r m k v = mjS n k r m v (x ||| 2 ^ nd) := by
  have h127 := Quo.all1_7 h7
  obtain ⟨p1, p2, p3⟩ := more_pc x (by omega) nd (by omega)
  have hy := or_low h7 hx hnd
  have hvote : isVote (mjS n k r m v x).n nd r m := by rw [mjS_n]; exact ⟨⟨by omega, by omega⟩, hg⟩
  have hck : ckV (mjS n k r m v x).b k v = 0 := by rw [mjS_b]; unfold ckV; rw [if_pos hk, if_neg (by omega), if_neg (by omega)]
  have hzK : withK zK nd r m v n = ⟨false, ⟨#[]⟩, r, m, v, 2 ^ nd⟩ := by
    have : ¬ (r = zK.r ∧ m = zK.m) := by have := hg.1; show ¬ (r = 0 ∧ m = 0); omega
    unfold withK withP
    rw [if_neg this]
    simp only
    rw [wi_or h1 h7 (Nat.zero_le _) hnd, Nat.zero_or]
  have hmK : withK (mjK n r m v x) nd r m v n = ⟨mj n x, if mj n x then v else ⟨#[]⟩, r, m, v, x ||| 2 ^ nd⟩ := by
    unfold withK withP
    rw [if_pos ⟨rfl, rfl⟩]
    unfold mjK
    simp only
    rw [wi_or h1 h7 hx hnd]
  have hW : withK (at' (mjS n k r m v x) k) nd r m v n = ⟨mj n x, if mj n x then v else ⟨#[]⟩, r, m, v, x ||| 2 ^ nd⟩ := by
    rw [mjS_at]
    split
    · rename_i h0; subst h0; rw [hzK, mj_z, Nat.zero_or]; rfl
    · exact hmK
  have hord : ¬ ordV r m (at' (mjS n k r m v x) k).r (at' (mjS n k r m v x) k).m < 0 := by
    rw [mjS_at]
    split
    · exact ord_zero hg
    · show ¬ ordV r m r m < 0; rw [ord_self]; omega
  have hbad : addBad (at' (mjS n k r m v x) k) r m v = false := by
    rw [mjS_at]
    split
    · unfold addBad refV
      rw [eqB_f (by have := hg.1; show ¬ (r = 0 ∧ m = 0); omega)]
      rfl
    · unfold addBad refV mjK
      simp only
      rw [eqT_t]
      cases hm : mj n x with
      | false => simp
      | true => simp [eqT_t]
  have hon : addOn (mjS n k r m v x) nd r m k v := ⟨hvote, hck, hord, hbad⟩
  have hN : addN (withK (at' (mjS n k r m v x) k) nd r m v (mjS n k r m v x).n) (mjS n k r m v x).n = (mj n (x ||| 2 ^ nd) && !mj n x) := by
    rw [mjS_n, hW]
    unfold addN
    simp only
    rw [is_in h1 h7 hy]
    rfl
  have hmono : mj n x = true → mj n (x ||| 2 ^ nd) = true := by
    unfold mj
    intro h
    have := of_decide_eq_true h
    exact decide_eq_true (by omega)
  refine ⟨?_, ?_, ?_⟩
  · unfold addB
    rw [decide_eq_true hon, Bool.true_and]
    exact hN
  · unfold addE
    rw [if_pos hvote, if_pos hck, if_neg hord, if_neg (by rw [hbad]; decide)]
  · unfold addS
    rw [if_pos hon]
    have hA : addW (at' (mjS n k r m v x) k) nd r m v (mjS n k r m v x).n = mjK n r m v (x ||| 2 ^ nd) := by
      unfold addW
      rw [hN, mjS_n, hW]
      unfold mjK
      cases ha : mj n x with
      | true => rw [hmono ha]; simp
      | false =>
        cases hb : mj n (x ||| 2 ^ nd) with
        | true => simp
        | false => simp
    rw [hA]
    exact mjS_put n k r m v x _ p3
theorem mjS_open (n : Nat) (k r m : Int) (v : ByteArray) (x : Nat) (hx : x ≠ 0) : opnL (mjS n k r m v x) = if mj n x then [] else [k] := by
  unfold mjS
  rw [if_neg hx]
  show keysM ([⟨k, mjK n r m v x⟩].filter fun e => !e.k.c) = _
  have : (mjK n r m v x).c = mj n x := rfl
  cases h : mj n x with
  | true => simp [keysM, this, h]
  | false => simp [keysM, this, h]
end Go.Proofs.Ytaacnhhinhdinaa.Lrn
