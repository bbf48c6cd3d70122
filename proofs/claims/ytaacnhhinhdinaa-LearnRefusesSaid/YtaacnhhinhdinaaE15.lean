/- What is chosen stays: plain facts for LearnStays. -/
import Derived.Test.YtaacnhhinhdinaaE13
namespace Go.Proofs.Ytaacnhhinhdinaa.Lrn
open Go.RowKit Go.Maps Go.Lib
open Bal (TB bOk ckB ordV eqB eqB_t eqB_f eq_b alloc_b)
set_option linter.unusedVariables false
set_option linter.unusedSimpArgs false
set_option maxRecDepth 20000

abbrev gd : ByteArray := ⟨#[103, 111, 111, 100]⟩
abbrev bd : ByteArray := ⟨#[98, 97, 100]⟩
theorem gd_bd : gd ≠ bd := by decide
def stS (n : Nat) (r : Nat) (t : ByteArray) (x : Nat) : St := ⟨n, 0, [⟨3, ⟨true, gd, r, 0, t, x⟩⟩]⟩
theorem stS_at (n r : Nat) (t : ByteArray) (x : Nat) : at' (stS n r t x) 3 = ⟨true, gd, r, 0, t, x⟩ := by
  show gK (getM [_] 3) = _
  rw [one_get]
theorem stS_open (n r : Nat) (t : ByteArray) (x : Nat) : opnL (stS n r t x) = [] := by
  show keysM ([⟨3, ⟨true, gd, r, 0, t, x⟩⟩].filter fun e => !e.k.c) = _
  simp [keysM]
theorem ord_lt {a b : Nat} : ordV a 0 b 0 < 0 ↔ a < b := by
  unfold ordV Bal.fdV compareInt
  split <;> split <;> omega
theorem pow_all (n : Nat) : ∀ j, j < 7 → (2 ^ j - 1) ||| 2 ^ j = 2 ^ (j + 1) - 1 ∧ 2 ^ j - 1 < 128 := by decide +kernel
theorem pow_in_all : ∀ n, n < 8 → ∀ j, j ≤ n → 2 ^ j - 1 ≤ Quo.all1 n := by decide +kernel
theorem mj_all : ∀ n, n < 8 → 1 ≤ n → mj n (2 ^ n - 1) = true ∧ 2 ^ n - 1 ≠ 0 := by decide +kernel
theorem mj_stS {n : Nat} (h1 : 1 ≤ n) (h7 : n ≤ 7) : mjS n 3 8 0 gd (2 ^ n - 1) = stS n 8 gd (2 ^ n - 1) := by
  obtain ⟨h2, h3⟩ := mj_all n (by omega) h1
  unfold mjS
  rw [if_neg h3]
  unfold mjK
  rw [h2]
  rfl
theorem st_new (n : Nat) : lrnE (newS n) 3 gd = 0 ∧ lrnS (newS n) 3 gd = stS n 0 ⟨#[]⟩ 0 := by
  have h : lrnE (newS n) 3 gd = 0 := by
    have hc : ckV (newS n).b 3 gd = 0 := by show ckV 0 3 gd = 0; decide +kernel
    unfold lrnE
    rw [if_pos hc, if_neg (by show ¬ refV zK gd = true; decide)]
  refine ⟨h, ?_⟩
  unfold lrnS
  rw [if_pos h]
  show (⟨n, 0, putM [] ⟨3, _⟩⟩ : St) = _
  rw [nil_put]
  rfl
theorem st_learn {n r : Nat} {t : ByteArray} {x : Nat} : lrnE (stS n r t x) 3 bd = 9 ∧ lrnS (stS n r t x) 3 bd = stS n r t x ∧ lrnE (stS n r t x) 3 gd = 0 ∧ lrnS (stS n r t x) 3 gd = stS n r t x := by
  have h1 : lrnE (stS n r t x) 3 bd = 9 := by
    have hc : ckV (stS n r t x).b 3 bd = 0 := by show ckV 0 3 bd = 0; decide +kernel
    unfold lrnE
    rw [if_pos hc, stS_at, if_pos]
    unfold refV
    simp only
    rw [eqT_f gd_bd]
    rfl
  have h2 : lrnE (stS n r t x) 3 gd = 0 := by
    have hc : ckV (stS n r t x).b 3 gd = 0 := by show ckV 0 3 gd = 0; decide +kernel
    unfold lrnE
    rw [if_pos hc, stS_at, if_neg]
    unfold refV
    simp only
    rw [eqT_t]
    decide
  refine ⟨h1, ?_, h2, ?_⟩
  · unfold lrnS; rw [if_neg (by rw [h1]; decide)]
  · unfold lrnS
    rw [if_pos h2, stS_at]
    show (⟨n, 0, putM [_] ⟨3, _⟩⟩ : St) = _
    rw [one_put]
    rfl
/-- A further vote. -/
structure Next (n r ρ nd : Nat) (t : ByteArray) (x : Nat) (v : ByteArray) (e : Int) (r' : Nat) (t' : ByteArray) (x' : Nat) : Prop where
  b : addB (stS n r t x) nd ρ 0 3 v = false
  e : addE (stS n r t x) nd ρ 0 3 v = e
  s : addS (stS n r t x) nd ρ 0 3 v = stS n r' t' x'
  x : x' ≤ Quo.all1 n
  t : r' = 0 ∨ t' = gd
theorem st_next {n r ρ nd : Nat} {t : ByteArray} {x : Nat} {v : ByteArray} (h1 : 1 ≤ n) (h7 : n ≤ 7) (hx : x ≤ Quo.all1 n) (ht : r = 0 ∨ t = gd) (hnd : nd < n) (hρ : 1 ≤ ρ ∧ ρ ≤ 16) (hv : v = gd ∨ v = bd) :
    ∃ e r' t' x', Next n r ρ nd t x v e r' t' x' ∧ ((ρ < r ∧ e = 0 ∧ r' = r) ∨ (¬ ρ < r ∧ v = bd ∧ e = 9 ∧ r' = r) ∨ (¬ ρ < r ∧ v = gd ∧ e = 0 ∧ r' = ρ)) := by
  have hvs : v.size ≤ 65536 := by rcases hv with rfl | rfl <;> decide
  have hvote : isVote (stS n r t x).n nd ρ 0 := ⟨⟨by omega, by show (nd : Int) < (n : Int); omega⟩, by omega, by omega, by omega, by show (0 : Int) < (n : Int); omega⟩
  have hck : ckV (stS n r t x).b 3 v = 0 := by show ckV 0 3 v = 0; unfold ckV; rw [if_pos (by omega), if_neg (by omega), if_neg (by omega)]
  have hW : (withK (at' (stS n r t x) 3) nd ρ 0 v (stS n r t x).n).c = true := by
    rw [stS_at]
    unfold withK withP
    split <;> rfl
  have hN : addN (withK (at' (stS n r t x) 3) nd ρ 0 v (stS n r t x).n) (stS n r t x).n = false := by
    unfold addN
    rw [hW]
    simp
  have hB : addB (stS n r t x) nd ρ 0 3 v = false := by unfold addB; rw [hN, Bool.and_false]
  by_cases ho : ρ < r
  · have hord : ordV ρ 0 (at' (stS n r t x) 3).r (at' (stS n r t x) 3).m < 0 := by rw [stS_at]; exact ord_lt.2 ho
    have hoff : ¬ addOn (stS n r t x) nd ρ 0 3 v := fun h => h.2.2.1 hord
    refine ⟨0, r, t, x, ⟨hB, ?_, ?_, hx, ht⟩, .inl ⟨ho, rfl, rfl⟩⟩
    · unfold addE; rw [if_pos hvote, if_pos hck, if_pos hord]
    · unfold addS; rw [if_neg hoff]
  · have hord : ¬ ordV ρ 0 (at' (stS n r t x) 3).r (at' (stS n r t x) 3).m < 0 := by rw [stS_at]; exact fun h => ho (ord_lt.1 h)
    rcases hv with rfl | rfl
    · have hbad : addBad (at' (stS n r t x) 3) ρ 0 gd = false := by
        rw [stS_at]
        unfold addBad refV
        simp only
        rw [eqT_t]
        by_cases he : ρ = r
        · have : t = gd := by rcases ht with h | h; omega; exact h
          subst this
          rw [eqT_t]
          simp
        · rw [eqB_f (by omega)]
          simp
      have hon : addOn (stS n r t x) nd ρ 0 3 gd := ⟨hvote, hck, hord, hbad⟩
      have hA : addW (at' (stS n r t x) 3) nd ρ 0 gd (stS n r t x).n = withK (at' (stS n r t x) 3) nd ρ 0 gd (stS n r t x).n := by
        unfold addW
        rw [if_neg (by rw [hN]; decide)]
      have hS : ∃ x', x' ≤ Quo.all1 n ∧ withK (at' (stS n r t x) 3) nd ρ 0 gd (stS n r t x).n = ⟨true, gd, ρ, 0, gd, x'⟩ := by
        rw [stS_at]
        show ∃ x', _ ∧ withK _ nd ρ 0 gd n = _
        by_cases he : ρ = r
        · have ht2 : t = gd := by rcases ht with h | h; omega; exact h
          subst ht2 he
          refine ⟨Quo.wiV x nd n, wi_in (n := n) (by omega) (by rw [Int.toNat_natCast]; exact hx), ?_⟩
          unfold withK withP
          rw [if_pos ⟨rfl, rfl⟩]
        · refine ⟨Quo.wiV 0 nd n, wi_in (n := n) (by omega) (Nat.zero_le _), ?_⟩
          unfold withK withP
          rw [if_neg (by simp only; omega)]
      obtain ⟨x', hx', hS⟩ := hS
      refine ⟨0, ρ, gd, x', ⟨hB, ?_, ?_, hx', .inr rfl⟩, .inr (.inr ⟨ho, rfl, rfl, rfl⟩)⟩
      · unfold addE; rw [if_pos hvote, if_pos hck, if_neg hord, if_neg (by rw [hbad]; decide)]
      · unfold addS
        rw [if_pos hon, hA, hS]
        show (⟨n, 0, putM [_] ⟨3, _⟩⟩ : St) = _
        rw [one_put]
        rfl
    · have hbad : addBad (at' (stS n r t x) 3) ρ 0 bd = true := by
        rw [stS_at]
        unfold addBad refV
        simp only
        rw [eqT_f gd_bd]
        simp
      have hoff : ¬ addOn (stS n r t x) nd ρ 0 3 bd := fun h => by have := h.2.2.2; rw [hbad] at this; cases this
      refine ⟨9, r, t, x, ⟨hB, ?_, ?_, hx, ht⟩, .inr (.inl ⟨ho, rfl, rfl, rfl⟩)⟩
      · unfold addE; rw [if_pos hvote, if_pos hck, if_neg hord, if_pos hbad]
      · unfold addS; rw [if_neg hoff]
end Go.Proofs.Ytaacnhhinhdinaa.Lrn
