/- The document's number, as plain lists; its contract. -/
import Derived.Test.YtlbelefabcokiaaDoorI30
namespace Go.Proofs.YtlbelefabcokiaaDoor.Ident
open Go.RowKit Go.Lib
set_option linter.unusedVariables false
set_option linter.unusedSimpArgs false
set_option maxRecDepth 20000

/-- The digits that the document's number takes from a place on: at most four. -/
def rD (l : List UInt8) (i : Nat) : List UInt8 := ((l.drop i).takeWhile isDig).take 4
def rN (l : List UInt8) (i : Nat) : Int := if (rD l i).length = 0 then -1 else if (rD l i).head? = some 48 ∧ 1 < (rD l i).length then -1 else (val 0 (rD l i) : Nat)
def rA (l : List UInt8) (i : Nat) : Nat := i + (rD l i).length
theorem rD_len (l : List UInt8) (i : Nat) : (rD l i).length ≤ 4 := by unfold rD; rw [List.length_take]; omega
theorem rD_at (l : List UInt8) (i k : Nat) (h : k < (rD l i).length) : ∃ hk : i + k < l.length, (rD l i)[k]? = some l[i + k] ∧ isDig l[i + k] = true ∧ k < 4 := by
  have h4 := rD_len l i
  have hT : k < (numD (l.drop i)).length := by unfold rD at h; rw [List.length_take] at h; show k < ((l.drop i).takeWhile isDig).length; omega
  obtain ⟨h1, h2⟩ := take_dig (l.drop i) k hT
  have hl : i + k < l.length := by rw [List.length_drop] at h1; omega
  have e : (l.drop i)[k]'h1 = l[i + k] := by rw [List.getElem_drop]
  rw [e] at h2
  refine ⟨hl, ?_, h2, by omega⟩
  unfold rD
  rw [List.getElem?_take_of_lt (by omega)]
  have hs : numD (l.drop i) ++ numE (l.drop i) = l.drop i := List.takeWhile_append_dropWhile
  have h3 : (numD (l.drop i) ++ numE (l.drop i))[k]? = (numD (l.drop i))[k]? := List.getElem?_append_left hT
  rw [hs, List.getElem?_drop, List.getElem?_eq_getElem hl] at h3
  exact h3.symm
theorem rD_stop (l : List UInt8) (i : Nat) : ¬ i + (rD l i).length < l.length ∨ ¬ (rD l i).length < 4 ∨ ∃ h : i + (rD l i).length < l.length, isDig l[i + (rD l i).length] = false := by
  by_cases h4 : (rD l i).length < 4
  · by_cases hl : i + (rD l i).length < l.length
    · right; right
      refine ⟨hl, ?_⟩
      have e : rD l i = numD (l.drop i) := by
        unfold rD at h4 ⊢
        rw [List.length_take] at h4
        exact List.take_of_length_le (by show ((l.drop i).takeWhile isDig).length ≤ 4; omega)
      have hlen : (numD (l.drop i)).length < (l.drop i).length := by rw [← e, List.length_drop]; omega
      have := stop_dig (l.drop i) hlen
      rw [List.getElem_drop] at this
      simp only [e]
      exact this
    · exact .inl hl
  · exact .inr (.inl h4)
theorem val_take (d : List UInt8) (k : Nat) (c : UInt8) (h : d[k]? = some c) : val 0 (d.take (k + 1)) = val 0 (d.take k) * 10 + (c.toNat - 48) := by
  have hk : k < d.length := by
    rcases Nat.lt_or_ge k d.length with h1 | h1
    · exact h1
    · rw [List.getElem?_eq_none h1] at h; cases h
  rw [List.getElem?_eq_getElem hk] at h
  rw [List.take_succ_eq_append_getElem hk, val_app, Option.some.inj h]
  rfl
theorem val_lt (d : List UInt8) (hd : ∀ c ∈ d, isDig c = true) : val 0 d < 10 ^ d.length := by
  have go : ∀ (d : List UInt8) (acc : Nat), (∀ c ∈ d, isDig c = true) → val acc d < (acc + 1) * 10 ^ d.length := by
    intro d
    induction d with
    | nil => intro acc _; show acc < (acc + 1) * 10 ^ 0; rw [Nat.pow_zero]; omega
    | cons c d ih =>
      intro acc h
      have hc := h c List.mem_cons_self
      unfold isDig at hc
      rw [decide_eq_true_iff] at hc
      have h1 := ih (acc * 10 + (c.toNat - 48)) (fun x hx => h x (List.mem_cons_of_mem _ hx))
      show val (acc * 10 + (c.toNat - 48)) d < _
      refine Nat.lt_of_lt_of_le h1 ?_
      rw [List.length_cons, Nat.pow_succ]
      generalize 10 ^ d.length = X
      have h2 : acc * 10 + (c.toNat - 48) + 1 ≤ (acc + 1) * 10 := by omega
      have h3 := Nat.mul_le_mul_right X h2
      rw [Nat.mul_assoc, Nat.mul_comm 10 X] at h3
      exact h3
  have := go d 0 hd
  simpa using this
theorem rD_dig (l : List UInt8) (i : Nat) : ∀ c ∈ rD l i, isDig c = true := fun c hc => List.all_eq_true.1 (List.all_takeWhile (l := l.drop i) (p := isDig)) c (List.mem_of_mem_take hc)
theorem rV_lt (l : List UInt8) (i k : Nat) : val 0 ((rD l i).take k) < 10000 := by
  have h1 := val_lt ((rD l i).take k) (fun c hc => rD_dig l i c (List.mem_of_mem_take hc))
  have h2 : ((rD l i).take k).length ≤ 4 := by rw [List.length_take]; have := rD_len l i; omega
  exact Nat.lt_of_lt_of_le h1 (by have := Nat.pow_le_pow_right (n := 10) (by omega) h2; omega)
/-- What is taken of a number that stands there. -/
theorem rD_dec (x : List UInt8) (n : Nat) (y : List UInt8) (hn : n ≤ 9999) (hy : ∀ c, y.head? = some c → isDig c = false) : rD (x ++ (decDigits n ++ y)) x.length = decDigits n := by
  unfold rD
  rw [List.drop_left, (span_dig (decDigits_dig n) hy).1, List.take_of_length_le (dec_len_lt n hn)]
theorem dec_zero (n : Nat) (h : (decDigits n).head? = some 48) : (decDigits n).length = 1 := by
  rcases Nat.eq_zero_or_pos n with h0 | h0
  · subst h0; rw [decDigits_one (by omega)]; rfl
  · exfalso
    revert h
    have go : ∀ n : Nat, 0 < n → (decDigits n).head? ≠ some 48 := by
      intro n
      induction n using Nat.strongRecOn with
      | _ n ih =>
        intro h0 h
        by_cases h1 : n < 10
        · rw [decDigits_one h1] at h
          have := congrArg (Option.map UInt8.toNat) h
          simp only [List.head?_cons, Option.map_some, Option.some.injEq] at this
          rw [digit_nat h1] at this
          have : (48 : UInt8).toNat = 48 := rfl
          omega
        · rw [decDigits, dif_neg h1] at h
          refine ih (n / 10) (by omega) (by omega) ?_
          cases e : decDigits (n / 10) with
          | nil => exact absurd e (decDigits_ne _)
          | cons c t => rw [e] at h; exact h
    exact go n h0
theorem rN_dec (x : List UInt8) (n : Nat) (y : List UInt8) (hn : n ≤ 9999) (hy : ∀ c, y.head? = some c → isDig c = false) : rN (x ++ (decDigits n ++ y)) x.length = n ∧ rA (x ++ (decDigits n ++ y)) x.length = x.length + (decDigits n).length := by
  unfold rN rA
  rw [rD_dec x n y hn hy]
  have h1 := decDigits_len_pos n
  refine ⟨?_, rfl⟩
  rw [if_neg (by omega), if_neg (by rintro ⟨h2, h3⟩; have := dec_zero n h2; omega), val_dec]
theorem ref_yes (a b p : Nat) (ha : a ≤ 9999) (hb : b ≤ 7) : rN (effT a b p) 0 = a ∧ rN (effT a b p) (rA (effT a b p) 0 + 1) = b ∧ rA (effT a b p) (rA (effT a b p) 0 + 1) + 2 = (effT a b p).length := by
  have hs : ∀ (x : List UInt8) (c : UInt8), (47 :: x).head? = some c → isDig c = false := by intro x c hc; simp at hc; subst hc; decide
  obtain ⟨h1, h2⟩ := rN_dec [] a (47 :: (decDigits b ++ [47, letB p])) ha (hs _)
  have e1 : [] ++ (decDigits a ++ 47 :: (decDigits b ++ [47, letB p])) = effT a b p := by simp [effT]
  rw [e1] at h1 h2
  obtain ⟨h3, h4⟩ := rN_dec (decDigits a ++ [47]) b [47, letB p] (by omega) (hs _)
  have e2 : (decDigits a ++ [47]) ++ (decDigits b ++ [47, letB p]) = effT a b p := by simp [effT]
  rw [e2] at h3 h4
  have e3 : rA (effT a b p) 0 + 1 = (decDigits a ++ [47]).length := by
    have : rA (effT a b p) 0 = 0 + (decDigits a).length := h2
    rw [this]; simp
  rw [e3, h4]
  refine ⟨h1, h3, ?_⟩
  simp [effT]
  omega
end Go.Proofs.YtlbelefabcokiaaDoor.Ident
