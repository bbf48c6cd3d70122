/- Texts of effects and items as plain lists of bytes, and what a reader takes of them from part to part. -/
import Derived.Test.YtllhgjenkchniaaDoorChecked
import Derived.Lib.ItoaNum
import Derived.Lib.AtoiAll
import Derived.Lib.Strings
namespace Go.Proofs.YtllhgjenkchniaaDoor.Ident
open Go.Lib
set_option linter.unusedVariables false

def isDig (c : UInt8) : Bool := decide (48 ≤ c.toNat ∧ c.toNat ≤ 57)

theorem digit_nat {k : Nat} (h : k < 10) : (UInt8.ofNat (48 + k)).toNat = 48 + k := by
  rw [UInt8.toNat_ofNat']; omega
theorem decDigits_dig (u : Nat) : ∀ c ∈ decDigits u, isDig c = true := by
  induction u using Nat.strongRecOn with
  | _ u ih =>
    intro c hc
    rw [decDigits] at hc
    split at hc
    · rw [List.mem_singleton] at hc
      subst hc
      unfold isDig; rw [digit_nat (by omega)]; simp; omega
    · rw [List.mem_append, List.mem_singleton] at hc
      rcases hc with hc | hc
      · exact ih (u / 10) (by omega) c hc
      · subst hc
        unfold isDig; rw [digit_nat (by omega)]; simp; omega
theorem decDigits_len_pos (u : Nat) : 1 ≤ (decDigits u).length := by rw [decDigits_length]; exact nDigits_pos u
theorem decDigits_ne (u : Nat) : decDigits u ≠ [] := fun h => by have := decDigits_len_pos u; rw [h] at this; simp at this

/-- The number that digits make, behind one that is there. -/
def val : Nat → List UInt8 → Nat
  | acc, [] => acc
  | acc, c :: l => val (acc * 10 + (c.toNat - 48)) l
theorem val_app (l m : List UInt8) : ∀ acc, val acc (l ++ m) = val (val acc l) m := by
  induction l with
  | nil => intro acc; rfl
  | cons c l ih => intro acc; exact ih _
theorem val_dec (u : Nat) : val 0 (decDigits u) = u := by
  induction u using Nat.strongRecOn with
  | _ u ih =>
    rw [decDigits]
    split
    · show 0 * 10 + ((UInt8.ofNat (48 + u)).toNat - 48) = u
      rw [digit_nat (by omega)]; omega
    · rw [val_app, ih (u / 10) (by omega)]
      show u / 10 * 10 + ((UInt8.ofNat (48 + u % 10)).toNat - 48) = u
      rw [digit_nat (by omega)]; omega
theorem val_ge (l : List UInt8) : ∀ acc, acc ≤ val acc l := by
  induction l with
  | nil => intro acc; exact Nat.le_refl _
  | cons c l ih => intro acc; have := ih (acc * 10 + (c.toNat - 48)); show acc ≤ val (acc * 10 + (c.toNat - 48)) l; omega
theorem parse_val (l : List UInt8) : ∀ acc, (∀ c ∈ l, isDig c = true) → val acc l < 18446744073709551616 → parseUint10 acc l = .ok (val acc l) := by
  induction l with
  | nil => intro acc _ _; rfl
  | cons c l ih =>
    intro acc hd hv
    have hc := hd c List.mem_cons_self
    unfold isDig at hc
    rw [decide_eq_true_iff] at hc
    have hg := val_ge l (acc * 10 + (c.toNat - 48))
    have hv' : val (acc * 10 + (c.toNat - 48)) l < 18446744073709551616 := hv
    rw [parseUint10, if_pos hc, if_neg (by omega), if_neg (by omega)]
    exact ih _ (fun x hx => hd x (List.mem_cons_of_mem _ hx)) hv
theorem dig_head {l : List UInt8} (h : ∀ c ∈ l, isDig c = true) {c : UInt8} {r : List UInt8} (e : l = c :: r) : c.toNat ≠ 43 ∧ c.toNat ≠ 45 := by
  have := h c (by rw [e]; exact List.mem_cons_self)
  unfold isDig at this
  rw [decide_eq_true_iff] at this
  omega
theorem atoi_dec (u : Nat) (h : u < 9223372036854775808) : atoiAll (decDigits u) = .ok u := by
  have hd := decDigits_dig u
  have hv := val_dec u
  have hn := decDigits_ne u
  have hp := parse_val (decDigits u) 0 hd (by omega)
  rw [hv] at hp
  cases e : decDigits u with
  | nil => exact absurd e hn
  | cons c r =>
    obtain ⟨h1, h2⟩ := dig_head hd e
    rw [e] at hp
    unfold atoiAll
    simp only [h1, h2, or_self, if_false, parseMag]
    rw [if_neg (by simp), hp]
    simp
    omega
theorem itoa_dec (u : Nat) : itoa (u : Int) = decDigits u := by unfold itoa; rw [if_neg (by omega), Int.toNat_natCast]

/-- What stands in front of the first byte that is no digit. -/
theorem span_dig {l r : List UInt8} (hl : ∀ c ∈ l, isDig c = true) (hr : ∀ c, r.head? = some c → isDig c = false) : (l ++ r).takeWhile isDig = l ∧ (l ++ r).dropWhile isDig = r := by
  induction l with
  | nil =>
    cases r with
    | nil => exact ⟨rfl, rfl⟩
    | cons c r =>
      have := hr c rfl
      simp [this]
  | cons c l ih =>
    have hc := hl c List.mem_cons_self
    obtain ⟨h1, h2⟩ := ih (fun x hx => hl x (List.mem_cons_of_mem _ hx))
    simp [hc, h1, h2]

/-- A reader: what it has not read, and whether anything was wrong. -/
structure Rd where
  rest : List UInt8
  wrong : Bool

def numD (l : List UInt8) : List UInt8 := l.takeWhile isDig
def numE (l : List UInt8) : List UInt8 := l.dropWhile isDig
/-- The number that is read, and whether it is one. -/
def numV (l : List UInt8) : Int := match atoiAll (numD l) with | .ok v => v | .syntax => 0 | .range => atoiSat (numD l)
def numK (l : List UInt8) : Bool := match atoiAll (numD l) with | .ok v => decide (itoa v = numD l) | _ => false
def numR (r : Rd) : Rd := ⟨numE r.rest, r.wrong || !numK r.rest⟩
def need (p : List UInt8) (r : Rd) : Rd := ⟨trimPrefix r.rest p, r.wrong || !hasPrefix r.rest p⟩
def phP (l : List UInt8) : Nat := if hasPrefix l [102] then 1 else if hasPrefix l [117] then 2 else if hasPrefix l [114] then 3 else 0
def phR (r : Rd) : Rd := if phP r.rest = 0 then ⟨r.rest, true⟩ else ⟨r.rest.drop 1, r.wrong⟩

def eff1 (r : Rd) : Rd := need [47] (numR r)
def eff2 (r : Rd) : Rd := need [47] (numR (eff1 r))
def effR (r : Rd) : Rd := phR (eff2 r)
def effA (r : Rd) : Int := numV r.rest
def effB (r : Rd) : Int := numV (eff1 r).rest
def effP (r : Rd) : Nat := phP (eff2 r).rest

def letB (p : Nat) : UInt8 := if p = 1 then 102 else if p = 2 then 117 else 114
/-- The text of an effect. -/
def effT (a b p : Nat) : List UInt8 := decDigits a ++ 47 :: (decDigits b ++ [47, letB p])

theorem numK_ok {l : List UInt8} (h : numK l = true) : ∃ n : Nat, numV l = n ∧ l = decDigits n ++ numE l := by
  unfold numK at h
  unfold numV
  cases e : atoiAll (numD l) with
  | ok v =>
    rw [e] at h
    have h : itoa v = numD l := by simpa using h
    have hs : l = numD l ++ numE l := List.takeWhile_append_dropWhile.symm
    rcases Int.lt_or_le v 0 with hv | hv
    · exfalso
      have h45 : (45 : UInt8) ∈ numD l := by rw [← h]; unfold itoa; rw [if_pos hv]; exact List.mem_cons_self
      have := List.all_eq_true.1 (List.all_takeWhile (l := l) (p := isDig)) 45 h45
      revert this
      decide
    · obtain ⟨n, rfl⟩ := Int.eq_ofNat_of_zero_le hv
      refine ⟨n, rfl, ?_⟩
      rw [itoa_dec] at h
      rw [h]
      exact hs
  | «syntax» => rw [e] at h; cases h
  | range => rw [e] at h; cases h
theorem num_dec {n : Nat} (hn : n < 9223372036854775808) {r : List UInt8} (hr : ∀ c, r.head? = some c → isDig c = false) :
    numV (decDigits n ++ r) = n ∧ numK (decDigits n ++ r) = true ∧ numE (decDigits n ++ r) = r := by
  obtain ⟨h1, h2⟩ := span_dig (decDigits_dig n) hr
  have h1 : numD (decDigits n ++ r) = decDigits n := h1
  unfold numV numK
  rw [h1, atoi_dec n hn]
  exact ⟨rfl, by simp [itoa_dec], h2⟩
theorem pre_ok {l p : List UInt8} (h : hasPrefix l p = true) : l = p ++ trimPrefix l p := by
  unfold trimPrefix
  rw [if_pos h]
  obtain ⟨t, rfl⟩ := List.isPrefixOf_iff_prefix.1 h
  rw [List.drop_left]
theorem pre_app (p r : List UInt8) : hasPrefix (p ++ r) p = true ∧ trimPrefix (p ++ r) p = r := by
  have h : hasPrefix (p ++ r) p = true := List.isPrefixOf_iff_prefix.2 ⟨r, rfl⟩
  refine ⟨h, ?_⟩
  unfold trimPrefix
  rw [if_pos h, List.drop_left]
theorem pre_one (c d : UInt8) (l : List UInt8) : hasPrefix (c :: l) [d] = (d == c) := by
  unfold hasPrefix; simp [List.isPrefixOf]
theorem need_ok {p : List UInt8} {r : Rd} (h : (need p r).wrong = false) : r.wrong = false ∧ r.rest = p ++ (need p r).rest := by
  have h : (r.wrong || !hasPrefix r.rest p) = false := h
  rw [Bool.or_eq_false_iff, Bool.not_eq_false'] at h
  exact ⟨h.1, pre_ok h.2⟩
theorem numR_ok {r : Rd} (h : (numR r).wrong = false) : r.wrong = false ∧ ∃ n : Nat, numV r.rest = n ∧ r.rest = decDigits n ++ (numR r).rest := by
  have h : (r.wrong || !numK r.rest) = false := h
  rw [Bool.or_eq_false_iff, Bool.not_eq_false'] at h
  exact ⟨h.1, numK_ok h.2⟩
theorem phR_ok {r : Rd} (h : (phR r).wrong = false) : r.wrong = false ∧ 1 ≤ phP r.rest ∧ phP r.rest ≤ 3 ∧ r.rest = letB (phP r.rest) :: (phR r).rest := by
  unfold phR at h ⊢
  by_cases h0 : phP r.rest = 0
  · rw [if_pos h0] at h; cases h
  · rw [if_neg h0] at h ⊢
    refine ⟨h, by omega, ?_⟩
    revert h0
    unfold phP
    by_cases h1 : hasPrefix r.rest [102] = true
    · rw [if_pos h1]; intro _; have := pre_ok h1; unfold trimPrefix at this; rw [if_pos h1] at this; exact ⟨by omega, this⟩
    · rw [if_neg h1]
      by_cases h2 : hasPrefix r.rest [117] = true
      · rw [if_pos h2]; intro _; have := pre_ok h2; unfold trimPrefix at this; rw [if_pos h2] at this; exact ⟨by omega, this⟩
      · rw [if_neg h2]
        by_cases h3 : hasPrefix r.rest [114] = true
        · rw [if_pos h3]; intro _; have := pre_ok h3; unfold trimPrefix at this; rw [if_pos h3] at this; exact ⟨by omega, this⟩
        · rw [if_neg h3]; intro h; exact absurd rfl h
theorem ph_at {p : Nat} (h1 : 1 ≤ p) (h3 : p ≤ 3) (r : List UInt8) (wr : Bool) : phP (letB p :: r) = p ∧ phR ⟨letB p :: r, wr⟩ = ⟨r, wr⟩ := by
  have hp : phP (letB p :: r) = p := by
    obtain rfl | rfl | rfl : p = 1 ∨ p = 2 ∨ p = 3 := by omega
    all_goals (unfold phP letB; simp [pre_one])
  refine ⟨hp, ?_⟩
  unfold phR
  show (if phP (letB p :: r) = 0 then _ else _) = _
  rw [hp, if_neg (by omega)]
  rfl

/-- What is read as an effect begins with its text. -/
theorem effR_ok {r : Rd} (h : (effR r).wrong = false) : r.wrong = false ∧ 1 ≤ effP r ∧ effP r ≤ 3 ∧ ∃ a b : Nat, effA r = a ∧ effB r = b ∧ r.rest = effT a b (effP r) ++ (effR r).rest := by
  obtain ⟨h4, hp1, hp3, e5⟩ := phR_ok h
  obtain ⟨h3, e4⟩ := need_ok h4
  obtain ⟨h2, b, hb, e3⟩ := numR_ok h3
  obtain ⟨h1, e2⟩ := need_ok h2
  obtain ⟨h0, a, ha, e1⟩ := numR_ok h1
  refine ⟨h0, hp1, hp3, a, b, ha, hb, ?_⟩
  have e5 : (need [47] (numR (eff1 r))).rest = letB (effP r) :: (effR r).rest := e5
  have e3 : (need [47] (numR r)).rest = decDigits b ++ (numR (eff1 r)).rest := e3
  rw [e1, e2, e3, e4, e5]
  simp [effT, List.append_assoc]
/-- An effect is read of its text. -/
theorem effR_at (a b p : Nat) (ha : a < 9223372036854775808) (hb : b < 9223372036854775808) (hp1 : 1 ≤ p) (hp3 : p ≤ 3) (r : List UInt8) (wr : Bool) :
    effA ⟨effT a b p ++ r, wr⟩ = a ∧ effB ⟨effT a b p ++ r, wr⟩ = b ∧ effP ⟨effT a b p ++ r, wr⟩ = p ∧ effR ⟨effT a b p ++ r, wr⟩ = ⟨r, wr⟩ := by
  have hs : ∀ (x : List UInt8) (c : UInt8), (47 :: x).head? = some c → isDig c = false := by
    intro x c hc
    simp at hc
    subst hc
    decide
  have e : effT a b p ++ r = decDigits a ++ 47 :: (decDigits b ++ 47 :: letB p :: r) := by simp [effT, List.append_assoc]
  rw [e]
  obtain ⟨a1, a2, a3⟩ := num_dec ha (hs (decDigits b ++ 47 :: letB p :: r))
  obtain ⟨b1, b2, b3⟩ := num_dec hb (hs (letB p :: r))
  have n1 : ∀ x (wr : Bool), need [47] ⟨47 :: x, wr⟩ = ⟨x, wr⟩ := by
    intro x wr
    obtain ⟨h1, h2⟩ := pre_app [47] x
    have h1 : hasPrefix (47 :: x) [47] = true := h1
    have h2 : trimPrefix (47 :: x) [47] = x := h2
    unfold need
    simp only [h1, h2, Bool.not_true, Bool.or_false]
  have g1 : eff1 ⟨decDigits a ++ 47 :: (decDigits b ++ 47 :: letB p :: r), wr⟩ = ⟨decDigits b ++ 47 :: letB p :: r, wr⟩ := by
    unfold eff1 numR
    simp only [a2, a3, Bool.not_true, Bool.or_false]
    exact n1 _ _
  have g2 : eff2 ⟨decDigits a ++ 47 :: (decDigits b ++ 47 :: letB p :: r), wr⟩ = ⟨letB p :: r, wr⟩ := by
    unfold eff2
    rw [g1]
    unfold numR
    simp only [b2, b3, Bool.not_true, Bool.or_false]
    exact n1 _ _
  obtain ⟨p1, p2⟩ := ph_at hp1 hp3 r wr
  refine ⟨a1, ?_, ?_, ?_⟩
  · unfold effB; rw [g1]; exact b1
  · unfold effP; rw [g2]; exact p1
  · unfold effR; rw [g2]; exact p2

/-- Which effects are valid. -/
def effOk (a b p : Int) : Prop := 1 ≤ a ∧ a ≤ 9999 ∧ 0 ≤ b ∧ b ≤ 7 ∧ 1 ≤ p ∧ p ≤ 3
instance (a b p : Int) : Decidable (effOk a b p) := by unfold effOk; infer_instance
/-- What a text is read as. -/
def pE (l : List UInt8) : Option (Int × Int × Int) :=
  if (effR ⟨l, false⟩).wrong = false ∧ (effR ⟨l, false⟩).rest = [] ∧ effOk (effA ⟨l, false⟩) (effB ⟨l, false⟩) (effP ⟨l, false⟩) then some (effA ⟨l, false⟩, effB ⟨l, false⟩, (effP ⟨l, false⟩ : Int)) else none
theorem pE_some {l : List UInt8} {a b p : Int} (h : pE l = some (a, b, p)) : effOk a b p ∧ l = effT a.toNat b.toNat p.toNat := by
  unfold pE at h
  split at h
  · rename_i hh
    obtain ⟨h1, h2, h3⟩ := hh
    obtain ⟨_, _, _, x, y, ex, ey, e⟩ := effR_ok h1
    injection h with h
    injection h with ha h
    injection h with hb hp
    rw [h2, List.append_nil] at e
    subst ha hb hp
    refine ⟨h3, ?_⟩
    rw [ex, ey]
    exact e
  · cases h
theorem pE_text {a b p : Int} (h : effOk a b p) : pE (effT a.toNat b.toNat p.toNat) = some (a, b, p) := by
  have h' := h
  obtain ⟨h1, h2, h3, h4, h5, h6⟩ := h'
  obtain ⟨e1, e2, e3, e4⟩ := effR_at a.toNat b.toNat p.toNat (by omega) (by omega) (by omega) (by omega) [] false
  rw [List.append_nil] at e1 e2 e3 e4
  unfold pE
  rw [e1, e2, e3, e4, show ((a.toNat : Nat) : Int) = a by omega, show ((b.toNat : Nat) : Int) = b by omega, show ((p.toNat : Nat) : Int) = p by omega, if_pos ⟨rfl, rfl, h⟩]
theorem pE_none {l : List UInt8} (h : pE l = none) {a b p : Int} (hk : effOk a b p) : l ≠ effT a.toNat b.toNat p.toNat := by
  intro e
  rw [e, pE_text hk] at h
  cases h
end Go.Proofs.YtllhgjenkchniaaDoor.Ident
