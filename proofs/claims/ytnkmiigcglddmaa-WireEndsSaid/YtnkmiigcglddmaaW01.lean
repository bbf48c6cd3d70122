/- Plain: the digits of a number to the base 128, and reading them. -/
namespace Go.Proofs.Ytnkmiigcglddmaa.Wire

def digs (n : Nat) : List Nat := if n < 128 then [n] else (n % 128 + 128) :: digs (n / 128)
termination_by n
decreasing_by omega
theorem digs_small {n : Nat} (h : n < 128) : digs n = [n] := by rw [digs, if_pos h]
theorem digs_big {n : Nat} (h : 128 ≤ n) : digs n = (n % 128 + 128) :: digs (n / 128) := by rw [digs, if_neg (by omega)]
theorem digs_lt (n : Nat) : ∀ c ∈ digs n, c < 256 := by
  induction n using Nat.strongRecOn with
  | _ n ih =>
    intro c hc
    rcases Nat.lt_or_ge n 128 with h | h
    · rw [digs_small h] at hc; simp at hc; omega
    · rw [digs_big h] at hc
      rcases List.mem_cons.1 hc with hc | hc
      · omega
      · exact ih (n / 128) (by omega) c hc
theorem digs_pos (n : Nat) : 0 < (digs n).length := by
  rcases Nat.lt_or_ge n 128 with h | h
  · rw [digs_small h]; simp
  · rw [digs_big h]; simp
theorem digs_len (n k : Nat) (h : n < 128 ^ (k + 1)) : (digs n).length ≤ k + 1 := by
  induction k generalizing n with
  | zero => rw [digs_small (by simpa using h)]; simp
  | succ k ih =>
    rcases Nat.lt_or_ge n 128 with h1 | h1
    · rw [digs_small h1]; simp
    · rw [digs_big h1]
      have : n / 128 < 128 ^ (k + 1) := by rw [Nat.div_lt_iff_lt_mul (by omega)]; rw [Nat.pow_succ] at h; exact h
      have := ih _ this
      simp; omega
theorem digs_len_min (n k : Nat) (h : 128 ^ k ≤ n) : k < (digs n).length := by
  induction k generalizing n with
  | zero => exact digs_pos n
  | succ k ih =>
    have h1 : 128 ≤ n := by
      have : 1 ≤ 128 ^ k := Nat.one_le_pow _ _ (by omega)
      rw [Nat.pow_succ] at h; omega
    rw [digs_big h1]
    have := ih (n / 128) (by rw [Nat.le_div_iff_mul_le (by omega)]; rw [Nat.pow_succ] at h; exact h)
    simp; omega
theorem digs_ten (n : Nat) (h : n < 18446744073709551616) : (digs n).length ≤ 10 := digs_len n 9 (by omega)

/-- Reading: the digits up to the first one below 128, and what is left. -/
def rdNum : List Nat → Option (Nat × List Nat)
  | [] => none
  | c :: l => if c < 128 then some (c, l) else
    match rdNum l with
    | some (n, r) => if n = 0 then none else some (c % 128 + 128 * n, r)
    | none => none
theorem rdNum_digs (n : Nat) (r : List Nat) : rdNum (digs n ++ r) = some (n, r) := by
  induction n using Nat.strongRecOn with
  | _ n ih =>
    rcases Nat.lt_or_ge n 128 with h | h
    · rw [digs_small h]; simp [rdNum, h]
    · rw [digs_big h, List.cons_append, rdNum, if_neg (by omega), ih (n / 128) (by omega)]
      dsimp only
      rw [if_neg (by omega)]
      congr 2
      omega
theorem rdNum_some {l : List Nat} (h8 : ∀ c ∈ l, c < 256) {n : Nat} {r : List Nat} (h : rdNum l = some (n, r)) : l = digs n ++ r := by
  induction l generalizing n r with
  | nil => cases h
  | cons c l ih =>
    rw [rdNum] at h
    have hc := h8 c (by simp)
    by_cases h1 : c < 128
    · rw [if_pos h1] at h
      cases h
      rw [digs_small h1]; rfl
    · rw [if_neg h1] at h
      cases h2 : rdNum l with
      | none => rw [h2] at h; cases h
      | some x =>
        obtain ⟨m, r'⟩ := x
        rw [h2] at h
        dsimp only at h
        by_cases h3 : m = 0
        · rw [if_pos h3] at h; cases h
        · rw [if_neg h3] at h
          cases h
          rw [digs_big (by omega), show (c % 128 + 128 * m) % 128 + 128 = c by omega, show (c % 128 + 128 * m) / 128 = m by omega, ih (fun c hc => h8 c (by simp [hc])) h2]
          rfl
/-- Reading a number of 64 bits. -/
def rdU (l : List Nat) : Option (Nat × List Nat) :=
  match rdNum l with
  | some (n, r) => if n < 18446744073709551616 then some (n, r) else none
  | none => none
theorem rdU_digs (n : Nat) (h : n < 18446744073709551616) (r : List Nat) : rdU (digs n ++ r) = some (n, r) := by rw [rdU, rdNum_digs]; simp [h]
theorem rdU_some {l : List Nat} (h8 : ∀ c ∈ l, c < 256) {n : Nat} {r : List Nat} (h : rdU l = some (n, r)) : l = digs n ++ r ∧ n < 18446744073709551616 := by
  rw [rdU] at h
  cases h2 : rdNum l with
  | none => rw [h2] at h; cases h
  | some x =>
    obtain ⟨m, r'⟩ := x
    rw [h2] at h
    dsimp only at h
    by_cases h3 : m < 18446744073709551616
    · rw [if_pos h3] at h; cases h; exact ⟨rdNum_some h8 h2, h3⟩
    · rw [if_neg h3] at h; cases h
/-- What the digits behind each other are worth. -/
def val : List Nat → Nat
  | [] => 0
  | c :: l => c % 128 + 128 * val l
theorem val_lt (l : List Nat) : val l < 128 ^ l.length := by
  induction l with
  | nil => simp [val]
  | cons c l ih => rw [val, List.length_cons, Nat.pow_succ]; omega
theorem val_snoc (l : List Nat) (d : Nat) : val (l ++ [d]) = val l + (d % 128) * 128 ^ l.length := by
  induction l with
  | nil => simp [val]
  | cons c l ih =>
    rw [List.cons_append, val, ih, val, List.length_cons, Nat.pow_succ]
    have : d % 128 * (128 ^ l.length * 128) = 128 * (d % 128 * 128 ^ l.length) := by rw [Nat.mul_comm (128 ^ l.length) 128, Nat.mul_left_comm]
    omega
theorem rdNum_run (p q : List Nat) (hp : ∀ c ∈ p, 128 ≤ c) (h0 : p ≠ []) :
    rdNum (p ++ q) = match rdNum q with | some (m, r) => if m = 0 then none else some (val p + 128 ^ p.length * m, r) | none => none := by
  induction p with
  | nil => exact absurd rfl h0
  | cons c p ih =>
    have hc := hp c (by simp)
    rw [List.cons_append, rdNum, if_neg (by omega)]
    by_cases h1 : p = []
    · subst h1
      simp only [List.nil_append]
      cases rdNum q with
      | none => rfl
      | some x => simp [val]
    · rw [ih (fun c hc => hp c (by simp [hc])) h1]
      cases rdNum q with
      | none => rfl
      | some x =>
        obtain ⟨m, r⟩ := x
        dsimp only
        by_cases h3 : m = 0
        · simp [h3]
        · rw [if_neg h3]
          have hpos : 0 < 128 ^ p.length * m := Nat.mul_pos (Nat.pow_pos (by omega)) (by omega)
          dsimp only
          rw [if_neg (by omega), if_neg h3, val, List.length_cons, Nat.pow_succ]
          congr 2
          rw [Nat.mul_add, Nat.mul_comm (128 ^ p.length) 128, ← Nat.mul_assoc]
          omega
/-- All bytes that there are, or ten of them, go on. -/
theorem rdU_on (p q : List Nat) (hp : ∀ c ∈ p, 128 ≤ c) (h : q = [] ∨ p.length = 10) : rdU (p ++ q) = none := by
  rw [rdU]
  by_cases h0 : p = []
  · subst h0
    rcases h with h | h
    · subst h; rfl
    · cases h
  · rw [rdNum_run p q hp h0]
    rcases h with h | h
    · subst h; rfl
    · cases rdNum q with
      | none => rfl
      | some x =>
        obtain ⟨m, r⟩ := x
        dsimp only
        by_cases h3 : m = 0
        · rw [if_pos h3]
        · rw [if_neg h3]
          dsimp only
          rw [h, if_neg]
          have : 1 ≤ m := by omega
          have : 128 ^ 10 * 1 ≤ 128 ^ 10 * m := Nat.mul_le_mul_left _ this
          omega
/-- The first byte below 128 stands behind p. -/
theorem rdU_stop (p : List Nat) (d : Nat) (q : List Nat) (hp : ∀ c ∈ p, 128 ≤ c) (hd : d < 128) :
    rdU (p ++ d :: q) = if (d = 0 ∧ p ≠ []) ∨ 18446744073709551616 ≤ val p + 128 ^ p.length * d then none else some (val p + 128 ^ p.length * d, q) := by
  have hq : rdNum (d :: q) = some (d, q) := by rw [rdNum, if_pos hd]
  rw [rdU]
  by_cases h0 : p = []
  · subst h0
    rw [List.nil_append, hq]
    dsimp only
    rw [if_pos (by omega), if_neg]
    · simp [val]
    · simp [val]; omega
  · rw [rdNum_run p _ hp h0, hq]
    dsimp only
    by_cases h3 : d = 0
    · rw [if_pos h3, if_pos (.inl ⟨h3, h0⟩)]
    · rw [if_neg h3]
      dsimp only
      by_cases h4 : 18446744073709551616 ≤ val p + 128 ^ p.length * d
      · rw [if_neg (by omega), if_pos (.inr h4)]
      · rw [if_pos (by omega), if_neg (by rintro (h | h); exact h3 h.1; exact h4 h)]
end Go.Proofs.Ytnkmiigcglddmaa.Wire
