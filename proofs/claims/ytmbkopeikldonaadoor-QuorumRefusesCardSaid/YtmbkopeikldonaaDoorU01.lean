/- Plain facts: the bits of a number, how many there are, and how they are counted by halves. -/
import Derived.Lib.TrailingZeros
namespace Go.Proofs.YtmbkopeikldonaaDoor.Quo
open Go.Lib
set_option linter.unusedVariables false
set_option linter.unusedSimpArgs false

def bitsOf (x : Nat) : List Nat := (List.range 64).filter fun i => x.testBit i
def pc (x : Nat) : Nat := (bitsOf x).length
def sumBits : Nat → Nat → Nat
  | 0, _ => 0
  | n + 1, x => x % 2 + sumBits n (x / 2)
theorem filter_len (n : Nat) : ∀ x : Nat, ((List.range n).filter fun i => x.testBit i).length = sumBits n x := by
  induction n with
  | zero => intro x; rfl
  | succ n ih =>
    intro x
    rw [List.range_succ_eq_map, List.filter_cons, List.filter_map, sumBits, ← ih (x / 2)]
    have e : (fun i => x.testBit i) ∘ Nat.succ = fun i => (x / 2).testBit i := by
      funext i; show x.testBit (i + 1) = _; rw [Nat.testBit_succ]
    rw [e]
    have h2 : x % 2 < 2 := Nat.mod_lt _ (by decide)
    by_cases h : x % 2 = 1
    · have hb : x.testBit 0 = true := by rw [Nat.testBit_zero]; simp [h]
      rw [if_pos hb, List.length_cons, List.length_map]; omega
    · have hb : x.testBit 0 = false := by rw [Nat.testBit_zero]; simp [h]
      rw [hb, if_neg (by simp), List.length_map]; omega
theorem pc_sum (x : Nat) : pc x = sumBits 64 x := filter_len 64 x

theorem and_split (j a b c d : Nat) (hb : b < 2 ^ j) (hd : d < 2 ^ j) : (2 ^ j * a + b) &&& (2 ^ j * c + d) = 2 ^ j * (a &&& c) + (b &&& d) := by
  apply Nat.eq_of_testBit_eq
  intro i
  have hbd : b &&& d < 2 ^ j := Nat.and_lt_two_pow _ hd
  rw [Nat.testBit_and, Nat.testBit_two_pow_mul_add _ hb, Nat.testBit_two_pow_mul_add _ hd, Nat.testBit_two_pow_mul_add _ hbd]
  split
  · rw [Nat.testBit_and]
  · rw [Nat.testBit_and]
theorem and_low (x k : Nat) : x &&& (2 ^ k - 1) = x % 2 ^ k := Nat.and_two_pow_sub_one_eq_mod x k

/-! Digits in a base. -/
def dsum (B : Nat) : Nat → Nat → Nat
  | 0, _ => 0
  | n + 1, y => y % B + dsum B n (y / B)
def okD (B m : Nat) : Nat → Nat → Prop
  | 0, y => y = 0
  | n + 1, y => y % B ≤ m ∧ okD B m n (y / B)
def mask (B d : Nat) : Nat → Nat
  | 0 => 0
  | n + 1 => B * mask B d n + d
theorem digit_mod (B a d : Nat) (h : d < B) : (B * a + d) % B = d := by rw [Nat.mul_add_mod, Nat.mod_eq_of_lt h]
theorem digit_div (B a d : Nat) (h : d < B) : (B * a + d) / B = a := by
  rw [Nat.mul_add_div (by omega), Nat.div_eq_of_lt h, Nat.add_zero]

def s1 (n x : Nat) : Nat := (x / 2 &&& mask 4 1 n) + (x &&& mask 4 1 n)
theorem s1_succ (n x : Nat) : s1 (n + 1) x = 4 * s1 n (x / 4) + (x / 2 % 2 + x % 2) := by
  unfold s1
  show (x / 2 &&& (4 * mask 4 1 n + 1)) + (x &&& (4 * mask 4 1 n + 1)) = _
  have h1 : x / 2 = 2 ^ 2 * (x / 4 / 2) + x / 2 % 4 := by omega
  have h2 : x = 2 ^ 2 * (x / 4) + x % 4 := by omega
  have a1 : x / 2 &&& (4 * mask 4 1 n + 1) = 4 * (x / 4 / 2 &&& mask 4 1 n) + (x / 2 % 4 &&& 1) := by
    conv => lhs; rw [h1]
    exact and_split 2 _ _ _ 1 (by omega) (by omega)
  have a2 : x &&& (4 * mask 4 1 n + 1) = 4 * (x / 4 &&& mask 4 1 n) + (x % 4 &&& 1) := by
    conv => lhs; rw [h2]
    exact and_split 2 _ _ _ 1 (by omega) (by omega)
  rw [a1, a2, show (1 : Nat) = 2 ^ 1 - 1 from rfl, and_low, and_low]
  omega
theorem s1_sum (n : Nat) : ∀ x, dsum 4 n (s1 n x) = sumBits (2 * n) x ∧ okD 4 2 n (s1 n x) := by
  induction n with
  | zero => intro x; exact ⟨rfl, by show (x / 2 &&& 0) + (x &&& 0) = 0; simp⟩
  | succ n ih =>
    intro x
    obtain ⟨h1, h2⟩ := ih (x / 4)
    have hd : x / 2 % 2 + x % 2 < 4 := by omega
    rw [s1_succ]
    refine ⟨?_, ?_, ?_⟩
    · show (4 * s1 n (x / 4) + _) % 4 + dsum 4 n ((4 * s1 n (x / 4) + _) / 4) = sumBits (2 * n + 1 + 1) x
      rw [digit_mod _ _ _ hd, digit_div _ _ _ hd, h1]
      show _ = x % 2 + (x / 2 % 2 + sumBits (2 * n) (x / 2 / 2))
      rw [show x / 2 / 2 = x / 4 by omega]
      omega
    · rw [digit_mod _ _ _ hd]; omega
    · rw [digit_div _ _ _ hd]; exact h2

def s2 (n x : Nat) : Nat := (x / 4 &&& mask 16 3 n) + (x &&& mask 16 3 n)
theorem s2_succ (n x : Nat) : s2 (n + 1) x = 16 * s2 n (x / 16) + (x / 4 % 4 + x % 4) := by
  unfold s2
  show (x / 4 &&& (16 * mask 16 3 n + 3)) + (x &&& (16 * mask 16 3 n + 3)) = _
  have h1 : x / 4 = 2 ^ 4 * (x / 16 / 4) + x / 4 % 16 := by omega
  have h2 : x = 2 ^ 4 * (x / 16) + x % 16 := by omega
  have a1 : x / 4 &&& (16 * mask 16 3 n + 3) = 16 * (x / 16 / 4 &&& mask 16 3 n) + (x / 4 % 16 &&& 3) := by
    conv => lhs; rw [h1]
    exact and_split 4 _ _ _ 3 (by omega) (by omega)
  have a2 : x &&& (16 * mask 16 3 n + 3) = 16 * (x / 16 &&& mask 16 3 n) + (x % 16 &&& 3) := by
    conv => lhs; rw [h2]
    exact and_split 4 _ _ _ 3 (by omega) (by omega)
  rw [a1, a2, show (3 : Nat) = 2 ^ 2 - 1 from rfl, and_low, and_low]
  omega
theorem s2_sum (n : Nat) : ∀ x, okD 4 2 (2 * n) x → dsum 16 n (s2 n x) = dsum 4 (2 * n) x ∧ okD 16 4 n (s2 n x) := by
  induction n with
  | zero => intro x _; exact ⟨rfl, by show (x / 4 &&& 0) + (x &&& 0) = 0; simp⟩
  | succ n ih =>
    intro x ⟨g1, g2, g3⟩
    have hq : x / 4 / 4 = x / 16 := by omega
    rw [hq] at g3
    obtain ⟨h1, h2⟩ := ih (x / 16) g3
    have hd : x / 4 % 4 + x % 4 < 16 := by omega
    rw [s2_succ]
    refine ⟨?_, ?_, ?_⟩
    · show (16 * s2 n (x / 16) + _) % 16 + dsum 16 n ((16 * s2 n (x / 16) + _) / 16) = x % 4 + (x / 4 % 4 + dsum 4 (2 * n) (x / 4 / 4))
      rw [digit_mod _ _ _ hd, digit_div _ _ _ hd, h1, hq]
      omega
    · rw [digit_mod _ _ _ hd]; omega
    · rw [digit_div _ _ _ hd]; exact h2

def s3 (n x : Nat) : Nat := (x / 16 + x) &&& mask 256 15 n
theorem okD_low {B m n y : Nat} (h : okD B m n y) : y % B ≤ m := by
  cases n with
  | zero => rw [show y = 0 from h, Nat.zero_mod]; omega
  | succ n => exact h.1
theorem s3_succ (n x : Nat) (g1 : x % 16 ≤ 4) (g2 : x / 16 % 16 ≤ 4) (g3 : x / 256 % 16 ≤ 4) : s3 (n + 1) x = 256 * s3 n (x / 256) + (x / 16 % 16 + x % 16) := by
  unfold s3
  show (x / 16 + x) &&& (256 * mask 256 15 n + 15) = _
  have hq : x / 16 / 16 = x / 256 := by omega
  have h1 : x / 16 + x = 2 ^ 8 * (x / 256 / 16 + x / 256) + (x / 16 + x) % 256 := by omega
  have a1 : (x / 16 + x) &&& (256 * mask 256 15 n + 15) = 256 * ((x / 256 / 16 + x / 256) &&& mask 256 15 n) + ((x / 16 + x) % 256 &&& 15) := by
    conv => lhs; rw [h1]
    exact and_split 8 _ _ _ 15 (by omega) (by omega)
  rw [a1, show (15 : Nat) = 2 ^ 4 - 1 from rfl, and_low]
  omega
theorem s3_sum (n : Nat) : ∀ x, okD 16 4 (2 * n) x → dsum 256 n (s3 n x) = dsum 16 (2 * n) x ∧ okD 256 8 n (s3 n x) := by
  induction n with
  | zero => intro x _; exact ⟨rfl, by show (x / 16 + x) &&& 0 = 0; simp⟩
  | succ n ih =>
    intro x ⟨g1, g2, g3⟩
    have hq : x / 16 / 16 = x / 256 := by omega
    rw [hq] at g3
    obtain ⟨h1, h2⟩ := ih (x / 256) g3
    have hl := okD_low g3
    have hd : x / 16 % 16 + x % 16 < 256 := by omega
    rw [s3_succ n x g1 g2 (by simpa using hl)]
    refine ⟨?_, ?_, ?_⟩
    · show (256 * s3 n (x / 256) + _) % 256 + dsum 256 n ((256 * s3 n (x / 256) + _) / 256) = x % 16 + (x / 16 % 16 + dsum 16 (2 * n) (x / 16 / 16))
      rw [digit_mod _ _ _ hd, digit_div _ _ _ hd, h1, hq]
      omega
    · rw [digit_mod _ _ _ hd]; omega
    · rw [digit_div _ _ _ hd]; exact h2
theorem okD_le (B m : Nat) (hB : 1 ≤ B) : ∀ n y, okD B m n y → (B - 1) * y + m ≤ m * B ^ n := by
  intro n
  induction n with
  | zero => intro y h; rw [show y = 0 from h]; simp
  | succ n ih =>
    intro y ⟨h1, h2⟩
    have := ih _ h2
    have e := Nat.div_add_mod y B
    obtain ⟨C, rfl⟩ : ∃ C, B = C + 1 := ⟨B - 1, by omega⟩
    generalize y / (C + 1) = q at *
    generalize y % (C + 1) = r at *
    subst e
    rw [Nat.pow_succ, ← Nat.mul_assoc]
    have h3 := Nat.mul_le_mul_right (C + 1) this
    have h4 : C * r ≤ C * m := Nat.mul_le_mul_left _ h1
    simp only [Nat.add_sub_cancel] at *
    have e1 : C * ((C + 1) * q + r) = (C * q) * (C + 1) + C * r := by
      rw [Nat.mul_add, Nat.mul_left_comm, Nat.mul_comm (C + 1)]
    rw [e1]
    have e2 : (C * q + m) * (C + 1) = (C * q) * (C + 1) + (C * m + m) := by rw [Nat.add_mul, Nat.mul_add m, Nat.mul_one, Nat.mul_comm m C]
    omega
theorem okD_split {B m n y : Nat} (h : okD B m (n + 1) y) : ∃ q b, y = B * q + b ∧ b ≤ m ∧ okD B m n q ∧ dsum B (n + 1) y = b + dsum B n q :=
  ⟨y / B, y % B, (Nat.div_add_mod y B).symm, h.1, h.2, rfl⟩
theorem div1 (c R : Nat) (h : c < 256) : (c + 256 * R) / 256 = R := by omega
theorem div2 (c d R : Nat) (h : c < 256) (h2 : d < 256) : (c + 256 * (d + 256 * R)) / 65536 = R := by omega
theorem div4 (c d e f R : Nat) (h : c < 256) (h2 : d < 256) (h3 : e < 256) (h4 : f < 256) : (c + 256 * (d + 256 * (e + 256 * (f + 256 * R)))) / 4294967296 = R := by omega
theorem add_digit (c d X Y : Nat) : (c + 256 * X) + (d + 256 * Y) = (c + d) + 256 * (X + Y) := by omega
theorem mod_digit (c X : Nat) (h : c < 128) : (c + 256 * X) % 128 = c := by omega
theorem below_digit (c X k : Nat) (h : c ≤ 64) (hX : X ≤ k) : c + 256 * X ≤ 64 + 256 * k := by omega
/-- The sum of eight bytes, each at most 8, by three sums. -/
theorem sum8 (v : Nat) (h : okD 256 8 8 v) : ∃ a b c : Nat, v + v / 256 = a ∧ a + a / 65536 = b ∧ b + b / 4294967296 = c ∧ c % 128 = dsum 256 8 v ∧ v < 2000000000000000000 ∧ a < 5000000000000000000 ∧ b < 5000000000000000000 ∧ c < 5000000000000000000 := by
  obtain ⟨v1, b0, g0, d0, h, s0⟩ := okD_split h
  obtain ⟨v2, b1, g1, d1, h, s1⟩ := okD_split h
  obtain ⟨v3, b2, g2, d2, h, s2⟩ := okD_split h
  obtain ⟨v4, b3, g3, d3, h, s3⟩ := okD_split h
  obtain ⟨v5, b4, g4, d4, h, s4⟩ := okD_split h
  obtain ⟨v6, b5, g5, d5, h, s5⟩ := okD_split h
  obtain ⟨v7, b6, g6, d6, h, s6⟩ := okD_split h
  obtain ⟨v8, b7, g7, d7, h, s7⟩ := okD_split h
  obtain rfl : v8 = 0 := h
  rw [s0, s1, s2, s3, s4, s5, s6, s7]
  have hz : dsum 256 0 0 = 0 := rfl
  rw [hz]
  clear s0 s1 s2 s3 s4 s5 s6 s7 h hz
  rw [Nat.add_comm] at g0 g1 g2 g3 g4 g5 g6 g7
  have e0 : v / 256 = v1 := by rw [g0]; exact div1 _ _ (by omega)
  have E1 : v + v1 = (b0 + b1) + 256 * ((b1 + b2) + 256 * ((b2 + b3) + 256 * ((b3 + b4) + 256 * ((b4 + b5) + 256 * ((b5 + b6) + 256 * ((b6 + b7) + 256 * b7)))))) := by
    rw [g0, g1, g2, g3, g4, g5, g6, g7]
    simp only [Nat.mul_zero, Nat.add_zero]
    rw [add_digit, add_digit, add_digit, add_digit, add_digit, add_digit]
    congr 1
    rw [Nat.add_assoc]
    omega
  have hvv : v < 2000000000000000000 := by omega
  have hva : v + v1 < 5000000000000000000 := by omega
  clear g0 g1 g2 g3 g4 g5 g6 g7
  rw [e0]
  refine ⟨_, _, _, rfl, rfl, rfl, ?_⟩
  generalize v + v1 = a at *
  clear e0
  have hs : b0 + (b1 + (b2 + (b3 + (b4 + (b5 + (b6 + (b7 + 0))))))) = (b0 + b1) + (b2 + b3) + (b4 + b5) + (b6 + b7) := by omega
  rw [hs]
  clear hs
  obtain ⟨c0, f0⟩ : ∃ c, b0 + b1 = c := ⟨_, rfl⟩
  obtain ⟨c1, f1⟩ : ∃ c, b1 + b2 = c := ⟨_, rfl⟩
  obtain ⟨c2, f2⟩ : ∃ c, b2 + b3 = c := ⟨_, rfl⟩
  obtain ⟨c3, f3⟩ : ∃ c, b3 + b4 = c := ⟨_, rfl⟩
  obtain ⟨c4, f4⟩ : ∃ c, b4 + b5 = c := ⟨_, rfl⟩
  obtain ⟨c5, f5⟩ : ∃ c, b5 + b6 = c := ⟨_, rfl⟩
  obtain ⟨c6, f6⟩ : ∃ c, b6 + b7 = c := ⟨_, rfl⟩
  rw [f0, f1, f2, f3, f4, f5, f6] at E1
  rw [f0, f2, f4, f6]
  have k0 : c0 ≤ 16 := by omega
  have k1 : c1 ≤ 16 := by omega
  have k2 : c2 ≤ 16 := by omega
  have k3 : c3 ≤ 16 := by omega
  have k4 : c4 ≤ 16 := by omega
  have k5 : c5 ≤ 16 := by omega
  have k6 : c6 ≤ 16 := by omega
  clear f0 f1 f2 f3 f4 f5 f6 d0 d1 d2 d3 d4 d5 d6
  have e1 : a / 65536 = c2 + 256 * (c3 + 256 * (c4 + 256 * (c5 + 256 * (c6 + 256 * b7)))) := by rw [E1]; exact div2 _ _ _ (by omega) (by omega)
  have E2 : a + a / 65536 = (c0 + c2) + 256 * ((c1 + c3) + 256 * ((c2 + c4) + 256 * ((c3 + c5) + 256 * ((c4 + c6) + 256 * ((c5 + b7) + 256 * (c6 + 256 * b7)))))) := by
    rw [e1, E1]
    rw [add_digit, add_digit, add_digit, add_digit, add_digit]
    congr 6
    omega
  have hab : a + a / 65536 < 4900000000000000000 := by omega
  clear E1 e1
  generalize a + a / 65536 = b at *
  have e2 : b / 4294967296 = (c4 + c6) + 256 * ((c5 + b7) + 256 * (c6 + 256 * b7)) := by rw [E2]; exact div4 _ _ _ _ _ (by omega) (by omega) (by omega) (by omega)
  have e3 : (b + b / 4294967296) % 128 = c0 + c2 + c4 + c6 := by
    rw [e2, E2, add_digit, mod_digit _ _ (by omega)]
    omega
  exact ⟨e3, hvv, hva, by omega, by clear E2 e2 e3; omega⟩
/-- Counting by halves. -/
theorem count_steps (x : Nat) (hx : x < 18446744073709551616) :
    ∃ a b v p q r : Nat, (x / 2 &&& 6148914691236517205) + (x &&& 6148914691236517205) = a ∧ (a / 4 &&& 3689348814741910323) + (a &&& 3689348814741910323) = b ∧ (b / 16 + b) &&& 1085102592571150095 = v ∧
      v + v / 256 = p ∧ p + p / 65536 = q ∧ q + q / 4294967296 = r ∧ r % 128 = pc x ∧
      a < 18446744073709551616 ∧ b < 10000000000000000000 ∧ v < 2000000000000000000 ∧ p < 5000000000000000000 ∧ q < 5000000000000000000 ∧ r < 5000000000000000000 := by
  have m1 : mask 4 1 32 = 6148914691236517205 := by decide +kernel
  have m2 : mask 16 3 16 = 3689348814741910323 := by decide +kernel
  have m3 : mask 256 15 8 = 1085102592571150095 := by decide +kernel
  obtain ⟨h1, o1⟩ := s1_sum 32 x
  obtain ⟨h2, o2⟩ := s2_sum 16 (s1 32 x) o1
  obtain ⟨h3, o3⟩ := s3_sum 8 (s2 16 (s1 32 x)) o2
  obtain ⟨p, q, r, e1, e2, e3, e4, l1, l2, l3, l4⟩ := sum8 _ o3
  have b1 := okD_le 4 2 (by decide) 32 _ o1
  have b2 := okD_le 16 4 (by decide) 16 _ o2
  refine ⟨s1 32 x, s2 16 (s1 32 x), s3 8 (s2 16 (s1 32 x)), p, q, r, by rw [← m1]; rfl, by rw [← m2]; rfl, by rw [← m3]; rfl, e1, e2, e3, ?_, ?_, ?_, l1, l2, l3, l4⟩
  · rw [e4, h3, h2, h1, pc_sum]
  · have e : (4 : Nat) ^ 32 = 18446744073709551616 := by decide +kernel
    rw [e] at b1
    omega
  · have e : (16 : Nat) ^ 16 = 18446744073709551616 := by decide +kernel
    rw [e] at b2
    omega

/-! The lowest bit. -/
theorem filter_first (k : Nat) (p q : Nat → Bool) (hp : p k = true) (hq : q k = false) (h0 : ∀ i, i < k → p i = false) (he : ∀ i, i ≠ k → p i = q i) :
    ∀ n, k < n → (List.range n).filter p = k :: (List.range n).filter q := by
  intro n
  induction n with
  | zero => intro h; omega
  | succ n ih =>
    intro h
    rw [List.range_succ, List.filter_append, List.filter_append]
    by_cases hkn : k = n
    · subst hkn
      have e1 : (List.range k).filter p = [] := by
        rw [List.filter_eq_nil_iff]
        intro i hi
        rw [h0 i (List.mem_range.1 hi)]; simp
      have e2 : (List.range k).filter q = [] := by
        rw [List.filter_eq_nil_iff]
        intro i hi
        have hik := List.mem_range.1 hi
        rw [← he i (by omega), h0 i hik]; simp
      rw [e1, e2]
      simp [hp, hq]
    · rw [ih (by omega)]
      have e3 : p n = q n := he n (fun e => hkn e.symm)
      simp [List.filter_cons, e3]
theorem ctz_form (x : Nat) (h0 : x ≠ 0) (hx : x < 18446744073709551616) : ∃ m, x = 2 ^ ctz 64 x * (2 * m + 1) ∧ ctz 64 x < 64 := by
  have := ctzFrom_spec 64 x (by omega) (by simpa using hx)
  have e : ctz 64 x = ctzFrom 64 x := by simp [ctz, h0]
  rw [e]; exact this
theorem and_pred (k m : Nat) : (2 ^ k * (2 * m + 1)) &&& (2 ^ k * (2 * m + 1) - 1) = 2 ^ k * (2 * m) := by
  have hp : 0 < 2 ^ k := Nat.two_pow_pos k
  have e1 : 2 ^ k * (2 * m + 1) - 1 = 2 ^ k * (2 * m) + (2 ^ k - 1) := by rw [Nat.mul_add, Nat.mul_one]; omega
  have e2 : 2 ^ k * (2 * m + 1) = 2 ^ k * (2 * m + 1) + 0 := rfl
  rw [e1]
  conv => lhs; lhs; rw [e2]
  rw [and_split k _ 0 _ (2 ^ k - 1) hp (by omega)]
  have e3 : (2 * m + 1) &&& (2 * m) = 2 * m := by
    have := and_split 1 m 1 m 0 (by decide) (by decide)
    simpa using this
  rw [e3]; simp
theorem bits_cons (x : Nat) (h0 : x ≠ 0) (hx : x < 18446744073709551616) : bitsOf x = ctz 64 x :: bitsOf (x &&& (x - 1)) := by
  obtain ⟨m, hm, hk⟩ := ctz_form x h0 hx
  generalize ctz 64 x = k at *
  subst hm
  rw [and_pred]
  unfold bitsOf
  refine filter_first k _ _ ?_ ?_ ?_ ?_ 64 hk
  · rw [Nat.testBit_two_pow_mul]; simp [Nat.testBit_zero]
  · rw [Nat.testBit_two_pow_mul]; simp [Nat.testBit_zero]
  · intro i hi
    rw [Nat.testBit_two_pow_mul]; simp; omega
  · intro i hi
    show (2 ^ k * (2 * m + 1)).testBit i = (2 ^ k * (2 * m)).testBit i
    rw [Nat.testBit_two_pow_mul, Nat.testBit_two_pow_mul]
    by_cases h : k ≤ i
    · obtain ⟨j, rfl⟩ : ∃ j, i = k + (j + 1) := ⟨i - k - 1, by omega⟩
      rw [show k + (j + 1) - k = j + 1 by omega, Nat.testBit_succ, Nat.testBit_succ]
      rw [show (2 * m + 1) / 2 = m by omega, show 2 * m / 2 = m by omega]
    · simp [h]
theorem bits_zero : bitsOf 0 = [] := by decide +kernel
theorem and_pred_lt (x : Nat) (h0 : x ≠ 0) : x &&& (x - 1) < x := by
  have := Nat.and_le_right (n := x) (m := x - 1)
  omega
theorem bits_mem (x i : Nat) : i ∈ bitsOf x ↔ i < 64 ∧ x.testBit i = true := by
  unfold bitsOf; rw [List.mem_filter, List.mem_range]
theorem bits_sorted (x : Nat) : (bitsOf x).Pairwise (· < ·) := List.Pairwise.filter _ List.pairwise_lt_range
theorem pc_le (x : Nat) : pc x ≤ 64 := by
  have := List.length_filter_le (fun i => x.testBit i) (List.range 64)
  rw [List.length_range] at this
  exact this
end Go.Proofs.YtmbkopeikldonaaDoor.Quo
