/- Ranges as plain pairs of lists of bytes: their order told by numbers, and what the operations make of them. -/
import Derived.Test.YtiahjacjpakkdaaS05
import Derived.Sort.Walk0
namespace Go.Proofs.Ytiahjacjpakkdaa.Rng
open Go.RowKit Go.Lib
set_option linter.unusedVariables false
set_option linter.unusedSimpArgs false

/-- Less, of lists of bytes. -/
def bl (x y : List UInt8) : Bool := Op.bytesLess x y
/-- The number of a list of at most n bytes. -/
def num : Nat → List UInt8 → Nat
  | 0, _ => 0
  | _, [] => 0
  | n + 1, c :: l => (c.toNat + 1) * 257 ^ n + num n l
theorem num_lt (n : Nat) : ∀ l, num n l < 257 ^ n := by
  induction n with
  | zero => intro l; simp [num]
  | succ n ih =>
    intro l
    cases l with
    | nil => simp only [num]; exact Nat.pow_pos (by decide)
    | cons c l =>
      have h1 := ih l
      have h2 := c.toNat_lt
      have h3 : (c.toNat + 1) * 257 ^ n ≤ 256 * 257 ^ n := Nat.mul_le_mul_right _ (by omega)
      simp only [num, Nat.pow_succ]
      omega
theorem num_bl (n : Nat) : ∀ x y : List UInt8, x.length ≤ n → y.length ≤ n → (bl x y = decide (num n x < num n y)) ∧ ((x = y) ↔ num n x = num n y) := by
  induction n with
  | zero =>
    intro x y hx hy
    cases x with
    | cons => simp at hx
    | nil =>
      cases y with
      | cons => simp at hy
      | nil => simp [num, bl, Op.bytesLess]
  | succ n ih =>
    intro x y hx hy
    have hp : 0 < 257 ^ n := Nat.pow_pos (by decide)
    cases x with
    | nil =>
      cases y with
      | nil => simp [num, bl, Op.bytesLess]
      | cons d y =>
        have : 1 * 257 ^ n ≤ (d.toNat + 1) * 257 ^ n := Nat.mul_le_mul_right _ (by omega)
        have hq : 0 < (d.toNat + 1) * 257 ^ n + num n y := by omega
        constructor
        · show true = decide (0 < (d.toNat + 1) * 257 ^ n + num n y); rw [decide_eq_true hq]
        · show _ ↔ 0 = (d.toNat + 1) * 257 ^ n + num n y
          exact ⟨(fun h => by cases h), fun h => by omega⟩
    | cons c x =>
      cases y with
      | nil =>
        have : 1 * 257 ^ n ≤ (c.toNat + 1) * 257 ^ n := Nat.mul_le_mul_right _ (by omega)
        have hq : 0 < (c.toNat + 1) * 257 ^ n + num n x := by omega
        constructor
        · show false = decide ((c.toNat + 1) * 257 ^ n + num n x < 0); rw [decide_eq_false (by omega)]
        · show _ ↔ (c.toNat + 1) * 257 ^ n + num n x = 0
          exact ⟨(fun h => by cases h), fun h => by omega⟩
      | cons d y =>
        obtain ⟨h1, h2⟩ := ih x y (by simp at hx; omega) (by simp at hy; omega)
        have kx := num_lt n x
        have ky := num_lt n y
        unfold bl at h1
        simp only [num, bl, Op.bytesLess, h1]
        rcases Nat.lt_trichotomy c.toNat d.toNat with h | h | h
        · have hl : (c.toNat + 1 + 1) * 257 ^ n ≤ (d.toNat + 1) * 257 ^ n := Nat.mul_le_mul_right _ (by omega)
          rw [Nat.add_mul] at hl
          have hlt : c < d := UInt8.lt_iff_toNat_lt.2 h
          have hne : c ≠ d := fun e => by rw [e] at h; omega
          have hq : (c.toNat + 1) * 257 ^ n + num n x < (d.toNat + 1) * 257 ^ n + num n y := by omega
          constructor
          · refine Eq.trans (b := true) (by simp [hlt]) (decide_eq_true hq).symm
          · exact ⟨fun e => by (injection e with e1 e2; exact absurd e1 hne), fun e => by omega⟩
        · have he : c = d := UInt8.toNat_inj.1 h
          subst he
          constructor
          · simp
          · simp [h2]
        · have hl : (d.toNat + 1 + 1) * 257 ^ n ≤ (c.toNat + 1) * 257 ^ n := Nat.mul_le_mul_right _ (by omega)
          rw [Nat.add_mul] at hl
          have hlt : ¬ c < d := fun h' => by have := UInt8.lt_iff_toNat_lt.1 h'; omega
          have hne : c ≠ d := fun e => by rw [e] at h; omega
          have hq : (d.toNat + 1) * 257 ^ n + num n y < (c.toNat + 1) * 257 ^ n + num n x := by omega
          constructor
          · refine Eq.trans (b := false) (by rw [decide_eq_false hlt, beq_eq_false_iff_ne.2 hne]; rfl) (decide_eq_false (by omega)).symm
          · exact ⟨fun e => by (injection e with e1 e2; exact absurd e1 hne), fun e => by omega⟩

theorem bl_eq (x y : List UInt8) : bl x y = decide (x < y) := bytesLess_eq x y
theorem bl_irrefl (x : List UInt8) : bl x x = false := by
  have := (num_bl x.length x x (Nat.le_refl _) (Nat.le_refl _)).1
  rw [this]; simp
theorem num_bl3 (x y z : List UInt8) : ∃ n, x.length ≤ n ∧ y.length ≤ n ∧ z.length ≤ n := ⟨x.length + y.length + z.length, by omega, by omega, by omega⟩
theorem bl_trans (x y z : List UInt8) (h1 : bl x y = true) (h2 : bl y z = true) : bl x z = true := by
  obtain ⟨n, a, b, c⟩ := num_bl3 x y z
  rw [(num_bl n _ _ a b).1] at h1
  rw [(num_bl n _ _ b c).1] at h2
  rw [(num_bl n _ _ a c).1]
  simp at *; omega
theorem bl_ntrans (x y z : List UInt8) (h1 : bl x y = false) (h2 : bl y z = false) : bl x z = false := by
  obtain ⟨n, a, b, c⟩ := num_bl3 x y z
  rw [(num_bl n _ _ a b).1] at h1
  rw [(num_bl n _ _ b c).1] at h2
  rw [(num_bl n _ _ a c).1]
  simp at *; omega
theorem bl_nil (x : List UInt8) : bl x [] = false := by cases x <;> rfl
theorem nil_bl (x : List UInt8) : bl [] x = !x.isEmpty := by cases x <;> rfl

/-- A range. -/
structure Rg where
  f : List UInt8
  t : List UInt8
deriving DecidableEq
instance : Inhabited Rg := ⟨⟨[], []⟩⟩
def endOk (x : List UInt8) : Bool := x.isEmpty || nameOk x
def okR (r : Rg) : Bool := endOk r.f && endOk r.t && (r.t.isEmpty || bl r.f r.t)
/-- Texts in their order: less, equal, greater. -/
def cmpS (x y : List UInt8) : Int := if bl x y then -1 else if bl x y || x == y then 0 else 1
def cmpE (v : Int) (x y : List UInt8) : Int := if x = y then 0 else if x = [] then v else if y = [] then -v else cmpS x y
def hasR (r : Rg) (k : List UInt8) : Bool := okR r && nameOk k && (bl r.f k || r.f == k) && decide (cmpE 1 k r.t < 0)
def laterV (x y : List UInt8) : List UInt8 := if cmpE (-1) x y < 0 then y else x
def earlierV (x y : List UInt8) : List UInt8 := if 0 < cmpE 1 x y then y else x
def meetV (a b : Rg) : Rg := ⟨laterV a.f b.f, earlierV a.t b.t⟩
def meetR (a b : Rg) : Rg × Bool × Int := if okR a && okR b then (if okR (meetV a b) then (meetV a b, true, 0) else (⟨[], []⟩, false, 0)) else (⟨[], []⟩, false, 2)
def lessR (a b : Rg) : Bool × Int := if okR a && okR b then (!a.t.isEmpty && (bl a.t b.f || a.t == b.f), 0) else (false, 2)
def wo1 (a b : Rg) : List Rg := if cmpE (-1) a.f b.f < 0 then [⟨a.f, earlierV a.t b.f⟩] else []
def wo2 (a b : Rg) : List Rg := if cmpE 1 b.t a.t < 0 then [⟨laterV a.f b.t, a.t⟩] else []
def withR (a b : Rg) : List Rg × Int := if okR a && okR b then (wo1 a b ++ wo2 a b, 0) else ([], 2)
def insideR (a b : Rg) : Bool × Int := ((meetR a b).2.1 && decide ((meetR a b).1 = a), (meetR a b).2.2)

/-- Ends as numbers: an empty From is below all names, an empty To above them. -/
def top : Nat := 257 ^ 16
def lo (x : List UInt8) : Nat := num 16 x
def hi (x : List UInt8) : Nat := if x = [] then top else num 16 x
theorem nameOk_len {x : List UInt8} (h : nameOk x = true) : 1 ≤ x.length ∧ x.length ≤ 16 := by
  unfold nameOk at h; simp at h; omega
theorem endOk_len {x : List UInt8} (h : endOk x = true) : x.length ≤ 16 := by
  unfold endOk at h
  rw [Bool.or_eq_true] at h
  rcases h with h | h
  · simp at h; simp [h]
  · exact (nameOk_len h).2
theorem lo_top (x : List UInt8) : lo x < top := num_lt 16 x
theorem lo_nil : lo [] = 0 := rfl
theorem lo_pos {x : List UInt8} (h : x ≠ []) : 0 < lo x := by
  cases x with
  | nil => exact absurd rfl h
  | cons c x =>
    have : 1 * 257 ^ 15 ≤ (c.toNat + 1) * 257 ^ 15 := Nat.mul_le_mul_right _ (by omega)
    have hp : 0 < 257 ^ 15 := Nat.pow_pos (by decide)
    show 0 < (c.toNat + 1) * 257 ^ 15 + num 15 x
    omega
theorem hi_nil : hi [] = top := rfl
theorem hi_lo {x : List UInt8} (h : x ≠ []) : hi x = lo x := if_neg h
theorem bl_lo {x y : List UInt8} (hx : x.length ≤ 16) (hy : y.length ≤ 16) : bl x y = decide (lo x < lo y) := (num_bl 16 x y hx hy).1
theorem eq_lo {x y : List UInt8} (hx : x.length ≤ 16) (hy : y.length ≤ 16) : x = y ↔ lo x = lo y := (num_bl 16 x y hx hy).2
theorem eq_hi {x y : List UInt8} (hx : x.length ≤ 16) (hy : y.length ≤ 16) : x = y ↔ hi x = hi y := by
  have h1 := lo_top x
  have h2 := lo_top y
  have h3 := eq_lo hx hy
  by_cases e1 : x = [] <;> by_cases e2 : y = []
  · rw [e1, e2]; simp
  · rw [e1, hi_nil, hi_lo e2]
    exact ⟨fun e => absurd e.symm e2, fun e => by omega⟩
  · rw [e2, hi_nil, hi_lo e1]
    exact ⟨fun e => absurd e e1, fun e => by omega⟩
  · rw [hi_lo e1, hi_lo e2]; exact h3
theorem okR_iff (r : Rg) : okR r = true ↔ endOk r.f = true ∧ endOk r.t = true ∧ lo r.f < hi r.t := by
  unfold okR
  rw [Bool.and_eq_true, Bool.and_eq_true, Bool.or_eq_true]
  constructor
  · rintro ⟨⟨h1, h2⟩, h3⟩
    refine ⟨h1, h2, ?_⟩
    by_cases e : r.t = []
    · rw [e]; exact lo_top _
    · rw [hi_lo e]
      rcases h3 with h3 | h3
      · exact absurd (by simpa using h3) e
      · rw [bl_lo (endOk_len h1) (endOk_len h2)] at h3; simpa using h3
  · rintro ⟨h1, h2, h3⟩
    refine ⟨⟨h1, h2⟩, ?_⟩
    by_cases e : r.t = []
    · left; simp [e]
    · right; rw [hi_lo e] at h3; rw [bl_lo (endOk_len h1) (endOk_len h2)]; simpa using h3
theorem cmpS_lo {x y : List UInt8} (hx : x.length ≤ 16) (hy : y.length ≤ 16) : (cmpS x y < 0 ↔ lo x < lo y) ∧ (0 < cmpS x y ↔ lo y < lo x) := by
  have h1 := bl_lo hx hy
  have h2 := eq_lo hx hy
  unfold cmpS
  by_cases e : lo x < lo y
  · rw [h1, decide_eq_true e]; simp; omega
  · rw [h1, decide_eq_false e]
    by_cases e2 : x = y
    · have := h2.1 e2
      simp [e2]
    · have : ¬ lo x = lo y := fun h => e2 (h2.2 h)
      simp [e2]; omega
theorem cmpF {x y : List UInt8} (hx : x.length ≤ 16) (hy : y.length ≤ 16) : cmpE (-1) x y < 0 ↔ lo x < lo y := by
  unfold cmpE
  by_cases e : x = y
  · rw [if_pos e, e]; simp
  · rw [if_neg e]
    by_cases e1 : x = []
    · subst e1
      rw [if_pos rfl]
      have := lo_pos (x := y) (fun h => e h.symm)
      rw [lo_nil]; simp [this]
    · rw [if_neg e1]
      by_cases e2 : y = []
      · subst e2
        rw [if_pos rfl, lo_nil]
        simp
      · rw [if_neg e2]; exact (cmpS_lo hx hy).1
theorem cmpT {x y : List UInt8} (hx : x.length ≤ 16) (hy : y.length ≤ 16) : (cmpE 1 x y < 0 ↔ hi x < hi y) ∧ (0 < cmpE 1 x y ↔ hi y < hi x) := by
  have t1 := lo_top x
  have t2 := lo_top y
  unfold cmpE
  by_cases e : x = y
  · rw [if_pos e, e]; simp
  · rw [if_neg e]
    by_cases e1 : x = []
    · subst e1
      rw [if_pos rfl, hi_nil, hi_lo (fun h => e h.symm)]
      constructor
      · constructor
        · intro h; omega
        · intro h; omega
      · simp; exact t2
    · rw [if_neg e1]
      by_cases e2 : y = []
      · subst e2
        rw [if_pos rfl, hi_nil, hi_lo e1]
        constructor
        · simp; exact t1
        · constructor
          · intro h; omega
          · intro h; omega
      · rw [if_neg e2, hi_lo e1, hi_lo e2]; exact cmpS_lo hx hy
theorem later_ok {x y : List UInt8} (hx : endOk x = true) (hy : endOk y = true) : endOk (laterV x y) = true ∧ lo (laterV x y) = max (lo x) (lo y) := by
  have h := cmpF (endOk_len hx) (endOk_len hy)
  unfold laterV
  by_cases e : lo x < lo y
  · rw [if_pos (h.2 e)]; exact ⟨hy, by omega⟩
  · rw [if_neg (fun k => e (h.1 k))]; exact ⟨hx, by omega⟩
theorem earlier_ok {x y : List UInt8} (hx : endOk x = true) (hy : endOk y = true) : endOk (earlierV x y) = true ∧ hi (earlierV x y) = min (hi x) (hi y) := by
  have h := (cmpT (endOk_len hx) (endOk_len hy)).2
  unfold earlierV
  by_cases e : hi y < hi x
  · rw [if_pos (h.2 e)]; exact ⟨hy, by omega⟩
  · rw [if_neg (fun k => e (h.1 k))]; exact ⟨hx, by omega⟩
theorem hasR_iff {r : Rg} (h : okR r = true) (k : List UInt8) : hasR r k = true ↔ nameOk k = true ∧ lo r.f ≤ lo k ∧ lo k < hi r.t := by
  obtain ⟨h1, h2, h3⟩ := (okR_iff r).1 h
  unfold hasR
  rw [h]
  simp only [Bool.true_and, Bool.and_eq_true, Bool.or_eq_true, decide_eq_true_iff, beq_iff_eq]
  constructor
  · rintro ⟨⟨hn, a⟩, b⟩
    have hl := nameOk_len hn
    have hne : k ≠ [] := fun e => by rw [e] at hl; simp at hl
    rw [bl_lo (endOk_len h1) hl.2, eq_lo (endOk_len h1) hl.2] at a
    have b := (cmpT hl.2 (endOk_len h2)).1.1 b
    rw [hi_lo hne] at b
    simp at a
    exact ⟨hn, by omega, b⟩
  · rintro ⟨hn, a, b⟩
    have hl := nameOk_len hn
    have hne : k ≠ [] := fun e => by rw [e] at hl; simp at hl
    refine ⟨⟨hn, ?_⟩, ?_⟩
    · rw [bl_lo (endOk_len h1) hl.2, eq_lo (endOk_len h1) hl.2]; simp; omega
    · rw [← hi_lo hne] at b; exact (cmpT hl.2 (endOk_len h2)).1.2 b
theorem hasR_no {r : Rg} (h : okR r = false) (k : List UInt8) : hasR r k = false := by unfold hasR; rw [h]; rfl
theorem hasR_bool {r : Rg} (h : okR r = true) (k : List UInt8) : hasR r k = (nameOk k && decide (lo r.f ≤ lo k ∧ lo k < hi r.t)) := by
  rw [Bool.eq_iff_iff, hasR_iff h]; simp
end Go.Proofs.Ytiahjacjpakkdaa.Rng
