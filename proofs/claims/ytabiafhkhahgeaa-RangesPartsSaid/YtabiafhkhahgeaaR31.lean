/- The parts of a range, as a chain: plain facts for RangesParts. -/
import Derived.Test.YtabiafhkhahgeaaR22
namespace Go.Proofs.Ytabiafhkhahgeaa.Rng
open Go.RowKit Go.Lib
set_option linter.unusedVariables false
set_option linter.unusedSimpArgs false

/-- The ranges of L, in some order, lead from x to y. -/
def Chain (L : List Rg) (x y : List UInt8) : Prop :=
  1 ≤ L.length ∧ L.length ≤ 3 ∧ ∃ (pos : Nat → List UInt8) (idx : Nat → Nat), pos 0 = x ∧ pos L.length = y ∧
    ∀ m, m < L.length → ∃ r, L[idx m]? = some r ∧ r.f = pos m ∧ r.t = pos (m + 1) ∧ (∀ j, j < idx m → ∀ q, L[j]? = some q → q.f ≠ pos m) ∧ (m + 1 < L.length → pos (m + 1) ≠ [])
theorem chain_1 (r : Rg) : Chain [r] r.f r.t := by
  refine ⟨by simp, by simp, fun m => if m = 0 then r.f else r.t, fun _ => 0, rfl, rfl, ?_⟩
  intro m hm
  have : m = 0 := by simpa using hm
  subst this
  exact ⟨r, rfl, rfl, rfl, fun j hj => absurd hj (Nat.not_lt_zero _), fun h => absurd h (by simp)⟩
theorem chain_2 (r s : Rg) (h : r.t = s.f) (hn : s.f ≠ []) (hd : r.f ≠ s.f) : Chain [r, s] r.f s.t := by
  refine ⟨by simp, by simp, fun m => if m = 0 then r.f else if m = 1 then s.f else s.t, fun m => m, rfl, rfl, ?_⟩
  intro m hm
  match m, hm with
  | 0, _ => exact ⟨r, rfl, rfl, h, fun j hj => absurd hj (Nat.not_lt_zero _), fun _ => hn⟩
  | 1, _ => exact ⟨s, rfl, rfl, rfl, fun j hj q hq => by
      obtain rfl : j = 0 := Nat.lt_one_iff.1 hj
      cases hq; exact hd, fun h => absurd h (by simp)⟩
theorem chain_2b (r s : Rg) (h : s.t = r.f) (hn : r.f ≠ []) (hd : r.f ≠ s.f) : Chain [r, s] s.f r.t := by
  refine ⟨by simp, by simp, fun m => if m = 0 then s.f else if m = 1 then r.f else r.t, fun m => 1 - m, rfl, rfl, ?_⟩
  intro m hm
  match m, hm with
  | 0, _ => exact ⟨s, rfl, rfl, h, fun j hj q hq => by
      obtain rfl : j = 0 := Nat.lt_one_iff.1 hj
      cases hq; exact hd, fun _ => hn⟩
  | 1, _ => exact ⟨r, rfl, rfl, rfl, fun j hj => absurd hj (Nat.not_lt_zero _), fun h => absurd h (by simp)⟩
theorem chain_3 (r s q : Rg) (h1 : r.t = q.f) (h2 : q.t = s.f) (n1 : q.f ≠ []) (n2 : s.f ≠ []) (d1 : r.f ≠ q.f) (d2 : s.f ≠ q.f) (d3 : r.f ≠ s.f) : Chain [r, s, q] r.f s.t := by
  refine ⟨by simp, by simp, fun m => if m = 0 then r.f else if m = 1 then q.f else if m = 2 then s.f else s.t, fun m => if m = 0 then 0 else if m = 1 then 2 else 1, rfl, rfl, ?_⟩
  intro m hm
  match m, hm with
  | 0, _ => exact ⟨r, rfl, rfl, h1, fun j hj => absurd hj (Nat.not_lt_zero _), fun _ => n1⟩
  | 1, _ => exact ⟨q, rfl, rfl, h2, fun j hj p hp => by
      match j, hj with
      | 0, _ => cases hp; exact d1
      | 1, _ => cases hp; exact d2, fun _ => n2⟩
  | 2, _ => exact ⟨s, rfl, rfl, rfl, fun j hj p hp => by
      match j, hj with
      | 0, _ => cases hp; exact d3, fun h => absurd h (by simp)⟩
theorem hi_is_lo {x y : List UInt8} (hx : endOk x = true) (hy : endOk y = true) (h : hi x = lo y) : x = y ∧ y ≠ [] := by
  have hne : x ≠ [] := fun e => by rw [e, hi_nil] at h; have := lo_top y; omega
  rw [hi_lo hne] at h
  have e := (eq_lo (endOk_len hx) (endOk_len hy)).2 h
  exact ⟨e, e ▸ hne⟩
/-- All that the first range has: what is not in the second one, and what both have. -/
def partsR (a b : Rg) : List Rg := (withR a b).1 ++ (if (meetR a b).2.1 then [(meetR a b).1] else [])
theorem parts_chain {a b : Rg} (ha : okR a = true) (hb : okR b = true) : Chain (partsR a b) a.f a.t := by
  obtain ⟨a1, a2, a3⟩ := (okR_iff a).1 ha
  obtain ⟨b1, b2, b3⟩ := (okR_iff b).1 hb
  obtain ⟨m1, m2, m3, m4⟩ := meet_facts ha hb
  have mv := meetV_ok ha hb
  obtain ⟨p1, p2⟩ := wo1_facts ha hb
  obtain ⟨q1, q2⟩ := wo2_facts ha hb
  have lf {x y : List UInt8} (hx : endOk x = true) (hy : endOk y = true) : x = y ↔ lo x = lo y := eq_lo (endOk_len hx) (endOk_len hy)
  have hf {x y : List UInt8} (hx : endOk x = true) (hy : endOk y = true) : x = y ↔ hi x = hi y := eq_hi (endOk_len hx) (endOk_len hy)
  unfold partsR
  rw [withR_ok ha hb, meetR_ok ha hb]
  show Chain ((wo1 a b ++ wo2 a b) ++ _) _ _
  by_cases h1 : lo a.f < lo b.f
  · obtain ⟨e1, o1, v1⟩ := p1 h1
    obtain ⟨_, o1t, _⟩ := (okR_iff _).1 o1
    replace o1t : endOk (earlierV a.t b.f) = true := o1t
    rw [e1]
    by_cases h2 : hi b.t < hi a.t
    · obtain ⟨e2, o2, v2⟩ := q1 h2
      obtain ⟨o2f, _, _⟩ := (okR_iff _).1 o2
      replace o2f : endOk (laterV a.f b.t) = true := o2f
      rw [e2, mv, decide_eq_true (by omega)]
      obtain ⟨x1, x2⟩ := hi_is_lo o1t m3 (by omega)
      obtain ⟨y1, y2⟩ := hi_is_lo m4 o2f (by omega)
      exact chain_3 ⟨a.f, _⟩ ⟨_, a.t⟩ (meetV a b) x1 y1 x2 y2 (fun e => by have := (lf a1 m3).1 e; omega) (fun e => by have := (lf o2f m3).1 e; omega) (fun e => by have := (lf a1 o2f).1 e; omega)
    · rw [q2 h2, mv]
      by_cases h3 : lo b.f < hi a.t
      · rw [decide_eq_true (by omega)]
        obtain ⟨x1, x2⟩ := hi_is_lo o1t m3 (by omega)
        have e := (hf m4 a2).2 (by omega)
        have := chain_2 ⟨a.f, earlierV a.t b.f⟩ (meetV a b) x1 x2 (fun e => by have := (lf a1 m3).1 e; omega)
        rw [e] at this
        exact this
      · rw [decide_eq_false (by omega)]
        have e := (hf o1t a2).2 (by omega)
        have := chain_1 ⟨a.f, earlierV a.t b.f⟩
        rw [show (⟨a.f, earlierV a.t b.f⟩ : Rg).t = a.t from e] at this
        exact this
  · rw [p2 h1]
    by_cases h2 : hi b.t < hi a.t
    · obtain ⟨e2, o2, v2⟩ := q1 h2
      obtain ⟨o2f, _, _⟩ := (okR_iff _).1 o2
      replace o2f : endOk (laterV a.f b.t) = true := o2f
      rw [e2, mv]
      by_cases h3 : lo a.f < hi b.t
      · rw [decide_eq_true (by omega)]
        obtain ⟨y1, y2⟩ := hi_is_lo m4 o2f (by omega)
        have e := (lf m3 a1).2 (by omega)
        have := chain_2b ⟨laterV a.f b.t, a.t⟩ (meetV a b) y1 y2 (fun e => by have := (lf o2f m3).1 e; omega)
        rw [e] at this
        exact this
      · rw [decide_eq_false (by omega)]
        have e := (lf o2f a1).2 (by omega)
        have := chain_1 ⟨laterV a.f b.t, a.t⟩
        rw [show (⟨laterV a.f b.t, a.t⟩ : Rg).f = a.f from e] at this
        exact this
    · rw [q2 h2, mv, decide_eq_true (by omega)]
      have e := (lf m3 a1).2 (by omega)
      have e2 := (hf m4 a2).2 (by omega)
      have := chain_1 (meetV a b)
      rw [e, e2] at this
      exact this
end Go.Proofs.Ytabiafhkhahgeaa.Rng
