/- What the operations say of keys, as plain facts. -/
import Derived.Test.YtocencmdfppkaaaR17
namespace Go.Proofs.Ytocencmdfppkaaa.Rng
open Go.RowKit Go.Lib
set_option linter.unusedVariables false
set_option linter.unusedSimpArgs false

theorem meet_facts {a b : Rg} (ha : okR a = true) (hb : okR b = true) :
    lo (meetV a b).f = max (lo a.f) (lo b.f) ∧ hi (meetV a b).t = min (hi a.t) (hi b.t) ∧ endOk (meetV a b).f = true ∧ endOk (meetV a b).t = true := by
  obtain ⟨a1, a2, a3⟩ := (okR_iff a).1 ha
  obtain ⟨b1, b2, b3⟩ := (okR_iff b).1 hb
  obtain ⟨x1, x2⟩ := later_ok a1 b1
  obtain ⟨y1, y2⟩ := earlier_ok a2 b2
  exact ⟨x2, y2, x1, y1⟩
theorem meetV_ok {a b : Rg} (ha : okR a = true) (hb : okR b = true) : okR (meetV a b) = decide (max (lo a.f) (lo b.f) < min (hi a.t) (hi b.t)) := by
  obtain ⟨h1, h2, h3, h4⟩ := meet_facts ha hb
  rw [Bool.eq_iff_iff, okR_iff, h1, h2]
  simp [h3, h4]
theorem meetR_ok {a b : Rg} (ha : okR a = true) (hb : okR b = true) : meetR a b = if okR (meetV a b) then (meetV a b, true, 0) else (⟨[], []⟩, false, 0) := by
  unfold meetR; rw [ha, hb]; rfl
theorem meetR_no {a b : Rg} (h : (okR a && okR b) = false) : meetR a b = (⟨[], []⟩, false, 2) := by
  unfold meetR; rw [h]; rfl
theorem meetR_err {a b : Rg} : (meetR a b).2.2 = if okR a && okR b then 0 else 2 := by
  unfold meetR; split
  · split <;> rfl
  · rfl
theorem withR_no {a b : Rg} (h : (okR a && okR b) = false) : withR a b = ([], 2) := by unfold withR; rw [h]; rfl
theorem withR_ok {a b : Rg} (ha : okR a = true) (hb : okR b = true) : withR a b = (wo1 a b ++ wo2 a b, 0) := by unfold withR; rw [ha, hb]; rfl
theorem lo_le_hi (x : List UInt8) : lo x ≤ hi x := by
  by_cases h : x = []
  · rw [h, hi_nil]; exact Nat.le_of_lt (lo_top _)
  · rw [hi_lo h]; exact Nat.le_refl _
theorem wo1_facts {a b : Rg} (ha : okR a = true) (hb : okR b = true) :
    (lo a.f < lo b.f → wo1 a b = [⟨a.f, earlierV a.t b.f⟩] ∧ okR ⟨a.f, earlierV a.t b.f⟩ = true ∧ hi (earlierV a.t b.f) = min (hi a.t) (lo b.f)) ∧ (¬ lo a.f < lo b.f → wo1 a b = []) := by
  obtain ⟨a1, a2, a3⟩ := (okR_iff a).1 ha
  obtain ⟨b1, b2, b3⟩ := (okR_iff b).1 hb
  have hc := cmpF (endOk_len a1) (endOk_len b1)
  unfold wo1
  constructor
  · intro h
    have hne : b.f ≠ [] := fun e => by rw [e, lo_nil] at h; omega
    obtain ⟨y1, y2⟩ := earlier_ok a2 b1
    rw [hi_lo hne] at y2
    refine ⟨if_pos (hc.2 h), (okR_iff _).2 ⟨a1, y1, ?_⟩, y2⟩
    show lo a.f < hi (earlierV a.t b.f)
    rw [y2]; omega
  · intro h
    exact if_neg (fun k => h (hc.1 k))
theorem wo2_facts {a b : Rg} (ha : okR a = true) (hb : okR b = true) :
    (hi b.t < hi a.t → wo2 a b = [⟨laterV a.f b.t, a.t⟩] ∧ okR ⟨laterV a.f b.t, a.t⟩ = true ∧ lo (laterV a.f b.t) = max (lo a.f) (hi b.t)) ∧ (¬ hi b.t < hi a.t → wo2 a b = []) := by
  obtain ⟨a1, a2, a3⟩ := (okR_iff a).1 ha
  obtain ⟨b1, b2, b3⟩ := (okR_iff b).1 hb
  have hc := (cmpT (endOk_len b2) (endOk_len a2)).1
  have htop : hi a.t ≤ top := by
    by_cases h : a.t = []
    · rw [h, hi_nil]; exact Nat.le_refl _
    · rw [hi_lo h]; exact Nat.le_of_lt (lo_top _)
  unfold wo2
  constructor
  · intro h
    have hne : b.t ≠ [] := fun e => by rw [e, hi_nil] at h; omega
    obtain ⟨y1, y2⟩ := later_ok a1 b2
    rw [← hi_lo hne] at y2
    refine ⟨if_pos (hc.2 h), (okR_iff _).2 ⟨y1, a2, ?_⟩, y2⟩
    show lo (laterV a.f b.t) < hi a.t
    rw [y2]; omega
  · intro h
    exact if_neg (fun k => h (hc.1 k))
/-- The keys of what both have. -/
theorem meet_keys {a b : Rg} (ha : okR a = true) (hb : okR b = true) (k : List UInt8) : ((meetR a b).2.1 && hasR (meetR a b).1 k) = (hasR a k && hasR b k) := by
  obtain ⟨h1, h2, _, _⟩ := meet_facts ha hb
  have hm := meetV_ok ha hb
  rw [meetR_ok ha hb, hasR_bool ha, hasR_bool hb]
  cases hv : okR (meetV a b) with
  | true =>
    rw [if_pos rfl]
    show (true && hasR (meetV a b) k) = _
    rw [hasR_bool hv, h1, h2]
    cases nameOk k
    · rfl
    · simp only [Bool.true_and]
      rw [Bool.eq_iff_iff]; simp; omega
  | false =>
    rw [if_neg (by decide)]
    rw [hm, decide_eq_false_iff_not] at hv
    show false = _
    cases nameOk k
    · rfl
    · simp only [Bool.true_and]
      rw [eq_comm, Bool.and_eq_false_iff]; simp; omega
def cnt (l : List Rg) (k : List UInt8) : Nat := (l.filter (hasR · k)).length
theorem cnt_app (l m : List Rg) (k : List UInt8) : cnt (l ++ m) k = cnt l k + cnt m k := by unfold cnt; rw [List.filter_append, List.length_append]
theorem cnt_one (r : Rg) (k : List UInt8) : cnt [r] k = if hasR r k then 1 else 0 := by unfold cnt; cases h : hasR r k <;> simp [List.filter_cons, h]
theorem with_ok {a b : Rg} : (withR a b).1.all okR = true := by
  cases ha : okR a with
  | false => rw [withR_no (by rw [ha]; rfl)]; rfl
  | true =>
    cases hb : okR b with
    | false => rw [withR_no (by rw [ha, hb]; rfl)]; rfl
    | true =>
      rw [withR_ok ha hb]
      obtain ⟨p1, p2⟩ := wo1_facts ha hb
      obtain ⟨q1, q2⟩ := wo2_facts ha hb
      show (wo1 a b ++ wo2 a b).all okR = true
      by_cases h1 : lo a.f < lo b.f <;> by_cases h2 : hi b.t < hi a.t
      · rw [(p1 h1).1, (q1 h2).1]; simp [(p1 h1).2.1, (q1 h2).2.1]
      · rw [(p1 h1).1, q2 h2]; simp [(p1 h1).2.1]
      · rw [p2 h1, (q1 h2).1]; simp [(q1 h2).2.1]
      · rw [p2 h1, q2 h2]; rfl
theorem with_len (a b : Rg) : (withR a b).1.length ≤ 2 := by
  unfold withR wo1 wo2
  split
  · split <;> split <;> simp
  · simp
theorem dcases (p : Prop) [Decidable p] : (p ∧ decide p = true) ∨ (¬ p ∧ decide p = false) := by
  by_cases h : p
  · exact .inl ⟨h, decide_eq_true h⟩
  · exact .inr ⟨h, decide_eq_false h⟩
theorem with_keys {a b : Rg} (ha : okR a = true) (hb : okR b = true) (k : List UInt8) : cnt (withR a b).1 k = if hasR a k && !hasR b k then 1 else 0 := by
  obtain ⟨_, _, a3⟩ := (okR_iff a).1 ha
  obtain ⟨_, _, b3⟩ := (okR_iff b).1 hb
  obtain ⟨p1, p2⟩ := wo1_facts ha hb
  obtain ⟨q1, q2⟩ := wo2_facts ha hb
  rw [withR_ok ha hb]
  show cnt (wo1 a b ++ wo2 a b) k = _
  rw [cnt_app, hasR_bool ha, hasR_bool hb]
  by_cases hn : nameOk k = true
  · rw [hn]
    simp only [Bool.true_and]
    by_cases h1 : lo a.f < lo b.f <;> by_cases h2 : hi b.t < hi a.t
    · obtain ⟨e1, e2, e3⟩ := p1 h1
      obtain ⟨g1, g2, g3⟩ := q1 h2
      rw [e1, g1, cnt_one, cnt_one, hasR_bool e2, hasR_bool g2, hn]
      simp only [Bool.true_and, e3, g3]
      rcases dcases (lo a.f ≤ lo k ∧ lo k < min (hi a.t) (lo b.f)) with ⟨x1, dx1⟩ | ⟨x1, dx1⟩ <;> rcases dcases (max (lo a.f) (hi b.t) ≤ lo k ∧ lo k < hi a.t) with ⟨x2, dx2⟩ | ⟨x2, dx2⟩ <;> rcases dcases (lo a.f ≤ lo k ∧ lo k < hi a.t) with ⟨x3, dx3⟩ | ⟨x3, dx3⟩ <;> rcases dcases (lo b.f ≤ lo k ∧ lo k < hi b.t) with ⟨x4, dx4⟩ | ⟨x4, dx4⟩ <;> simp only [dx1, dx2, dx3, dx4, if_true, if_false, Bool.and_true, Bool.and_false, Bool.not_true, Bool.not_false, Bool.false_eq_true, cnt, List.filter_nil, List.length_nil] <;> omega
    · obtain ⟨e1, e2, e3⟩ := p1 h1
      rw [e1, q2 h2, cnt_one, hasR_bool e2, hn]
      simp only [Bool.true_and, e3]
      rcases dcases (lo a.f ≤ lo k ∧ lo k < min (hi a.t) (lo b.f)) with ⟨x1, dx1⟩ | ⟨x1, dx1⟩ <;> rcases dcases (lo a.f ≤ lo k ∧ lo k < hi a.t) with ⟨x3, dx3⟩ | ⟨x3, dx3⟩ <;> rcases dcases (lo b.f ≤ lo k ∧ lo k < hi b.t) with ⟨x4, dx4⟩ | ⟨x4, dx4⟩ <;> simp only [dx1, dx3, dx4, if_true, if_false, Bool.and_true, Bool.and_false, Bool.not_true, Bool.not_false, Bool.false_eq_true, cnt, List.filter_nil, List.length_nil] <;> omega
    · obtain ⟨g1, g2, g3⟩ := q1 h2
      rw [p2 h1, g1, cnt_one, hasR_bool g2, hn]
      simp only [Bool.true_and, g3]
      rcases dcases (max (lo a.f) (hi b.t) ≤ lo k ∧ lo k < hi a.t) with ⟨x2, dx2⟩ | ⟨x2, dx2⟩ <;> rcases dcases (lo a.f ≤ lo k ∧ lo k < hi a.t) with ⟨x3, dx3⟩ | ⟨x3, dx3⟩ <;> rcases dcases (lo b.f ≤ lo k ∧ lo k < hi b.t) with ⟨x4, dx4⟩ | ⟨x4, dx4⟩ <;> simp only [dx2, dx3, dx4, if_true, if_false, Bool.and_true, Bool.and_false, Bool.not_true, Bool.not_false, Bool.false_eq_true, cnt, List.filter_nil, List.length_nil] <;> omega
    · rw [p2 h1, q2 h2]
      rcases dcases (lo a.f ≤ lo k ∧ lo k < hi a.t) with ⟨x3, dx3⟩ | ⟨x3, dx3⟩ <;> rcases dcases (lo b.f ≤ lo k ∧ lo k < hi b.t) with ⟨x4, dx4⟩ | ⟨x4, dx4⟩ <;> simp only [dx3, dx4, if_true, if_false, Bool.and_true, Bool.and_false, Bool.not_true, Bool.not_false, Bool.false_eq_true, cnt, List.filter_nil, List.length_nil] <;> omega
  · have hn : nameOk k = false := by simpa using hn
    have hz : ∀ r : Rg, hasR r k = false := fun r => by unfold hasR; rw [hn]; simp
    rw [hn]
    simp [cnt, hz]
end Go.Proofs.Ytocencmdfppkaaa.Rng
