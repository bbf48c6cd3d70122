/- Tables as plain lists of entries in the order of their effects. -/
import Derived.Test.YtbgjiokocjnjhaaD01
namespace Go.Proofs.Ytbgjiokocjnjhaa.Ded
open Go.RowKit Go.Lib
open Rng (tx nameOk)
open Eff (ordV orV effOk)
set_option linter.unusedVariables false
set_option linter.unusedSimpArgs false

/-- An effect. -/
structure Ef where
  s : Int
  t : Int
  p : Int
deriving DecidableEq
instance : Inhabited Ef := ⟨⟨0, 0, 0⟩⟩
/-- An entry: the reply (error, number, data), the effect, the key. -/
structure En where
  er : Int
  nm : Int
  da : List UInt8
  ef : Ef
  ky : List UInt8
deriving DecidableEq
instance : Inhabited En := ⟨⟨0, 0, [], default, []⟩⟩
def ltF (a b : Ef) : Prop := a.s < b.s ∨ a.s = b.s ∧ (a.t < b.t ∨ a.t = b.t ∧ a.p < b.p)
instance (a b : Ef) : Decidable (ltF a b) := by unfold ltF; exact inferInstance
abbrev ordF (a b : Ef) : Int := ordV a.s a.t a.p b.s b.t b.p
theorem cmp3 (x y : Int) : compareInt x y = if x < y then -1 else if y < x then 1 else 0 := by
  unfold compareInt
  repeat' split
  all_goals omega
theorem ord_val (a b : Ef) : ordF a b = if ltF a b then -1 else if ltF b a then 1 else 0 := by
  obtain ⟨a1, a2, a3⟩ := a
  obtain ⟨b1, b2, b3⟩ := b
  unfold ordF ordV orV ltF
  simp only [cmp3]
  by_cases h1 : a1 < b1
  · simp [h1]
  · by_cases h2 : b1 < a1
    · have : ¬ (a1 = b1) := by omega
      simp [h1, h2, this]
    · obtain rfl : a1 = b1 := by omega
      by_cases h3 : a2 < b2
      · simp [h3]
      · by_cases h4 : b2 < a2
        · have : ¬ (a2 = b2) := by omega
          simp [h3, h4, this]
        · obtain rfl : a2 = b2 := by omega
          by_cases h5 : a3 < b3 <;> by_cases h6 : b3 < a3 <;> simp [h5, h6]
theorem lt_irr (a : Ef) : ¬ ltF a a := by unfold ltF; omega
theorem lt_tr {a b c : Ef} (h : ltF a b) (k : ltF b c) : ltF a c := by unfold ltF at *; omega
theorem lt_asym {a b : Ef} (h : ltF a b) : ¬ ltF b a := by unfold ltF at *; omega
theorem lt_tot {a b : Ef} (h : a ≠ b) : ltF a b ∨ ltF b a := by
  obtain ⟨a1, a2, a3⟩ := a
  obtain ⟨b1, b2, b3⟩ := b
  unfold ltF
  simp only [ne_eq, Ef.mk.injEq] at h
  dsimp only
  omega
theorem ord_neg {a b : Ef} : ordF a b < 0 ↔ ltF a b := by
  rw [ord_val]
  split
  · rename_i h; simp [h]
  · rename_i h
    split <;> simp [h]
theorem ord_nul {a b : Ef} : ordF a b = 0 ↔ a = b := by
  rw [ord_val]
  split
  · rename_i h
    constructor
    · intro e; omega
    · rintro rfl; exact absurd h (lt_irr a)
  · rename_i h
    split
    · rename_i k
      constructor
      · intro e; omega
      · rintro rfl; exact absurd k (lt_irr a)
    · rename_i k
      refine ⟨fun _ => ?_, fun _ => rfl⟩
      rcases Decidable.em (a = b) with e | e
      · exact e
      · rcases lt_tot e with g | g
        · exact absurd g h
        · exact absurd g k

/-- What may be remembered. -/
def repOk (er nm : Int) (d : List UInt8) : Bool := decide (0 ≤ er ∧ er ≤ 18 ∧ -1152921504606846976 ≤ nm ∧ nm ≤ 1152921504606846976 ∧ d.length ≤ 65536)
def OkN (x : En) : Prop := effOk x.ef.s x.ef.t x.ef.p ∧ nameOk x.ky = true ∧ repOk x.er x.nm x.da = true
abbrev SrtL (L : List En) : Prop := L.Pairwise (fun x y => ltF x.ef y.ef)
def getL (L : List En) (e : Ef) : Option En := L.find? (fun x => decide (x.ef = e))
/-- How many entries stand ahead of an effect. -/
def plc (L : List En) (e : Ef) : Nat := L.countP (fun x => decide (ltF x.ef e))
def insL (L : List En) (x : En) : List En := L.take (plc L x.ef) ++ x :: L.drop (plc L x.ef)
theorem plc_le (L : List En) (e : Ef) : plc L e ≤ L.length := List.countP_le_length
theorem countP_cut {α : Type} (p : α → Bool) : ∀ (l : List α) (i : Nat), i ≤ l.length → (∀ t (h : t < l.length), t < i → p l[t] = true) → (∀ t (h : t < l.length), i ≤ t → p l[t] = false) → l.countP p = i
  | [], i, hi, _, _ => by simp at hi; simp [hi]
  | a :: r, 0, _, _, h2 => by
    rw [List.countP_eq_zero]
    intro x hx
    obtain ⟨t, ht, rfl⟩ := List.getElem_of_mem hx
    simp [h2 t ht (Nat.zero_le _)]
  | a :: r, i + 1, hi, h1, h2 => by
    have ha : p a = true := by simpa using h1 0 (Nat.succ_pos _) (Nat.succ_pos _)
    rw [List.countP_cons_of_pos ha, countP_cut p r i (by simpa using hi) (fun t ht h => h1 (t + 1) (by simpa using ht) (by omega)) (fun t ht h => h2 (t + 1) (by simpa using ht) (by omega))]
theorem srt_at {L : List En} (h : SrtL L) {i j : Nat} (hj : j < L.length) (hij : i < j) : ltF (L[i]'(by omega)).ef L[j].ef := List.pairwise_iff_getElem.1 h i j (by omega) hj hij
theorem plc_lt {L : List En} (h : SrtL L) (e : Ef) : ∀ t (ht : t < L.length), t < plc L e → ltF L[t].ef e := by
  induction L with
  | nil => intro t ht; exact absurd ht (Nat.not_lt_zero _)
  | cons y r ih =>
    obtain ⟨h1, h2⟩ := List.pairwise_cons.1 h
    intro t ht hp
    unfold plc at hp
    by_cases hy : ltF y.ef e
    · rw [List.countP_cons_of_pos (by simpa using hy)] at hp
      cases t with
      | zero => exact hy
      | succ t => exact ih h2 t (by simpa using ht) (by unfold plc; omega)
    · have h0 : r.countP (fun x => decide (ltF x.ef e)) = 0 := by
        rw [List.countP_eq_zero]
        intro x hx hc
        exact hy (lt_tr (h1 x hx) (of_decide_eq_true hc))
      rw [List.countP_cons_of_neg (by simpa using hy), h0] at hp
      exact absurd hp (Nat.not_lt_zero _)
theorem plc_ge {L : List En} (h : SrtL L) (e : Ef) : ∀ t (ht : t < L.length), plc L e ≤ t → ¬ ltF L[t].ef e := by
  induction L with
  | nil => intro t ht; exact absurd ht (Nat.not_lt_zero _)
  | cons y r ih =>
    obtain ⟨h1, h2⟩ := List.pairwise_cons.1 h
    intro t ht hp hl
    unfold plc at hp
    by_cases hy : ltF y.ef e
    · rw [List.countP_cons_of_pos (by simpa using hy)] at hp
      cases t with
      | zero => exact absurd hp (by omega)
      | succ t => exact ih h2 t (by simpa using ht) (by unfold plc; omega) (by simpa using hl)
    · cases t with
      | zero => exact hy hl
      | succ t =>
        have ht' : t < r.length := by simpa using ht
        exact hy (lt_tr (h1 _ (List.getElem_mem ht')) (by simpa using hl))
theorem get_mem {L : List En} {e : Ef} {x : En} (h : getL L e = some x) : x ∈ L ∧ x.ef = e := by
  unfold getL at h
  exact ⟨List.mem_of_find?_eq_some h, by simpa using List.find?_some h⟩
theorem get_iff {L : List En} (h : SrtL L) {e : Ef} {x : En} : getL L e = some x ↔ x ∈ L ∧ x.ef = e := by
  refine ⟨get_mem, ?_⟩
  rintro ⟨hm, rfl⟩
  induction L with
  | nil => cases hm
  | cons y r ih =>
    obtain ⟨h1, h2⟩ := List.pairwise_cons.1 h
    unfold getL
    rw [List.find?_cons]
    rcases List.mem_cons.1 hm with rfl | hm
    · simp
    · have hne : y.ef ≠ x.ef := fun e => lt_irr x.ef (by have := h1 x hm; rwa [e] at this)
      simp only [hne, decide_false]
      exact ih h2 hm
theorem get_none {L : List En} {e : Ef} : getL L e = none ↔ ∀ x ∈ L, x.ef ≠ e := by
  unfold getL
  rw [List.find?_eq_none]
  simp
/-- The place of an effect says whether it is there. -/
theorem plc_get {L : List En} (h : SrtL L) (e : Ef) : getL L e = match L[plc L e]? with | some x => if x.ef = e then some x else none | none => none := by
  by_cases hp : plc L e < L.length
  · rw [List.getElem?_eq_getElem hp]
    by_cases he : L[plc L e].ef = e
    · show _ = if L[plc L e].ef = e then some L[plc L e] else none
      rw [if_pos he]
      exact (get_iff h).2 ⟨List.getElem_mem hp, he⟩
    · show _ = if L[plc L e].ef = e then some L[plc L e] else none
      rw [if_neg he, get_none]
      intro x hx hxe
      obtain ⟨t, ht, rfl⟩ := List.getElem_of_mem hx
      rcases Nat.lt_trichotomy t (plc L e) with g | g | g
      · exact lt_irr e (by have := plc_lt h e t ht g; rwa [hxe] at this)
      · subst g; exact he hxe
      · have h1 := srt_at h ht g
        rw [hxe] at h1
        exact plc_ge h e _ hp (Nat.le_refl _) h1
  · rw [List.getElem?_eq_none (by omega), get_none]
    intro x hx hxe
    obtain ⟨t, ht, rfl⟩ := List.getElem_of_mem hx
    exact lt_irr e (by have := plc_lt h e t ht (by omega); rwa [hxe] at this)
theorem mem_insL {L : List En} {x y : En} : y ∈ insL L x ↔ y = x ∨ y ∈ L := by
  unfold insL
  have h2 : y ∈ L ↔ y ∈ L.take (plc L x.ef) ∨ y ∈ L.drop (plc L x.ef) := by rw [← List.mem_append, List.take_append_drop]
  rw [List.mem_append, List.mem_cons, h2]
  constructor
  · rintro (g | g | g) <;> simp [g]
  · rintro (g | g | g) <;> simp [g]
theorem insL_len (L : List En) (x : En) : (insL L x).length = L.length + 1 := by
  have := plc_le L x.ef
  unfold insL
  simp
  omega
theorem srt_insL {L : List En} (h : SrtL L) {x : En} (hn : getL L x.ef = none) : SrtL (insL L x) := by
  unfold insL
  rw [get_none] at hn
  have ht := (List.take_sublist (plc L x.ef) L)
  have hd := (List.drop_sublist (plc L x.ef) L)
  have h1 : ∀ y ∈ L.take (plc L x.ef), ltF y.ef x.ef := by
    intro y hy
    obtain ⟨t, ht, rfl⟩ := List.getElem_of_mem hy
    rw [List.length_take] at ht
    rw [List.getElem_take]
    exact plc_lt h _ t (by omega) (by omega)
  have h2 : ∀ y ∈ L.drop (plc L x.ef), ltF x.ef y.ef := by
    intro y hy
    have hne := hn y (hd.subset hy)
    obtain ⟨t, ht, rfl⟩ := List.getElem_of_mem hy
    rw [List.length_drop] at ht
    rw [List.getElem_drop] at hne ⊢
    rcases lt_tot hne with g | g
    · exact absurd g (plc_ge h _ _ (by omega) (by omega))
    · exact g
  refine List.pairwise_append.2 ⟨h.sublist ht, List.pairwise_cons.2 ⟨h2, h.sublist hd⟩, ?_⟩
  intro y hy z hz
  rcases List.mem_cons.1 hz with rfl | hz
  · exact h1 y hy
  · exact lt_tr (h1 y hy) (h2 z hz)
theorem get_insL {L : List En} (h : SrtL L) {x : En} (hn : getL L x.ef = none) (e : Ef) : getL (insL L x) e = if e = x.ef then some x else getL L e := by
  have hs := srt_insL h hn
  by_cases he : e = x.ef
  · subst he
    rw [if_pos rfl]
    exact (get_iff hs).2 ⟨mem_insL.2 (.inl rfl), rfl⟩
  · rw [if_neg he]
    refine Option.ext fun y => ?_
    rw [get_iff hs, get_iff h, mem_insL]
    constructor
    · rintro ⟨rfl | g, k⟩
      · exact absurd k.symm he
      · exact ⟨g, k⟩
    · rintro ⟨g, k⟩
      exact ⟨.inr g, k⟩
theorem srt_nodup {L : List En} (h : SrtL L) : (L.map (·.ef)).Nodup := by
  rw [List.nodup_iff_pairwise_ne]
  refine List.pairwise_map.2 (h.imp fun {a b} g e => ?_)
  rw [e] at g
  exact lt_irr _ g
/-- Two tables with the same entries are the same. -/
theorem ext_L {L M : List En} (hL : SrtL L) (hM : SrtL M) (h : ∀ x, x ∈ L ↔ x ∈ M) : L = M := by
  refine List.Perm.eq_of_pairwise (le := fun x y : En => ltF x.ef y.ef) (fun a b _ _ h1 h2 => absurd h2 (lt_asym h1)) hL hM ?_
  have nd : ∀ {K : List En}, SrtL K → K.Nodup := fun {K} hK => hK.imp fun {a b} g e => by rw [e] at g; exact lt_irr _ g
  exact (List.perm_ext_iff_of_nodup (nd hL) (nd hM)).2 h

/-! As cells. -/
abbrev ec (x : En) : List Value := [.int .i64 x.er, .int .i64 x.nm, .string (tx x.da), .int .i64 x.ef.s, .int .i64 x.ef.t, .int .i64 x.ef.p, .string (tx x.ky)]
def flat (L : List En) : List Value := L.flatMap ec
theorem flat_len : ∀ L : List En, (flat L).length = L.length * 7
  | [] => rfl
  | x :: r => by
    show (ec x ++ flat r).length = _
    rw [List.length_append, flat_len r, show (x :: r).length = r.length + 1 from rfl, show (ec x).length = 7 from rfl]
    omega
theorem flat_app (L M : List En) : flat (L ++ M) = flat L ++ flat M := List.flatMap_append
theorem flat_one (x : En) : flat [x] = ec x := by simp [flat]
theorem flat_cons (x : En) (L : List En) : flat (x :: L) = ec x ++ flat L := rfl
theorem flat_get {L : List En} {i : Nat} {x : En} (h : L[i]? = some x) {j : Nat} (hj : j < 7) : (flat L)[i * 7 + j]? = (ec x)[j]? := by
  induction L generalizing i with
  | nil => cases h
  | cons y r ih =>
    rw [flat_cons]
    cases i with
    | zero =>
      simp only [List.getElem?_cons_zero, Option.some.injEq] at h
      subst h
      rw [Nat.zero_mul, Nat.zero_add, List.getElem?_append_left (by simpa using hj)]
    | succ i =>
      rw [List.getElem?_append_right (by simp; omega)]
      have e : (i + 1) * 7 + j - (ec y).length = i * 7 + j := by simp; omega
      rw [e]
      exact ih h
theorem flat_one' (L : List En) : ∀ u ∈ flat L, u.oneCell' = true := by
  intro u hu
  obtain ⟨x, _, hx⟩ := List.mem_flatMap.1 hu
  simp only [List.mem_cons, List.not_mem_nil, or_false] at hx
  rcases hx with rfl | rfl | rfl | rfl | rfl | rfl | rfl <;> rfl
theorem flat_take : ∀ (L : List En) (i : Nat), flat (L.take i) = (flat L).take (i * 7)
  | [], i => by simp [flat]
  | x :: r, 0 => by simp [flat]
  | x :: r, i + 1 => by
    rw [List.take_succ_cons, flat_cons, flat_cons, flat_take r i, List.take_append]
    have e : (i + 1) * 7 - (ec x).length = i * 7 := by simp; omega
    rw [e, List.take_of_length_le (l := ec x) (by show 7 ≤ _; omega)]
theorem flat_drop : ∀ (L : List En) (i : Nat), flat (L.drop i) = (flat L).drop (i * 7)
  | [], i => by simp [flat]
  | x :: r, 0 => by simp [flat]
  | x :: r, i + 1 => by
    rw [List.drop_succ_cons, flat_cons, flat_drop r i, List.drop_append]
    have e : (i + 1) * 7 - (ec x).length = i * 7 := by simp; omega
    rw [e, List.drop_of_length_le (l := ec x) (by show 7 ≤ _; omega), List.nil_append]
end Go.Proofs.Ytbgjiokocjnjhaa.Ded
