/- Chains of ranges from the first key on to the last one; a chain without one of its ranges. -/
import Derived.Test.YtocencmdfppkaaaR18
import Derived.Test.YtocencmdfppkaaaR17
namespace Go.Proofs.Ytocencmdfppkaaa.Rng
open Go.RowKit Go.Lib
set_option linter.unusedVariables false
set_option linter.unusedSimpArgs false

def ChainTo : List UInt8 → List Rg → List UInt8 → Prop
  | s, [], a => s = a
  | s, r :: l, a => r.f = s ∧ r.t ≠ [] ∧ ChainTo r.t l a
theorem chain_app : ∀ (l : List Rg) (s a x : List UInt8), ChainTo s l a → x ≠ [] → ChainTo s (l ++ [(⟨a, x⟩ : Rg)]) x
  | [], s, a, x, h, hx => ⟨h.symm, hx, rfl⟩
  | r :: l, s, a, x, ⟨h1, h2, h3⟩, hx => ⟨h1, h2, chain_app l r.t a x h3 hx⟩
theorem app_ne (l : List Rg) (z : Rg) : (l ++ [z]).isEmpty = false := by cases l <;> rfl
theorem ne_empty {x : List UInt8} (h : x ≠ []) : x.isEmpty = false := by cases x with
  | nil => exact absurd rfl h
  | cons => rfl
theorem chain_follow : ∀ (l : List Rg) (s a : List UInt8), ChainTo s l a → followF s (l ++ [(⟨a, []⟩ : Rg)]) = true
  | [], s, a, h => by
    obtain rfl : s = a := h
    simp [followF]
  | r :: l, s, a, ⟨h1, h2, h3⟩ => by
    show ((r.f == s) && (r.t.isEmpty == (l ++ [(⟨a, []⟩ : Rg)]).isEmpty) && followF r.t (l ++ [(⟨a, []⟩ : Rg)])) = true
    rw [chain_follow l r.t a h3, app_ne, ne_empty h2, h1]
    simp
theorem last_ok {a : List UInt8} (h : endOk a = true) : okR ⟨a, []⟩ = true := by
  rw [okR_iff]
  refine ⟨h, rfl, ?_⟩
  show lo a < hi []
  rw [hi_nil]
  exact lo_top a
theorem ok_lt {r : Rg} (h : okR r = true) (ht : r.t ≠ []) : endOk r.f = true ∧ endOk r.t = true ∧ lo r.f < lo r.t := by
  obtain ⟨h1, h2, h3⟩ := (okR_iff r).1 h
  rw [hi_lo ht] at h3
  exact ⟨h1, h2, h3⟩
theorem chain_ge : ∀ (l : List Rg) (s a : List UInt8), endOk s = true → ChainTo s l a → l.all okR = true → (∀ r ∈ l ++ [(⟨a, []⟩ : Rg)], lo s ≤ lo r.f ∧ endOk r.f = true) ∧ endOk a = true
  | [], s, a, hs, h, _ => by
    obtain rfl : s = a := h
    refine ⟨fun r hr => ?_, hs⟩
    obtain rfl : r = ⟨s, []⟩ := by simpa using hr
    exact ⟨Nat.le_refl _, hs⟩
  | r :: l, s, a, hs, ⟨h1, h2, h3⟩, ho => by
    rw [List.all_cons, Bool.and_eq_true] at ho
    obtain ⟨k1, k2, k3⟩ := ok_lt ho.1 h2
    obtain ⟨g1, g2⟩ := chain_ge l r.t a k2 h3 ho.2
    refine ⟨fun q hq => ?_, g2⟩
    rcases List.mem_cons.1 hq with rfl | hq
    · rw [h1]; exact ⟨Nat.le_refl _, hs⟩
    · have := g1 q hq
      rw [h1] at k3
      exact ⟨by omega, this.2⟩
theorem chain_sorted : ∀ (l : List Rg) (s a : List UInt8), endOk s = true → ChainTo s l a → l.all okR = true → (l ++ [(⟨a, []⟩ : Rg)]).Pairwise fun (a b : Rg) => bl a.f b.f = true
  | [], s, a, hs, h, _ => List.pairwise_singleton _ _
  | r :: l, s, a, hs, ⟨h1, h2, h3⟩, ho => by
    rw [List.all_cons, Bool.and_eq_true] at ho
    obtain ⟨k1, k2, k3⟩ := ok_lt ho.1 h2
    obtain ⟨g1, _⟩ := chain_ge l r.t a k2 h3 ho.2
    refine List.Pairwise.cons (fun q hq => ?_) (chain_sorted l r.t a k2 h3 ho.2)
    have := g1 q hq
    rw [bl_lo (endOk_len k1) (endOk_len this.2)]
    exact decide_eq_true (by omega)
theorem chain_cnt : ∀ (l : List Rg) (s a k : List UInt8), endOk s = true → ChainTo s l a → l.all okR = true → cnt (l ++ [(⟨a, []⟩ : Rg)]) k = if nameOk k && decide (lo s ≤ lo k) then 1 else 0
  | [], s, a, k, hs, h, _ => by
    obtain rfl : s = a := h
    rw [List.nil_append, cnt_one, hasR_bool (last_ok hs)]
    have e : (decide (lo s ≤ lo k ∧ lo k < hi ([] : List UInt8))) = decide (lo s ≤ lo k) := by
      rw [decide_eq_decide, hi_nil]
      have := lo_top k
      omega
    rw [show (decide (lo (Rg.f ⟨s, []⟩) ≤ lo k ∧ lo k < hi (Rg.t ⟨s, []⟩))) = decide (lo s ≤ lo k) from e]
  | r :: l, s, a, k, hs, ⟨h1, h2, h3⟩, ho => by
    rw [List.all_cons, Bool.and_eq_true] at ho
    obtain ⟨k1, k2, k3⟩ := ok_lt ho.1 h2
    rw [List.cons_append, show r :: (l ++ [(⟨a, []⟩ : Rg)]) = [r] ++ (l ++ [(⟨a, []⟩ : Rg)]) from rfl, cnt_app, cnt_one, chain_cnt l r.t a k k2 h3 ho.2, hasR_bool ho.1, hi_lo h2, h1]
    rw [h1] at k3
    cases nameOk k
    · rfl
    · simp only [Bool.true_and]
      by_cases c1 : lo s ≤ lo k <;> by_cases c2 : lo k < lo r.t
      · rw [decide_eq_true (show lo s ≤ lo k ∧ lo k < lo r.t from ⟨c1, c2⟩), decide_eq_false (show ¬ lo r.t ≤ lo k by omega), decide_eq_true c1]; rfl
      · rw [decide_eq_false (show ¬ (lo s ≤ lo k ∧ lo k < lo r.t) from fun h => c2 h.2), decide_eq_true (show lo r.t ≤ lo k by omega), decide_eq_true c1]; rfl
      · rw [decide_eq_false (show ¬ (lo s ≤ lo k ∧ lo k < lo r.t) from fun h => c1 h.1), decide_eq_false (show ¬ lo r.t ≤ lo k by omega), decide_eq_false c1]; rfl
      · omega
theorem miss_head (l : List Rg) (s a x : List UInt8) (h : ChainTo x l a) (hne : x ≠ s) : followF s (l ++ [(⟨a, []⟩ : Rg)]) = false := by
  have hb : (x == s) = false := by simpa using hne
  cases l with
  | nil =>
    obtain rfl : x = a := h
    show ((x == s) && _ && _) = false
    rw [hb]; rfl
  | cons r l =>
    show ((r.f == s) && _ && _) = false
    rw [h.1, hb]; rfl
theorem chain_miss : ∀ (l : List Rg) (s a : List UInt8) (k : Nat), endOk s = true → ChainTo s l a → l.all okR = true → k < (l ++ [(⟨a, []⟩ : Rg)]).length → 0 < ((l ++ [(⟨a, []⟩ : Rg)]).eraseIdx k).length → followF s ((l ++ [(⟨a, []⟩ : Rg)]).eraseIdx k) = false
  | [], s, a, k, hs, h, _, hk, hp => by
    obtain rfl : k = 0 := by simpa using hk
    simp at hp
  | r :: l, s, a, k, hs, ⟨h1, h2, h3⟩, ho, hk, hp => by
    rw [List.all_cons, Bool.and_eq_true] at ho
    obtain ⟨k1, k2, k3⟩ := ok_lt ho.1 h2
    cases k with
    | zero =>
      show followF s (l ++ [(⟨a, []⟩ : Rg)]) = false
      refine miss_head l s a r.t h3 (fun e => ?_)
      rw [h1, e] at k3
      omega
    | succ k =>
      show followF s (r :: (l ++ [(⟨a, []⟩ : Rg)]).eraseIdx k) = false
      show ((r.f == s) && (r.t.isEmpty == ((l ++ [(⟨a, []⟩ : Rg)]).eraseIdx k).isEmpty) && followF r.t ((l ++ [(⟨a, []⟩ : Rg)]).eraseIdx k)) = false
      have hk2 : k < (l ++ [(⟨a, []⟩ : Rg)]).length := by simpa using hk
      by_cases he : 0 < ((l ++ [(⟨a, []⟩ : Rg)]).eraseIdx k).length
      · rw [chain_miss l r.t a k k2 h3 ho.2 hk2 he, Bool.and_false]
      · have hn : (l ++ [(⟨a, []⟩ : Rg)]).eraseIdx k = [] := List.eq_nil_of_length_eq_zero (by omega)
        rw [hn, ne_empty h2]
        simp
/-- A list of ranges that is a cover, and its parts. -/
structure CovL (L : List Rg) : Prop where
  len : 0 < L.length
  ok : L.all okR = true
  srt : L.Pairwise fun (a b : Rg) => bl a.f b.f = true
  fol : followF [] L = true
  one : ∀ k, nameOk k = true → cnt L k = 1
  zer : ∀ k, nameOk k = false → cnt L k = 0
  mis : ∀ k, k < L.length → 0 < (L.eraseIdx k).length → followF [] (L.eraseIdx k) = false
theorem covL_of {l : List Rg} {a : List UInt8} (h : ChainTo [] l a) (ho : l.all okR = true) : CovL (l ++ [(⟨a, []⟩ : Rg)]) := by
  have hg := chain_ge l [] a rfl h ho
  refine ⟨by simp, ?_, chain_sorted l [] a rfl h ho, chain_follow l [] a h, fun k hk => ?_, fun k hk => ?_, fun k hk hp => chain_miss l [] a k rfl h ho hk hp⟩
  · rw [List.all_append, ho]
    simp [last_ok hg.2]
  · rw [chain_cnt l [] a k rfl h ho, hk, decide_eq_true (show lo [] ≤ lo k by rw [lo_nil]; omega)]; rfl
  · rw [chain_cnt l [] a k rfl h ho, hk]; rfl
theorem cov_yes {L M : List Rg} {z : Bool} {c : Int} (hL : CovL L) (hm : M.Perm L) (hl : L.length ≤ 64) (h : CoverIs M z c) : z = true ∧ c = 0 := by
  have hlen := hm.length_eq
  have ho : M.all okR = true := by
    rw [List.all_eq_true]
    intro r hr
    exact List.all_eq_true.1 hL.ok r (hm.mem_iff.1 hr)
  obtain ⟨h1, h2⟩ := coverIs_ok h (by omega) ho hm hL.srt
  have := hL.len
  rw [h2, hL.fol, decide_eq_true (by omega)]
  exact ⟨rfl, h1⟩
theorem cov_no {L M : List Rg} {z : Bool} {c : Int} {k : Nat} (hL : CovL L) (hk : k < L.length) (hm : M.Perm (L.eraseIdx k)) (hl : L.length ≤ 64) (h : CoverIs M z c) : z = false ∧ c = 0 := by
  have hlen := hm.length_eq
  have hsub := List.eraseIdx_sublist L k
  have hle := hsub.length_le
  have ho : M.all okR = true := by
    rw [List.all_eq_true]
    intro r hr
    exact List.all_eq_true.1 hL.ok r (hsub.subset (hm.mem_iff.1 hr))
  obtain ⟨h1, h2⟩ := coverIs_ok h (by omega) ho hm (hL.srt.sublist hsub)
  refine ⟨?_, h1⟩
  by_cases hp : 0 < (L.eraseIdx k).length
  · rw [h2, hL.mis k hk hp, Bool.and_false]
  · rw [h2, decide_eq_false (by omega)]; rfl
/-- A list that is turned. -/
def turnL (L : List Rg) (k : Nat) : List Rg := L.drop k ++ L.take k
theorem turn_perm (L : List Rg) (k : Nat) : (turnL L k).Perm L := by
  unfold turnL
  exact List.perm_append_comm.trans (by rw [List.take_append_drop])
theorem turn_tail (L : List Rg) (k : Nat) (hk : k < L.length) : (turnL L k).tail.Perm (L.eraseIdx k) := by
  unfold turnL
  rw [List.drop_eq_getElem_cons hk, List.cons_append, List.tail_cons, List.eraseIdx_eq_take_drop_succ]
  exact List.perm_append_comm
theorem turn_len (L : List Rg) (k : Nat) : (turnL L k).length = L.length := (turn_perm L k).length_eq
theorem cnt_step (L : List Rg) (i : Nat) (k : List UInt8) (h : i < L.length) : cnt (L.take (i + 1)) k = cnt (L.take i) k + if hasR (L[i]) k then 1 else 0 := by
  rw [List.take_succ_eq_append_getElem h, cnt_app, cnt_one]
theorem cnt_le (L : List Rg) (k : List UInt8) : cnt L k ≤ L.length := List.length_filter_le _ _
theorem erase_eq (L : List Rg) (k : Nat) : L.eraseIdx k = L.take k ++ L.drop (k + 1) := List.eraseIdx_eq_take_drop_succ L k
end Go.Proofs.Ytocencmdfppkaaa.Rng
