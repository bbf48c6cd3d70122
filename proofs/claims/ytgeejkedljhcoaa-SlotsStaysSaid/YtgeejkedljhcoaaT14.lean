/- Plain facts: what Prefix and Gaps have; logs that were made by puts. -/
import Derived.Test.YtgeejkedljhcoaaT11
namespace Go.Proofs.Ytgeejkedljhcoaa.Slt
open Go.RowKit Go.Maps Go.Lib
set_option linter.unusedVariables false
set_option linter.unusedSimpArgs false
set_option maxRecDepth 20000

/-! Gaps. -/
def gapL (n : Int) : List Et → List Int
  | [] => []
  | e :: r => rng n (e.s - n).toNat ++ gapL (e.s + 1) r
theorem gap_fold : ∀ (M : List Et) (n : Int) (g : List Int), (M.foldl (fun p e => (e.s + 1, p.2 ++ rng p.1 (e.s - p.1).toNat)) (n, g)).2 = g ++ gapL n M
  | [], n, g => by simp [gapL]
  | e :: r, n, g => by
    show (r.foldl _ (e.s + 1, g ++ rng n (e.s - n).toNat)).2 = _
    rw [gap_fold r]
    show _ = g ++ (rng n (e.s - n).toNat ++ gapL (e.s + 1) r)
    rw [List.append_assoc]
theorem gapV_eq (s : St) : gapV s = gapL s.b s.M := by
  unfold gapV gapF
  rw [gap_fold, List.nil_append]
theorem mem_rng (n : Int) : ∀ (k : Nat) (x : Int), x ∈ rng n k ↔ n ≤ x ∧ x < n + (k : Nat)
  | 0, x => by
    show x ∈ [] ↔ _
    simp
  | k + 1, x => by
    show x ∈ rng n k ++ [n + (k : Nat)] ↔ _
    rw [List.mem_append, mem_rng n k x, List.mem_singleton]
    omega
theorem rng_srt (n : Int) : ∀ k : Nat, (rng n k).Pairwise (· < ·)
  | 0 => List.Pairwise.nil
  | k + 1 => by
    show (rng n k ++ [n + (k : Nat)]).Pairwise _
    rw [List.pairwise_append]
    refine ⟨rng_srt n k, List.pairwise_singleton _ _, fun a ha b hb => ?_⟩
    rw [List.mem_singleton] at hb
    have := (mem_rng n k a).1 ha
    omega
theorem gapL_mem : ∀ {M : List Et} (_ : Srt M) {n : Int} (_ : ∀ e ∈ M, n ≤ e.s) (x : Int), x ∈ gapL n M ↔ n ≤ x ∧ (∀ e ∈ M, e.s ≠ x) ∧ ∃ e ∈ M, x < e.s
  | [], _, n, _, x => by simp [gapL]
  | e :: r, h, n, hn, x => by
    obtain ⟨h1, h2⟩ := List.pairwise_cons.1 h
    show x ∈ rng n (e.s - n).toNat ++ gapL (e.s + 1) r ↔ _
    have he := hn e (List.mem_cons_self ..)
    rw [List.mem_append, mem_rng, gapL_mem h2 (fun q hq => by have := h1 q hq; omega) x]
    constructor
    · rintro (⟨a, b⟩ | ⟨a, b, q, hq, c⟩)
      · refine ⟨a, fun q hq => ?_, e, List.mem_cons_self .., by omega⟩
        rcases List.mem_cons.1 hq with rfl | hq
        · omega
        · have := h1 q hq; omega
      · refine ⟨by omega, fun q' hq' => ?_, q, List.mem_cons_of_mem _ hq, c⟩
        rcases List.mem_cons.1 hq' with rfl | hq'
        · omega
        · exact b q' hq'
    · rintro ⟨a, b, q, hq, c⟩
      have hne := b e (List.mem_cons_self ..)
      by_cases hx : x < e.s
      · exact .inl ⟨a, by omega⟩
      · refine .inr ⟨by omega, fun q' hq' => b q' (List.mem_cons_of_mem _ hq'), ?_⟩
        rcases List.mem_cons.1 hq with rfl | hq
        · omega
        · exact ⟨q, hq, c⟩
theorem gapL_srt : ∀ {M : List Et} (_ : Srt M) {n : Int} (_ : ∀ e ∈ M, n ≤ e.s), (gapL n M).Pairwise (· < ·)
  | [], _, n, _ => List.Pairwise.nil
  | e :: r, h, n, hn => by
    obtain ⟨h1, h2⟩ := List.pairwise_cons.1 h
    have hr : ∀ q ∈ r, e.s + 1 ≤ q.s := fun q hq => by have := h1 q hq; omega
    show (rng n (e.s - n).toNat ++ gapL (e.s + 1) r).Pairwise _
    rw [List.pairwise_append]
    refine ⟨rng_srt _ _, gapL_srt h2 hr, fun a ha b hb => ?_⟩
    have := (mem_rng _ _ a).1 ha
    have := ((gapL_mem h2 hr b).1 hb).1
    have := hn e (List.mem_cons_self ..)
    omega
theorem srt_ext {A B : List Int} (hA : A.Pairwise (· < ·)) (hB : B.Pairwise (· < ·)) (h : ∀ x, x ∈ A ↔ x ∈ B) : A = B := by
  refine List.Perm.eq_of_pairwise (le := fun p q : Int => p < q) (fun a b _ _ h1 h2 => by omega) hA hB ?_
  refine (List.perm_ext_iff_of_nodup ?_ ?_).2 h
  · exact hA.imp fun h => fun e => by omega
  · exact hB.imp fun h => fun e => by omega
theorem get_mem {M : List Et} (h : Srt M) (x : Int) : getM M x = none ↔ ∀ e ∈ M, e.s ≠ x := get_none
theorem gap_mem {s : St} (h : OkS s) (x : Int) : x ∈ gapV s ↔ s.b ≤ x ∧ (getM s.M x).isSome = false ∧ ∃ j, x < j ∧ (getM s.M j).isSome = true := by
  rw [gapV_eq, gapL_mem h.srt (fun e he => (h.ent e he).1)]
  have e1 : (getM s.M x).isSome = false ↔ ∀ e ∈ s.M, e.s ≠ x := by
    rw [← get_none]
    cases getM s.M x <;> simp
  rw [e1]
  constructor
  · rintro ⟨a, b, e, he, c⟩
    exact ⟨a, b, e.s, c, by rw [(get_iff h.srt e.s e).2 ⟨he, rfl⟩]; rfl⟩
  · rintro ⟨a, b, j, hj, c⟩
    refine ⟨a, b, ?_⟩
    cases hg : getM s.M j with
    | none => rw [hg] at c; cases c
    | some e =>
      obtain ⟨h1, h2⟩ := (get_iff h.srt _ _).1 hg
      exact ⟨e, h1, by omega⟩
theorem gap_srt {s : St} (h : OkS s) : (gapV s).Pairwise (· < ·) := by
  rw [gapV_eq]
  exact gapL_srt h.srt (fun e he => (h.ent e he).1)
theorem srt_bound : ∀ (A : List Int) (a b : Int), A.Pairwise (· < ·) → (∀ x ∈ A, a ≤ x ∧ x < b) → a ≤ b → (A.length : Int) ≤ b - a
  | [], a, b, _, _, h => by simp; omega
  | x :: r, a, b, h, hb, hab => by
    obtain ⟨h1, h2⟩ := List.pairwise_cons.1 h
    have hx := hb x (List.mem_cons_self ..)
    have := srt_bound r (x + 1) b h2 (fun p hp => ⟨by have := h1 p hp; omega, (hb p (List.mem_cons_of_mem _ hp)).2⟩) (by omega)
    simp only [List.length_cons]
    omega
theorem gap_in {s : St} (h : OkS s) {x : Int} (hx : x ∈ gapV s) : s.b ≤ x ∧ uptoV s ≤ x ∧ x < 4096 := by
  obtain ⟨h1, h2, j, h3, h4⟩ := (gap_mem h x).1 hx
  have := (h.has h4).2
  refine ⟨h1, ?_, by omega⟩
  by_cases hu : uptoV s ≤ x
  · exact hu
  · have := upto_has h1 (show x < uptoV s by omega)
    rw [h2] at this; cases this
theorem gap_len4 {s : St} (h : OkS s) : (gapV s).length ≤ 4096 := by
  have h1 := srt_bound (gapV s) 0 4096 (gap_srt h) (fun x hx => by have := gap_in h hx; have := h.hb.1; omega) (by omega)
  omega

/-! Prefix. -/
theorem preL_get : ∀ {M : List Et} (_ : Srt M) {b : Int} (_ : ∀ e ∈ M, b ≤ e.s) (i : Nat),
    (preL b M)[i]? = if ∀ j : Nat, j ≤ i → (getM M (b + (j : Nat))).isSome = true then some (gK (getM M (b + (i : Nat)))) else none
  | [], _, b, _, i => by
    rw [if_neg (fun h => by have := h 0 (Nat.zero_le _); simp [getM] at this)]
    simp [preL]
  | e :: r, h, b, hb, i => by
    obtain ⟨h1, h2⟩ := List.pairwise_cons.1 h
    have hr : ∀ q ∈ r, e.s + 1 ≤ q.s := fun q hq => by have := h1 q hq; omega
    have he := hb e (List.mem_cons_self ..)
    by_cases hc : e.s = b
    · have hp : preL b (e :: r) = e.k :: preL (b + 1) r := by show (if e.s = b then _ else _) = _; rw [if_pos hc]
      rw [hp]
      have g0 : getM (e :: r) b = some e := (get_iff h b e).2 ⟨List.mem_cons_self .., hc⟩
      have gs : ∀ x : Int, b < x → getM (e :: r) x = getM r x := fun x hx => by
        unfold getM
        rw [List.find?_cons, show (e.s == x) = false by simp; omega]
      cases i with
      | zero =>
        rw [if_pos (fun j hj => by
          have : j = 0 := by omega
          subst this
          rw [show b + ((0 : Nat) : Int) = b by omega, g0]; rfl)]
        rw [show b + ((0 : Nat) : Int) = b by omega, g0]
        rfl
      | succ i =>
        rw [List.getElem?_cons_succ, preL_get h2 (b := b + 1) (fun q hq => by have := hr q hq; omega) i]
        have e2 : b + ((i + 1 : Nat) : Int) = b + 1 + (i : Nat) := by omega
        rw [e2, gs _ (by omega)]
        have e3 : (∀ j : Nat, j ≤ i → (getM r (b + 1 + (j : Nat))).isSome = true) ↔ (∀ j : Nat, j ≤ i + 1 → (getM (e :: r) (b + (j : Nat))).isSome = true) := by
          constructor
          · intro hh j hj
            cases j with
            | zero => rw [show b + ((0 : Nat) : Int) = b by omega, g0]; rfl
            | succ j =>
              have := hh j (by omega)
              rw [show b + ((j + 1 : Nat) : Int) = b + 1 + (j : Nat) by omega, gs _ (by omega)]
              exact this
          · intro hh j hj
            have := hh (j + 1) (by omega)
            rw [show b + ((j + 1 : Nat) : Int) = b + 1 + (j : Nat) by omega, gs _ (by omega)] at this
            exact this
        by_cases hh : ∀ j : Nat, j ≤ i → (getM r (b + 1 + (j : Nat))).isSome = true
        · rw [if_pos hh, if_pos (e3.1 hh)]
        · rw [if_neg hh, if_neg (fun q => hh (e3.2 q))]
    · have hp : preL b (e :: r) = [] := by show (if e.s = b then _ else _) = _; rw [if_neg hc]
      rw [hp, if_neg (fun hh => ?_)]
      · simp
      · have := hh 0 (Nat.zero_le _)
        rw [show b + ((0 : Nat) : Int) = b by omega] at this
        cases hg : getM (e :: r) b with
        | none => rw [hg] at this; cases this
        | some q =>
          obtain ⟨q1, q2⟩ := (get_iff h b q).1 hg
          rcases List.mem_cons.1 q1 with rfl | q1
          · exact hc q2
          · have := hr q q1; omega
theorem pre_get {s : St} (h : OkS s) (i : Nat) : (preV s)[i]? = if s.b + (i : Nat) < uptoV s then some (gK (getM s.M (s.b + (i : Nat)))) else none := by
  unfold preV
  rw [preL_get h.srt (fun e he => (h.ent e he).1) i]
  by_cases hc : s.b + (i : Nat) < uptoV s
  · rw [if_pos hc, if_pos (fun j hj => upto_has (by omega) (by omega))]
  · rw [if_neg hc, if_neg (fun hh => hc ?_)]
    have := upto_ge h (u := s.b + (i : Nat) + 1) (fun k h1 h2 => by
      have := hh (k - s.b).toNat (by omega)
      rwa [show s.b + (((k - s.b).toNat : Nat) : Int) = k by omega] at this)
    omega
theorem pre_len {s : St} (h : OkS s) : ((preV s).length : Int) = uptoV s - s.b := by
  have hle := upto_le h
  have h1 := pre_get h (preV s).length
  rw [List.getElem?_eq_none (Nat.le_refl _)] at h1
  have h2 : ¬ s.b + ((preV s).length : Int) < uptoV s := fun hc => by rw [if_pos hc] at h1; cases h1
  by_cases h3 : (preV s).length = 0
  · omega
  · have h4 := pre_get h ((preV s).length - 1)
    rw [List.getElem?_eq_getElem (by omega)] at h4
    have h5 : s.b + (((preV s).length - 1 : Nat) : Int) < uptoV s := by
      by_cases hc : s.b + (((preV s).length - 1 : Nat) : Int) < uptoV s
      · exact hc
      · rw [if_neg hc] at h4; cases h4
    omega

/-! Logs that were made by puts of one value for each slot. -/
/-- The log of the slots below k of a set, each with its value. -/
def setS (bt : Nat → Bool) (vf : Nat → ByteArray) : Nat → St
  | 0 => newS
  | k + 1 => if bt k then putS (setS bt vf k) k (vf k) else setS bt vf k
theorem one_put {s : St} (h : OkS s) (hb : s.b = 0) {k : Nat} (hk : k < 4096) {v : ByteArray} (hv : v.size ≤ 65536) (hg : getM s.M (k : Int) = none ∨ ∃ j, getM s.M (k : Int) = some ⟨j, v⟩) : putE s k v = 0 := by
  rw [put_val (by omega) hv, if_neg (by omega)]
  rcases hg with hg | ⟨j, hg⟩
  · rw [hg]; rfl
  · rw [hg]
    show (if (!eqT v v) = true then _ else _) = _
    rw [eqT_t]
    rfl
theorem set_facts {bt : Nat → Bool} {vf : Nat → ByteArray} (hv : ∀ i, (vf i).size ≤ 65536) : ∀ k, k ≤ 4096 → OkS (setS bt vf k) ∧ (setS bt vf k).b = 0 ∧ (∀ j : Int, getM (setS bt vf k).M j = if 0 ≤ j ∧ j < k ∧ bt j.toNat = true then some ⟨j, vf j.toNat⟩ else none) ∧ (k < 4096 → putE (setS bt vf k) k (vf k) = 0)
  | 0, _ => by
    refine ⟨ok_new, rfl, fun j => ?_, fun _ => ?_⟩
    · rw [if_neg (by omega)]; rfl
    · exact one_put ok_new rfl (by omega) (hv 0) (.inl rfl)
  | k + 1, hk => by
    obtain ⟨h1, h2, h3, h4⟩ := set_facts hv k (by omega)
    have h4 := h4 (by omega)
    have hnext : ∀ s : St, OkS s → s.b = 0 → (∀ j : Int, getM s.M j = if 0 ≤ j ∧ j < ((k + 1 : Nat) : Int) ∧ bt j.toNat = true then some ⟨j, vf j.toNat⟩ else none) → (k + 1 < 4096 → putE s ((k + 1 : Nat) : Int) (vf (k + 1)) = 0) := fun s q1 q2 q3 q4 =>
      one_put q1 q2 q4 (hv _) (.inl (by rw [q3, if_neg (by omega)]))
    show OkS (if bt k then _ else _) ∧ (if bt k then _ else _ : St).b = 0 ∧ _
    by_cases hb : bt k = true
    · have e : setS bt vf (k + 1) = putS (setS bt vf k) k (vf k) := by show (if bt k then _ else _) = _; rw [if_pos hb]
      rw [if_pos hb]
      have q3 : ∀ j : Int, getM (putS (setS bt vf k) k (vf k)).M j = if 0 ≤ j ∧ j < ((k + 1 : Nat) : Int) ∧ bt j.toNat = true then some ⟨j, vf j.toNat⟩ else none := fun j => by
        rw [put_get h1 h4, h3]
        by_cases hj : j = (k : Int)
        · subst hj
          have hkk : ((k : Nat) : Int).toNat = k := by omega
          rw [if_pos rfl, if_pos ⟨by omega, by omega, by rw [hkk]; exact hb⟩, hkk]
        · rw [if_neg hj]
          by_cases hc : 0 ≤ j ∧ j < (k : Int) ∧ bt j.toNat = true
          · rw [if_pos hc, if_pos ⟨hc.1, by omega, hc.2.2⟩]
          · rw [if_neg hc, if_neg (fun q => hc ⟨q.1, by omega, q.2.2⟩)]
      have q1 := ok_puts h1 k (vf k)
      have q2 : (putS (setS bt vf k) k (vf k)).b = 0 := by rw [put_b]; exact h2
      rw [e]
      exact ⟨q1, q2, q3, hnext _ q1 q2 q3⟩
    · have e : setS bt vf (k + 1) = setS bt vf k := by show (if bt k then _ else _) = _; rw [if_neg hb]
      rw [if_neg hb, e]
      have q3 : ∀ j : Int, getM (setS bt vf k).M j = if 0 ≤ j ∧ j < ((k + 1 : Nat) : Int) ∧ bt j.toNat = true then some ⟨j, vf j.toNat⟩ else none := fun j => by
        rw [h3]
        by_cases hc : 0 ≤ j ∧ j < (k : Int) ∧ bt j.toNat = true
        · rw [if_pos hc, if_pos ⟨hc.1, by omega, hc.2.2⟩]
        · rw [if_neg hc, if_neg (fun q => hc ⟨q.1, by
            have : j ≠ (k : Int) := fun e => by
              rw [e] at q
              have hkk : ((k : Nat) : Int).toNat = k := by omega
              rw [hkk] at q
              exact hb q.2.2
            omega, q.2.2⟩)]
      exact ⟨h1, h2, q3, hnext _ h1 h2 q3⟩
end Go.Proofs.Ytgeejkedljhcoaa.Slt
