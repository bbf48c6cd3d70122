/- Proposers and acceptors as plain numbers: what stays true whatever they do, and why all chosen values are one. -/
import Derived.Test.YtdodnejfjpkbcaaA10
namespace Go.Proofs.Ytdodnejfjpkbcaa.Acc
open Go.RowKit Go.Maps Go.Lib
set_option linter.unusedVariables false
set_option linter.unusedSimpArgs false
set_option maxRecDepth 20000

def maj (n x : Nat) : Bool := Quo.isV n x
def c5 (x : Nat) : Nat := x % 2 + x / 2 % 2 + x / 4 % 2 + x / 8 % 2 + x / 16 % 2
theorem pc5 : ∀ x : Fin 32, Quo.pc x.val = c5 x.val := by decide +kernel
theorem maj_c {n x : Nat} (h1 : 1 ≤ n) (h5 : n ≤ 5) (hx : x < 2 ^ n) : maj n x = decide (n / 2 < c5 x) := by
  have hx32 : x < 32 := Nat.lt_of_lt_of_le hx (Nat.pow_le_pow_right (by omega) h5)
  have e1 : Quo.ckI (n : Int) [x] = 0 := by
    rw [Quo.ckI_in h1 (by omega)]
    refine Quo.ckL_t ?_
    rw [Quo.inAll1]
    unfold Quo.all1
    exact decide_eq_true (by omega)
  unfold maj Quo.isV
  rw [e1, Int.toNat_natCast, pc5 ⟨x, hx32⟩]
  simp
theorem maj_ck {n x : Nat} (h1 : 1 ≤ n) (h5 : n ≤ 5) (hx : x < 2 ^ n) : Quo.ckI (n : Int) [x] = 0 := by
  rw [Quo.ckI_in h1 (by omega)]
  refine Quo.ckL_t ?_
  rw [Quo.inAll1]
  unfold Quo.all1
  exact decide_eq_true (by omega)
theorem meet5 : ∀ (n : Fin 6) (x y : Fin 32), x.val < 2 ^ n.val → y.val < 2 ^ n.val → n.val / 2 < c5 x.val → n.val / 2 < c5 y.val → ∃ i : Fin 5, i.val < n.val ∧ x.val.testBit i.val = true ∧ y.val.testBit i.val = true := by decide +kernel
theorem maj_meet {n x y : Nat} (h1 : 1 ≤ n) (h5 : n ≤ 5) (hx : x < 2 ^ n) (hy : y < 2 ^ n) (qx : maj n x = true) (qy : maj n y = true) : ∃ i, i < n ∧ x.testBit i = true ∧ y.testBit i = true := by
  rw [maj_c h1 h5 hx] at qx
  rw [maj_c h1 h5 hy] at qy
  have hp : 2 ^ n ≤ 32 := Nat.pow_le_pow_right (by omega) h5
  obtain ⟨i, hi, ha, hb⟩ := meet5 ⟨n, by omega⟩ ⟨x, by omega⟩ ⟨y, by omega⟩ hx hy (of_decide_eq_true qx) (of_decide_eq_true qy)
  exact ⟨i.val, hi, ha, hb⟩
theorem maj_zero {n : Nat} (h1 : 1 ≤ n) (h5 : n ≤ 5) : maj n 0 = false := by
  rw [maj_c h1 h5 (Nat.two_pow_pos n)]
  exact decide_eq_false (by have : c5 0 = 0 := rfl; omega)
theorem or_lt {n x i : Nat} (hx : x < 2 ^ n) (hi : i < n) : x ||| 2 ^ i < 2 ^ n := Nat.or_lt_two_pow hx (Nat.pow_lt_pow_right (by omega) hi)
theorem or_bit (x i j : Nat) : (x ||| 2 ^ i).testBit j = (x.testBit j || decide (i = j)) := by rw [Nat.testBit_or, Nat.testBit_two_pow]
theorem bit_ne {x i : Nat} (h : x.testBit i = true) : x ≠ 0 := by rintro rfl; simp at h
theorem or_ne (x i : Nat) : x ||| 2 ^ i ≠ 0 := bit_ne (i := i) (by rw [or_bit]; simp)

structure AcP where
  p : Nat
  a : Nat
  v : ByteArray
structure TrP where
  t : Nat
  b : Nat
  bv : ByteArray
  w : Nat
structure Sg where
  As : Nat → AcP
  Ts : Nat → TrP
  ch : ByteArray
def upd {α : Type} (f : Nat → α) (i : Nat) (x : α) : Nat → α := fun j => if j = i then x else f j
theorem upd_same {α : Type} (f : Nat → α) (i : Nat) (x : α) : upd f i x i = x := if_pos rfl
theorem upd_other {α : Type} (f : Nat → α) {i j : Nat} (x : α) (h : j ≠ i) : upd f i x j = f j := if_neg h
abbrev e0 : ByteArray := ⟨#[]⟩
def letr (k : Nat) : ByteArray := ⟨#[UInt8.ofNat (97 + k)]⟩
def vlT (Ts : Nat → TrP) (k : Nat) : ByteArray := if (Ts k).b = 0 then letr k else (Ts k).bv
structure Inv (n : Nat) (σ : Sg) : Prop where
  a1 : ∀ i, i < n → (σ.As i).a ≤ (σ.As i).p ∧ (σ.As i).p ≤ 12 ∧ (σ.As i).v.size ≤ 65536
  a2 : ∀ k, k < 12 → (σ.Ts k).t < 2 ^ n ∧ (σ.Ts k).w < 2 ^ n ∧ (σ.Ts k).b ≤ k ∧ (σ.Ts k).bv.size ≤ 65536
  a3 : ∀ k, k < 12 → (σ.Ts k).w ≠ 0 → maj n (σ.Ts k).t = true
  a4 : ∀ k, k < 12 → ∀ i, i < n → (σ.Ts k).t.testBit i = true → k + 1 ≤ (σ.As i).p
  a5 : ∀ k, k < 12 → ∀ i, i < n → ∀ j, j < k → (σ.Ts k).t.testBit i = true → (σ.Ts j).w.testBit i = true → j + 1 ≤ (σ.Ts k).b
  a6 : ∀ j, j < 12 → ∀ i, i < n → (σ.Ts j).w.testBit i = true → j + 1 ≤ (σ.As i).a
  a7 : ∀ i, i < n → ∀ j, (σ.As i).a = j + 1 → (σ.Ts j).w.testBit i = true ∧ (σ.As i).v = vlT σ.Ts j
  a8 : ∀ k, k < 12 → ∀ j, (σ.Ts k).b = j + 1 → (σ.Ts j).w ≠ 0 ∧ (σ.Ts k).bv = vlT σ.Ts j
  a9 : σ.ch = e0 ∨ ∃ j, j < 12 ∧ maj n (σ.Ts j).w = true ∧ σ.ch = vlT σ.Ts j
theorem vl_size {n : Nat} {σ : Sg} (h : Inv n σ) (k : Nat) (hk : k < 12) : (vlT σ.Ts k).size ≤ 65536 := by
  unfold vlT
  split
  · show 1 ≤ 65536; omega
  · exact (h.a2 k hk).2.2.2
theorem agree {n : Nat} {σ : Sg} (h1 : 1 ≤ n) (h5 : n ≤ 5) (h : Inv n σ) (j : Nat) (hj : j < 12) (qj : maj n (σ.Ts j).w = true) :
    ∀ k, k < 12 → j < k → maj n (σ.Ts k).t = true → vlT σ.Ts k = vlT σ.Ts j := by
  intro k
  induction k using Nat.strongRecOn with
  | _ k ih =>
    intro hk hjk qk
    obtain ⟨i, hi, b1, b2⟩ := maj_meet h1 h5 (h.a2 j hj).2.1 (h.a2 k hk).1 qj qk
    have hb := h.a5 k hk i hi j hjk b2 b1
    have hbk := (h.a2 k hk).2.2.1
    obtain ⟨m, hm⟩ : ∃ m, (σ.Ts k).b = m + 1 := ⟨(σ.Ts k).b - 1, by omega⟩
    obtain ⟨hw, hv⟩ := h.a8 k hk m hm
    have e1 : vlT σ.Ts k = vlT σ.Ts m := by rw [← hv]; unfold vlT; rw [if_neg (by omega)]
    rw [e1]
    by_cases e : m = j
    · rw [e]
    · exact ih m (by omega) (by omega) (by omega) (h.a3 m (by omega) hw)
theorem agree2 {n : Nat} {σ : Sg} (h1 : 1 ≤ n) (h5 : n ≤ 5) (h : Inv n σ) {j k : Nat} (hj : j < 12) (hk : k < 12) (qj : maj n (σ.Ts j).w = true) (qk : maj n (σ.Ts k).w = true) : vlT σ.Ts j = vlT σ.Ts k := by
  have z := maj_zero h1 h5
  have nj : (σ.Ts j).w ≠ 0 := fun e => by rw [e, z] at qj; cases qj
  have nk : (σ.Ts k).w ≠ 0 := fun e => by rw [e, z] at qk; cases qk
  rcases Nat.lt_trichotomy j k with hlt | rfl | hlt
  · exact (agree h1 h5 h j hj qj k hk hlt (h.a3 k hk nk)).symm
  · rfl
  · exact agree h1 h5 h k hk qk j hj hlt (h.a3 j hj nj)
def sg0 : Sg := ⟨fun _ => ⟨0, 0, e0⟩, fun _ => ⟨0, 0, e0, 0⟩, e0⟩
theorem inv0 (n : Nat) : Inv n sg0 where
  a1 := fun i _ => ⟨Nat.le_refl 0, Nat.zero_le 12, Nat.zero_le _⟩
  a2 := fun k _ => ⟨Nat.two_pow_pos n, Nat.two_pow_pos n, Nat.zero_le k, Nat.zero_le _⟩
  a3 := fun k _ h => absurd rfl h
  a4 := fun k _ i _ h => by simp [sg0] at h
  a5 := fun k _ i _ j _ h => by simp [sg0] at h
  a6 := fun k _ i _ h => by simp [sg0] at h
  a7 := fun i _ j h => by simp [sg0] at h
  a8 := fun i _ j h => by simp [sg0] at h
  a9 := .inl rfl

/-- A promise. -/
def pr1 (σ : Sg) (i k : Nat) : Sg := ⟨upd σ.As i ⟨k + 1, (σ.As i).a, (σ.As i).v⟩, σ.Ts, σ.ch⟩
theorem inv_pr1 {n : Nat} {σ : Sg} (h : Inv n σ) {i k : Nat} (hi : i < n) (hk : k < 12) (hp : (σ.As i).p ≤ k + 1) : Inv n (pr1 σ i k) := by
  have hA : ∀ j, ((pr1 σ i k).As j).a = (σ.As j).a ∧ ((pr1 σ i k).As j).v = (σ.As j).v ∧ (σ.As j).p ≤ ((pr1 σ i k).As j).p := fun j => by
    by_cases e : j = i
    · subst e; simp only [pr1, upd_same, true_and]; exact hp
    · simp only [pr1, upd_other _ _ e, true_and]; exact Nat.le_refl _
  refine ⟨fun j hj => ?_, h.a2, h.a3, fun c hc j hj hb => ?_, h.a5, fun c hc j hj hb => ?_, fun j hj c hc => ?_, h.a8, h.a9⟩
  · obtain ⟨h1, h2, h3⟩ := h.a1 j hj
    by_cases e : j = i
    · subst e; simp only [pr1, upd_same]; exact ⟨by omega, by omega, h3⟩
    · simp only [pr1, upd_other _ _ e]; exact ⟨h1, h2, h3⟩
  · exact Nat.le_trans (h.a4 c hc j hj hb) (hA j).2.2
  · rw [(hA j).1]; exact h.a6 c hc j hj hb
  · rw [(hA j).1] at hc
    rw [(hA j).2.1]
    exact h.a7 j hj c hc
/-- A promise that is counted. -/
def pr2 (σ : Sg) (i k : Nat) : Sg :=
  ⟨upd σ.As i ⟨k + 1, (σ.As i).a, (σ.As i).v⟩,
   upd σ.Ts k ⟨(σ.Ts k).t ||| 2 ^ i, if (σ.Ts k).b < (σ.As i).a then (σ.As i).a else (σ.Ts k).b, if (σ.Ts k).b < (σ.As i).a then (σ.As i).v else (σ.Ts k).bv, (σ.Ts k).w⟩, σ.ch⟩
theorem inv_pr2 {n : Nat} {σ : Sg} (h1 : 1 ≤ n) (h5 : n ≤ 5) (h : Inv n σ) {i k : Nat} (hi : i < n) (hk : k < 12) (hp : (σ.As i).p ≤ k + 1) (hq : maj n (σ.Ts k).t = false) : Inv n (pr2 σ i k) := by
  have hw0 : (σ.Ts k).w = 0 := by
    rcases Nat.eq_zero_or_pos (σ.Ts k).w with e | e
    · exact e
    · have := h.a3 k hk (by omega)
      rw [this] at hq; cases hq
  have hak : (σ.As i).a ≤ k := by
    have h2 := (h.a1 i hi).1
    rcases Nat.lt_or_ge k (σ.As i).a with h3 | h3
    · have e : (σ.As i).a = k + 1 := by omega
      have := (h.a7 i hi k e).1
      rw [hw0] at this
      simp at this
    · exact h3
  have hA : ∀ j, ((pr2 σ i k).As j).a = (σ.As j).a ∧ ((pr2 σ i k).As j).v = (σ.As j).v ∧ (σ.As j).p ≤ ((pr2 σ i k).As j).p := fun j => by
    by_cases e : j = i
    · subst e; simp only [pr2, upd_same, true_and]; exact hp
    · simp only [pr2, upd_other _ _ e, true_and]; exact Nat.le_refl _
  have hTw : ∀ j, ((pr2 σ i k).Ts j).w = (σ.Ts j).w := fun j => by
    by_cases e : j = k
    · subst e; simp only [pr2, upd_same]
    · simp only [pr2, upd_other _ _ e]
  have hTo : ∀ j, j ≠ k → (pr2 σ i k).Ts j = σ.Ts j := fun j e => by simp only [pr2, upd_other _ _ e]
  have hTk : (pr2 σ i k).Ts k = ⟨(σ.Ts k).t ||| 2 ^ i, if (σ.Ts k).b < (σ.As i).a then (σ.As i).a else (σ.Ts k).b, if (σ.Ts k).b < (σ.As i).a then (σ.As i).v else (σ.Ts k).bv, (σ.Ts k).w⟩ := by simp only [pr2, upd_same]
  have hbk : (σ.Ts k).b ≤ ((pr2 σ i k).Ts k).b ∧ (σ.As i).a ≤ ((pr2 σ i k).Ts k).b ∧ ((pr2 σ i k).Ts k).b ≤ k := by
    have := (h.a2 k hk).2.2.1
    rw [hTk]
    show _ ≤ (if _ then _ else _) ∧ _ ≤ (if _ then _ else _) ∧ (if _ then _ else _) ≤ _
    split <;> omega
  have hV : ∀ j, j ≠ k → vlT (pr2 σ i k).Ts j = vlT σ.Ts j := fun j e => by unfold vlT; rw [hTo j e]
  have hne : ∀ j, (σ.Ts j).w ≠ 0 → j ≠ k := fun j hj e => by subst e; exact hj hw0
  refine ⟨fun j hj => ?_, fun c hc => ?_, fun c hc hc0 => ?_, fun c hc j hj hb => ?_, fun c hc j hj d hd hb1 hb2 => ?_, fun c hc j hj hb => ?_, fun j hj c hc => ?_, fun c hc d hd => ?_, ?_⟩
  · obtain ⟨h1, h2, h3⟩ := h.a1 j hj
    by_cases e : j = i
    · subst e; simp only [pr2, upd_same]; exact ⟨by omega, by omega, h3⟩
    · simp only [pr2, upd_other _ _ e]; exact ⟨h1, h2, h3⟩
  · by_cases e : c = k
    · subst e
      obtain ⟨g1, g2, g3, g4⟩ := h.a2 c hc
      refine ⟨?_, ?_, hbk.2.2, ?_⟩
      · rw [hTk]; exact or_lt g1 hi
      · rw [hTk]; exact g2
      · rw [hTk]
        show (if _ then _ else _ : ByteArray).size ≤ _
        split
        · exact (h.a1 i hi).2.2
        · exact g4
    · rw [hTo c e]; exact h.a2 c hc
  · rw [hTw] at hc0
    rw [hTo c (hne c hc0)]
    exact h.a3 c hc hc0
  · by_cases e : c = k
    · subst e
      rw [hTk] at hb
      simp only [or_bit, Bool.or_eq_true, decide_eq_true_eq] at hb
      by_cases e2 : j = i
      · subst e2
        simp only [pr2, upd_same]
        omega
      · exact Nat.le_trans (h.a4 c hc j hj (hb.resolve_right (fun e => e2 e.symm))) (hA j).2.2
    · rw [hTo c e] at hb
      exact Nat.le_trans (h.a4 c hc j hj hb) (hA j).2.2
  · rw [hTw] at hb2
    by_cases e : c = k
    · subst e
      rw [hTk] at hb1
      simp only [or_bit, Bool.or_eq_true, decide_eq_true_eq] at hb1
      rcases hb1 with hb1 | rfl
      · exact Nat.le_trans (h.a5 c hc j hj d hd hb1 hb2) hbk.1
      · exact Nat.le_trans (h.a6 d (by omega) i hj hb2) hbk.2.1
    · rw [hTo c e] at hb1 ⊢
      exact h.a5 c hc j hj d hd hb1 hb2
  · rw [hTw] at hb
    rw [(hA j).1]
    exact h.a6 c hc j hj hb
  · rw [(hA j).1] at hc
    rw [(hA j).2.1, hTw]
    obtain ⟨g1, g2⟩ := h.a7 j hj c hc
    exact ⟨g1, by rw [hV c (hne c (bit_ne g1))]; exact g2⟩
  · rw [hTw]
    by_cases e : c = k
    · subst e
      rw [hTk] at hd ⊢
      simp only at hd ⊢
      by_cases hlt : (σ.Ts c).b < (σ.As i).a
      · rw [if_pos hlt] at hd
        rw [if_pos hlt]
        obtain ⟨g1, g2⟩ := h.a7 i hi d hd
        exact ⟨bit_ne g1, by rw [hV d (hne d (bit_ne g1))]; exact g2⟩
      · rw [if_neg hlt] at hd
        rw [if_neg hlt]
        obtain ⟨g1, g2⟩ := h.a8 c hc d hd
        exact ⟨g1, by rw [hV d (hne d g1)]; exact g2⟩
    · rw [hTo c e] at hd ⊢
      obtain ⟨g1, g2⟩ := h.a8 c hc d hd
      exact ⟨g1, by rw [hV d (hne d g1)]; exact g2⟩
  · rcases h.a9 with h9 | ⟨j, hj, q, e⟩
    · exact .inl h9
    · refine .inr ⟨j, hj, by rw [hTw]; exact q, ?_⟩
      have : (σ.Ts j).w ≠ 0 := fun e0 => by rw [e0, maj_zero h1 h5] at q; cases q
      rw [hV j (hne j this)]
      exact e
/-- A vote. -/
def vt1 (σ : Sg) (i k : Nat) : Sg :=
  ⟨upd σ.As i ⟨k + 1, k + 1, vlT σ.Ts k⟩, upd σ.Ts k ⟨(σ.Ts k).t, (σ.Ts k).b, (σ.Ts k).bv, (σ.Ts k).w ||| 2 ^ i⟩, σ.ch⟩
theorem vt1_vl (σ : Sg) (i k j : Nat) : vlT (vt1 σ i k).Ts j = vlT σ.Ts j := by
  unfold vlT
  by_cases e : j = k
  · subst e; simp only [vt1, upd_same]
  · simp only [vt1, upd_other _ _ e]
theorem maj_up {n x i : Nat} (h1 : 1 ≤ n) (h5 : n ≤ 5) (hx : x < 2 ^ n) (hi : i < n) (h : maj n x = true) : maj n (x ||| 2 ^ i) = true := by
  have key : ∀ (n : Fin 6) (x : Fin 32) (i : Fin 5), x.val < 2 ^ n.val → i.val < n.val → n.val / 2 < c5 x.val → n.val / 2 < c5 (x.val ||| 2 ^ i.val) := by decide +kernel
  rw [maj_c h1 h5 hx] at h
  rw [maj_c h1 h5 (or_lt hx hi)]
  have hp : 2 ^ n ≤ 32 := Nat.pow_le_pow_right (by omega) h5
  exact decide_eq_true (key ⟨n, by omega⟩ ⟨x, by omega⟩ ⟨i, by omega⟩ hx hi (of_decide_eq_true h))
theorem inv_vt1 {n : Nat} {σ : Sg} (h1 : 1 ≤ n) (h5 : n ≤ 5) (h : Inv n σ) {i k : Nat} (hi : i < n) (hk : k < 12) (hp : (σ.As i).p ≤ k + 1) (hq : maj n (σ.Ts k).t = true) : Inv n (vt1 σ i k) := by
  have hai := (h.a1 i hi).1
  have hA : ∀ j, (σ.As j).a ≤ ((vt1 σ i k).As j).a ∧ (σ.As j).p ≤ ((vt1 σ i k).As j).p := fun j => by
    by_cases e : j = i
    · subst e; simp only [vt1, upd_same]; omega
    · simp only [vt1, upd_other _ _ e]; omega
  have hT : ∀ j, ((vt1 σ i k).Ts j).t = (σ.Ts j).t ∧ ((vt1 σ i k).Ts j).b = (σ.Ts j).b ∧ ((vt1 σ i k).Ts j).bv = (σ.Ts j).bv := fun j => by
    by_cases e : j = k
    · subst e; refine ⟨?_, ?_, ?_⟩ <;> simp only [vt1, upd_same]
    · refine ⟨?_, ?_, ?_⟩ <;> simp only [vt1, upd_other _ _ e]
  have hWo : ∀ j, j ≠ k → ((vt1 σ i k).Ts j).w = (σ.Ts j).w := fun j e => by simp only [vt1, upd_other _ _ e]
  have hWk : ((vt1 σ i k).Ts k).w = (σ.Ts k).w ||| 2 ^ i := by simp only [vt1, upd_same]
  have hWb : ∀ c j, ((vt1 σ i k).Ts c).w.testBit j = true → (σ.Ts c).w.testBit j = true ∨ (c = k ∧ j = i) := fun c j hb => by
    by_cases e : c = k
    · subst e
      rw [hWk, or_bit, Bool.or_eq_true, decide_eq_true_eq] at hb
      exact hb.imp id fun e => ⟨rfl, e.symm⟩
    · rw [hWo c e] at hb; exact .inl hb
  have hWm : ∀ c j, (σ.Ts c).w.testBit j = true → ((vt1 σ i k).Ts c).w.testBit j = true := fun c j hb => by
    by_cases e : c = k
    · subst e; rw [hWk, or_bit, hb]; rfl
    · rw [hWo c e]; exact hb
  refine ⟨fun j hj => ?_, fun c hc => ?_, fun c hc hc0 => ?_, fun c hc j hj hb => ?_, fun c hc j hj d hd hb1 hb2 => ?_, fun c hc j hj hb => ?_, fun j hj c hc => ?_, fun c hc d hd => ?_, ?_⟩
  · by_cases e : j = i
    · subst e; simp only [vt1, upd_same]; exact ⟨Nat.le_refl _, by omega, vl_size h k hk⟩
    · simp only [vt1, upd_other _ _ e]; exact h.a1 j hj
  · obtain ⟨g1, g2, g3, g4⟩ := h.a2 c hc
    rw [(hT c).1, (hT c).2.1, (hT c).2.2]
    refine ⟨g1, ?_, g3, g4⟩
    by_cases e : c = k
    · subst e; rw [hWk]; exact or_lt g2 hi
    · rw [hWo c e]; exact g2
  · rw [(hT c).1]
    by_cases e : c = k
    · subst e; exact hq
    · rw [hWo c e] at hc0; exact h.a3 c hc hc0
  · rw [(hT c).1] at hb
    exact Nat.le_trans (h.a4 c hc j hj hb) (hA j).2
  · rw [(hT c).1] at hb1
    rw [(hT c).2.1]
    rcases hWb d j hb2 with hb2 | ⟨rfl, rfl⟩
    · exact h.a5 c hc j hj d hd hb1 hb2
    · have := h.a4 c hc j hj hb1
      omega
  · rcases hWb c j hb with hb | ⟨rfl, rfl⟩
    · exact Nat.le_trans (h.a6 c hc j hj hb) (hA j).1
    · simp only [vt1, upd_same]; omega
  · rw [vt1_vl]
    by_cases e : j = i
    · subst e
      simp only [vt1, upd_same] at hc
      obtain rfl : k = c := by omega
      exact ⟨by rw [hWk, or_bit]; simp, by simp only [vt1, upd_same]⟩
    · simp only [vt1, upd_other _ _ e] at hc
      obtain ⟨g1, g2⟩ := h.a7 j hj c hc
      exact ⟨hWm c j g1, by simp only [vt1, upd_other _ _ e]; exact g2⟩
  · rw [(hT c).2.1] at hd
    rw [(hT c).2.2, vt1_vl]
    obtain ⟨g1, g2⟩ := h.a8 c hc d hd
    refine ⟨?_, g2⟩
    by_cases e : d = k
    · subst e; rw [hWk]; exact or_ne _ _
    · rw [hWo d e]; exact g1
  · rcases h.a9 with h9 | ⟨j, hj, q, e⟩
    · exact .inl h9
    · refine .inr ⟨j, hj, ?_, by rw [vt1_vl]; exact e⟩
      by_cases e2 : j = k
      · subst e2; rw [hWk]; exact maj_up h1 h5 (h.a2 j hj).2.1 hi q
      · rw [hWo j e2]; exact q
/-- The first value that is chosen. -/
def chos (σ : Sg) (k : Nat) : Sg := ⟨σ.As, σ.Ts, vlT σ.Ts k⟩
theorem inv_chos {n : Nat} {σ : Sg} (h : Inv n σ) {k : Nat} (hk : k < 12) (q : maj n (σ.Ts k).w = true) : Inv n (chos σ k) :=
  ⟨h.a1, h.a2, h.a3, h.a4, h.a5, h.a6, h.a7, h.a8, .inr ⟨k, hk, q, rfl⟩⟩
theorem ch_eq {n : Nat} {σ : Sg} (h1 : 1 ≤ n) (h5 : n ≤ 5) (h : Inv n σ) {k : Nat} (hk : k < 12) (q : maj n (σ.Ts k).w = true) (hc : σ.ch ≠ e0) : σ.ch = vlT σ.Ts k := by
  rcases h.a9 with h9 | ⟨j, hj, qj, e⟩
  · exact absurd h9 hc
  · rw [e]; exact agree2 h1 h5 h hj hk qj q

/-! Ballots by their places. -/
def bR (n p : Nat) : Int := if p = 0 then 0 else ((1 + (p - 1) / n : Nat) : Int)
def bM (n p : Nat) : Int := if p = 0 then 0 else (((p - 1) % n : Nat) : Int)
theorem b_gd {n p : Nat} (h1 : 1 ≤ n) (h5 : n ≤ 5) (h0 : p ≠ 0) (hp : p ≤ 12) : Gd n (bR n p) (bM n p) := by
  unfold bR bM
  rw [if_neg h0, if_neg h0]
  have h2 : (p - 1) % n < n := Nat.mod_lt _ (by omega)
  have h3 : (p - 1) / n ≤ p - 1 := Nat.div_le_self _ _
  generalize (p - 1) / n = d at *
  generalize (p - 1) % n = e at *
  exact ⟨by omega, by omega, by omega, by omega⟩
theorem ord_b : ∀ (n : Fin 6) (p q : Fin 13), 1 ≤ n.val → (Bal.ordV (bR n.val p.val) (bM n.val p.val) (bR n.val q.val) (bM n.val q.val) < 0 ↔ p.val < q.val) ∧ (0 < Bal.ordV (bR n.val p.val) (bM n.val p.val) (bR n.val q.val) (bM n.val q.val) ↔ q.val < p.val) := by decide +kernel
theorem ord_lt {n p q : Nat} (h1 : 1 ≤ n) (h5 : n ≤ 5) (hp : p ≤ 12) (hq : q ≤ 12) : (Bal.ordV (bR n p) (bM n p) (bR n q) (bM n q) < 0 ↔ p < q) ∧ (0 < Bal.ordV (bR n p) (bM n p) (bR n q) (bM n q) ↔ q < p) :=
  ord_b ⟨n, by omega⟩ ⟨p, by omega⟩ ⟨q, by omega⟩ h1
/-- An acceptor's state. -/
def stA (n : Nat) (x : AcP) : St := ⟨n, bR n x.p, bM n x.p, 0, if x.a = 0 then [] else [⟨0, bR n x.a, bM n x.a, x.v⟩]⟩
theorem stA_pro {n : Nat} (h1 : 1 ≤ n) (h5 : n ≤ 5) {x : AcP} (hp : x.p ≤ 12) {k : Nat} (hk : k < 12) :
    (x.p ≤ k + 1 → proE (stA n x) (bR n (k + 1)) (bM n (k + 1)) 0 = 0 ∧ proS (stA n x) (bR n (k + 1)) (bM n (k + 1)) 0 = stA n ⟨k + 1, x.a, x.v⟩ ∧ proL (stA n x) (bR n (k + 1)) (bM n (k + 1)) 0 = (stA n x).M) ∧
    (¬ x.p ≤ k + 1 → proE (stA n x) (bR n (k + 1)) (bM n (k + 1)) 0 = 8 ∧ proS (stA n x) (bR n (k + 1)) (bM n (k + 1)) 0 = stA n x ∧ proL (stA n x) (bR n (k + 1)) (bM n (k + 1)) 0 = []) := by
  have hg : Gd (stA n x).n (bR n (k + 1)) (bM n (k + 1)) := b_gd h1 h5 (by omega) (by omega)
  have ho := (ord_lt h1 h5 (show k + 1 ≤ 12 by omega) hp).1
  have hfr : frM (stA n x).M 0 = (stA n x).M := by
    refine fr_all fun e he => ?_
    unfold stA at he
    simp only at he
    split at he
    · cases he
    · rw [List.mem_singleton] at he; subst he; exact Int.le_refl 0
  constructor
  · intro hle
    have h0 : proE (stA n x) (bR n (k + 1)) (bM n (k + 1)) 0 = 0 := by
      unfold proE
      rw [if_pos ⟨hg, by omega, by omega⟩, if_neg (fun h => by have := ho.1 h; omega)]
    exact ⟨h0, by unfold proS; rw [if_pos h0]; rfl, by unfold proL; rw [if_pos h0]; exact hfr⟩
  · intro hle
    have h0 : proE (stA n x) (bR n (k + 1)) (bM n (k + 1)) 0 = 8 := by
      unfold proE
      rw [if_pos ⟨hg, by omega, by omega⟩]
      exact if_pos (ho.2 (by omega))
    exact ⟨h0, by unfold proS; rw [h0]; rfl, by unfold proL; rw [h0]; rfl⟩
theorem stA_acc {n : Nat} (h1 : 1 ≤ n) (h5 : n ≤ 5) {x : AcP} (hp : x.p ≤ 12) {k : Nat} (hk : k < 12) {v : ByteArray} (hv : v.size ≤ 65536) :
    (x.p ≤ k + 1 → accE (stA n x) (bR n (k + 1)) (bM n (k + 1)) 0 v = 0 ∧ accS (stA n x) (bR n (k + 1)) (bM n (k + 1)) 0 v = stA n ⟨k + 1, k + 1, v⟩) ∧
    (¬ x.p ≤ k + 1 → accE (stA n x) (bR n (k + 1)) (bM n (k + 1)) 0 v = 8 ∧ accS (stA n x) (bR n (k + 1)) (bM n (k + 1)) 0 v = stA n x) := by
  have hg : Gd (stA n x).n (bR n (k + 1)) (bM n (k + 1)) := b_gd h1 h5 (by omega) (by omega)
  have ho := (ord_lt h1 h5 (show k + 1 ≤ 12 by omega) hp).1
  constructor
  · intro hle
    have h0 : accE (stA n x) (bR n (k + 1)) (bM n (k + 1)) 0 v = 0 := by
      unfold accE
      rw [if_pos ⟨hg, by omega, by omega⟩, if_neg (by omega), if_neg (fun h => by have := ho.1 h; omega)]
      exact if_neg (show ¬ (0 : Int) < 0 by omega)
    refine ⟨h0, ?_⟩
    unfold accS
    rw [if_pos h0]
    have hput : putM (stA n x).M ⟨0, bR n (k + 1), bM n (k + 1), v⟩ = [⟨0, bR n (k + 1), bM n (k + 1), v⟩] := by
      unfold stA putM delM
      simp only
      split
      · rfl
      · rfl
    rw [hput]
    rfl
  · intro hle
    have h0 : accE (stA n x) (bR n (k + 1)) (bM n (k + 1)) 0 v = 8 := by
      unfold accE
      rw [if_pos ⟨hg, by omega, by omega⟩, if_neg (by omega)]
      exact if_pos (ho.2 (by omega))
    exact ⟨h0, by unfold accS; rw [h0]; rfl⟩
end Go.Proofs.Ytdodnejfjpkbcaa.Acc
