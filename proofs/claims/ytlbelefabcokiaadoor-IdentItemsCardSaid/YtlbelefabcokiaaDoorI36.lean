/- Plain facts for the document's ParseItem. -/
import Derived.Test.YtlbelefabcokiaaDoorI13
namespace Go.Proofs.YtlbelefabcokiaaDoor.Ident
open Go.Lib
set_option linter.unusedVariables false

theorem it_split {x : It} (h : okIt x) : itT x = hdT x ++ [64, UInt8.ofNat (48 + x.g.toNat)] := by
  have h1 := h.1
  have h2 := h.2.1
  unfold itT
  rw [decDigits_one (by omega)]
theorem it_at {l : List UInt8} {x : It} (h : okIt x) (e : l = itT x) (k : Nat) (hk : l.length = k + 2) :
    l.take k = hdT x ∧ (∃ h1 : k < l.length, l[k] = 64) ∧ ∃ h2 : k + 1 < l.length, (l[k + 1]).toNat = 48 + x.g.toNat := by
  have g1 := h.1
  have g2 := h.2.1
  rw [it_split h] at e
  have hl : (hdT x).length = k := by have := congrArg List.length e; simp at this; omega
  subst e
  subst hl
  refine ⟨List.take_left, ⟨by omega, ?_⟩, by omega, ?_⟩
  · simp
  · rw [List.getElem_append_right (by omega)]
    simp
    omega
theorem l_split (l : List UInt8) (k : Nat) (hk : l.length = k + 2) : l = l.take k ++ [l[k], l[k + 1]] := by
  have h : l.drop k = [l[k], l[k + 1]] := by
    rw [List.drop_eq_getElem_cons (by omega), List.drop_eq_getElem_cons (by omega), List.drop_eq_nil_of_le (by omega)]
  conv => lhs; rw [← List.take_append_drop k l, h]
theorem pI_short (l : List UInt8) (h : l.length < 2) : pI l = none := by
  cases hp : pI l with
  | none => rfl
  | some x =>
    obtain ⟨hk, e⟩ := pI_some hp
    rw [it_split hk] at e
    have := congrArg List.length e
    simp at this
    omega
theorem pI_bad (l : List UInt8) (k : Nat) (hk : l.length = k + 2) (h : (l[k]).toNat ≠ 64 ∨ (l[k + 1]).toNat < 49 ∨ 55 < (l[k + 1]).toNat) : pI l = none := by
  cases hp : pI l with
  | none => rfl
  | some x =>
    obtain ⟨ho, e⟩ := pI_some hp
    obtain ⟨_, ⟨h1, e1⟩, h2, e2⟩ := it_at ho e k hk
    have g1 := ho.1
    have g2 := ho.2.1
    rw [e1, e2] at h
    have : (64 : UInt8).toNat = 64 := rfl
    omega
theorem l_good (l : List UInt8) (k g : Nat) (hk : l.length = k + 2) (hc : (l[k]).toNat = 64) (hd : (l[k + 1]).toNat = 48 + g) (hg : g ≤ 7) : l = l.take k ++ [64, UInt8.ofNat (48 + g)] := by
  have e1 : l[k] = 64 := UInt8.toNat_inj.1 (by rw [hc]; rfl)
  have e2 : l[k + 1] = UInt8.ofNat (48 + g) := UInt8.toNat_inj.1 (by rw [hd, digit_nat (by omega)])
  have h := l_split l k hk
  rw [e1, e2] at h
  exact h
theorem pI_eff (l : List UInt8) (k g : Nat) (hk : l.length = k + 2) (hc : (l[k]).toNat = 64) (hd : (l[k + 1]).toNat = 48 + g) (h1 : 1 ≤ g) (hg : g ≤ 7) {a b p : Int} (h : pE (l.take k) = some (a, b, p)) :
    pI l = some ⟨a, b, p, 0, false, g⟩ := by
  obtain ⟨ho, e⟩ := pE_some h
  have hok : okIt ⟨a, b, p, 0, false, g⟩ := ⟨by show (1 : Int) ≤ g; omega, by show (g : Int) ≤ 7; omega, .inl ⟨rfl, rfl, ho⟩⟩
  have hl := l_good l k g hk hc hd hg
  have ht : itT ⟨a, b, p, 0, false, g⟩ = l := by
    rw [it_split hok, hl, e]
    show hdT ⟨a, b, p, 0, false, g⟩ ++ _ = _
    unfold hdT
    rw [if_pos rfl]
    simp
  rw [← ht]
  exact pI_text hok
theorem pI_move (l : List UInt8) (m g : Nat) (i : Bool) (h1 : 1 ≤ g) (hg : g ≤ 7) (m1 : 1 ≤ m) (m2 : m ≤ 64) (h : itT ⟨0, 0, 0, m, i, g⟩ = l) : pI l = some ⟨0, 0, 0, m, i, g⟩ := by
  rw [← h]
  exact pI_text ⟨by show (1 : Int) ≤ g; omega, by show (g : Int) ≤ 7; omega, .inr ⟨by show (1 : Int) ≤ m; omega, by show (m : Int) ≤ 64; omega, rfl, rfl, rfl⟩⟩
theorem pI_late (l : List UInt8) (k g : Nat) (hk : l.length = k + 2) (hd : (l[k + 1]).toNat = 48 + g) (he : pE (l.take k) = none) (h : ∀ (m : Nat) (i : Bool), 1 ≤ m → m ≤ 64 → itT ⟨0, 0, 0, m, i, g⟩ ≠ l) : pI l = none := by
  cases hp : pI l with
  | none => rfl
  | some x =>
    exfalso
    obtain ⟨ho, e⟩ := pI_some hp
    obtain ⟨e0, ⟨h1, e1⟩, h2, e2⟩ := it_at ho e k hk
    obtain ⟨a, b, p, m, i, gg⟩ := x
    have g1 := ho.1
    have g2 := ho.2.1
    simp only at g1 g2 e2
    have hgg : gg = (g : Int) := by omega
    subst hgg
    obtain ⟨_, _, ⟨c1, c2, c3⟩ | ⟨c1, c2, c3, c4, c5⟩⟩ := ho
    · simp only at c1 c2 c3
      subst c1 c2
      rw [e0] at he
      unfold hdT at he
      rw [if_pos rfl, pE_text c3] at he
      cases he
    · simp only at c1 c2 c3 c4 c5
      subst c3 c4 c5
      obtain ⟨n, rfl⟩ := Int.eq_ofNat_of_zero_le (show 0 ≤ m by omega)
      exact h n i (by omega) (by omega) e.symm
end Go.Proofs.YtlbelefabcokiaaDoor.Ident
