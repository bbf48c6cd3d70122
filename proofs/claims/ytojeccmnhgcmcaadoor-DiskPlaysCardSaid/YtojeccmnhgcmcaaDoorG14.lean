/- Plain: torn records. -/
import Derived.Test.YtojeccmnhgcmcaaDoorG13
namespace Go.Proofs.YtojeccmnhgcmcaaDoor.Frame
open Crc (more more_lt)
set_option linter.unusedVariables false

theorem num4_rc (c m : List Nat) (h : c.length ≤ 65536) : num4 (rc c ++ m) = c.length := by
  unfold rc
  rw [List.append_assoc, List.append_assoc]
  exact num4_be4 _ (by omega) _
/-- A record that is cut off is none. -/
theorem rest_torn {c : List Nat} (h : c.length ≤ 65536) (m : List Nat) (j : Nat) (hj : j < 8 + c.length) : restE ((rc c ++ m).take j) ≠ 0 := by
  intro h0
  have hk := ok_of h0
  have hl : ((rc c ++ m).take j).length ≤ j := List.length_take_le _ _
  have h1 := hk.ge
  have h2 := hk.fit
  rw [num4_take (by omega), num4_rc c m h] at h2
  omega
structure Torn (L : List (List Nat)) (n k : Nat) : Prop where
  le : k ≤ L.length
  fit : tot (L.take k) ≤ n
  max : k = L.length ∨ n < tot (L.take (k + 1))
theorem torn_chain {L : List (List Nat)} (hb : ∀ c ∈ L, Byt c) (hs : ∀ c ∈ L, Short c) {n k : Nat} (hn : n ≤ tot L) (h : Torn L n k) :
    chain ((rcs L).take n) = L.take k ∧ restE (((rcs L).take n).drop (tot (L.take k))) ≠ 0 := by
  have e : L = L.take k ++ L.drop k := (List.take_append_drop k L).symm
  have e2 : rcs L = rcs (L.take k) ++ rcs (L.drop k) := by rw [← rcs_app, ← e]
  have hl : (rcs (L.take k)).length = tot (L.take k) := rcs_len _
  have e3 : (rcs L).take n = rcs (L.take k) ++ (rcs (L.drop k)).take (n - tot (L.take k)) := by
    rw [e2, List.take_append, hl, List.take_of_length_le (by rw [hl]; exact h.fit)]
  have ht : restE ((rcs (L.drop k)).take (n - tot (L.take k))) ≠ 0 := by
    rcases h.max with hk | hk
    · subst hk
      rw [List.drop_length]
      show restE ([].take _) ≠ 0
      rw [List.take_nil]
      decide
    · by_cases hkl : k < L.length
      · have hd : L.drop k = L[k] :: L.drop (k + 1) := List.drop_eq_getElem_cons hkl
        rw [hd]
        have ht := tot_take_succ L k hkl
        rw [List.getD_eq_getElem?_getD, List.getElem?_eq_getElem hkl] at ht
        have ht : tot (L.take (k + 1)) = tot (L.take k) + (8 + (L[k]).length) := ht
        exact rest_torn (hs _ (List.getElem_mem hkl)) _ _ (by omega)
      · have : k = L.length := by have := h.le; omega
        subst this
        rw [List.drop_length]
        show restE ([].take _) ≠ 0
        rw [List.take_nil]
        decide
  have hc := chain_rcs (L.take k) (fun c hc => ⟨hb c (List.mem_of_mem_take hc), hs c (List.mem_of_mem_take hc)⟩) ((rcs (L.drop k)).take (n - tot (L.take k)))
  rw [chain_no ht, List.append_nil] at hc
  rw [e3]
  refine ⟨hc, ?_⟩
  rw [← hl, List.drop_append_of_le_length (Nat.le_refl _), List.drop_length, List.nil_append, hl]
  exact ht
theorem torn_check {L : List (List Nat)} (hb : ∀ c ∈ L, Byt c) (hs : ∀ c ∈ L, Short c) {n k : Nat} (hn : n ≤ tot L) (h : Torn L n k) :
    (checkE ((rcs L).take n) = 0 ↔ tot (L.take k) = n) := by
  obtain ⟨h1, h2⟩ := torn_chain hb hs hn h
  have hl : ((rcs L).take n).length = n := by rw [List.length_take, rcs_len]; omega
  unfold checkE
  rw [h1, hl]
  by_cases hk : tot (L.take k) = n
  · rw [if_pos hk]; exact ⟨fun _ => hk, fun _ => rfl⟩
  · rw [if_neg hk]; exact ⟨fun h => absurd h h2, fun h => absurd h hk⟩
theorem chain_all {L : List (List Nat)} (hb : ∀ c ∈ L, Byt c) (hs : ∀ c ∈ L, Short c) : chain (rcs L) = L := by
  have hc := chain_rcs L (fun c hc => ⟨hb c hc, hs c hc⟩) []
  rw [List.append_nil, chain_no (r := []) (by decide), List.append_nil] at hc
  exact hc
theorem check_all {L : List (List Nat)} (hb : ∀ c ∈ L, Byt c) (hs : ∀ c ∈ L, Short c) : checkE (rcs L) = 0 := by
  unfold checkE
  rw [chain_all hb hs, if_pos (rcs_len L).symm]
end Go.Proofs.YtojeccmnhgcmcaaDoor.Frame
