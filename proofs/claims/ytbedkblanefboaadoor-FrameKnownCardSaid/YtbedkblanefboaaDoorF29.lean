/- FrameKnown: what its lists are, as plain lists. -/

import Derived.Test.YtbedkblanefboaaDoorF12
namespace Go.Proofs.YtbedkblanefboaaDoor.Frame
open Go.RowKit Go.ChangeShapes
open Crc (Hv more more_lt ret_u32)
set_option linter.unusedVariables false
set_option linter.unusedSimpArgs false

def zeros (n : Nat) : List Nat := List.replicate n 0
theorem zeros_len (n : Nat) : (zeros n).length = n := List.length_replicate
theorem zeros_byt (n : Nat) : Byt (zeros n) := by intro c hc; rw [List.eq_of_mem_replicate hc]; decide
theorem zeros_get (n i : Nat) : (zeros n).getD i 0 = 0 := by
  unfold zeros
  rw [List.getD_eq_getElem?_getD, List.getElem?_replicate]
  split <;> rfl
def nones (n : Nat) : List (List Nat) := List.replicate n []
theorem nones_len (n : Nat) : (nones n).length = n := List.length_replicate
theorem nones_mem {n : Nat} {c : List Nat} (h : c ∈ nones n) : c = [] := List.eq_of_mem_replicate h
theorem nones_get (n i : Nat) : (nones n).getD i [] = [] := by
  unfold nones
  rw [List.getD_eq_getElem?_getD, List.getElem?_replicate]
  split <;> rfl
theorem tot_nones : ∀ n, tot (nones n) = 8 * n
  | 0 => rfl
  | n + 1 => by
    show 8 + ([] : List Nat).length + tot (nones n) = _
    rw [tot_nones n, List.length_nil]
    omega
def ze : List Nat := [0, 0, 0, 0, 0, 0, 0, 0]
theorem ze_byt : Byt ze := by unfold Byt; decide
theorem str_ze : str ze = ⟨#[0, 0, 0, 0, 0, 0, 0, 0]⟩ := by decide +kernel
theorem make_none : makeL [] = ze ∧ makeE [] = 0 := by decide +kernel
theorem make_most : makeE (zeros 65536) = 0 ∧ (makeL (zeros 65536)).length = 65544 := by
  unfold makeE makeL
  rw [zeros_len, if_neg (by decide), if_neg (by decide), rc_len, zeros_len]
  exact ⟨rfl, rfl⟩
theorem make_over : makeE (zeros 65537) = 11 ∧ makeL (zeros 65537) = [] := by
  unfold makeE makeL
  rw [zeros_len, if_pos (by decide), if_pos (by decide)]
  exact ⟨rfl, rfl⟩
theorem join_over : joinE (nones 10001) = 12 ∧ joinL (nones 10001) = [] := by
  have h : joinE (nones 10001) = 12 := by unfold joinE; rw [nones_len, if_pos (by decide)]
  unfold joinL
  rw [h, if_neg (by decide)]
  exact ⟨rfl, rfl⟩
theorem nones_short (n : Nat) : ∀ c ∈ nones n, Short c := by
  intro c hc
  rw [nones_mem hc]
  exact Nat.zero_le _
theorem join_full : joinE (nones 10000) = 0 ∧ joinL (nones 10000) = rcs (nones 10000) := by
  have hl : (nones 10000).length ≤ 10000 := by rw [nones_len]; exact Nat.le_refl _
  exact ⟨joinE_ok hl (nones_short _), joinL_ok hl (nones_short _)⟩
theorem full_len : (rcs (nones 10000)).length = 80000 := by rw [rcs_len, tot_nones]
theorem join_two : joinE [[1], zeros 65537] = 11 ∧ joinL [[1], zeros 65537] = [] := by
  have h : joinE [[1], zeros 65537] = 11 := by
    unfold joinE
    rw [if_neg (by show ¬ 10000 < 2; decide), if_neg]
    intro hs
    have := hs (zeros 65537) (by simp)
    unfold Short at this
    rw [zeros_len] at this
    exact absurd this (by decide)
  unfold joinL
  rw [h, if_neg (by decide)]
  exact ⟨rfl, rfl⟩
theorem chain_none : chain [] = [] := chain_no (by decide)
theorem nones_byt (n : Nat) : ∀ c ∈ nones n, Byt c := by
  intro c hc
  rw [nones_mem hc]
  intro x hx
  cases hx
theorem full_byt : Byt (rcs (nones 10000)) := rcs_byt (nones_byt _)
theorem chain_rcs0 (L : List (List Nat)) (h : ∀ c ∈ L, Byt c ∧ c.length ≤ 65536) : chain (rcs L) = L := by
  have := chain_rcs L h []
  rwa [List.append_nil, chain_none, List.append_nil] at this
theorem chain_full : chain (rcs (nones 10000)) = nones 10000 := chain_rcs0 _ fun c hc => ⟨nones_byt _ c hc, nones_short _ c hc⟩
theorem tot_full : tot (nones 10000) = 80000 := by rw [tot_nones]
def hl0 : List Nat := [0, 1, 0, 1, 0, 0, 0, 0]
theorem hl0_byt : Byt hl0 := by unfold Byt; decide
theorem look_long : lkE (hl0 ++ zeros 65537) 0 = 10 := by
  have hl : (hl0 ++ zeros 65537).length = 65545 := by rw [List.length_append, zeros_len]; rfl
  have h := lkE_in (b := hl0 ++ zeros 65537) (k := 0) (Nat.zero_le _)
  rw [show ((0 : Nat) : Int) = 0 from rfl, List.drop_zero] at h
  rw [h, restE_ge (by rw [hl]; decide), num4_append (by decide), if_pos (Or.inl (by decide))]
theorem look_none : lkE [] 0 = 5 := by decide
theorem look_less : lkE ze (-1) = 3 := by decide
theorem chain_ze : chain ze = [[]] := by
  have := chain_rcs0 [[]] (fun c hc => by
    obtain rfl : c = [] := by simpa using hc
    exact ⟨fun x hx => (nomatch hx), Nat.zero_le _⟩)
  rwa [show rcs [[]] = ze by decide +kernel] at this
theorem cut_nine : cutN ze 9 = 0 ∧ cutE ze 9 = 3 := by decide
theorem cut_eight : cutN ze 8 = 1 ∧ cutE ze 8 = 0 := by
  refine ⟨?_, by decide⟩
  unfold cutN
  rw [if_neg (by decide), show ze.take (Int.toNat 8) = ze from rfl, chain_ze]
  rfl
theorem check_bad : checkE (ze.set 5 1) = 13 := by
  have h : restE (ze.set 5 1) = 13 := by decide +kernel
  unfold checkE
  rw [chain_no (by rw [h]; decide), if_neg (by decide)]
  show restE ((ze.set 5 1).drop 0) = 13
  rw [List.drop_zero, h]
theorem check_none : checkE [] = 0 := by
  unfold checkE
  rw [chain_none, if_pos (show tot [] = ([] : List Nat).length from rfl)]
/-! Cells that are all alike. -/
theorem bv_zeros (n : Nat) : bv (zeros n) = List.replicate n (.int .u8 0) := by unfold bv zeros; rw [List.map_replicate]; rfl
theorem made_rep (v : Value) (n : Nat) : (madeCells #[v] n).toList = List.replicate n v := by
  apply List.ext_getElem
  · simp [madeCells]
  · intro i h1 h2
    simp [madeCells, Nat.mod_one]
end Go.Proofs.YtbedkblanefboaaDoor.Frame
