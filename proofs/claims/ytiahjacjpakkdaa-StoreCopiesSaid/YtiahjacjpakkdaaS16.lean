/- The store's calls that write one key: Put, Apply. -/
import Derived.Test.YtiahjacjpakkdaaS15
import Derived.Deep.RegionHeld3
import Derived.BigQuiet
namespace Go.Proofs.Ytiahjacjpakkdaa.Sto
open Go.RowKit Go.Maps Go.Lib Go.Shelf
open Cnt (Ct cA OkC chC appC okC ckE)
open Rng (tx nameOk bl bl_eq bl_irrefl bl_trans)
set_option linter.unusedVariables false
set_option linter.unusedSimpArgs false
set_option maxRecDepth 20000

theorem ok_put {M : List En} {k : List UInt8} {c : Ct} (h : ∀ p ∈ M, nameOk p.1 = true ∧ OkC p.2) (hk : nameOk k = true) (hc : OkC c) : ∀ p ∈ putM M k c, nameOk p.1 = true ∧ OkC p.2 := by
  intro p hp
  rcases mem_put.1 hp with rfl | ⟨hp, _⟩
  · exact ⟨hk, hc⟩
  · exact h p hp
theorem put_len_le (M : List En) (k : List UInt8) (c : Ct) : (putM M k c).length ≤ M.length + 1 := by
  unfold putM
  rw [ins_len]
  exact Nat.succ_le_succ (List.length_filter_le _ _)
theorem put_run {w : World} {sb b : Nat} {M : List En} (x : Sx w sb b M) {k : List UInt8} {s : ByteArray} (hs : s = tx k) {v u d l g : Int} (hl : (putM M k ⟨v, u, d, l, g⟩).length ≤ 64) (hk : nameOk k = true) (hc : OkC ⟨v, u, d, l, g⟩) :
    ∃ w', (Instr.mapUpdate TM (.map (some b)) (.string s) (cA v u d l g)).run Try.prog w = .ok () w' ∧ Sx w' sb b (putM M k ⟨v, u, d, l, g⟩) ∧ w.grownBy w' (some b) := by
  subst hs
  have hlen := x.len
  obtain ⟨w', hrun, r1, r2⟩ := x.own.update (t := TM) keyS Try.underlying32 (by unfold maxLen; omega) (key_of (name_len hk)) (rdC_mk ⟨v, u, d, l, g⟩)
  rw [put_DM] at r1
  exact ⟨w', hrun, x.turned r2 r1 hl (ok_put x.ok hk hc), r2⟩
/-- What a region that writes an entry reads. -/
def Rd (sb b q : Nat) (v u d l h : Int) (W : World) : Prop := W.cell? ⟨sb, 0, none⟩ = some (.map (some b)) ∧ W.heap[q]? = some (Cnt.cRow v u d l h)
theorem Rd.facts {sb b q : Nat} {v u d l h : Int} {W : World} (r : Rd sb b q v u d l h W) :
    W.cell? ⟨sb, 0, none⟩ = some (.map (some b)) ∧ W.cell? ⟨q, 0, none⟩ = some (.int .i64 v) ∧ W.cell? ⟨q, 1, none⟩ = some (.int .i64 u) ∧ W.cell? ⟨q, 2, none⟩ = some (.int .i64 d) ∧ W.cell? ⟨q, 3, none⟩ = some (.int .i64 l) ∧ W.cell? ⟨q, 4, none⟩ = some (.int .i64 h) :=
  ⟨r.1, cell_of_row W q 0 _ _ _ r.2, cell_of_row W q 1 _ _ _ r.2, cell_of_row W q 2 _ _ _ r.2, cell_of_row W q 3 _ _ _ r.2, cell_of_row W q 4 _ _ _ r.2⟩
theorem Rd.drew {sb b q : Nat} {v u d l h : Int} {W : World} (r : Rd sb b q v u d l h W) : Rd sb b q v u d l h W.drew := r
theorem row_kept {W W' : World} {sb b q : Nat} {M : List En} {cs : Array Value} {T : TypeId} (x : Sx W sb b M) (hg : W.grownBy W' (some b)) (h : W.heap[q]? = some (.cells cs T (0, 0))) : W'.heap[q]? = some (.cells cs T (0, 0)) := by
  refine (hg.block q (Array.getElem?_eq_some_iff.1 h).1 ?_).trans h
  intro e
  injection e with e
  subst e
  obtain ⟨es, clock, hh, _⟩ := x.own
  rw [h] at hh
  cases hh

/-- What Put says. -/
def putE (M : List En) (k : List UInt8) (c : Ct) : Int := if nameOk k then (if okC c then (if (getM M k).isSome then 6 else if 64 ≤ M.length then 4 else 0) else 2) else 14
set_option maxHeartbeats 4000000 in
theorem put_yes {sb b : Nat} {M : List En} (k : List UInt8) (v u d l g : Int) (w : World) (x : Sx w sb b M) (hk : nameOk k = true) (hc : OkC ⟨v, u, d, l, g⟩) (hr : getM M k = none) (hl : M.length < 64) :
    Calls Try.prog 16 #[.pointer (some ⟨sb, 0, none⟩), .string (tx k), cA v u d l g] w fun e w' => e = .returned (.int .i64 0) ∧ Sx w' sb b (putM M k ⟨v, u, d, l, g⟩) ∧ w.grownBy w' (some b) := by
  have hx1 := x.alloc (Cnt.cRow v u d l g)
  have hy1 := Cnt.cx_new w v u d l g
  have c0 := hx1.cell
  have hV := Lib.hid (valid_any _ hx1)
  have hN := Lib.hid (fun W => Rng.name_any k W)
  rw [hk] at hN
  have hC := Lib.hid (fun W => Cnt.chk_ok hc W)
  have hkl := name_len hk
  obtain ⟨s, hs⟩ : ∃ s, s = tx k := ⟨_, rfl⟩
  rw [← hs] at hN ⊢
  replace hs := Lib.hid hs
  replace hr := Lib.hid hr
  have hlb : decide (64 ≤ ((M.length : Nat) : Int)) = false := by simp; omega
  have hL := Lib.hid (fun W (h : Sx W sb b M) => by have := h.own.len Try.underlying32 3; rw [size_DM] at this; exact this)
  have hpl : (putM M k ⟨v, u, d, l, g⟩).length ≤ 64 := by have := put_len_le M k ⟨v, u, d, l, g⟩; omega
  replace hpl := Lib.hid hpl
  replace hk := Lib.hid hk
  replace hc := Lib.hid hc
  clear x hl
  go_enter Try.func16, Try.ntmps16
  go_wp2_with (first
    | (go_at_call 31; refine hV.out.mono ?_; rintro e w' ⟨rfl, rfl⟩)
    | (go_at_call 25; refine (hN.out _).mono ?_; rintro e w2 ⟨rfl, hb2⟩; have hx2 := hx1.later hb2; have hy2 := hy1.later hb2; obtain ⟨d0, d1, d2, d3, d4⟩ := hy2.cells)
    | (go_at_call 26; refine (hC.out _).mono ?_; rintro e w3 ⟨rfl, hb3⟩; have hx3 := hx2.later hb3; have hy3 := hy2.later hb3; have c3 := hx3.cell; have hx4 := hx3.alloc (Cnt.cRow 0 0 0 0 0); have hy4 := hy3.alloc (Cnt.cRow 0 0 0 0 0); have c4 := hx4.cell; have l4 := hL.out _ hx4)
    | (refine wpList_get rfl _ _ rfl hx3 rfl hkl rfl hs.out hr.out ?_))
  obtain ⟨w5, hrun, hx5, hg5⟩ := put_run hx4.drew hs.out hpl.out hk.out hc.out
  refine wp_region_held_drew (S := Rd sb b (w.heap.size) (v) (u) (d) (l) (g)) (by kernel_rfl) (Rd.drew ⟨hx4.cell, hy4.blk⟩) (fun hS => ?_)
  try simp only [Act.put, List.setIfInBounds_toArray, List.set_cons_zero, List.set_cons_succ]
  refine wpAnyH_take (i := 0) (v := .pointer (some ⟨sb, 0, none⟩)) rfl (by kernel_rfl) (by kernel_rfl) (by kernel_rfl) (fun _ _ _ h => h) (Or.inl ⟨by kernel_rfl, by intro w' hSw; obtain ⟨s0, s1, s2, s3, s4, s5⟩ := hSw.facts; go_simp⟩) hS ?_
  try simp only [Act.put, List.setIfInBounds_toArray, List.set_cons_zero, List.set_cons_succ]
  refine wpAnyH_take (i := 1) (v := .pointer (some ⟨sb, 0, none⟩)) rfl (by kernel_rfl) (by kernel_rfl) (by kernel_rfl) (fun _ _ _ h => h) (Or.inl ⟨by kernel_rfl, by intro w' hSw; obtain ⟨s0, s1, s2, s3, s4, s5⟩ := hSw.facts; go_simp⟩) hS ?_
  try simp only [Act.put, List.setIfInBounds_toArray, List.set_cons_zero, List.set_cons_succ]
  refine wpAnyH_take (i := 2) (v := .pointer (some ⟨sb, 0, none⟩)) rfl (by kernel_rfl) (by kernel_rfl) (by kernel_rfl) (fun _ _ _ h => h) (Or.inl ⟨by kernel_rfl, by intro w' hSw; obtain ⟨s0, s1, s2, s3, s4, s5⟩ := hSw.facts; go_simp⟩) hS ?_
  try simp only [Act.put, List.setIfInBounds_toArray, List.set_cons_zero, List.set_cons_succ]
  refine wpAnyH_take (i := 3) (v := .map (some b)) rfl (by kernel_rfl) (by kernel_rfl) (by kernel_rfl) (fun _ _ _ h => h) (Or.inl ⟨by kernel_rfl, by intro w' hSw; obtain ⟨s0, s1, s2, s3, s4, s5⟩ := hSw.facts; go_simp⟩) hS ?_
  try simp only [Act.put, List.setIfInBounds_toArray, List.set_cons_zero, List.set_cons_succ]
  refine wpAnyH_take (i := 4) (v := .string s) rfl (by kernel_rfl) (by kernel_rfl) (by kernel_rfl) (fun _ _ _ h => h) (Or.inl ⟨by kernel_rfl, by intro w' hSw; obtain ⟨s0, s1, s2, s3, s4, s5⟩ := hSw.facts; go_simp⟩) hS ?_
  try simp only [Act.put, List.setIfInBounds_toArray, List.set_cons_zero, List.set_cons_succ]
  refine wpAnyH_take (i := 5) (v := cA (v) (u) (d) (l) (g)) rfl (by kernel_rfl) (by kernel_rfl) (by kernel_rfl) (fun _ _ _ h => h) (Or.inl ⟨by kernel_rfl, by intro w' hSw; obtain ⟨s0, s1, s2, s3, s4, s5⟩ := hSw.facts; go_simp⟩) hS ?_
  try simp only [Act.put, List.setIfInBounds_toArray, List.set_cons_zero, List.set_cons_succ]
  refine wpAnyH_ready (rs := [6]) (by kernel_rfl) (by simp) ?_
  refine AllReadyH.cons rfl (fun K hK => ?_) AllReadyH.nil
  go_simp
  have hq5 := row_kept hx4.drew hg5 hy4.blk
  refine hK.out _ _ ⟨hx5.cell, hq5⟩ (fun hS => ?_)
  clear hK K
  try simp only [Act.put, List.setIfInBounds_toArray, List.set_cons_zero, List.set_cons_succ]
  refine wpAnyH_done (by kernel_rfl) ?_ _
  clear hS
  go_wp2
  go_ret
  exact ⟨rfl, hx5, grown_then hy4.bel.drew hg5⟩
end Go.Proofs.Ytiahjacjpakkdaa.Sto
