/- What changes of a counter make of it; Apply of the store. -/
import Derived.Test.YtiahjacjpakkdaaS17
namespace Go.Proofs.Ytiahjacjpakkdaa.Cnt
open Go.RowKit
set_option linter.unusedVariables false
set_option linter.unusedSimpArgs false
set_option maxRecDepth 20000

theorem min_lt (a b n : Int) : min a b < n ↔ a < n ∨ b < n := by omega
theorem doP (v u d l g n : Int) (hc : OkC ⟨v, u, d, l, g⟩) (hn : Ok n) (h0 : 0 ≤ n) : chC addC ⟨v, u, d, l, g⟩ n = if g < v + d + n ∨ 1152921504606846976 < u + n then (zero, 7) else (⟨v + n, u + n, d, l, g⟩, 0) := by
  unfold chC
  rw [okC_t hc, okB_t hn, if_pos h0]
  simp only [Bool.and_self, if_true]
  unfold addC roomN
  simp only [min_lt]
  split <;> split <;> first | rfl | omega
theorem doN (v u d l g n : Int) (hc : OkC ⟨v, u, d, l, g⟩) (hn : Ok n) (h0 : ¬ 0 ≤ n) : chC addC ⟨v, u, d, l, g⟩ n = if v - u + n < l ∨ 1152921504606846976 < d - n then (zero, 7) else (⟨v + n, u, d - n, l, g⟩, 0) := by
  unfold chC
  rw [okC_t hc, okB_t hn, if_neg h0]
  simp only [Bool.and_self, if_true]
  unfold addC roomN mirC
  simp only [min_lt]
  split <;> split <;> first | omega | (simp only [zero, Prod.mk.injEq, Ct.mk.injEq, and_true, true_and]; omega)
theorem freeP (v u d l g n : Int) (hc : OkC ⟨v, u, d, l, g⟩) (hn : Ok n) (h0 : 0 ≤ n) : chC giveC ⟨v, u, d, l, g⟩ n = if u < n then (zero, 9) else (⟨v, u - n, d, l, g⟩, 0) := by
  unfold chC
  rw [okC_t hc, okB_t hn, if_pos h0]
  rfl
theorem freeN (v u d l g n : Int) (hc : OkC ⟨v, u, d, l, g⟩) (hn : Ok n) (h0 : ¬ 0 ≤ n) : chC giveC ⟨v, u, d, l, g⟩ n = if d < -n then (zero, 9) else (⟨v, u, d + n, l, g⟩, 0) := by
  unfold chC
  rw [okC_t hc, okB_t hn, if_neg h0]
  simp only [Bool.and_self, if_true]
  unfold giveC mirC
  simp only
  split <;> (simp only [zero, Prod.mk.injEq, Ct.mk.injEq, and_true, true_and]; omega)
theorem undoP (v u d l g n : Int) (hc : OkC ⟨v, u, d, l, g⟩) (hn : Ok n) (h0 : 0 ≤ n) : chC takeC ⟨v, u, d, l, g⟩ n = if u < n then (zero, 9) else (⟨v - n, u - n, d, l, g⟩, 0) := by
  unfold chC
  rw [okC_t hc, okB_t hn, if_pos h0]
  rfl
theorem undoN (v u d l g n : Int) (hc : OkC ⟨v, u, d, l, g⟩) (hn : Ok n) (h0 : ¬ 0 ≤ n) : chC takeC ⟨v, u, d, l, g⟩ n = if d < -n then (zero, 9) else (⟨v - n, u, d + n, l, g⟩, 0) := by
  unfold chC
  rw [okC_t hc, okB_t hn, if_neg h0]
  simp only [Bool.and_self, if_true]
  unfold takeC mirC
  simp only
  split <;> (simp only [zero, Prod.mk.injEq, Ct.mk.injEq, and_true, true_and]; omega)
theorem ch_bad (f : Ct → Int → Ct × Int) (c : Ct) (n : Int) (h : ¬ (OkC c ∧ Ok n)) : chC f c n = (zero, 2) := by
  unfold chC okC okB
  rw [if_neg]
  simpa using h
theorem undo_free (c : Ct) (n : Int) : chC takeC c n = if (chC giveC c n).2 = 0 then ({(chC giveC c n).1 with v := c.v - n}, 0) else (zero, (chC giveC c n).2) := by
  obtain ⟨v, u, d, l, g⟩ := c
  by_cases h : OkC ⟨v, u, d, l, g⟩ ∧ Ok n
  · obtain ⟨hc, hn⟩ := h
    by_cases h0 : 0 ≤ n
    · rw [undoP _ _ _ _ _ _ hc hn h0, freeP _ _ _ _ _ _ hc hn h0]
      split <;> simp
    · rw [undoN _ _ _ _ _ _ hc hn h0, freeN _ _ _ _ _ _ hc hn h0]
      split <;> simp
  · rw [ch_bad _ _ _ h, ch_bad _ _ _ h]
    simp
def nx (c : Ct) (n : Int) : Ct := ⟨c.v + n, c.u + max n 0, c.d + max (-n) 0, c.l, c.h⟩
def lessC (c : Ct) (n : Int) : Ct := ⟨c.v, c.u - max n 0, c.d - max (-n) 0, c.l, c.h⟩
def backC (c : Ct) (n : Int) : Ct := ⟨c.v - n, c.u - max n 0, c.d - max (-n) 0, c.l, c.h⟩
theorem ct_ext {a b : Ct} (h1 : a.v = b.v) (h2 : a.u = b.u) (h3 : a.d = b.d) (h4 : a.l = b.l) (h5 : a.h = b.h) : a = b := by
  cases a; cases b; simp only at *; subst h1 h2 h3 h4 h5; rfl
theorem do_nx {c : Ct} {n : Int} (hc : OkC c) (hn : Ok n) : chC addC c n = if OkC (nx c n) then (nx c n, 0) else (zero, 7) := by
  obtain ⟨v, u, d, l, g⟩ := c
  by_cases h0 : 0 ≤ n
  · rw [doP _ _ _ _ _ _ hc hn h0]
    have e : nx ⟨v, u, d, l, g⟩ n = ⟨v + n, u + n, d, l, g⟩ := by unfold nx; apply ct_ext <;> simp only <;> omega
    rw [e]
    split
    · rename_i h; rw [if_neg]; intro h2; simp only [OkC, Ok] at h2; omega
    · rename_i h; rw [if_pos]; simp only [OkC, Ok] at *; omega
  · rw [doN _ _ _ _ _ _ hc hn h0]
    have e : nx ⟨v, u, d, l, g⟩ n = ⟨v + n, u, d - n, l, g⟩ := by unfold nx; apply ct_ext <;> simp only <;> omega
    rw [e]
    split
    · rename_i h; rw [if_neg]; intro h2; simp only [OkC, Ok] at h2; omega
    · rename_i h; rw [if_pos]; simp only [OkC, Ok] at *; omega
theorem free_nx {c : Ct} {n : Int} (hc : OkC c) (hn : Ok n) : chC giveC c n = if max n 0 ≤ c.u ∧ max (-n) 0 ≤ c.d then (lessC c n, 0) else (zero, 9) := by
  obtain ⟨v, u, d, l, g⟩ := c
  obtain ⟨h1, h2, h3, h4, h5, h6, h7, h8, h9⟩ := id hc
  simp only at h6 h7
  by_cases h0 : 0 ≤ n
  · rw [freeP _ _ _ _ _ _ hc hn h0]
    have e : lessC ⟨v, u, d, l, g⟩ n = ⟨v, u - n, d, l, g⟩ := by unfold lessC; apply ct_ext <;> simp only <;> omega
    rw [e]
    simp only
    split
    · rw [if_neg (by omega)]
    · rw [if_pos (by omega)]
  · rw [freeN _ _ _ _ _ _ hc hn h0]
    have e : lessC ⟨v, u, d, l, g⟩ n = ⟨v, u, d + n, l, g⟩ := by unfold lessC; apply ct_ext <;> simp only <;> omega
    rw [e]
    simp only
    split
    · rw [if_neg (by omega)]
    · rw [if_pos (by omega)]
theorem undo_nx {c : Ct} {n : Int} (hc : OkC c) (hn : Ok n) : chC takeC c n = if max n 0 ≤ c.u ∧ max (-n) 0 ≤ c.d then (backC c n, 0) else (zero, 9) := by
  rw [undo_free, free_nx hc hn]
  split
  · rw [if_pos rfl]; rfl
  · rw [if_neg (by simp)]
theorem do_ok {c x : Ct} {n : Int} (hc : OkC c) (hn : Ok n) (h : chC addC c n = (x, 0)) : x = nx c n ∧ OkC x := by
  rw [do_nx hc hn] at h
  split at h
  · rename_i h2
    have := (Prod.mk.inj h).1
    subst this
    exact ⟨rfl, h2⟩
  · simp at h
theorem less_ok {c : Ct} {n : Int} (hc : OkC c) (h : max n 0 ≤ c.u ∧ max (-n) 0 ≤ c.d) : OkC (lessC c n) := by
  simp only [OkC, lessC, Ok] at *
  omega
theorem back_ok {c : Ct} {n : Int} (hc : OkC c) (hn : Ok n) (h : max n 0 ≤ c.u ∧ max (-n) 0 ≤ c.d) : OkC (backC c n) := by
  simp only [OkC, backC, Ok] at *
  omega
theorem app_ok {c x : Ct} {p n : Int} (hc : OkC c) (h : appC c p n = (x, 0)) : OkC x := by
  by_cases hn : Ok n
  · unfold appC at h
    split at h
    · exact (do_ok hc hn h).2
    · split at h
      · rw [undo_nx hc hn] at h
        split at h
        · rename_i hr
          rw [← (Prod.mk.inj h).1]
          exact back_ok hc hn hr
        · simp at h
      · split at h
        · rw [free_nx hc hn] at h
          split at h
          · rename_i hr
            rw [← (Prod.mk.inj h).1]
            exact less_ok hc hr
          · simp at h
        · simp at h
  · have e : ∀ f, chC f c n = (zero, 2) := fun f => by unfold chC; rw [okB_f hn, Bool.and_false]; rfl
    unfold appC at h
    simp only [e] at h
    split at h
    · simp at h
    · split at h
      · simp at h
      · split at h <;> simp at h
end Go.Proofs.Ytiahjacjpakkdaa.Cnt
namespace Go.Proofs.Ytiahjacjpakkdaa.Sto
open Go.RowKit Go.Maps Go.Lib Go.Shelf
open Cnt (Ct cA OkC chC appC okC ckE)
open Rng (tx nameOk bl bl_eq bl_irrefl bl_trans)
set_option linter.unusedVariables false
set_option linter.unusedSimpArgs false
set_option maxRecDepth 20000

theorem Sx.st {w w' : World} {sb b q : Nat} {M : List En} {v u d l h : Int} (x : Sx w sb b M) (s : Cnt.St w w' q v u d l h) (h1 : sb ≠ q) (h2 : b ≠ q) : Sx w' sb b M := by
  refine ⟨(s.oth sb h1).trans x.box, ?_, x.len, x.ok⟩
  obtain ⟨es, clock, hb, F, hs, hD⟩ := x.own
  exact ⟨es, clock, (s.oth b h2).trans hb, F, hs, hD⟩
theorem ap_nv (p : Value) (s : ByteArray) (ph n : Int) (w : World) (x : Nv p w) :
    Calls Try.prog 13 #[p, .string s, .int .i64 ph, .int .i64 n] w fun e w' => e = .returned (.tuple #[.int .i64 0, .int .i64 1]) ∧ Below w.heap.size w w' := by
  have hG := Lib.hid (get_nv p s w x)
  clear x
  go_enter Try.func13, Try.ntmps13
  go_wp2_with (go_at_call 12; refine hG.out.mono ?_; rintro e w1 ⟨rfl, hb⟩)
  exact bodyPost_ret (v := .tuple #[.int .i64 0, .int .i64 1]) (by simp [results, Try.results13, go_sem]) rfl ⟨rfl, hb.alloc hb.size _⟩
theorem ap_no {sb b : Nat} {M : List En} (k : List UInt8) (ph n : Int) (w : World) (x : Sx w sb b M) (hk : k.length ≤ maxLen) (hr : getM M k = none) :
    Calls Try.prog 13 #[.pointer (some ⟨sb, 0, none⟩), .string (tx k), .int .i64 ph, .int .i64 n] w fun e w' => e = .returned (.tuple #[.int .i64 0, .int .i64 5]) ∧ Below w.heap.size w w' := by
  have hG := Lib.hid (get_no k w x hk hr)
  generalize tx k = s at *
  clear x hr
  go_enter Try.func13, Try.ntmps13
  go_wp2_with (go_at_call 12; refine hG.out.mono ?_; rintro e w1 ⟨rfl, hb⟩)
  exact bodyPost_ret (v := .tuple #[.int .i64 0, .int .i64 5]) (by simp [results, Try.results13, go_sem]) rfl ⟨rfl, hb.alloc hb.size _⟩
theorem ap_err {sb b : Nat} {M : List En} (k : List UInt8) (v u d l g ph n : Int) (x0 x1 x2 x3 x4 z : Int) (w : World) (x : Sx w sb b M) (hk : k.length ≤ maxLen) (hr : getM M k = some ⟨v, u, d, l, g⟩)
    (ha : appC ⟨v, u, d, l, g⟩ ph n = (⟨x0, x1, x2, x3, x4⟩, z)) (hz : z ≠ 0) :
    Calls Try.prog 13 #[.pointer (some ⟨sb, 0, none⟩), .string (tx k), .int .i64 ph, .int .i64 n] w fun e w' => e = .returned (.tuple #[.int .i64 0, .int .i64 z]) ∧ Below w.heap.size w w' := by
  have hG := Lib.hid (get_yes k v u d l g w x hk hr)
  have hA := Lib.hid (fun W => Cnt.apply_any v u d l g ph n W)
  rw [ha] at hA
  have z1 : (z != 0) = true := by simpa using hz
  have z2 : (z == 0) = false := by simpa using hz
  have z3 : (z = 0) = False := by simpa using hz
  generalize tx k = s at *
  clear x hr ha hz
  go_enter Try.func13, Try.ntmps13
  go_wp2_with (first
    | (go_at_call 12; refine hG.out.mono ?_; rintro e w1 ⟨rfl, hb⟩; have hy := Cnt.cx_new w1 v u d l g)
    | (go_at_call 24; refine (hA.out _).mono ?_; rintro e w2 ⟨rfl, hb2⟩; have hy2 := hy.later hb2)
    | (refine Cnt.store_cx rfl _ _ rfl w1.heap.size rfl rfl hy2.blk ?_; intro w3 hs3; have hy3 := hy2.self hs3 (Nat.le_refl _)))
  exact bodyPost_ret (v := .tuple #[.int .i64 0, .int .i64 z]) (by simp [results, Try.results13, go_sem]) rfl ⟨rfl, hb.trans (hy3.bel.mono hb.size)⟩
set_option maxHeartbeats 4000000 in
theorem ap_yes {sb b : Nat} {M : List En} (k : List UInt8) (v u d l g ph n : Int) (x0 x1 x2 x3 x4 : Int) (w : World) (x : Sx w sb b M) (hr0 : getM M k = some ⟨v, u, d, l, g⟩)
    (ha : appC ⟨v, u, d, l, g⟩ ph n = (⟨x0, x1, x2, x3, x4⟩, 0)) :
    Calls Try.prog 13 #[.pointer (some ⟨sb, 0, none⟩), .string (tx k), .int .i64 ph, .int .i64 n] w fun e w' => e = .returned (.tuple #[.int .i64 x0, .int .i64 0]) ∧ Sx w' sb b (putM M k ⟨x0, x1, x2, x3, x4⟩) ∧ w.grownBy w' (some b) := by
  obtain ⟨hk, hc0⟩ := x.get_ok hr0
  have hc := Cnt.app_ok hc0 ha
  have hG := Lib.hid (get_yes k v u d l g w x (name_len hk) hr0)
  have hA := Lib.hid (fun W => Cnt.apply_any v u d l g ph n W)
  rw [ha] at hA
  have hlt := x.lt
  have hpl : (putM M k ⟨x0, x1, x2, x3, x4⟩).length ≤ 64 := by rw [put_len_old x.srt _ hr0]; exact x.len
  obtain ⟨s, hs⟩ : ∃ s, s = tx k := ⟨_, rfl⟩
  rw [← hs] at hG ⊢
  replace hs := Lib.hid hs
  replace hpl := Lib.hid hpl
  replace hk := Lib.hid hk
  replace hc := Lib.hid hc
  clear hr0 ha hc0
  go_enter Try.func13, Try.ntmps13
  go_wp2_with (first
    | (go_at_call 12; refine hG.out.mono ?_; rintro e w1 ⟨rfl, hb⟩; have hy := Cnt.cx_new w1 v u d l g; have hx2 := (x.later hb).alloc (Cnt.cRow v u d l g))
    | (go_at_call 24; refine (hA.out _).mono ?_; rintro e w2 ⟨rfl, hb2⟩; have hy2 := hy.later hb2; have hx3 := hx2.later hb2)
    | (refine Cnt.store_cx rfl _ _ rfl w1.heap.size rfl rfl hy2.blk ?_; intro w3 hs3; have hy4 := hy2.self hs3 (Nat.le_refl _); have hx4 := hx3.st hs3 (by have := hb.size; omega) (by have := hb.size; omega); clear hs3))
  obtain ⟨w5, hrun, hx5, hg5⟩ := put_run hx4.drew hs.out hpl.out hk.out hc.out
  refine wp_region_held_drew (S := Rd sb b (w1.heap.size) (x0) (x1) (x2) (x3) (x4)) (by kernel_rfl) (Rd.drew ⟨hx4.cell, hy4.blk⟩) (fun hS => ?_)
  try simp only [Act.put, List.setIfInBounds_toArray, List.set_cons_zero, List.set_cons_succ]
  refine wpAnyH_take (i := 0) (v := .pointer (some ⟨sb, 0, none⟩)) rfl (by kernel_rfl) (by kernel_rfl) (by kernel_rfl) (fun _ _ _ h => h) (Or.inl ⟨by kernel_rfl, by intro w' hSw; obtain ⟨s0, s1, s2, s3, s4, s5⟩ := hSw.facts; go_simp⟩) hS ?_
  try simp only [Act.put, List.setIfInBounds_toArray, List.set_cons_zero, List.set_cons_succ]
  refine wpAnyH_take (i := 1) (v := .pointer (some ⟨sb, 0, none⟩)) rfl (by kernel_rfl) (by kernel_rfl) (by kernel_rfl) (fun _ _ _ h => h) (Or.inl ⟨by kernel_rfl, by intro w' hSw; obtain ⟨s0, s1, s2, s3, s4, s5⟩ := hSw.facts; go_simp⟩) hS ?_
  try simp only [Act.put, List.setIfInBounds_toArray, List.set_cons_zero, List.set_cons_succ]
  refine wpAnyH_take (i := 2) (v := .pointer (some ⟨sb, 0, none⟩)) rfl (by kernel_rfl) (by kernel_rfl) (by kernel_rfl) (fun _ _ _ h => h) (Or.inl ⟨by kernel_rfl, by intro w' hSw; obtain ⟨s0, s1, s2, s3, s4, s5⟩ := hSw.facts; go_simp⟩) hS ?_
  try simp only [Act.put, List.setIfInBounds_toArray, List.set_cons_zero, List.set_cons_succ]
  refine wpAnyH_take (i := 3) (v := .map (some b)) rfl (by kernel_rfl) (by kernel_rfl) (by kernel_rfl) (fun _ _ _ h => h) (Or.inl ⟨by kernel_rfl, by intro w' hSw; obtain ⟨s0, s1, s2, s3, s4, s5⟩ := hSw.facts; go_simp⟩) hS ?_
  try simp only [Act.put, List.setIfInBounds_toArray, List.set_cons_zero, List.set_cons_succ]
  refine wpAnyH_take (i := 4) (v := .string s) rfl (by kernel_rfl) (by kernel_rfl) (by kernel_rfl) (fun _ _ _ h => h) (Or.inl ⟨by kernel_rfl, by intro w' hSw; obtain ⟨s0, s1, s2, s3, s4, s5⟩ := hSw.facts; go_simp⟩) hS ?_
  try simp only [Act.put, List.setIfInBounds_toArray, List.set_cons_zero, List.set_cons_succ]
  refine wpAnyH_take (i := 5) (v := cA (x0) (x1) (x2) (x3) (x4)) rfl (by kernel_rfl) (by kernel_rfl) (by kernel_rfl) (fun _ _ _ h => h) (Or.inl ⟨by kernel_rfl, by intro w' hSw; obtain ⟨s0, s1, s2, s3, s4, s5⟩ := hSw.facts; go_simp⟩) hS ?_
  try simp only [Act.put, List.setIfInBounds_toArray, List.set_cons_zero, List.set_cons_succ]
  refine wpAnyH_ready (rs := [6]) (by kernel_rfl) (by simp) ?_
  refine AllReadyH.cons rfl (fun K hK => ?_) AllReadyH.nil
  go_simp
  have hq5 := row_kept hx4.drew hg5 hy4.blk
  refine hK.out _ _ ⟨hx5.cell, hq5⟩ (fun hS => ?_)
  clear hK K
  try simp only [Act.put, List.setIfInBounds_toArray, List.set_cons_zero, List.set_cons_succ]
  refine wpAnyH_done (by kernel_rfl) ?_ _
  clear hS
  obtain ⟨e0, e1, e2, e3, e4⟩ := (show Rd sb b w1.heap.size x0 x1 x2 x3 x4 w5 from ⟨hx5.cell, hq5⟩).facts.2
  go_wp2
  exact bodyPost_ret (v := .tuple #[.int .i64 x0, .int .i64 0]) (by simp [results, Try.results13, go_sem]) rfl ⟨rfl, hx5, grown_then (hb.trans (hy4.bel.drew.mono hb.size)) hg5⟩
end Go.Proofs.Ytiahjacjpakkdaa.Sto
