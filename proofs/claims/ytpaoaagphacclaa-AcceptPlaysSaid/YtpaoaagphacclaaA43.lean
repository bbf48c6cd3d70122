/- The document's Copy. -/
import Derived.Test.YtpaoaagphacclaaA42
import Derived.Test.YtpaoaagphacclaaA38
import Derived.Deep.RegionHeld3
namespace Go.Proofs.Ytpaoaagphacclaa.Acc
open Go.RowKit Go.Maps Go.Lib
open Bal (TB bOk ckB ordV eqB eqB_t eqB_f eq_b alloc_b)
set_option linter.unusedVariables false
set_option linter.unusedSimpArgs false
set_option maxRecDepth 100000

theorem run_append_l (base : Nat) (w : World) (ty : TypeId) (v u : Value) (T L : List Et) (hown : OwE base T v w) (hl : IsE w u L) (hT : T.length ≤ 10000) (hL : L.length ≤ 10000) (hbase : base ≤ w.heap.size) :
    ∃ v' w', (Builtin.append_ #[TEs, TEs] ty #[v, u]).run Try.prog w = .ok v' w' ∧ OwE base (T ++ L) v' w' ∧ w.grownBy w' v.ownBlock ∧ (v'.ownBlock = v.ownBlock ∨ v'.ownBlock = some w.heap.size) := by
  obtain ⟨i0, hi, hz0, hz1, hz2⟩ := info_p info_e
  obtain ⟨a, cap, rfl, hc⟩ := hl
  cases a with
  | none =>
    have h0 : L = [] := by
      cases L with
      | nil => rfl
      | cons x r =>
        obtain ⟨b, off, h, _⟩ := hc (by simp)
        cases h
    subst h0
    refine ⟨v, w, ?_, by rw [List.append_nil]; exact hown, ⟨rfl, rfl, rfl, Nat.le_refl _, fun _ _ _ => rfl⟩, .inl rfl⟩
    have h2 := hown.2
    rcases h2 with ⟨rfl, hr⟩ | ⟨g, cap, cur, rfl, _, _, hnc, _⟩
    · simp [Builtin.append_, run_underlying Try.underlying36, sizeOf, typeInfo, hi, Builtin.lenOf, Builtin.firstCells]
    · simp [Builtin.append_, run_underlying Try.underlying36, sizeOf, typeInfo, hi, Builtin.lenOf, Builtin.firstCells, hnc, storeCells]
  | some p =>
    obtain ⟨v', w', hr, h2, h3, _, h5⟩ := run_append_own_at (P := Try.prog) w base TEs ty TE i0 _ 4 40 Try.underlying36 hi hz0 hz1 hz2 rfl (by decide) v T.length (flat T) hown p L.length cap (flat L) (flat_len L)
      (fun j u hu => by
        have hj : j < (flat L).length := (List.getElem?_eq_some_iff.1 hu).1
        rw [flat_len] at hj
        obtain ⟨b, off, hp, hb, hd⟩ := hc (by omega)
        injection hp with hp
        subst hp
        have hq : j / 4 < L.length := by omega
        obtain ⟨d0, d1, d2, d3⟩ := hd (j / 4) _ (List.getElem?_eq_getElem hq)
        have hf := flat_at L (j / 4) (j % 4) _ (List.getElem?_eq_getElem hq) (Nat.mod_lt _ (by omega))
        rw [show j / 4 * 4 + j % 4 = j by omega, hu] at hf
        rw [addr_add]
        have h4 : j % 4 < 4 := Nat.mod_lt _ (by omega)
        rcases (show j % 4 = 0 ∨ j % 4 = 1 ∨ j % 4 = 2 ∨ j % 4 = 3 by omega) with e | e | e | e
        · rw [e] at hf; rw [show off + j = off + j / 4 * 4 by omega, d0, hf]; rfl
        · rw [e] at hf; rw [show off + j = off + j / 4 * 4 + 1 by omega, d1, hf]; rfl
        · rw [e] at hf; rw [show off + j = off + j / 4 * 4 + 2 by omega, d2, hf]; rfl
        · rw [e] at hf; rw [show off + j = off + j / 4 * 4 + 3 by omega, d3, hf]; rfl)
      (fun u hu => by
        unfold flat at hu
        obtain ⟨e, _, he⟩ := List.mem_flatMap.1 hu
        simp [ec] at he
        rcases he with rfl | rfl | rfl | rfl <;> rfl)
      (by unfold maxLen; omega) (by omega) hbase
    refine ⟨v', w', hr, ?_, h3, h5⟩
    show w'.ownsRow base TE 4 v' (T ++ L).length (flat (T ++ L))
    rw [List.length_append, show flat (T ++ L) = flat T ++ flat L by simp [flat]]
    exact h2
theorem step_append_l {ops : Array Oper} {o : Oper} {a : Act} {w : World} {K : Act → World → Prop} {Q : Exit → Act → World → Prop} {E : Prop} (hgd : o.guard = none) (s x : Operand)
    (ho : o.op = .call { callee := .builtin .append, args := #[s, x], argTypes := #[TEs, TEs] })
    (base : Nat) (v u : Value) (T L : List Et) (hs : a.eval s = v) (hx : a.eval x = u) (hown : OwE base T v w) (hl : IsE w u L) (hT : T.length ≤ 10000) (hL : L.length ≤ 10000) (hbase : base ≤ w.heap.size)
    (h : ∀ v' w', OwE base (T ++ L) v' w' → w.grownBy w' v.ownBlock → (v'.ownBlock = v.ownBlock ∨ v'.ownBlock = some w.heap.size) → K (a.put o.dst v') w') :
    if Region.wanted o (yielded ops a.tmps) = true then Oper.wp Try.prog o a w K Q else E := by
  have hw : Region.wanted o (yielded ops a.tmps) = true := by simp [Region.wanted, hgd]
  rw [if_pos hw]
  obtain ⟨v', w', hrun, h1, h2, h3⟩ := run_append_l base w o.type v u T L hown hl hT hL hbase
  unfold Oper.wp execOp
  simp only [ho, resolve, invoke, builtin, Sem.run_bind, Sem.run_pure, Result.andThen_ok, List.map_toArray, List.map_cons, List.map_nil, hs, hx, hrun]
  exact h v' w' h1 h2 h3
def RCop (w : World) (s : St) (e : Ending) (w' : World) : Prop :=
  ∃ rb' vl, e = .returned (.pointer (some ⟨rb', 0, none⟩)) ∧ Rx w' rb' s vl ∧ w.heap.size ≤ rb' ∧ Below w.heap.size w w'
set_option maxHeartbeats 8000000 in
theorem rcopy_any {rb : Nat} {s : St} {vl : Value} (w : World) (x : Rx w rb s vl) :
    Calls Try.prog 24 #[.pointer (some ⟨rb, 0, none⟩)] w (RCop w s) := by
  have HV := Lib.hid (rvalid_any w x)
  obtain ⟨va, vc, rfl⟩ := x.form
  obtain ⟨_, c1, c2, c3, c4, c5⟩ := x.cells
  have hMl : s.M.length ≤ 10000 := by have := x.ok.len; omega
  have hab : Below w.heap.size w (w.drew.alloc (.cells #[] TE)) := below2 ((Below.refl w.heap.size w).drew) (alloc_b w.drew _)
  have hown0 : OwE w.heap.size [] (.slice (some ⟨w.heap.size, 0, none⟩) 0 0) (w.drew.alloc (.cells #[] TE)) := ⟨rfl, .inr ⟨w.heap.size, 0, #[], rfl, Nat.le_refl _, heap_alloc_new w.drew _, Nat.le_refl _, by unfold maxLen; omega, rfl, rfl⟩⟩
  have hIa0 : IsE (w.drew.alloc (.cells #[] TE)) (.slice va s.M.length vc) s.M := (x.later hab).row.is
  have hsz := hab.size
  have hcell : ∀ W, Below w.heap.size w W → W.cell? ⟨rb, 1, none⟩ = some (.int .i64 s.n) ∧ W.cell? ⟨rb, 2, none⟩ = some (.int .i64 s.r) ∧ W.cell? ⟨rb, 3, none⟩ = some (.int .i64 s.m) ∧ W.cell? ⟨rb, 4, none⟩ = some (.slice va s.M.length vc) ∧ W.cell? ⟨rb, 5, none⟩ = some (.int .i64 s.b) := fun W hb => by
    obtain ⟨_, d1, d2, d3, d4, d5⟩ := (x.later hb).cells
    exact ⟨d1, d2, d3, d4, d5⟩
  have hSa := Lib.hid (hcell _ hab)
  have hS0 := hcell _ (Below.refl _ _)
  have hfin : Hid (∀ v' w8, OwE w.heap.size ([] ++ s.M) v' w8 → (w.drew.alloc (.cells #[] TE)).grownBy w8 (Value.ownBlock (.slice (some ⟨w.heap.size, 0, none⟩) 0 0)) → Below w.heap.size w w8 ∧ (w8.cell? ⟨rb, 1, none⟩ = some (.int .i64 s.n) ∧ w8.cell? ⟨rb, 2, none⟩ = some (.int .i64 s.r) ∧ w8.cell? ⟨rb, 3, none⟩ = some (.int .i64 s.m) ∧ w8.cell? ⟨rb, 4, none⟩ = some (.slice va s.M.length vc) ∧ w8.cell? ⟨rb, 5, none⟩ = some (.int .i64 s.b)) ∧
      RCop w s (.returned (.pointer (some ⟨w8.heap.size, 0, none⟩))) (w8.alloc (.cells #[.bool true, .int .i64 s.n, .int .i64 s.r, .int .i64 s.m, v', .int .i64 s.b] TRA)) ∧
      ((w8.alloc (.cells #[.bool true, .int .i64 s.n, .int .i64 s.r, .int .i64 s.m, v', .int .i64 s.b] TRA)).cell? ⟨rb, 1, none⟩ = some (.int .i64 s.n) ∧ (w8.alloc (.cells #[.bool true, .int .i64 s.n, .int .i64 s.r, .int .i64 s.m, v', .int .i64 s.b] TRA)).cell? ⟨rb, 2, none⟩ = some (.int .i64 s.r) ∧ (w8.alloc (.cells #[.bool true, .int .i64 s.n, .int .i64 s.r, .int .i64 s.m, v', .int .i64 s.b] TRA)).cell? ⟨rb, 3, none⟩ = some (.int .i64 s.m) ∧ (w8.alloc (.cells #[.bool true, .int .i64 s.n, .int .i64 s.r, .int .i64 s.m, v', .int .i64 s.b] TRA)).cell? ⟨rb, 4, none⟩ = some (.slice va s.M.length vc) ∧ (w8.alloc (.cells #[.bool true, .int .i64 s.n, .int .i64 s.r, .int .i64 s.m, v', .int .i64 s.b] TRA)).cell? ⟨rb, 5, none⟩ = some (.int .i64 s.b))) := Lib.hid fun v' w8 hO hg => by
    have hb := own_below hown0 hg hab (Nat.le_refl _)
    have hb2 := hb.alloc hb.size (.cells #[.bool true, .int .i64 s.n, .int .i64 s.r, .int .i64 s.m, v', .int .i64 s.b] TRA)
    exact ⟨hb, hcell _ hb, ⟨w8.heap.size, v', rfl, ⟨heap_alloc_new _ _, rows_base (rows_later hO (alloc_b _ _)) (Nat.zero_le _), x.ok⟩, hb.size, hb2⟩, hcell _ hb2⟩
  have hown := Lib.hid hown0
  have hIa := Lib.hid hIa0
  clear x hown0 hIa0 hab hcell c1 c2 c3 c4 c5
  obtain ⟨vn, hvn⟩ : ∃ vn, vn = s.M.length := ⟨_, rfl⟩
  rw [← hvn] at hfin hIa hSa hS0
  clear hvn
  generalize hM : s.M = M at *
  generalize hn : s.n = n at *
  generalize hr : s.r = r at *
  generalize hm : s.m = m at *
  generalize hb : s.b = bs at *
  clear hM hn hr hm hb
  go_enter Try.func24, Try.ntmps24
  go_wp2_with (go_at_call 42; refine HV.out.mono ?_; rintro e w' ⟨rfl, rfl⟩)
  refine wp_region_held_drew (S := (fun W => W.cell? ⟨rb, 1, none⟩ = some (.int .i64 n) ∧ W.cell? ⟨rb, 2, none⟩ = some (.int .i64 r) ∧ W.cell? ⟨rb, 3, none⟩ = some (.int .i64 m) ∧ W.cell? ⟨rb, 4, none⟩ = some (.slice va vn vc) ∧ W.cell? ⟨rb, 5, none⟩ = some (.int .i64 bs))) (by kernel_rfl) (hS0) (fun hS => ?_)
  try simp only [List.getElem_toArray, List.getElem_cons_succ, List.getElem_cons_zero, Act.put, List.setIfInBounds_toArray, List.set_cons_zero, List.set_cons_succ]
  refine wpAnyH_take (i := 0) (v := (.pointer (some ⟨rb, 0, none⟩))) rfl (by kernel_rfl) (by kernel_rfl) (by kernel_rfl) (fun _ _ _ h => h) (Or.inl ⟨by kernel_rfl, by intro w' hSw; obtain ⟨s1, s2, s3, s4, s5⟩ := hSw; go_simp⟩) hS ?_
  try simp only [List.getElem_toArray, List.getElem_cons_succ, List.getElem_cons_zero, Act.put, List.setIfInBounds_toArray, List.set_cons_zero, List.set_cons_succ]
  refine wpAnyH_take (i := 1) (v := (.pointer (some ⟨rb, 0, none⟩))) rfl (by kernel_rfl) (by kernel_rfl) (by kernel_rfl) (fun _ _ _ h => h) (Or.inl ⟨by kernel_rfl, by intro w' hSw; obtain ⟨s1, s2, s3, s4, s5⟩ := hSw; go_simp⟩) hS ?_
  try simp only [List.getElem_toArray, List.getElem_cons_succ, List.getElem_cons_zero, Act.put, List.setIfInBounds_toArray, List.set_cons_zero, List.set_cons_succ]
  refine wpAnyH_take (i := 2) (v := (.pointer (some ⟨rb, 1, none⟩))) rfl (by kernel_rfl) (by kernel_rfl) (by kernel_rfl) (fun _ _ _ h => h) (Or.inl ⟨by kernel_rfl, by intro w' hSw; obtain ⟨s1, s2, s3, s4, s5⟩ := hSw; go_simp⟩) hS ?_
  try simp only [List.getElem_toArray, List.getElem_cons_succ, List.getElem_cons_zero, Act.put, List.setIfInBounds_toArray, List.set_cons_zero, List.set_cons_succ]
  refine wpAnyH_take (i := 3) (v := (.int .i64 n)) rfl (by kernel_rfl) (by kernel_rfl) (by kernel_rfl) (fun _ _ _ h => h) (Or.inl ⟨by kernel_rfl, by intro w' hSw; obtain ⟨s1, s2, s3, s4, s5⟩ := hSw; go_simp⟩) hS ?_
  try simp only [List.getElem_toArray, List.getElem_cons_succ, List.getElem_cons_zero, Act.put, List.setIfInBounds_toArray, List.set_cons_zero, List.set_cons_succ]
  refine wpAnyH_take (i := 4) (v := (.pointer (some ⟨rb, 0, none⟩))) rfl (by kernel_rfl) (by kernel_rfl) (by kernel_rfl) (fun _ _ _ h => h) (Or.inl ⟨by kernel_rfl, by intro w' hSw; obtain ⟨s1, s2, s3, s4, s5⟩ := hSw; go_simp⟩) hS ?_
  try simp only [List.getElem_toArray, List.getElem_cons_succ, List.getElem_cons_zero, Act.put, List.setIfInBounds_toArray, List.set_cons_zero, List.set_cons_succ]
  refine wpAnyH_take (i := 5) (v := (.pointer (some ⟨rb, 0, none⟩))) rfl (by kernel_rfl) (by kernel_rfl) (by kernel_rfl) (fun _ _ _ h => h) (Or.inl ⟨by kernel_rfl, by intro w' hSw; obtain ⟨s1, s2, s3, s4, s5⟩ := hSw; go_simp⟩) hS ?_
  try simp only [List.getElem_toArray, List.getElem_cons_succ, List.getElem_cons_zero, Act.put, List.setIfInBounds_toArray, List.set_cons_zero, List.set_cons_succ]
  refine wpAnyH_take (i := 6) (v := (.pointer (some ⟨rb, 2, none⟩))) rfl (by kernel_rfl) (by kernel_rfl) (by kernel_rfl) (fun _ _ _ h => h) (Or.inl ⟨by kernel_rfl, by intro w' hSw; obtain ⟨s1, s2, s3, s4, s5⟩ := hSw; go_simp⟩) hS ?_
  try simp only [List.getElem_toArray, List.getElem_cons_succ, List.getElem_cons_zero, Act.put, List.setIfInBounds_toArray, List.set_cons_zero, List.set_cons_succ]
  refine wpAnyH_take (i := 7) (v := (.agg #[.int .i64 r, .int .i64 m])) rfl (by kernel_rfl) (by kernel_rfl) (by kernel_rfl) (fun _ _ _ h => h) (Or.inl ⟨by kernel_rfl, by intro w' hSw; obtain ⟨s1, s2, s3, s4, s5⟩ := hSw; go_simp⟩) hS ?_
  try simp only [List.getElem_toArray, List.getElem_cons_succ, List.getElem_cons_zero, Act.put, List.setIfInBounds_toArray, List.set_cons_zero, List.set_cons_succ]
  refine wpAnyH_take (i := 9) (v := (.pointer (some ⟨rb, 0, none⟩))) rfl (by kernel_rfl) (by kernel_rfl) (by kernel_rfl) (fun _ _ _ h => h) (Or.inl ⟨by kernel_rfl, by intro w' hSw; obtain ⟨s1, s2, s3, s4, s5⟩ := hSw; go_simp⟩) hS ?_
  try simp only [List.getElem_toArray, List.getElem_cons_succ, List.getElem_cons_zero, Act.put, List.setIfInBounds_toArray, List.set_cons_zero, List.set_cons_succ]
  refine wpAnyH_take (i := 10) (v := (.pointer (some ⟨rb, 0, none⟩))) rfl (by kernel_rfl) (by kernel_rfl) (by kernel_rfl) (fun _ _ _ h => h) (Or.inl ⟨by kernel_rfl, by intro w' hSw; obtain ⟨s1, s2, s3, s4, s5⟩ := hSw; go_simp⟩) hS ?_
  try simp only [List.getElem_toArray, List.getElem_cons_succ, List.getElem_cons_zero, Act.put, List.setIfInBounds_toArray, List.set_cons_zero, List.set_cons_succ]
  refine wpAnyH_take (i := 11) (v := (.pointer (some ⟨rb, 4, none⟩))) rfl (by kernel_rfl) (by kernel_rfl) (by kernel_rfl) (fun _ _ _ h => h) (Or.inl ⟨by kernel_rfl, by intro w' hSw; obtain ⟨s1, s2, s3, s4, s5⟩ := hSw; go_simp⟩) hS ?_
  try simp only [List.getElem_toArray, List.getElem_cons_succ, List.getElem_cons_zero, Act.put, List.setIfInBounds_toArray, List.set_cons_zero, List.set_cons_succ]
  refine wpAnyH_take (i := 12) (v := (.slice va vn vc)) rfl (by kernel_rfl) (by kernel_rfl) (by kernel_rfl) (fun _ _ _ h => h) (Or.inl ⟨by kernel_rfl, by intro w' hSw; obtain ⟨s1, s2, s3, s4, s5⟩ := hSw; go_simp⟩) hS ?_
  try simp only [List.getElem_toArray, List.getElem_cons_succ, List.getElem_cons_zero, Act.put, List.setIfInBounds_toArray, List.set_cons_zero, List.set_cons_succ]
  refine wpAnyH_take (i := 14) (v := (.pointer (some ⟨rb, 0, none⟩))) rfl (by kernel_rfl) (by kernel_rfl) (by kernel_rfl) (fun _ _ _ h => h) (Or.inl ⟨by kernel_rfl, by intro w' hSw; obtain ⟨s1, s2, s3, s4, s5⟩ := hSw; go_simp⟩) hS ?_
  try simp only [List.getElem_toArray, List.getElem_cons_succ, List.getElem_cons_zero, Act.put, List.setIfInBounds_toArray, List.set_cons_zero, List.set_cons_succ]
  refine wpAnyH_take (i := 15) (v := (.pointer (some ⟨rb, 0, none⟩))) rfl (by kernel_rfl) (by kernel_rfl) (by kernel_rfl) (fun _ _ _ h => h) (Or.inl ⟨by kernel_rfl, by intro w' hSw; obtain ⟨s1, s2, s3, s4, s5⟩ := hSw; go_simp⟩) hS ?_
  try simp only [List.getElem_toArray, List.getElem_cons_succ, List.getElem_cons_zero, Act.put, List.setIfInBounds_toArray, List.set_cons_zero, List.set_cons_succ]
  refine wpAnyH_take (i := 16) (v := (.pointer (some ⟨rb, 5, none⟩))) rfl (by kernel_rfl) (by kernel_rfl) (by kernel_rfl) (fun _ _ _ h => h) (Or.inl ⟨by kernel_rfl, by intro w' hSw; obtain ⟨s1, s2, s3, s4, s5⟩ := hSw; go_simp⟩) hS ?_
  try simp only [List.getElem_toArray, List.getElem_cons_succ, List.getElem_cons_zero, Act.put, List.setIfInBounds_toArray, List.set_cons_zero, List.set_cons_succ]
  refine wpAnyH_take (i := 17) (v := (.int .i64 bs)) rfl (by kernel_rfl) (by kernel_rfl) (by kernel_rfl) (fun _ _ _ h => h) (Or.inl ⟨by kernel_rfl, by intro w' hSw; obtain ⟨s1, s2, s3, s4, s5⟩ := hSw; go_simp⟩) hS ?_
  try simp only [List.getElem_toArray, List.getElem_cons_succ, List.getElem_cons_zero, Act.put, List.setIfInBounds_toArray, List.set_cons_zero, List.set_cons_succ]
  refine wpAnyH_ready (rs := [8]) (by kernel_rfl) (by simp) ?_
  refine AllReadyH.cons rfl (fun K hK => ?_) AllReadyH.nil
  go_simp
  refine hK.out _ _ hSa.out (fun hS => ?_)
  clear hK K
  try simp only [List.getElem_toArray, List.getElem_cons_succ, List.getElem_cons_zero, Act.put, List.setIfInBounds_toArray, List.set_cons_zero, List.set_cons_succ]
  refine wpAnyH_ready (rs := [13]) (by kernel_rfl) (by simp) ?_
  refine AllReadyH.cons rfl (fun K hK => ?_) AllReadyH.nil
  refine step_append_l rfl (.tmp 14) (.tmp 18) rfl w.heap.size (.slice (some ⟨w.heap.size, 0, none⟩) 0 0) (.slice va vn vc) [] M (by simp [Act.eval]) (by simp [Act.eval]) hown.out hIa.out (by decide) hMl hsz ?_
  intro v' w8 hO8 hg8 hv8
  obtain ⟨hb8, hS8, hfin8⟩ := hfin.out _ _ hO8 hg8
  obtain ⟨a8, c8, rfl⟩ := rows_form hO8
  replace hO8 := Lib.hid hO8
  clear hg8 hv8
  refine hK.out _ _ hS8 (fun hS => ?_)
  clear hK K
  try simp only [List.getElem_toArray, List.getElem_cons_succ, List.getElem_cons_zero, Act.put, List.setIfInBounds_toArray, List.set_cons_zero, List.set_cons_succ]
  refine wpAnyH_take (i := 18) (v := (.agg #[.bool true, .int .i64 n, .int .i64 r, .int .i64 m, .slice a8 ([] ++ M).length c8, .int .i64 bs])) rfl (by kernel_rfl) (by kernel_rfl) (by kernel_rfl) (fun _ _ _ h => h) (Or.inl ⟨by kernel_rfl, by intro w' hSw; obtain ⟨s1, s2, s3, s4, s5⟩ := hSw; go_simp⟩) hS ?_
  try simp only [List.getElem_toArray, List.getElem_cons_succ, List.getElem_cons_zero, Act.put, List.setIfInBounds_toArray, List.set_cons_zero, List.set_cons_succ]
  refine wpAnyH_ready (rs := [19]) (by kernel_rfl) (by simp) ?_
  refine AllReadyH.cons rfl (fun K hK => ?_) AllReadyH.nil
  go_simp
  refine hK.out _ _ (hfin8.2) (fun hS => ?_)
  clear hK K
  try simp only [List.getElem_toArray, List.getElem_cons_succ, List.getElem_cons_zero, Act.put, List.setIfInBounds_toArray, List.set_cons_zero, List.set_cons_succ]
  refine wpAnyH_ready (rs := [20]) (by kernel_rfl) (by simp) ?_
  refine AllReadyH.cons rfl (fun K hK => ?_) AllReadyH.nil
  go_simp
  refine hK.out _ _ hS (fun hS => ?_)
  clear hK K
  try simp only [List.getElem_toArray, List.getElem_cons_succ, List.getElem_cons_zero, Act.put, List.setIfInBounds_toArray, List.set_cons_zero, List.set_cons_succ]
  refine wpAnyH_done (by kernel_rfl) ?_ _
  clear hS
  go_wp2
  go_ret
  exact hfin8.1
end Go.Proofs.Ytpaoaagphacclaa.Acc
