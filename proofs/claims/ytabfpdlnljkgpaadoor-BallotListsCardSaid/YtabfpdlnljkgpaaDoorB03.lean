/- The next ballot of a node. -/
import Derived.Test.YtabfpdlnljkgpaaDoorB02
namespace Go.Proofs.YtabfpdlnljkgpaaDoor.Bal
open Go.RowKit Go.Lib
set_option linter.unusedVariables false
set_option linter.unusedSimpArgs false
set_option maxRecDepth 20000

def nxR (r m k : Int) : Int := if r = 0 then 1 else if k ≤ m then r + 1 else r
def nxE (r m k : Int) : Int := if bOk 7 r m ∧ 0 ≤ k ∧ k ≤ 6 then (if nxR r m k ≤ 1073741824 then 0 else 7) else 2
def nxA (r m k : Int) : Int := if nxE r m k = 0 then nxR r m k else 0
def nxB (r m k : Int) : Int := if nxE r m k = 0 then k else 0
def NxIs (r m k a b e : Int) : Prop := nxA r m k = a ∧ nxB r m k = b ∧ nxE r m k = e
theorem nx_bad {r m k : Int} (h : ¬ (bOk 7 r m ∧ 0 ≤ k ∧ k ≤ 6)) : NxIs r m k 0 0 2 := by
  have e : nxE r m k = 2 := if_neg h
  exact ⟨by unfold nxA; rw [e]; rfl, by unfold nxB; rw [e]; rfl, e⟩
theorem nx_ok {r m k : Int} (h : bOk 7 r m ∧ 0 ≤ k ∧ k ≤ 6) (h2 : nxR r m k ≤ 1073741824) : NxIs r m k (nxR r m k) k 0 := by
  have e : nxE r m k = 0 := by unfold nxE; rw [if_pos h, if_pos h2]
  exact ⟨by unfold nxA; rw [if_pos e], by unfold nxB; rw [if_pos e], e⟩
theorem nx_over {r m k : Int} (h : bOk 7 r m ∧ 0 ≤ k ∧ k ≤ 6) (h2 : ¬ nxR r m k ≤ 1073741824) : NxIs r m k 0 0 7 := by
  have e : nxE r m k = 7 := by unfold nxE; rw [if_pos h, if_neg h2]
  exact ⟨by unfold nxA; rw [e]; rfl, by unfold nxB; rw [e]; rfl, e⟩
theorem ck_ok {r m n : Int} (h : bOk n r m) (h1 : 1 ≤ n ∧ n ≤ 7) : ckB r m n = 0 := if_pos ⟨h1, h⟩
theorem ck_no {r m n : Int} (h : ¬ bOk n r m) : ckB r m n = 2 := if_neg (fun x => h x.2)
theorem ck_non {r m n : Int} (h : ¬ (1 ≤ n ∧ n ≤ 7)) : ckB r m n = 2 := if_neg (fun x => h x.1)

/-- The argument's box and the result's. -/
structure Nx (w : World) (r m : Int) (W : World) : Prop where
  arg : Bx w w.heap.size r m W
  res : Bx w (w.heap.size + 1) 0 0 W
theorem Nx.later {w W W' : World} {r m : Int} (h : Nx w r m W) (hb : Below W.heap.size W W') : Nx w r m W' := ⟨h.arg.later hb, h.res.later hb⟩
theorem nx_new (w : World) (r m : Int) : Nx w r m ((w.alloc (.cells #[.int .i64 r, .int .i64 m] TB)).alloc (.cells #[.int .i64 0, .int .i64 0] TB)) := ⟨(bx_new w r m).alloc _, bx_new2 w _ 0 0⟩
theorem Nx.cells {w W : World} {r m : Int} (h : Nx w r m W) : W.cell? ⟨w.heap.size, 0, none⟩ = some (.int .i64 r) ∧ W.cell? ⟨w.heap.size, 1, none⟩ = some (.int .i64 m) ∧
    W.cell? ⟨w.heap.size + 1, 0, none⟩ = some (.int .i64 0) ∧ W.cell? ⟨w.heap.size + 1, 1, none⟩ = some (.int .i64 0) ∧ W.frozen? ⟨w.heap.size + 1, 0, none⟩ = false ∧ W.frozen? ⟨w.heap.size + 1, 1, none⟩ = false := by
  obtain ⟨a0, a1, _, _⟩ := h.arg.cells
  obtain ⟨b0, b1, b2, b3⟩ := h.res.cells
  exact ⟨a0, a1, b0, b1, b2, b3⟩
theorem Nx.fin {w W : World} {r m : Int} (h : Nx w r m W) (x y : Int) : Bx w (w.heap.size + 1) x y ((W.setCell ⟨w.heap.size + 1, 0, none⟩ (.int .i64 x)).setCell ⟨w.heap.size + 1, 1, none⟩ (.int .i64 y)) := h.res.set (by omega) x y

theorem Nx.at1 {w W : World} {r m : Int} {q : Nat} (h : Nx w r m W) (hq : w.heap.size + 1 < q) (x : Int) : Nx w r m (W.setCell ⟨q, 0, none⟩ (.int .i64 x)) :=
  ⟨h.arg.other (by omega) (by omega) _, h.res.other (by omega) (by omega) _⟩
theorem next_bad (r m k : Int) (h : ¬ bOk 7 r m) (w : World) :
    Calls Tryd.prog 12 #[.agg #[.int .i64 r, .int .i64 m], .int .i64 k] w fun e w' => e = .returned (.tuple #[.agg #[.int .i64 0, .int .i64 0], .int .i64 2]) ∧ Below w.heap.size w w' := by
  have hx := nx_new w r m
  obtain ⟨c0, c1, _, _, _, _⟩ := hx.cells
  have hk := fun W => check_any r m 7 W
  rw [ck_no h] at hk
  replace hk := Lib.hid hk
  replace hx := Lib.hid hx
  clear h
  go_enter Tryd.func12, Tryd.ntmps12
  go_wp2_with fail
  refine (hk.out _).mono ?_
  rintro e w1 ⟨rfl, hb1⟩
  have hx1 := hx.out.later hb1
  obtain ⟨d0, d1, d2, d3, d4, d5⟩ := hx1.cells
  clear c0 c1 hx
  replace hx1 := Lib.hid hx1
  go_wp2
  exact bodyPost_ret (res2e Tryd.results12 _ rfl (hx1.out.fin 0 0)) rfl ⟨rfl, (hx1.out.fin 0 0).bel⟩
theorem next_node (r m k : Int) (h : bOk 7 r m) (hk : ¬ (0 ≤ k ∧ k ≤ 6)) (w : World) :
    Calls Tryd.prog 12 #[.agg #[.int .i64 r, .int .i64 m], .int .i64 k] w fun e w' => e = .returned (.tuple #[.agg #[.int .i64 0, .int .i64 0], .int .i64 2]) ∧ Below w.heap.size w w' := by
  have hx := nx_new w r m
  obtain ⟨c0, c1, _, _, _, _⟩ := hx.cells
  have hc := fun W => check_any r m 7 W
  rw [ck_ok h (by omega)] at hc
  replace hc := Lib.hid hc
  have hn := fun W => node7 k W
  rw [decide_eq_false hk] at hn
  replace hn := Lib.hid hn
  replace hx := Lib.hid hx
  clear h hk
  go_enter Tryd.func12, Tryd.ntmps12
  go_wp2_with fail
  refine (hc.out _).mono ?_
  rintro e w1 ⟨rfl, hb1⟩
  have hx1 := hx.out.later hb1
  obtain ⟨d0, d1, d2, d3, d4, d5⟩ := hx1.cells
  clear c0 c1 hx
  replace hx1 := Lib.hid hx1
  go_wp2_with (go_at_call 30; refine (hn.out _).mono ?_; rintro e w' ⟨rfl, rfl⟩)
  exact bodyPost_ret (res2e Tryd.results12 _ rfl (hx1.out.fin 0 0)) rfl ⟨rfl, (hx1.out.fin 0 0).bel⟩
theorem next_go (r m k M : Int) (h : bOk 7 r m) (hk : 0 ≤ k ∧ k ≤ 6) (hM : M = if r = 0 then 1 else r) (hg : ¬ ordV M k r m ≤ 0) (w : World) :
    Calls Tryd.prog 12 #[.agg #[.int .i64 r, .int .i64 m], .int .i64 k] w fun e w' => e = .returned (.tuple #[.agg #[.int .i64 M, .int .i64 k], .int .i64 0]) ∧ Below w.heap.size w w' := by
  have hx := nx_new w r m
  obtain ⟨c0, c1, _, _, _, _⟩ := hx.cells
  have hc := fun W => check_any r m 7 W
  rw [ck_ok h (by omega)] at hc
  replace hc := Lib.hid hc
  have hn := fun W => node7 k W
  rw [decide_eq_true hk] at hn
  replace hn := Lib.hid hn
  replace hx := Lib.hid hx
  have hM2 : max r 1 = M := by unfold bOk at h; split at hM <;> omega
  have hM3 : ¬ 1073741824 < M := by unfold bOk at h; split at hM <;> omega
  have ho := fun W => order_any M k r m W
  generalize ordV M k r m = o at *
  replace ho := Lib.hid ho
  clear h hk hM
  go_enter Tryd.func12, Tryd.ntmps12
  go_wp2_with fail
  refine (hc.out _).mono ?_
  rintro e w1 ⟨rfl, hb1⟩
  have hx1 := hx.out.later hb1
  obtain ⟨d0, d1, _, _, _, _⟩ := hx1.cells
  have hx2 := hx1.later (alloc_b w1 (.cells #[.int .i64 M, .int .i64 k] TB))
  obtain ⟨e0, e1, _, _, _, _⟩ := hx2.cells
  have hy2 := bx_at hx1.arg.bel M k
  obtain ⟨g0, g1, _, _⟩ := hy2.cells
  have hlt := hx1.res.lt
  clear c0 c1 hx hb1 hx1
  replace hx2 := Lib.hid hx2
  replace hy2 := Lib.hid hy2
  go_wp2_with (first
    | (go_at_call 30; refine (hn.out _).mono ?_; rintro e w' ⟨rfl, rfl⟩)
    | (go_at_call 16; refine (ho.out _).mono ?_; rintro e w2 ⟨rfl, hb2⟩; have hx3 := hx2.out.later hb2; have hy3 := hy2.out.later hb2; obtain ⟨f0, f1, f2, f3, f4, f5⟩ := hx3.cells; obtain ⟨i0, i1, i2, i3⟩ := hy3.cells; clear d0 d1 e0 e1 g0 g1 hx2 hy2 hb2))
  exact bodyPost_ret (res2e Tryd.results12 _ rfl (hx3.fin M k)) rfl ⟨rfl, (hx3.fin M k).bel⟩
theorem next_up (r m k M : Int) (h : bOk 7 r m) (hk : 0 ≤ k ∧ k ≤ 6) (hM : M = if r = 0 then 1 else r) (hg : ordV M k r m ≤ 0) (h3 : M + 1 ≤ 1073741824) (w : World) :
    Calls Tryd.prog 12 #[.agg #[.int .i64 r, .int .i64 m], .int .i64 k] w fun e w' => e = .returned (.tuple #[.agg #[.int .i64 (M + 1), .int .i64 k], .int .i64 0]) ∧ Below w.heap.size w w' := by
  have hx := nx_new w r m
  obtain ⟨c0, c1, _, _, _, _⟩ := hx.cells
  have hc := fun W => check_any r m 7 W
  rw [ck_ok h (by omega)] at hc
  replace hc := Lib.hid hc
  have hn := fun W => node7 k W
  rw [decide_eq_true hk] at hn
  replace hn := Lib.hid hn
  replace hx := Lib.hid hx
  have hM2 : max r 1 = M := by unfold bOk at h; split at hM <;> omega
  have hM3 : ¬ 1073741824 < M + 1 := by omega
  have hM4 : IntKind.i64.wrap (M + 1) = M + 1 := wr (by unfold bOk at h; split at hM <;> omega) (by omega)
  have ho := fun W => order_any M k r m W
  generalize ordV M k r m = o at *
  replace ho := Lib.hid ho
  clear h hk hM h3
  go_enter Tryd.func12, Tryd.ntmps12
  go_wp2_with fail
  refine (hc.out _).mono ?_
  rintro e w1 ⟨rfl, hb1⟩
  have hx1 := hx.out.later hb1
  obtain ⟨d0, d1, _, _, _, _⟩ := hx1.cells
  have hx2 := hx1.later (alloc_b w1 (.cells #[.int .i64 M, .int .i64 k] TB))
  obtain ⟨e0, e1, _, _, _, _⟩ := hx2.cells
  have hy2 := bx_at hx1.arg.bel M k
  obtain ⟨g0, g1, _, _⟩ := hy2.cells
  have hlt := hx1.res.lt
  clear c0 c1 hx hb1 hx1
  replace hx2 := Lib.hid hx2
  replace hy2 := Lib.hid hy2
  go_wp2_with (first
    | (go_at_call 30; refine (hn.out _).mono ?_; rintro e w' ⟨rfl, rfl⟩)
    | (go_at_call 16; refine (ho.out _).mono ?_; rintro e w2 ⟨rfl, hb2⟩; have hx3 := hx2.out.later hb2; have hy3 := hy2.out.later hb2; obtain ⟨f0, f1, f2, f3, f4, f5⟩ := hx3.cells; obtain ⟨i0, i1, i2, i3⟩ := hy3.cells; clear d0 d1 e0 e1 g0 g1 hx2 hy2 hb2; have hx4 := Nx.at1 hx3 hlt (M + 1); have hy4 := hy3.set1 (by omega) (M + 1); obtain ⟨j0, j1, j2, j3, j4, j5⟩ := hx4.cells; obtain ⟨l0, l1, l2, l3⟩ := hy4.cells))
  exact bodyPost_ret (res2e Tryd.results12 _ rfl (hx4.fin (M + 1) k)) rfl ⟨rfl, (hx4.fin (M + 1) k).bel⟩
theorem next_over (r m k M : Int) (h : bOk 7 r m) (hk : 0 ≤ k ∧ k ≤ 6) (hM : M = if r = 0 then 1 else r) (hg : ordV M k r m ≤ 0) (h3 : ¬ M + 1 ≤ 1073741824) (w : World) :
    Calls Tryd.prog 12 #[.agg #[.int .i64 r, .int .i64 m], .int .i64 k] w fun e w' => e = .returned (.tuple #[.agg #[.int .i64 0, .int .i64 0], .int .i64 7]) ∧ Below w.heap.size w w' := by
  have hx := nx_new w r m
  obtain ⟨c0, c1, _, _, _, _⟩ := hx.cells
  have hc := fun W => check_any r m 7 W
  rw [ck_ok h (by omega)] at hc
  replace hc := Lib.hid hc
  have hn := fun W => node7 k W
  rw [decide_eq_true hk] at hn
  replace hn := Lib.hid hn
  replace hx := Lib.hid hx
  have hM2 : max r 1 = M := by unfold bOk at h; split at hM <;> omega
  have hM3 : 1073741824 < M + 1 := by omega
  have hM4 : IntKind.i64.wrap (M + 1) = M + 1 := wr (by omega) (by unfold bOk at h; split at hM <;> omega)
  have ho := fun W => order_any M k r m W
  generalize ordV M k r m = o at *
  replace ho := Lib.hid ho
  clear h hk hM h3
  go_enter Tryd.func12, Tryd.ntmps12
  go_wp2_with fail
  refine (hc.out _).mono ?_
  rintro e w1 ⟨rfl, hb1⟩
  have hx1 := hx.out.later hb1
  obtain ⟨d0, d1, _, _, _, _⟩ := hx1.cells
  have hx2 := hx1.later (alloc_b w1 (.cells #[.int .i64 M, .int .i64 k] TB))
  obtain ⟨e0, e1, _, _, _, _⟩ := hx2.cells
  have hy2 := bx_at hx1.arg.bel M k
  obtain ⟨g0, g1, _, _⟩ := hy2.cells
  have hlt := hx1.res.lt
  clear c0 c1 hx hb1 hx1
  replace hx2 := Lib.hid hx2
  replace hy2 := Lib.hid hy2
  go_wp2_with (first
    | (go_at_call 30; refine (hn.out _).mono ?_; rintro e w' ⟨rfl, rfl⟩)
    | (go_at_call 16; refine (ho.out _).mono ?_; rintro e w2 ⟨rfl, hb2⟩; have hx3 := hx2.out.later hb2; have hy3 := hy2.out.later hb2; obtain ⟨f0, f1, f2, f3, f4, f5⟩ := hx3.cells; obtain ⟨i0, i1, i2, i3⟩ := hy3.cells; clear d0 d1 e0 e1 g0 g1 hx2 hy2 hb2; have hx4 := Nx.at1 hx3 hlt (M + 1); have hy4 := hy3.set1 (by omega) (M + 1); obtain ⟨j0, j1, j2, j3, j4, j5⟩ := hx4.cells; obtain ⟨l0, l1, l2, l3⟩ := hy4.cells))
  exact bodyPost_ret (res2e Tryd.results12 _ rfl (hx4.fin 0 0)) rfl ⟨rfl, (hx4.fin 0 0).bel⟩
theorem ord_next {r m k : Int} (h : bOk 7 r m) (hk : 0 ≤ k ∧ k ≤ 6) : (ordV (if r = 0 then 1 else r) k r m ≤ 0) ↔ (¬ r = 0 ∧ k ≤ m) := by
  unfold ordV fdV compareInt
  by_cases h0 : r = 0
  · subst h0; simp
  · rw [if_neg h0]
    simp only [Int.lt_irrefl, if_false, h0, not_false_iff, true_and, if_true]
    by_cases h1 : k < m
    · simp [h1]; omega
    · by_cases h2 : m < k
      · simp [h1, h2]
      · simp [h1, h2]; omega
theorem next_any (r m k : Int) (w : World) :
    Calls Tryd.prog 12 #[.agg #[.int .i64 r, .int .i64 m], .int .i64 k] w fun e w' => e = .returned (.tuple #[.agg #[.int .i64 (nxA r m k), .int .i64 (nxB r m k)], .int .i64 (nxE r m k)]) ∧ Below w.heap.size w w' := by
  by_cases h : bOk 7 r m
  · by_cases hk : 0 ≤ k ∧ k ≤ 6
    · have ho := ord_next h hk
      by_cases hg : ordV (if r = 0 then 1 else r) k r m ≤ 0
      · obtain ⟨h0, h1⟩ := ho.1 hg
        have hR : nxR r m k = (if r = 0 then 1 else r) + 1 := by unfold nxR; rw [if_neg h0, if_pos h1, if_neg h0]
        by_cases h3 : (if r = 0 then 1 else r) + 1 ≤ 1073741824
        · obtain ⟨a1, a2, a3⟩ := nx_ok ⟨h, hk⟩ (by rw [hR]; exact h3)
          rw [a1, a2, a3, hR]
          exact next_up r m k _ h hk rfl hg h3 w
        · obtain ⟨a1, a2, a3⟩ := nx_over ⟨h, hk⟩ (by rw [hR]; exact h3)
          rw [a1, a2, a3]
          exact next_over r m k _ h hk rfl hg h3 w
      · have hR : nxR r m k = if r = 0 then 1 else r := by
          unfold nxR
          by_cases h0 : r = 0
          · rw [if_pos h0, if_pos h0]
          · rw [if_neg h0, if_neg h0, if_neg (fun h1 => hg (ho.2 ⟨h0, h1⟩))]
        have h3 : (if r = 0 then 1 else r) ≤ 1073741824 := by unfold bOk at h; split <;> omega
        obtain ⟨a1, a2, a3⟩ := nx_ok ⟨h, hk⟩ (by rw [hR]; exact h3)
        rw [a1, a2, a3, hR]
        exact next_go r m k _ h hk rfl hg w
    · obtain ⟨a1, a2, a3⟩ := nx_bad (r := r) (m := m) (k := k) (fun x => hk x.2)
      rw [a1, a2, a3]
      exact next_node r m k h hk w
  · obtain ⟨a1, a2, a3⟩ := nx_bad (r := r) (m := m) (k := k) (fun x => h x.1)
    rw [a1, a2, a3]
    exact next_bad r m k h w
end Go.Proofs.YtabfpdlnljkgpaaDoor.Bal
