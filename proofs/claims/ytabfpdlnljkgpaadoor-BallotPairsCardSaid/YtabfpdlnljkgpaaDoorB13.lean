/- The document's Next; the walks of BallotPairs and BallotNumbers. -/
import Derived.Test.YtabfpdlnljkgpaaDoorB12
import Derived.Test.YtabfpdlnljkgpaaDoorB11
namespace Go.Proofs.YtabfpdlnljkgpaaDoor.Bal
open Go.RowKit Go.Lib
set_option linter.unusedVariables false
set_option linter.unusedSimpArgs false
set_option maxRecDepth 20000

theorem rnext_bad (r m k : Int) (h : ¬ (bOk 7 r m ∧ 0 ≤ k ∧ k ≤ 6)) (w : World) :
    Calls Tryd.prog 13 #[.agg #[.int .i64 r, .int .i64 m], .int .i64 k] w fun e w' => e = .returned (.tuple #[.agg #[.int .i64 0, .int .i64 0], .int .i64 2]) ∧ Below w.heap.size w w' := by
  have hx := nx_new w r m
  obtain ⟨c0, c1, _, _, _, _⟩ := hx.cells
  have hc := fun W => rcheck_any r m 7 W
  replace hx := Lib.hid hx
  by_cases hb : bOk 7 r m
  · rw [ck_ok hb (by omega)] at hc
    replace hc := Lib.hid hc
    by_cases h1 : k < 0
    · clear h hb
      go_enter Tryd.func13, Tryd.ntmps13
      go_wp2_with fail
      refine (hc.out _).mono ?_
      rintro e w1 ⟨rfl, hb1⟩
      have hx1 := hx.out.later hb1
      obtain ⟨d0, d1, d2, d3, d4, d5⟩ := hx1.cells
      clear c0 c1 hx
      replace hx1 := Lib.hid hx1
      go_wp2
      exact bodyPost_ret (res2e Tryd.results13 _ rfl (hx1.out.fin 0 0)) rfl ⟨rfl, (hx1.out.fin 0 0).bel⟩
    · have h2 : 7 ≤ k := by
        rcases Int.lt_or_le k 7 with h3 | h3
        · exact absurd ⟨hb, by omega, by omega⟩ h
        · exact h3
      clear h hb
      go_enter Tryd.func13, Tryd.ntmps13
      go_wp2_with fail
      refine (hc.out _).mono ?_
      rintro e w1 ⟨rfl, hb1⟩
      have hx1 := hx.out.later hb1
      obtain ⟨d0, d1, d2, d3, d4, d5⟩ := hx1.cells
      clear c0 c1 hx
      replace hx1 := Lib.hid hx1
      go_wp2
      exact bodyPost_ret (res2e Tryd.results13 _ rfl (hx1.out.fin 0 0)) rfl ⟨rfl, (hx1.out.fin 0 0).bel⟩
  · rw [ck_no hb] at hc
    replace hc := Lib.hid hc
    clear h hb
    go_enter Tryd.func13, Tryd.ntmps13
    go_wp2_with fail
    refine (hc.out _).mono ?_
    rintro e w1 ⟨rfl, hb1⟩
    have hx1 := hx.out.later hb1
    obtain ⟨d0, d1, d2, d3, d4, d5⟩ := hx1.cells
    clear c0 c1 hx
    replace hx1 := Lib.hid hx1
    go_wp2
    exact bodyPost_ret (res2e Tryd.results13 _ rfl (hx1.out.fin 0 0)) rfl ⟨rfl, (hx1.out.fin 0 0).bel⟩
theorem Nx.fin2 {w W : World} {r m : Int} (h : Nx w r m W) (o : Obj) (x y : Int) : Bx w (w.heap.size + 1) x y (((W.alloc o).setCell ⟨w.heap.size + 1, 0, none⟩ (.int .i64 x)).setCell ⟨w.heap.size + 1, 1, none⟩ (.int .i64 y)) := (h.later (alloc_b W o)).fin x y
/-- The zero ballot: the first round has none. -/
theorem rnext_0 (k : Int) (hk : 0 ≤ k ∧ k ≤ 6) (w : World) :
    Calls Tryd.prog 13 #[.agg #[.int .i64 0, .int .i64 0], .int .i64 k] w fun e w' => e = .returned (.tuple #[.agg #[.int .i64 1, .int .i64 k], .int .i64 0]) ∧ Below w.heap.size w w' := by
  have hx := nx_new w 0 0
  obtain ⟨c0, c1, _, _, _, _⟩ := hx.cells
  have hc := fun W => rcheck_any 0 0 7 W
  rw [ck_ok (.inl ⟨rfl, rfl⟩) (by omega)] at hc
  replace hc := Lib.hid hc
  replace hx := Lib.hid hx
  have h1 : ¬ k < 0 := by omega
  have h2 : ¬ 7 ≤ k := by omega
  have ho := fun W => rorder_any 0 0 1 k W
  rw [show ordV 0 0 1 k = -1 by unfold ordV fdV compareInt; simp] at ho
  replace ho := Lib.hid ho
  clear hk
  go_enter Tryd.func13, Tryd.ntmps13
  go_wp2_with fail
  refine (hc.out _).mono ?_
  rintro e w1 ⟨rfl, hb1⟩
  have hx1 := hx.out.later hb1
  obtain ⟨d0, d1, d2, d3, d4, d5⟩ := hx1.cells
  have hx2 := hx1.later (alloc_b w1 (.cells #[.int .i64 0, .int .i64 k] TB))
  obtain ⟨e0, e1, _, _, _, _⟩ := hx2.cells
  have hx3 := hx2.later (alloc_b _ (.cells #[.int .i64 1, .int .i64 k] TB))
  obtain ⟨g0, g1, _, _, _, _⟩ := hx3.cells
  have hy3 := bx_at hx2.arg.bel 1 k
  have hs : (w1.alloc (.cells #[.int .i64 0, .int .i64 k] TB)).heap.size = w1.heap.size + 1 := by show (w1.heap.push _).size = _; rw [Array.size_push]
  rw [hs] at hy3
  obtain ⟨i0, i1, _, _⟩ := hy3.cells
  clear c0 c1 hx
  replace hx3 := Lib.hid hx3
  replace hy3 := Lib.hid hy3
  clear hx1 hx2
  go_wp2
  refine wp_loop_rounds 2 ?_
  rw [rounds_succ]
  go_wp2
  rw [rounds_succ]
  go_wp2_with fail
  refine (ho.out _).mono ?_
  rintro e w2 ⟨rfl, hb2⟩
  have hx4 := hx3.out.later hb2
  obtain ⟨f0, f1, f2, f3, f4, f5⟩ := hx4.cells
  have hy4 := hy3.out.later hb2
  obtain ⟨j0, j1, _, _⟩ := hy4.cells
  clear g0 g1 i0 i1 hy3 hx3
  replace hx4 := Lib.hid hx4
  go_wp2
  exact bodyPost_ret (res2e Tryd.results13 _ rfl (hx4.out.fin 1 k)) rfl ⟨rfl, (hx4.out.fin 1 k).bel⟩
/-- The same round. -/
theorem rnext_same (r m k : Int) (h : bOk 7 r m) (h0 : ¬ r = 0) (hk : 0 ≤ k ∧ k ≤ 6) (hm : ¬ k ≤ m) (w : World) :
    Calls Tryd.prog 13 #[.agg #[.int .i64 r, .int .i64 m], .int .i64 k] w fun e w' => e = .returned (.tuple #[.agg #[.int .i64 r, .int .i64 k], .int .i64 0]) ∧ Below w.heap.size w w' := by
  have hx := nx_new w r m
  obtain ⟨c0, c1, _, _, _, _⟩ := hx.cells
  have hc := fun W => rcheck_any r m 7 W
  rw [ck_ok h (by omega)] at hc
  replace hc := Lib.hid hc
  replace hx := Lib.hid hx
  have h1 : ¬ k < 0 := by omega
  have h2 : ¬ 7 ≤ k := by omega
  have hr : 1 ≤ r ∧ r ≤ 1073741824 := by unfold bOk at h; omega
  have hr1 := hr.1
  have hr2 := hr.2
  have hr3 : IntKind.i64.wrap (r + 1) = r + 1 := wr (by omega) (by omega)
  have hr4 : r ≤ r + 1 := by omega
  have ho := fun W => rorder_any r m r k W
  rw [show ordV r m r k = -1 by unfold ordV fdV compareInt; simp; omega] at ho
  replace ho := Lib.hid ho
  clear hk h hr h0
  go_enter Tryd.func13, Tryd.ntmps13
  go_wp2_with fail
  refine (hc.out _).mono ?_
  rintro e w1 ⟨rfl, hb1⟩
  have hx1 := hx.out.later hb1
  obtain ⟨d0, d1, d2, d3, d4, d5⟩ := hx1.cells
  have hx2 := hx1.later (alloc_b w1 (.cells #[.int .i64 r, .int .i64 k] TB))
  obtain ⟨e0, e1, _, _, _, _⟩ := hx2.cells
  have hy2 := bx_at hx1.arg.bel r k
  obtain ⟨i0, i1, _, _⟩ := hy2.cells
  clear c0 c1 hx
  replace hx2 := Lib.hid hx2
  replace hy2 := Lib.hid hy2
  clear hx1
  go_wp2
  refine wp_loop_rounds 1 ?_
  rw [rounds_succ]
  go_wp2_with fail
  refine (ho.out _).mono ?_
  rintro e w2 ⟨rfl, hb2⟩
  have hx4 := hx2.out.later hb2
  obtain ⟨f0, f1, f2, f3, f4, f5⟩ := hx4.cells
  have hy4 := hy2.out.later hb2
  obtain ⟨j0, j1, _, _⟩ := hy4.cells
  clear e0 e1 i0 i1 hy2 hx2
  replace hx4 := Lib.hid hx4
  go_wp2
  exact bodyPost_ret (res2e Tryd.results13 _ rfl (hx4.out.fin r k)) rfl ⟨rfl, (hx4.out.fin r k).bel⟩
/-- The next round. -/
theorem rnext_up (r m k : Int) (h : bOk 7 r m) (h0 : ¬ r = 0) (hk : 0 ≤ k ∧ k ≤ 6) (hm : k ≤ m) (h3 : r + 1 ≤ 1073741824) (w : World) :
    Calls Tryd.prog 13 #[.agg #[.int .i64 r, .int .i64 m], .int .i64 k] w fun e w' => e = .returned (.tuple #[.agg #[.int .i64 (r + 1), .int .i64 k], .int .i64 0]) ∧ Below w.heap.size w w' := by
  have hx := nx_new w r m
  obtain ⟨c0, c1, _, _, _, _⟩ := hx.cells
  have hc := fun W => rcheck_any r m 7 W
  rw [ck_ok h (by omega)] at hc
  replace hc := Lib.hid hc
  replace hx := Lib.hid hx
  have h1 : ¬ k < 0 := by omega
  have h2 : ¬ 7 ≤ k := by omega
  have hr : 1 ≤ r ∧ r ≤ 1073741824 := by unfold bOk at h; omega
  have hr1 := hr.1
  have hr2 := hr.2
  have hr3 : IntKind.i64.wrap (r + 1) = r + 1 := wr (by omega) (by omega)
  have hr4 : r ≤ r + 1 := by omega
  have hr5 : 1 ≤ r + 1 := by omega
  have ho := fun W => rorder_any r m r k W
  have hg : ¬ ordV r m r k < 0 := by rw [show ordV r m r k = compareInt m k by unfold ordV fdV compareInt; simp]; unfold compareInt; split <;> (try split) <;> omega
  have ho2 := fun W => rorder_any r m (r + 1) k W
  rw [show ordV r m (r + 1) k = -1 by unfold ordV fdV compareInt; simp; omega] at ho2
  generalize ordV r m r k = o at *
  replace ho := Lib.hid ho
  replace ho2 := Lib.hid ho2
  clear hk h hr h0 hm
  go_enter Tryd.func13, Tryd.ntmps13
  go_wp2_with fail
  refine (hc.out _).mono ?_
  rintro e w1 ⟨rfl, hb1⟩
  have hx1 := hx.out.later hb1
  obtain ⟨d0, d1, d2, d3, d4, d5⟩ := hx1.cells
  have hx2 := hx1.later (alloc_b w1 (.cells #[.int .i64 r, .int .i64 k] TB))
  obtain ⟨e0, e1, _, _, _, _⟩ := hx2.cells
  have hy2 := bx_at hx1.arg.bel r k
  obtain ⟨i0, i1, _, _⟩ := hy2.cells
  clear c0 c1 hx
  replace hx2 := Lib.hid hx2
  clear hx1 hy2
  go_wp2
  refine wp_loop_rounds 2 ?_
  rw [rounds_succ]
  go_wp2_with fail
  refine (ho.out _).mono ?_
  rintro e w2 ⟨rfl, hb2⟩
  have hx3 := hx2.out.later hb2
  obtain ⟨f0, f1, _, _, _, _⟩ := hx3.cells
  have hx4 := hx3.later (alloc_b w2 (.cells #[.int .i64 (r + 1), .int .i64 k] TB))
  obtain ⟨g0, g1, _, _, _, _⟩ := hx4.cells
  have hy4 := bx_at hx3.arg.bel (r + 1) k
  obtain ⟨k0, k1, _, _⟩ := hy4.cells
  clear e0 e1 i0 i1 hx2 hx3
  replace hx4 := Lib.hid hx4
  replace hy4 := Lib.hid hy4
  go_wp2
  rw [rounds_succ]
  go_wp2_with fail
  refine (ho2.out _).mono ?_
  rintro e w3 ⟨rfl, hb3⟩
  have hx5 := hx4.out.later hb3
  obtain ⟨l0, l1, l2, l3, l4, l5⟩ := hx5.cells
  have hy5 := hy4.out.later hb3
  obtain ⟨m0, m1, _, _⟩ := hy5.cells
  clear f0 f1 g0 g1 k0 k1 hx4 hy4
  replace hx5 := Lib.hid hx5
  go_wp2
  exact bodyPost_ret (res2e Tryd.results13 _ rfl (hx5.out.fin (r + 1) k)) rfl ⟨rfl, (hx5.out.fin (r + 1) k).bel⟩
theorem rnext_over (r m k : Int) (h : bOk 7 r m) (h0 : ¬ r = 0) (hk : 0 ≤ k ∧ k ≤ 6) (hm : k ≤ m) (h3 : ¬ r + 1 ≤ 1073741824) (w : World) :
    Calls Tryd.prog 13 #[.agg #[.int .i64 r, .int .i64 m], .int .i64 k] w fun e w' => e = .returned (.tuple #[.agg #[.int .i64 0, .int .i64 0], .int .i64 7]) ∧ Below w.heap.size w w' := by
  have hx := nx_new w r m
  obtain ⟨c0, c1, _, _, _, _⟩ := hx.cells
  have hc := fun W => rcheck_any r m 7 W
  rw [ck_ok h (by omega)] at hc
  replace hc := Lib.hid hc
  replace hx := Lib.hid hx
  have h1 : ¬ k < 0 := by omega
  have h2 : ¬ 7 ≤ k := by omega
  have hr : 1 ≤ r ∧ r ≤ 1073741824 := by unfold bOk at h; omega
  have hr1 := hr.1
  have hr2 := hr.2
  have hr3 : IntKind.i64.wrap (r + 1) = r + 1 := wr (by omega) (by omega)
  have hr4 : r ≤ r + 1 := by omega
  have ho := fun W => rorder_any r m r k W
  have hg : ¬ ordV r m r k < 0 := by rw [show ordV r m r k = compareInt m k by unfold ordV fdV compareInt; simp]; unfold compareInt; split <;> (try split) <;> omega
  generalize ordV r m r k = o at *
  replace ho := Lib.hid ho
  clear hk h hr h0 hm
  go_enter Tryd.func13, Tryd.ntmps13
  go_wp2_with fail
  refine (hc.out _).mono ?_
  rintro e w1 ⟨rfl, hb1⟩
  have hx1 := hx.out.later hb1
  obtain ⟨d0, d1, d2, d3, d4, d5⟩ := hx1.cells
  have hx2 := hx1.later (alloc_b w1 (.cells #[.int .i64 r, .int .i64 k] TB))
  obtain ⟨e0, e1, _, _, _, _⟩ := hx2.cells
  have hy2 := bx_at hx1.arg.bel r k
  obtain ⟨i0, i1, _, _⟩ := hy2.cells
  clear c0 c1 hx
  replace hx2 := Lib.hid hx2
  clear hx1 hy2
  go_wp2
  refine wp_loop_rounds 2 ?_
  rw [rounds_succ]
  go_wp2_with fail
  refine (ho.out _).mono ?_
  rintro e w2 ⟨rfl, hb2⟩
  have hx3 := hx2.out.later hb2
  obtain ⟨f0, f1, f2, f3, f4, f5⟩ := hx3.cells
  clear e0 e1 i0 i1 hx2
  replace hx3 := Lib.hid hx3
  go_wp2
  rw [rounds_succ]
  go_wp2
  exact bodyPost_ret (res2e Tryd.results13 _ rfl (hx3.out.fin 0 0)) rfl ⟨rfl, (hx3.out.fin 0 0).bel⟩
theorem rnext_any (r m k : Int) (w : World) :
    Calls Tryd.prog 13 #[.agg #[.int .i64 r, .int .i64 m], .int .i64 k] w fun e w' => e = .returned (.tuple #[.agg #[.int .i64 (nxA r m k), .int .i64 (nxB r m k)], .int .i64 (nxE r m k)]) ∧ Below w.heap.size w w' := by
  by_cases h : bOk 7 r m ∧ 0 ≤ k ∧ k ≤ 6
  · by_cases h0 : r = 0
    · have hm : m = 0 := by obtain ⟨hb, _⟩ := h; unfold bOk at hb; omega
      have hR : nxR r m k = 1 := if_pos h0
      obtain ⟨a1, a2, a3⟩ := nx_ok h (by omega)
      rw [a1, a2, a3, hR]
      subst h0 hm
      exact rnext_0 k h.2 w
    · by_cases hm : k ≤ m
      · have hR : nxR r m k = r + 1 := by unfold nxR; rw [if_neg h0, if_pos hm]
        by_cases h3 : r + 1 ≤ 1073741824
        · obtain ⟨a1, a2, a3⟩ := nx_ok h (by omega)
          rw [a1, a2, a3, hR]
          exact rnext_up r m k h.1 h0 h.2 hm h3 w
        · obtain ⟨a1, a2, a3⟩ := nx_over h (by omega)
          rw [a1, a2, a3]
          exact rnext_over r m k h.1 h0 h.2 hm h3 w
      · have hR : nxR r m k = r := by unfold nxR; rw [if_neg h0, if_neg hm]
        obtain ⟨a1, a2, a3⟩ := nx_ok h (by rw [hR]; obtain ⟨hb, _⟩ := h; unfold bOk at hb; omega)
        rw [a1, a2, a3, hR]
        exact rnext_same r m k h.1 h0 h.2 hm w
  · obtain ⟨a1, a2, a3⟩ := nx_bad h
    rw [a1, a2, a3]
    exact rnext_bad r m k h w
end Go.Proofs.YtabfpdlnljkgpaaDoor.Bal
