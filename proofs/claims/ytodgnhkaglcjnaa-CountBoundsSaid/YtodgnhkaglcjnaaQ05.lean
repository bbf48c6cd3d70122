/- The document's functions. -/
import Derived.Test.YtodgnhkaglcjnaaQ04
namespace Go.Proofs.Ytodgnhkaglcjnaa.Cnt
open Go.RowKit
set_option linter.unusedVariables false
set_option linter.unusedSimpArgs false
set_option maxRecDepth 20000

theorem min_lt (a b n : Int) : min a b < n ↔ a < n ∨ b < n := by omega
theorem doP (v u d l g n : Int) (hc : OkC ⟨v, u, d, l, g⟩) (hn : Ok n) (h0 : 0 ≤ n) : chC addC ⟨v, u, d, l, g⟩ n = if g < v + d + n ∨ 1152921504606846976 < u + n then (zero, 7) else (⟨v + n, u + n, d, l, g⟩, 0) := by
  unfold chC
  rw [okC_t hc, okB_t hn, if_pos h0]
  simp only [Bool.and_self, if_true]
  unfold addC roomN
  simp only [min_lt]
  split <;> split <;> first | rfl | omega
theorem doN (v u d l g n : Int) (hc : OkC ⟨v, u, d, l, g⟩) (hn : Ok n) (h0 : ¬ 0 ≤ n) : chC addC ⟨v, u, d, l, g⟩ n = if v - u + n < l ∨ 1152921504606846976 < d - n then (zero, 7) else (⟨v + n, u, d - n, l, g⟩, 0) := by
  unfold chC
  rw [okC_t hc, okB_t hn, if_neg h0]
  simp only [Bool.and_self, if_true]
  unfold addC roomN mirC
  simp only [min_lt]
  split <;> split <;> first | omega | (simp only [zero, Prod.mk.injEq, Ct.mk.injEq, and_true, true_and]; omega)
theorem freeP (v u d l g n : Int) (hc : OkC ⟨v, u, d, l, g⟩) (hn : Ok n) (h0 : 0 ≤ n) : chC giveC ⟨v, u, d, l, g⟩ n = if u < n then (zero, 9) else (⟨v, u - n, d, l, g⟩, 0) := by
  unfold chC
  rw [okC_t hc, okB_t hn, if_pos h0]
  rfl
theorem freeN (v u d l g n : Int) (hc : OkC ⟨v, u, d, l, g⟩) (hn : Ok n) (h0 : ¬ 0 ≤ n) : chC giveC ⟨v, u, d, l, g⟩ n = if d < -n then (zero, 9) else (⟨v, u, d + n, l, g⟩, 0) := by
  unfold chC
  rw [okC_t hc, okB_t hn, if_neg h0]
  simp only [Bool.and_self, if_true]
  unfold giveC mirC
  simp only
  split <;> (simp only [zero, Prod.mk.injEq, Ct.mk.injEq, and_true, true_and]; omega)
theorem undoP (v u d l g n : Int) (hc : OkC ⟨v, u, d, l, g⟩) (hn : Ok n) (h0 : 0 ≤ n) : chC takeC ⟨v, u, d, l, g⟩ n = if u < n then (zero, 9) else (⟨v - n, u - n, d, l, g⟩, 0) := by
  unfold chC
  rw [okC_t hc, okB_t hn, if_pos h0]
  rfl
theorem undoN (v u d l g n : Int) (hc : OkC ⟨v, u, d, l, g⟩) (hn : Ok n) (h0 : ¬ 0 ≤ n) : chC takeC ⟨v, u, d, l, g⟩ n = if d < -n then (zero, 9) else (⟨v - n, u, d + n, l, g⟩, 0) := by
  unfold chC
  rw [okC_t hc, okB_t hn, if_neg h0]
  simp only [Bool.and_self, if_true]
  unfold takeC mirC
  simp only
  split <;> (simp only [zero, Prod.mk.injEq, Ct.mk.injEq, and_true, true_and]; omega)
theorem ch_bad (f : Ct → Int → Ct × Int) (c : Ct) (n : Int) (h : ¬ (OkC c ∧ Ok n)) : chC f c n = (zero, 2) := by
  unfold chC okC okB
  rw [if_neg]
  simpa using h
/-- Undo of the document: what Free leads to, and the value less by the delta. -/
theorem undo_free (c : Ct) (n : Int) : chC takeC c n = if (chC giveC c n).2 = 0 then ({(chC giveC c n).1 with v := c.v - n}, 0) else (zero, (chC giveC c n).2) := by
  obtain ⟨v, u, d, l, g⟩ := c
  by_cases h : OkC ⟨v, u, d, l, g⟩ ∧ Ok n
  · obtain ⟨hc, hn⟩ := h
    by_cases h0 : 0 ≤ n
    · rw [undoP _ _ _ _ _ _ hc hn h0, freeP _ _ _ _ _ _ hc hn h0]
      split <;> simp
    · rw [undoN _ _ _ _ _ _ hc hn h0, freeN _ _ _ _ _ _ hc hn h0]
      split <;> simp
  · rw [ch_bad _ _ _ h, ch_bad _ _ _ h]
    simp
theorem free_v (c : Ct) (n : Int) (h : (chC giveC c n).2 = 0) : (chC giveC c n).1.v = c.v ∧ OkC c ∧ Ok n := by
  obtain ⟨v, u, d, l, g⟩ := c
  by_cases h' : OkC ⟨v, u, d, l, g⟩ ∧ Ok n
  · obtain ⟨hc, hn⟩ := h'
    refine ⟨?_, hc, hn⟩
    by_cases h0 : 0 ≤ n
    · rw [freeP _ _ _ _ _ _ hc hn h0] at h ⊢
      split at h
      · simp at h
      · rename_i h'; rw [if_neg h']
    · rw [freeN _ _ _ _ _ _ hc hn h0] at h ⊢
      split at h
      · simp at h
      · rename_i h'; rw [if_neg h']
  · rw [ch_bad _ _ _ h'] at h
    simp at h

theorem rboth_any (v u d l g n : Int) (w : World) :
    Calls Try.prog 38 #[cA v u d l g, .int .i64 n] w fun e w' => e = .returned (.int .i64 (if okC ⟨v, u, d, l, g⟩ && okB n then 0 else 2)) ∧ Below w.heap.size w w' := by
  have hx := cx_new w v u d l g
  have hw := Lib.hid (fun W => rwithin_any n W)
  by_cases hc : OkC ⟨v, u, d, l, g⟩
  · have hk := Lib.hid (fun W => rchk_ok hc W)
    rw [okC_t hc]
    clear hc
    generalize okB n = z at *
    cases z
    all_goals
      go_enter Try.func38, Try.ntmps38
      go_wp2_with (first
        | (go_at_call 28; refine (hk.out _).mono ?_; rintro e w1 ⟨rfl, hb1⟩; have hx1 := hx.later hb1)
        | (go_at_call 43; refine (hw.out _).mono ?_; rintro e w' ⟨rfl, rfl⟩))
      go_ret
      exact ⟨rfl, hx1.bel⟩
  · have hk := Lib.hid (fun W => rchk_no hc W)
    rw [okC_f hc]
    clear hc
    go_enter Try.func38, Try.ntmps38
    go_wp2_with (first
      | (go_at_call 28; refine (hk.out _).mono ?_; rintro e w1 ⟨rfl, hb1⟩; have hx1 := hx.later hb1))
    go_ret
    exact ⟨rfl, hx1.bel⟩
theorem rb_ok {v u d l g n : Int} (hc : OkC ⟨v, u, d, l, g⟩) (hn : Ok n) (W : World) :
    Calls Try.prog 38 #[cA v u d l g, .int .i64 n] W fun e w' => e = .returned (.int .i64 0) ∧ Below W.heap.size W w' := by
  have := rboth_any v u d l g n W
  rwa [okC_t hc, okB_t hn] at this
theorem rb_no {v u d l g n : Int} (h : ¬ (OkC ⟨v, u, d, l, g⟩ ∧ Ok n)) (W : World) :
    Calls Try.prog 38 #[cA v u d l g, .int .i64 n] W fun e w' => e = .returned (.int .i64 2) ∧ Below W.heap.size W w' := by
  have := rboth_any v u d l g n W
  rwa [if_neg (by unfold okC okB; simpa using h)] at this
set_option maxHeartbeats 4000000 in
theorem rdo_any (v u d l g n : Int) (w : World) :
    Calls Try.prog 15 #[cA v u d l g, .int .i64 n] w fun e w' => e = .returned (rV (chC addC ⟨v, u, d, l, g⟩ n)) ∧ Below w.heap.size w w' := by
  have hx := cx_two w v u d l g
  by_cases h : OkC ⟨v, u, d, l, g⟩ ∧ Ok n
  · obtain ⟨hc, hn⟩ := h
    have hk := Lib.hid (fun W => rb_ok hc hn W)
    by_cases h0 : 0 ≤ n
    · have hch := Lib.hid (doP v u d l g n hc hn h0)
      obtain ⟨h1, h2, h3, h4, h5, h6, h7, h8, h9⟩ := hc
      unfold Ok at *
      simp only at *
      have b1 : IntKind.i64.wrap (v + d) = v + d := i64w (by omega) (by omega)
      have b2 : IntKind.i64.wrap (v + d + n) = v + d + n := i64w (by omega) (by omega)
      have b3 : IntKind.i64.wrap (u + n) = u + n := i64w (by omega) (by omega)
      have b4 : IntKind.i64.wrap (v + n) = v + n := i64w (by omega) (by omega)
      clear h1 h2 h3 h4 h5 h6 h7 h8 h9 hn
      generalize chC addC ⟨v, u, d, l, g⟩ n = r at *
      go_enter Try.func15, Try.ntmps15
      go_wp2_with (first
        | (go_at_call 38; refine (hk.out _).mono ?_; rintro e w1 ⟨rfl, hb1⟩; have hx1 := hx.1.later hb1; have hy1 := hx.2.later hb1; obtain ⟨c0, c1, c2, c3, c4⟩ := hx1.cells; obtain ⟨e0, e1, e2, e3, e4⟩ := hx1.froz; obtain ⟨d0, d1, d2, d3, d4⟩ := hy1.cells; obtain ⟨f0, f1, f2, f3, f4⟩ := hy1.froz))
      all_goals
        have hbel := hx1.bel
        first
          | (refine bodyPost_ret (v := rV (⟨0, 0, 0, 0, 0⟩, 7)) (by simp [results, Try.results15, go_sem, d0, d1, d2, d3, d4]) rfl ⟨?_, ?_⟩ <;> first | (go_grown; done) | (rw [hch.out, if_pos (by omega)]; rfl))
          | (refine bodyPost_ret (v := rV (⟨v + n, u + n, d, l, g⟩, 0)) (by simp [results, Try.results15, go_sem, d0, d1, d2, d3, d4]) rfl ⟨?_, ?_⟩ <;> first | (go_grown; done) | (rw [hch.out, if_neg (by omega)]))

    · have hch := Lib.hid (doN v u d l g n hc hn h0)
      obtain ⟨h1, h2, h3, h4, h5, h6, h7, h8, h9⟩ := hc
      unfold Ok at *
      simp only at *
      have b1 : IntKind.i64.wrap (v - u) = v - u := i64w (by omega) (by omega)
      have b2 : IntKind.i64.wrap (v - u + n) = v - u + n := i64w (by omega) (by omega)
      have b3 : IntKind.i64.wrap (d - n) = d - n := i64w (by omega) (by omega)
      have b4 : IntKind.i64.wrap (v + n) = v + n := i64w (by omega) (by omega)
      clear h1 h2 h3 h4 h5 h6 h7 h8 h9 hn
      have b0 : decide (0 ≤ n) = false := by simpa using h0
      have b00 : (0 ≤ n) = False := by simpa using h0
      clear h0
      generalize chC addC ⟨v, u, d, l, g⟩ n = r at *
      go_enter Try.func15, Try.ntmps15
      go_wp2_with (first
        | (go_at_call 38; refine (hk.out _).mono ?_; rintro e w1 ⟨rfl, hb1⟩; have hx1 := hx.1.later hb1; have hy1 := hx.2.later hb1; obtain ⟨c0, c1, c2, c3, c4⟩ := hx1.cells; obtain ⟨e0, e1, e2, e3, e4⟩ := hx1.froz; obtain ⟨d0, d1, d2, d3, d4⟩ := hy1.cells; obtain ⟨f0, f1, f2, f3, f4⟩ := hy1.froz))
      all_goals
        have hbel := hx1.bel
        first
          | (refine bodyPost_ret (v := rV (⟨0, 0, 0, 0, 0⟩, 7)) (by simp [results, Try.results15, go_sem, d0, d1, d2, d3, d4]) rfl ⟨?_, ?_⟩ <;> first | (go_grown; done) | (rw [hch.out, if_pos (by omega)]; rfl))
          | (refine bodyPost_ret (v := rV (⟨v + n, u, d - n, l, g⟩, 0)) (by simp [results, Try.results15, go_sem, d0, d1, d2, d3, d4]) rfl ⟨?_, ?_⟩ <;> first | (go_grown; done) | (rw [hch.out, if_neg (by omega)]))

  · have hk := Lib.hid (fun W => rb_no h W)
    rw [ch_bad _ _ _ h]
    clear h
    go_enter Try.func15, Try.ntmps15
    go_wp2_with (first
      | (go_at_call 38; refine (hk.out _).mono ?_; rintro e w1 ⟨rfl, hb1⟩; have hy1 := hx.2.later hb1)
      | (refine store_cx rfl _ _ rfl (w.heap.size + 1) rfl rfl hy1.blk ?_; intro w5 hs5; have hy5 := hy1.self hs5 (by omega); obtain ⟨d0, d1, d2, d3, d4⟩ := hy5.cells))
    exact bodyPost_ret (v := rV (⟨0, 0, 0, 0, 0⟩, 2)) (by simp [results, Try.results15, go_sem, d0, d1, d2, d3, d4]) rfl ⟨rfl, hy5.bel⟩
set_option maxHeartbeats 4000000 in
theorem rfree_any (v u d l g n : Int) (w : World) :
    Calls Try.prog 17 #[cA v u d l g, .int .i64 n] w fun e w' => e = .returned (rV (chC giveC ⟨v, u, d, l, g⟩ n)) ∧ Below w.heap.size w w' := by
  have hx := cx_two w v u d l g
  by_cases h : OkC ⟨v, u, d, l, g⟩ ∧ Ok n
  · obtain ⟨hc, hn⟩ := h
    have hk := Lib.hid (fun W => rb_ok hc hn W)
    by_cases h0 : 0 ≤ n
    · have hch := Lib.hid (freeP v u d l g n hc hn h0)
      obtain ⟨h1, h2, h3, h4, h5, h6, h7, h8, h9⟩ := hc
      unfold Ok at *
      simp only at *
      have b1 : IntKind.i64.wrap (u - n) = u - n := i64w (by omega) (by omega)
      clear h1 h2 h3 h4 h5 h6 h7 h8 h9 hn
      generalize chC giveC ⟨v, u, d, l, g⟩ n = r at *
      go_enter Try.func17, Try.ntmps17
      go_wp2_with (first
        | (go_at_call 38; refine (hk.out _).mono ?_; rintro e w1 ⟨rfl, hb1⟩; have hx1 := hx.1.later hb1; have hy1 := hx.2.later hb1; obtain ⟨c0, c1, c2, c3, c4⟩ := hx1.cells; obtain ⟨e0, e1, e2, e3, e4⟩ := hx1.froz; obtain ⟨d0, d1, d2, d3, d4⟩ := hy1.cells; obtain ⟨f0, f1, f2, f3, f4⟩ := hy1.froz))
      all_goals
        have hbel := hx1.bel
        first
          | (refine bodyPost_ret (v := rV (⟨0, 0, 0, 0, 0⟩, 9)) (by simp [results, Try.results17, go_sem, d0, d1, d2, d3, d4]) rfl ⟨?_, ?_⟩ <;> first | (go_grown; done) | (rw [hch.out, if_pos (by omega)]; rfl))
          | (refine bodyPost_ret (v := rV (⟨v, u - n, d, l, g⟩, 0)) (by simp [results, Try.results17, go_sem, d0, d1, d2, d3, d4]) rfl ⟨?_, ?_⟩ <;> first | (go_grown; done) | (rw [hch.out, if_neg (by omega)]))

    · have hch := Lib.hid (freeN v u d l g n hc hn h0)
      obtain ⟨h1, h2, h3, h4, h5, h6, h7, h8, h9⟩ := hc
      unfold Ok at *
      simp only at *
      have b1 : IntKind.i64.wrap (-n) = -n := i64w (by omega) (by omega)
      have b2 : IntKind.i64.wrap (d + n) = d + n := i64w (by omega) (by omega)
      clear h1 h2 h3 h4 h5 h6 h7 h8 h9 hn
      have b0 : decide (0 ≤ n) = false := by simpa using h0
      have b00 : (0 ≤ n) = False := by simpa using h0
      clear h0
      generalize chC giveC ⟨v, u, d, l, g⟩ n = r at *
      go_enter Try.func17, Try.ntmps17
      go_wp2_with (first
        | (go_at_call 38; refine (hk.out _).mono ?_; rintro e w1 ⟨rfl, hb1⟩; have hx1 := hx.1.later hb1; have hy1 := hx.2.later hb1; obtain ⟨c0, c1, c2, c3, c4⟩ := hx1.cells; obtain ⟨e0, e1, e2, e3, e4⟩ := hx1.froz; obtain ⟨d0, d1, d2, d3, d4⟩ := hy1.cells; obtain ⟨f0, f1, f2, f3, f4⟩ := hy1.froz))
      all_goals
        have hbel := hx1.bel
        first
          | (refine bodyPost_ret (v := rV (⟨0, 0, 0, 0, 0⟩, 9)) (by simp [results, Try.results17, go_sem, d0, d1, d2, d3, d4]) rfl ⟨?_, ?_⟩ <;> first | (go_grown; done) | (rw [hch.out, if_pos (by omega)]; rfl))
          | (refine bodyPost_ret (v := rV (⟨v, u, d + n, l, g⟩, 0)) (by simp [results, Try.results17, go_sem, d0, d1, d2, d3, d4]) rfl ⟨?_, ?_⟩ <;> first | (go_grown; done) | (rw [hch.out, if_neg (by omega)]))

  · have hk := Lib.hid (fun W => rb_no h W)
    rw [ch_bad _ _ _ h]
    clear h
    go_enter Try.func17, Try.ntmps17
    go_wp2_with (first
      | (go_at_call 38; refine (hk.out _).mono ?_; rintro e w1 ⟨rfl, hb1⟩; have hy1 := hx.2.later hb1)
      | (refine store_cx rfl _ _ rfl (w.heap.size + 1) rfl rfl hy1.blk ?_; intro w5 hs5; have hy5 := hy1.self hs5 (by omega); obtain ⟨d0, d1, d2, d3, d4⟩ := hy5.cells))
    exact bodyPost_ret (v := rV (⟨0, 0, 0, 0, 0⟩, 2)) (by simp [results, Try.results17, go_sem, d0, d1, d2, d3, d4]) rfl ⟨rfl, hy5.bel⟩
end Go.Proofs.Ytodgnhkaglcjnaa.Cnt
