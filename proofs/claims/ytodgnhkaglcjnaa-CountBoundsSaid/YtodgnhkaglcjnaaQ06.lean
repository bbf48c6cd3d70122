/- The document's Undo, Apply, New, Room, Quiet, Least. -/
import Derived.Test.YtodgnhkaglcjnaaQ05
namespace Go.Proofs.Ytodgnhkaglcjnaa.Cnt
open Go.RowKit
set_option linter.unusedVariables false
set_option linter.unusedSimpArgs false
set_option maxRecDepth 20000

theorem free_range {v u d l g n : Int} (hc : OkC ⟨v, u, d, l, g⟩) (hn : Ok n) : IntKind.i64.wrap (v - n) = v - n := by
  obtain ⟨h1, _⟩ := hc
  unfold Ok at *
  simp only at *
  exact i64w (by omega) (by omega)
set_option maxHeartbeats 2000000 in
theorem rundo_any (v u d l g n : Int) (w : World) :
    Calls Try.prog 16 #[cA v u d l g, .int .i64 n] w fun e w' => e = .returned (rV (chC takeC ⟨v, u, d, l, g⟩ n)) ∧ Below w.heap.size w w' := by
  have hx := cx_two w v u d l g
  have hk := fun W => rfree_any v u d l g n W
  have hu := undo_free ⟨v, u, d, l, g⟩ n
  have hf := free_v ⟨v, u, d, l, g⟩ n
  simp only at hu hf
  by_cases h0 : (chC giveC ⟨v, u, d, l, g⟩ n).2 = 0
  · obtain ⟨hv, hc, hn⟩ := hf h0
    have b1 := free_range hc hn
    rw [if_pos h0] at hu
    clear hf hc hn
    rw [hu]
    clear hu
    generalize chC giveC ⟨v, u, d, l, g⟩ n = r at *
    obtain ⟨⟨x0, x1, x2, x3, x4⟩, x5⟩ := r
    simp only at h0 hv
    subst h0 hv
    replace hk := Lib.hid hk
    go_enter Try.func16, Try.ntmps16
    go_wp2_with (first
      | (go_at_call 17; refine (hk.out _).mono ?_; rintro e w1 ⟨rfl, hb1⟩; have hy1 := hx.2.later hb1; have hy2 := hy1.alloc (cRow x0 x1 x2 x3 x4); have hy3 := hy1.alloc (cRow (x0 - n) x1 x2 x3 x4); obtain ⟨d0, d1, d2, d3, d4⟩ := hy3.cells)
      | (refine store_cx rfl _ _ rfl (w.heap.size + 1) rfl rfl hy3.blk ?_; intro w5 hs5; have hy5 := hy3.self hs5 (by omega); obtain ⟨d0, d1, d2, d3, d4⟩ := hy5.cells))
    exact bodyPost_ret (v := rV (⟨x0 - n, x1, x2, x3, x4⟩, 0)) (by simp [results, Try.results16, go_sem, d0, d1, d2, d3, d4]) rfl ⟨rfl, hy5.bel⟩
  · rw [if_neg h0] at hu
    rw [hu]
    clear hu hf
    generalize chC giveC ⟨v, u, d, l, g⟩ n = r at *
    obtain ⟨⟨x0, x1, x2, x3, x4⟩, x5⟩ := r
    simp only at h0
    have b1 : (x5 == 0) = false := by simpa using h0
    replace hk := Lib.hid hk
    go_enter Try.func16, Try.ntmps16
    go_wp2_with (first
      | (go_at_call 17; refine (hk.out _).mono ?_; rintro e w1 ⟨rfl, hb1⟩; have hy1 := hx.2.later hb1; have hy2 := hy1.alloc (cRow x0 x1 x2 x3 x4))
      | (refine store_cx rfl _ _ rfl (w.heap.size + 1) rfl rfl hy2.blk ?_; intro w5 hs5; have hy5 := hy2.self hs5 (by omega); obtain ⟨d0, d1, d2, d3, d4⟩ := hy5.cells))
    exact bodyPost_ret (v := rV (⟨0, 0, 0, 0, 0⟩, x5)) (by simp [results, Try.results16, go_sem, d0, d1, d2, d3, d4]) rfl ⟨rfl, hy5.bel⟩
set_option maxHeartbeats 1000000 in
theorem rapp_1 (v u d l g n : Int) (w : World) :
    Calls Try.prog 19 #[cA v u d l g, .int .i64 1, .int .i64 n] w fun e w' => e = .returned (rV (chC addC ⟨v, u, d, l, g⟩ n)) ∧ Below w.heap.size w w' := by
  have hf := fun W => rdo_any v u d l g n W
  have hx := cx_two w v u d l g
  generalize chC addC ⟨v, u, d, l, g⟩ n = r at *
  obtain ⟨⟨x0, x1, x2, x3, x4⟩, x5⟩ := r
  replace hf := Lib.hid hf
  go_enter Try.func19, Try.ntmps19
  go_wp2_with (first
    | (go_at_call 15; refine (hf.out _).mono ?_; rintro e w2 ⟨rfl, hb2⟩; have hy2 := hx.2.later hb2)
    | (refine store_cx rfl _ _ rfl (w.heap.size + 1) rfl rfl hy2.blk ?_; intro w5 hs5; have hy5 := hy2.self hs5 (by omega); obtain ⟨d0, d1, d2, d3, d4⟩ := hy5.cells))
  exact bodyPost_ret (v := rV (⟨x0, x1, x2, x3, x4⟩, x5)) (by simp [results, Try.results19, go_sem, d0, d1, d2, d3, d4]) rfl ⟨rfl, hy5.bel⟩
set_option maxHeartbeats 1000000 in
theorem rapp_2 (v u d l g n : Int) (w : World) :
    Calls Try.prog 19 #[cA v u d l g, .int .i64 2, .int .i64 n] w fun e w' => e = .returned (rV (chC takeC ⟨v, u, d, l, g⟩ n)) ∧ Below w.heap.size w w' := by
  have hf := fun W => rundo_any v u d l g n W
  have hx := cx_two w v u d l g
  generalize chC takeC ⟨v, u, d, l, g⟩ n = r at *
  obtain ⟨⟨x0, x1, x2, x3, x4⟩, x5⟩ := r
  replace hf := Lib.hid hf
  go_enter Try.func19, Try.ntmps19
  go_wp2_with (first
    | (go_at_call 16; refine (hf.out _).mono ?_; rintro e w2 ⟨rfl, hb2⟩; have hy2 := hx.2.later hb2)
    | (refine store_cx rfl _ _ rfl (w.heap.size + 1) rfl rfl hy2.blk ?_; intro w5 hs5; have hy5 := hy2.self hs5 (by omega); obtain ⟨d0, d1, d2, d3, d4⟩ := hy5.cells))
  exact bodyPost_ret (v := rV (⟨x0, x1, x2, x3, x4⟩, x5)) (by simp [results, Try.results19, go_sem, d0, d1, d2, d3, d4]) rfl ⟨rfl, hy5.bel⟩
set_option maxHeartbeats 1000000 in
theorem rapp_3 (v u d l g n : Int) (w : World) :
    Calls Try.prog 19 #[cA v u d l g, .int .i64 3, .int .i64 n] w fun e w' => e = .returned (rV (chC giveC ⟨v, u, d, l, g⟩ n)) ∧ Below w.heap.size w w' := by
  have hf := fun W => rfree_any v u d l g n W
  have hx := cx_two w v u d l g
  generalize chC giveC ⟨v, u, d, l, g⟩ n = r at *
  obtain ⟨⟨x0, x1, x2, x3, x4⟩, x5⟩ := r
  replace hf := Lib.hid hf
  go_enter Try.func19, Try.ntmps19
  go_wp2_with (first
    | (go_at_call 17; refine (hf.out _).mono ?_; rintro e w2 ⟨rfl, hb2⟩; have hy2 := hx.2.later hb2)
    | (refine store_cx rfl _ _ rfl (w.heap.size + 1) rfl rfl hy2.blk ?_; intro w5 hs5; have hy5 := hy2.self hs5 (by omega); obtain ⟨d0, d1, d2, d3, d4⟩ := hy5.cells))
  exact bodyPost_ret (v := rV (⟨x0, x1, x2, x3, x4⟩, x5)) (by simp [results, Try.results19, go_sem, d0, d1, d2, d3, d4]) rfl ⟨rfl, hy5.bel⟩
set_option maxHeartbeats 1000000 in
theorem rapp_no (v u d l g p n : Int) (w : World) (h1 : p ≠ 1) (h2 : p ≠ 2) (h3 : p ≠ 3) :
    Calls Try.prog 19 #[cA v u d l g, .int .i64 p, .int .i64 n] w fun e w' => e = .returned (rV (zero, 2)) ∧ Below w.heap.size w w' := by
  have b1 : (p == 1) = false := by simpa using h1
  have b2 : (p == 2) = false := by simpa using h2
  have b3 : (p == 3) = false := by simpa using h3
  go_enter Try.func19, Try.ntmps19
  go_wp2
  refine bodyPost_ret (v := rV (⟨0, 0, 0, 0, 0⟩, 2)) (by simp [results, Try.results19, go_sem]) rfl ⟨rfl, ?_⟩
  go_grown
theorem rapply_any (v u d l g p n : Int) (w : World) :
    Calls Try.prog 19 #[cA v u d l g, .int .i64 p, .int .i64 n] w fun e w' => e = .returned (rV (appC ⟨v, u, d, l, g⟩ p n)) ∧ Below w.heap.size w w' := by
  unfold appC
  by_cases h1 : p = 1
  · subst h1; rw [if_pos rfl]; exact rapp_1 v u d l g n w
  · rw [if_neg h1]
    by_cases h2 : p = 2
    · subst h2; rw [if_pos rfl]; exact rapp_2 v u d l g n w
    · rw [if_neg h2]
      by_cases h3 : p = 3
      · subst h3; rw [if_pos rfl]; exact rapp_3 v u d l g n w
      · rw [if_neg h3]
        exact rapp_no v u d l g p n w h1 h2 h3
theorem rnew_any (v l g : Int) (w : World) :
    Calls Try.prog 30 #[.int .i64 v, .int .i64 l, .int .i64 g] w fun e w' => e = .returned (rV (newC v l g)) ∧ Below w.heap.size w w' := by
  unfold newC
  have hx := cx_pair w 0 0 0 0 0 v 0 0 l g
  by_cases hc : OkC ⟨v, 0, 0, l, g⟩
  · rw [okC_t hc]
    simp only [if_true]
    have hk := Lib.hid (fun W => rchk_ok hc W)
    clear hc
    go_enter Try.func30, Try.ntmps30
    go_wp2_with (first
      | (go_at_call 28; refine (hk.out _).mono ?_; rintro e w1 ⟨rfl, hb1⟩; have hy1 := hx.1.later hb1; have hx1 := hx.2.later hb1; obtain ⟨c0, c1, c2, c3, c4⟩ := hx1.cells)
      | (refine store_cx rfl _ _ rfl w.heap.size rfl rfl hy1.blk ?_; intro w5 hs5; have hy5 := hy1.self hs5 (by omega); obtain ⟨d0, d1, d2, d3, d4⟩ := hy5.cells))
    exact bodyPost_ret (v := rV (⟨v, 0, 0, l, g⟩, 0)) (by simp [results, Try.results30, go_sem, d0, d1, d2, d3, d4]) rfl ⟨rfl, hy5.bel⟩
  · rw [okC_f hc]
    have hk := Lib.hid (fun W => rchk_no hc W)
    clear hc
    go_enter Try.func30, Try.ntmps30
    go_wp2_with (first
      | (go_at_call 28; refine (hk.out _).mono ?_; rintro e w1 ⟨rfl, hb1⟩; have hy1 := hx.1.later hb1; have hx1 := hx.2.later hb1; obtain ⟨c0, c1, c2, c3, c4⟩ := hx1.cells)
      | (refine store_cx rfl _ _ rfl w.heap.size rfl rfl hy1.blk ?_; intro w5 hs5; have hy5 := hy1.self hs5 (by omega); obtain ⟨d0, d1, d2, d3, d4⟩ := hy5.cells))
    exact bodyPost_ret (v := rV (⟨0, 0, 0, 0, 0⟩, 2)) (by simp [results, Try.results30, go_sem, d0, d1, d2, d3, d4]) rfl ⟨rfl, hy5.bel⟩
set_option maxHeartbeats 2000000 in
theorem rroom3_any (v u d l g : Int) (w : World) :
    Calls Try.prog 22 #[cA v u d l g] w fun e w' => e = .returned (roomV ⟨v, u, d, l, g⟩) ∧ Below w.heap.size w w' := by
  unfold roomV
  have hx := cx_new w v u d l g
  by_cases hc : OkC ⟨v, u, d, l, g⟩
  · rw [okC_t hc]
    simp only [if_true]
    have hk := Lib.hid (fun W => rchk_ok hc W)
    obtain ⟨h1, h2, h3, h4, h5, h6, h7, h8, h9⟩ := hc
    unfold Ok at *
    simp only at *
    have b1 : IntKind.i64.wrap (g - v) = g - v := i64w (by omega) (by omega)
    have b2 : IntKind.i64.wrap (g - v - d) = g - v - d := i64w (by omega) (by omega)
    have b3 : IntKind.i64.wrap (1152921504606846976 - u) = 1152921504606846976 - u := i64w (by omega) (by omega)
    have b4 : IntKind.i64.wrap (v - u) = v - u := i64w (by omega) (by omega)
    have b5 : IntKind.i64.wrap (v - u - l) = v - u - l := i64w (by omega) (by omega)
    have b6 : IntKind.i64.wrap (1152921504606846976 - d) = 1152921504606846976 - d := i64w (by omega) (by omega)
    have m1 : ∀ (ts : Array TypeId) (t : TypeId) (W : World), (Builtin.min_ ts t #[.int .i64 (g - v - d), .int .i64 (1152921504606846976 - u)]).run Try.prog W = .ok (.int .i64 (roomN ⟨v, u, d, l, g⟩)) W := fun ts t W => by
      rw [run_min_int2]
      unfold roomN
      congr 2
      simp only
      split <;> omega
    have m2 : ∀ (ts : Array TypeId) (t : TypeId) (W : World), (Builtin.min_ ts t #[.int .i64 (v - u - l), .int .i64 (1152921504606846976 - d)]).run Try.prog W = .ok (.int .i64 (roomN (mirC ⟨v, u, d, l, g⟩))) W := fun ts t W => by
      rw [run_min_int2]
      unfold roomN mirC
      congr 2
      simp only
      split <;> omega
    generalize roomN ⟨v, u, d, l, g⟩ = m at *
    generalize roomN (mirC ⟨v, u, d, l, g⟩) = k at *
    clear h1 h2 h3 h4 h5 h6 h7 h8 h9
    go_enter Try.func22, Try.ntmps22
    go_wp2_with (first
      | (go_at_call 28; refine (hk.out _).mono ?_; rintro e w1 ⟨rfl, hb1⟩; have hx1 := hx.later hb1; obtain ⟨c0, c1, c2, c3, c4⟩ := hx1.cells))
    go_quiet (fail)
    go_wp2
    go_ret3
    exact ⟨rfl, below_drewN hx1.bel _⟩
  · rw [okC_f hc]
    have hk := Lib.hid (fun W => rchk_no hc W)
    clear hc
    go_enter Try.func22, Try.ntmps22
    go_wp2_with (first
      | (go_at_call 28; refine (hk.out _).mono ?_; rintro e w1 ⟨rfl, hb1⟩; have hx1 := hx.later hb1))
    go_ret3
    exact ⟨rfl, hx1.bel⟩
set_option maxHeartbeats 2000000 in
theorem rleast3_any (v u d l g : Int) (w : World) :
    Calls Try.prog 26 #[cA v u d l g] w fun e w' => e = .returned (leastV ⟨v, u, d, l, g⟩) ∧ Below w.heap.size w w' := by
  unfold leastV
  have hx := cx_new w v u d l g
  by_cases hc : OkC ⟨v, u, d, l, g⟩
  · rw [okC_t hc]
    simp only [if_true]
    have hk := Lib.hid (fun W => rchk_ok hc W)
    obtain ⟨h1, h2, h3, h4, h5, h6, h7, h8, h9⟩ := hc
    unfold Ok at *
    simp only at *
    have b1 : IntKind.i64.wrap (v - u) = v - u := i64w (by omega) (by omega)
    have b2 : IntKind.i64.wrap (v + d) = v + d := i64w (by omega) (by omega)
    clear h1 h2 h3 h4 h5 h6 h7 h8 h9
    go_enter Try.func26, Try.ntmps26
    go_wp2_with (first
      | (go_at_call 28; refine (hk.out _).mono ?_; rintro e w1 ⟨rfl, hb1⟩; have hx1 := hx.later hb1; obtain ⟨c0, c1, c2, c3, c4⟩ := hx1.cells))
    go_quiet (fail)
    go_wp2
    go_ret3
    exact ⟨rfl, below_drewN hx1.bel _⟩
  · rw [okC_f hc]
    have hk := Lib.hid (fun W => rchk_no hc W)
    clear hc
    go_enter Try.func26, Try.ntmps26
    go_wp2_with (first
      | (go_at_call 28; refine (hk.out _).mono ?_; rintro e w1 ⟨rfl, hb1⟩; have hx1 := hx.later hb1))
    go_ret3
    exact ⟨rfl, hx1.bel⟩
set_option maxHeartbeats 2000000 in
theorem rquiet_any (v u d l g : Int) (w : World) :
    Calls Try.prog 24 #[cA v u d l g] w fun e w' => e = .returned (quietV ⟨v, u, d, l, g⟩) ∧ Below w.heap.size w w' := by
  unfold quietV
  have hx := cx_new w v u d l g
  by_cases hc : OkC ⟨v, u, d, l, g⟩
  · rw [okC_t hc]
    simp only [if_true]
    have hk := Lib.hid (fun W => rchk_ok hc W)
    obtain ⟨h1, h2, h3, h4, h5, h6, h7, h8, h9⟩ := hc
    unfold Ok at *
    simp only at *
    have hq : quietB ⟨v, u, d, l, g⟩ = (decide (u = 0) && decide (d = 0)) := rfl
    replace hq := Lib.hid hq
    generalize quietB ⟨v, u, d, l, g⟩ = z at *
    clear h1 h2 h3 h4 h5 h6 h7 h8 h9
    go_enter Try.func24, Try.ntmps24
    go_wp2_with (first
      | (go_at_call 28; refine (hk.out _).mono ?_; rintro e w1 ⟨rfl, hb1⟩; have hx1 := hx.later hb1; obtain ⟨c0, c1, c2, c3, c4⟩ := hx1.cells))
    all_goals
      go_ret2
      refine ⟨?_, hx1.bel⟩
      rw [hq.out]
      first | (simp [*]; done) | (simp [*]; rfl)
  · rw [okC_f hc]
    have hk := Lib.hid (fun W => rchk_no hc W)
    clear hc
    go_enter Try.func24, Try.ntmps24
    go_wp2_with (first
      | (go_at_call 28; refine (hk.out _).mono ?_; rintro e w1 ⟨rfl, hb1⟩; have hx1 := hx.later hb1))
    go_ret2
    exact ⟨rfl, hx1.bel⟩
end Go.Proofs.Ytodgnhkaglcjnaa.Cnt
