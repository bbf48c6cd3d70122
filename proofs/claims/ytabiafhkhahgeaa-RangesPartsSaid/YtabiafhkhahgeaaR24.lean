/- The document's Meet and Less. -/
import Derived.Test.YtabiafhkhahgeaaR23
import Derived.Lib.MinMaxS
namespace Go.Proofs.Ytabiafhkhahgeaa.Rng
open Go.RowKit Go.Lib
set_option linter.unusedVariables false
set_option linter.unusedSimpArgs false
set_option maxRecDepth 100000

theorem maxS_later (x y : List UInt8) : maxS (tx x) (tx y) = tx (laterV x y) := by
  have h : (cmpE (-1) x y < 0) ↔ bl x y = true := by
    have := cfR_lt ⟨x, []⟩ ⟨y, []⟩
    unfold ltOf cfR at this
    simp only at this
    constructor
    · intro h; rw [← this]; simpa using h
    · intro h; rw [h] at this; simpa using this
  unfold maxS laterV
  rw [tx_list, tx_list]
  by_cases hxy : x < y
  · rw [if_pos hxy, if_pos (h.2 (by rw [bl_eq]; exact decide_eq_true hxy))]
  · rw [if_neg hxy, if_neg (fun k => by have := h.1 k; rw [bl_eq] at this; exact hxy (of_decide_eq_true this))]
theorem len_later {x y : List UInt8} {n : Nat} (hx : x.length ≤ n) (hy : y.length ≤ n) : (laterV x y).length ≤ n := by unfold laterV; split <;> assumption
theorem len_earlier {x y : List UInt8} {n : Nat} (hx : x.length ≤ n) (hy : y.length ≤ n) : (earlierV x y).length ≤ n := by unfold earlierV; split <;> assumption
theorem short_lens {r : Rg} (h : shortR r = true) : r.f.length ≤ 1000 ∧ r.t.length ≤ 1000 := by
  unfold shortR at h
  rw [Bool.and_eq_true, decide_eq_true_iff, decide_eq_true_iff] at h
  omega
set_option maxHeartbeats 4000000 in
theorem rmeet_no (a b : Rg) (s1 : shortR a = true) (s2 : shortR b = true) (h : okB a b = 0) (hz : okE (meetV a b) = 2) (w : World) :
    Calls Try.prog 22 #[.agg #[.string (tx a.f), .string (tx a.t)], .agg #[.string (tx b.f), .string (tx b.t)]] w fun e w' => e = .returned (.tuple #[.agg #[.string (tx []), .string (tx [])], .bool false, .int .i64 0]) ∧ Below w.heap.size w w' := by
  have hx := mt_new w (tx a.f) (tx a.t) (tx b.f) (tx b.t) ⟨#[]⟩ ⟨#[]⟩
  have hA := fun W => both_any a b s1 s2 W
  rw [h] at hA
  replace hA := Lib.hid hA
  obtain ⟨l1, l2⟩ := short_lens s1
  obtain ⟨l3, l4⟩ := short_lens s2
  obtain ⟨c0, c1, c2, c3, _⟩ := hx.cells
  have hM := Lib.hid (fun W => end_any a.t b.t W)
  have hmx : ∀ (ts : Array TypeId) (t : TypeId) (W : World), (Builtin.max_ ts t #[.string (tx a.f), .string (tx b.f)]).run Try.prog W = .ok (.string (tx (laterV a.f b.f))) W := fun ts t W => by rw [run_max_strs, maxS_later]
  have hC := fun W => ref_check (meetV a b) (len_later l1 l3) (len_earlier l2 l4) W
  rw [hz] at hC
  replace hC := Lib.hid (show ∀ W, Calls Try.prog 18 #[.agg #[.string (tx (laterV a.f b.f)), .string (tx (earlierV a.t b.t))]] W _ from hC)
  have hz := 0
  clear l1 l2 l3 l4 s1 s2
  have HE : Hid (∀ W, Mt w (tx a.f) (tx a.t) (tx b.f) (tx b.t) ⟨#[]⟩ ⟨#[]⟩ W → W.cell? ⟨w.heap.size, 0, none⟩ = some (.string (tx a.f)) ∧ W.cell? ⟨w.heap.size, 1, none⟩ = some (.string (tx a.t)) ∧ W.cell? ⟨w.heap.size + 1, 0, none⟩ = some (.string (tx b.f)) ∧ W.cell? ⟨w.heap.size + 1, 1, none⟩ = some (.string (tx b.t)) ∧ Mt w (tx a.f) (tx a.t) (tx b.f) (tx b.t) ⟨#[]⟩ ⟨#[]⟩ W) := fun W h => h.cells
  generalize tx a.f = s at *
  generalize tx a.t = t at *
  generalize tx b.f = u at *
  generalize tx b.t = v at *
  generalize tx (laterV a.f b.f) = x at *
  generalize tx (earlierV a.t b.t) = y at *
  go_enter Try.func22, Try.ntmps22
  go_wp2_with (go_at_call 41; refine (hA.out _).mono ?_; rintro e w1 ⟨rfl, hb1⟩; have hx2 := hx.later hb1)
  clear c0 c1 c2 c3 hx hb1 hA
  have hx2d := hx2.later (Below.refl _ _).drew
  refine wp_region_held_drew (S := (fun W => W.cell? ⟨w.heap.size, 0, none⟩ = some (.string s) ∧ W.cell? ⟨w.heap.size, 1, none⟩ = some (.string t) ∧ W.cell? ⟨w.heap.size + 1, 0, none⟩ = some (.string u) ∧ W.cell? ⟨w.heap.size + 1, 1, none⟩ = some (.string v) ∧ Mt w s t u v ⟨#[]⟩ ⟨#[]⟩ W)) (by kernel_rfl) (HE.out _ hx2d) (fun hS => ?_)
  try simp only [Act.put, List.setIfInBounds_toArray, List.set_cons_zero, List.set_cons_succ]
  refine wpAnyH_take (i := 0) (v := .pointer (some ⟨w.heap.size, 0, none⟩)) rfl (by kernel_rfl) (by kernel_rfl) (by kernel_rfl) (fun _ _ _ h => h) (Or.inl ⟨by kernel_rfl, by intro w' hSw; obtain ⟨s0, s1, s2, s3, s4⟩ := hSw; go_simp⟩) hS ?_
  try simp only [Act.put, List.setIfInBounds_toArray, List.set_cons_zero, List.set_cons_succ]
  refine wpAnyH_take (i := 1) (v := .string s) rfl (by kernel_rfl) (by kernel_rfl) (by kernel_rfl) (fun _ _ _ h => h) (Or.inl ⟨by kernel_rfl, by intro w' hSw; obtain ⟨s0, s1, s2, s3, s4⟩ := hSw; go_simp⟩) hS ?_
  try simp only [Act.put, List.setIfInBounds_toArray, List.set_cons_zero, List.set_cons_succ]
  refine wpAnyH_take (i := 2) (v := .pointer (some ⟨w.heap.size + 1, 0, none⟩)) rfl (by kernel_rfl) (by kernel_rfl) (by kernel_rfl) (fun _ _ _ h => h) (Or.inl ⟨by kernel_rfl, by intro w' hSw; obtain ⟨s0, s1, s2, s3, s4⟩ := hSw; go_simp⟩) hS ?_
  try simp only [Act.put, List.setIfInBounds_toArray, List.set_cons_zero, List.set_cons_succ]
  refine wpAnyH_take (i := 3) (v := .string u) rfl (by kernel_rfl) (by kernel_rfl) (by kernel_rfl) (fun _ _ _ h => h) (Or.inl ⟨by kernel_rfl, by intro w' hSw; obtain ⟨s0, s1, s2, s3, s4⟩ := hSw; go_simp⟩) hS ?_
  try simp only [Act.put, List.setIfInBounds_toArray, List.set_cons_zero, List.set_cons_succ]
  refine wpAnyH_take (i := 4) (v := .string x) rfl (by kernel_rfl) (by kernel_rfl) (by kernel_rfl) (fun _ _ _ h => h) (Or.inl ⟨by kernel_rfl, by intro w' hSw; obtain ⟨s0, s1, s2, s3, s4⟩ := hSw; go_simp⟩) hS ?_
  try simp only [Act.put, List.setIfInBounds_toArray, List.set_cons_zero, List.set_cons_succ]
  refine wpAnyH_take (i := 5) (v := .pointer (some ⟨w.heap.size, 1, none⟩)) rfl (by kernel_rfl) (by kernel_rfl) (by kernel_rfl) (fun _ _ _ h => h) (Or.inl ⟨by kernel_rfl, by intro w' hSw; obtain ⟨s0, s1, s2, s3, s4⟩ := hSw; go_simp⟩) hS ?_
  try simp only [Act.put, List.setIfInBounds_toArray, List.set_cons_zero, List.set_cons_succ]
  refine wpAnyH_take (i := 6) (v := .string t) rfl (by kernel_rfl) (by kernel_rfl) (by kernel_rfl) (fun _ _ _ h => h) (Or.inl ⟨by kernel_rfl, by intro w' hSw; obtain ⟨s0, s1, s2, s3, s4⟩ := hSw; go_simp⟩) hS ?_
  try simp only [Act.put, List.setIfInBounds_toArray, List.set_cons_zero, List.set_cons_succ]
  refine wpAnyH_take (i := 7) (v := .pointer (some ⟨w.heap.size + 1, 1, none⟩)) rfl (by kernel_rfl) (by kernel_rfl) (by kernel_rfl) (fun _ _ _ h => h) (Or.inl ⟨by kernel_rfl, by intro w' hSw; obtain ⟨s0, s1, s2, s3, s4⟩ := hSw; go_simp⟩) hS ?_
  try simp only [Act.put, List.setIfInBounds_toArray, List.set_cons_zero, List.set_cons_succ]
  refine wpAnyH_take (i := 8) (v := .string v) rfl (by kernel_rfl) (by kernel_rfl) (by kernel_rfl) (fun _ _ _ h => h) (Or.inl ⟨by kernel_rfl, by intro w' hSw; obtain ⟨s0, s1, s2, s3, s4⟩ := hSw; go_simp⟩) hS ?_
  try simp only [Act.put, List.setIfInBounds_toArray, List.set_cons_zero, List.set_cons_succ]
  generalize hwd : w1.drew = w2 at *
  clear hwd
  refine wpAnyH_ready (rs := [9, 11]) (by kernel_rfl) (by simp) ?_
  refine (AllReadyH.cons rfl (fun K hK => ?_) (AllReadyH.cons rfl (fun K hK => ?_) AllReadyH.nil))
  · go_simp
    go_at_call 42
    refine (hM.out _).mono ?_
    rintro e w' ⟨rfl, rfl⟩
    refine hK.out _ _ (HE.out _ hx2d) (fun hS => ?_)
    clear hK K
    try simp only [Act.put, List.setIfInBounds_toArray, List.set_cons_zero, List.set_cons_succ]
    refine wpAnyH_take (i := 10) (v := .agg #[.string x, .string y]) rfl (by kernel_rfl) (by kernel_rfl) (by kernel_rfl) (fun _ _ _ h => h) (Or.inl ⟨by kernel_rfl, by intro w' hSw; obtain ⟨s0, s1, s2, s3, s4⟩ := hSw; go_simp⟩) hS ?_
    try simp only [Act.put, List.setIfInBounds_toArray, List.set_cons_zero, List.set_cons_succ]
    refine wpAnyH_ready (rs := [11]) (by kernel_rfl) (by simp) ?_
    refine (AllReadyH.cons rfl (fun K hK => ?_) AllReadyH.nil)
    · go_simp
      have hx2dA := hx2d.later (alloc_b _ (.cells #[.string ⟨#[]⟩, .string ⟨#[]⟩] TR))
      have hbn := B2.new w2 ⟨#[]⟩ ⟨#[]⟩
      have hB : w.heap.size + 2 < w2.heap.size := hx2d.lt
      generalize hwq : w2.alloc (.cells #[.string ⟨#[]⟩, .string ⟨#[]⟩] TR) = wq at *
      generalize hBq : w2.heap.size = B at *
      clear hwq hBq
      refine hK.out _ _ (HE.out _ hx2dA) (fun hS => ?_)
      clear hK K
      try simp only [Act.put, List.setIfInBounds_toArray, List.set_cons_zero, List.set_cons_succ]
      refine wpAnyH_ready (rs := [12]) (by kernel_rfl) (by simp) ?_
      refine AllReadyH.cons rfl (fun K hK => ?_) AllReadyH.nil
      obtain ⟨d0, d1, f0, f1⟩ := hbn.cells
      go_simp
      have hy := Mt.store (x0 := x) (y0 := y) hx2dA hB (.string x) (.string y)
      have hz : B2 _ B x y := box_set hbn x y
      clear d0 d1 f0 f1
      refine hK.out _ _ (HE.out _ hy) (fun hS => ?_)
      clear hK K
      try simp only [Act.put, List.setIfInBounds_toArray, List.set_cons_zero, List.set_cons_succ]
      refine wpAnyH_done (by kernel_rfl) ?_ _
      clear hS
      obtain ⟨d0, d1, f0, f1⟩ := hz.cells
      generalize hwr : (World.setCell (World.setCell _ _ _) _ _) = wr at *
      clear hwr
      go_wp2_with (go_at_call 18; refine (hC.out _).mono ?_; rintro e w5 ⟨rfl, hb5⟩; have hv := hy.later hb5; obtain ⟨g0, g1, g2, g3⟩ := (B2.later hz hb5).cells; obtain ⟨k0, k1, k2, k3⟩ := (show B2 w5 (w.heap.size + 2) ⟨#[]⟩ ⟨#[]⟩ from hv.b2).cells)
      have hw := hv.res ⟨#[]⟩ ⟨#[]⟩
      obtain ⟨y0, y1, _, _⟩ := (show B2 _ (w.heap.size + 2) ⟨#[]⟩ ⟨#[]⟩ from hw.b2).cells
      refine bodyPost_ret (v := .tuple #[.agg #[.string ⟨#[]⟩, .string ⟨#[]⟩], .bool false, .int .i64 0]) (by simp [results, Try.results22, go_sem, y0, y1]) rfl ⟨rfl, hw.bel⟩
  · go_simp
    have hx2dA := hx2d.later (alloc_b _ (.cells #[.string ⟨#[]⟩, .string ⟨#[]⟩] TR))
    have hbn := B2.new w2 ⟨#[]⟩ ⟨#[]⟩
    have hB : w.heap.size + 2 < w2.heap.size := hx2d.lt
    generalize hwq : w2.alloc (.cells #[.string ⟨#[]⟩, .string ⟨#[]⟩] TR) = wq at *
    generalize hBq : w2.heap.size = B at *
    clear hwq hBq
    refine hK.out _ _ (HE.out _ hx2dA) (fun hS => ?_)
    clear hK K
    try simp only [Act.put, List.setIfInBounds_toArray, List.set_cons_zero, List.set_cons_succ]
    refine wpAnyH_ready (rs := [9]) (by kernel_rfl) (by simp) ?_
    refine (AllReadyH.cons rfl (fun K hK => ?_) AllReadyH.nil)
    · go_simp
      go_at_call 42
      refine (hM.out _).mono ?_
      rintro e w' ⟨rfl, rfl⟩
      refine hK.out _ _ (HE.out _ hx2dA) (fun hS => ?_)
      clear hK K
      try simp only [Act.put, List.setIfInBounds_toArray, List.set_cons_zero, List.set_cons_succ]
      refine wpAnyH_take (i := 10) (v := .agg #[.string x, .string y]) rfl (by kernel_rfl) (by kernel_rfl) (by kernel_rfl) (fun _ _ _ h => h) (Or.inl ⟨by kernel_rfl, by intro w' hSw; obtain ⟨s0, s1, s2, s3, s4⟩ := hSw; go_simp⟩) hS ?_
      try simp only [Act.put, List.setIfInBounds_toArray, List.set_cons_zero, List.set_cons_succ]
      refine wpAnyH_ready (rs := [12]) (by kernel_rfl) (by simp) ?_
      refine AllReadyH.cons rfl (fun K hK => ?_) AllReadyH.nil
      obtain ⟨d0, d1, f0, f1⟩ := hbn.cells
      go_simp
      have hy := Mt.store (x0 := x) (y0 := y) hx2dA hB (.string x) (.string y)
      have hz : B2 _ B x y := box_set hbn x y
      clear d0 d1 f0 f1
      refine hK.out _ _ (HE.out _ hy) (fun hS => ?_)
      clear hK K
      try simp only [Act.put, List.setIfInBounds_toArray, List.set_cons_zero, List.set_cons_succ]
      refine wpAnyH_done (by kernel_rfl) ?_ _
      clear hS
      obtain ⟨d0, d1, f0, f1⟩ := hz.cells
      generalize hwr : (World.setCell (World.setCell _ _ _) _ _) = wr at *
      clear hwr
      go_wp2_with (go_at_call 18; refine (hC.out _).mono ?_; rintro e w5 ⟨rfl, hb5⟩; have hv := hy.later hb5; obtain ⟨g0, g1, g2, g3⟩ := (B2.later hz hb5).cells; obtain ⟨k0, k1, k2, k3⟩ := (show B2 w5 (w.heap.size + 2) ⟨#[]⟩ ⟨#[]⟩ from hv.b2).cells)
      have hw := hv.res ⟨#[]⟩ ⟨#[]⟩
      obtain ⟨y0, y1, _, _⟩ := (show B2 _ (w.heap.size + 2) ⟨#[]⟩ ⟨#[]⟩ from hw.b2).cells
      refine bodyPost_ret (v := .tuple #[.agg #[.string ⟨#[]⟩, .string ⟨#[]⟩], .bool false, .int .i64 0]) (by simp [results, Try.results22, go_sem, y0, y1]) rfl ⟨rfl, hw.bel⟩
set_option maxHeartbeats 4000000 in
theorem rmeet_yes (a b : Rg) (s1 : shortR a = true) (s2 : shortR b = true) (h : okB a b = 0) (hz : okE (meetV a b) = 0) (w : World) :
    Calls Try.prog 22 #[.agg #[.string (tx a.f), .string (tx a.t)], .agg #[.string (tx b.f), .string (tx b.t)]] w fun e w' => e = .returned (.tuple #[.agg #[.string (tx (laterV a.f b.f)), .string (tx (earlierV a.t b.t))], .bool true, .int .i64 0]) ∧ Below w.heap.size w w' := by
  have hx := mt_new w (tx a.f) (tx a.t) (tx b.f) (tx b.t) ⟨#[]⟩ ⟨#[]⟩
  have hA := fun W => both_any a b s1 s2 W
  rw [h] at hA
  replace hA := Lib.hid hA
  obtain ⟨l1, l2⟩ := short_lens s1
  obtain ⟨l3, l4⟩ := short_lens s2
  obtain ⟨c0, c1, c2, c3, _⟩ := hx.cells
  have hM := Lib.hid (fun W => end_any a.t b.t W)
  have hmx : ∀ (ts : Array TypeId) (t : TypeId) (W : World), (Builtin.max_ ts t #[.string (tx a.f), .string (tx b.f)]).run Try.prog W = .ok (.string (tx (laterV a.f b.f))) W := fun ts t W => by rw [run_max_strs, maxS_later]
  have hC := fun W => ref_check (meetV a b) (len_later l1 l3) (len_earlier l2 l4) W
  rw [hz] at hC
  replace hC := Lib.hid (show ∀ W, Calls Try.prog 18 #[.agg #[.string (tx (laterV a.f b.f)), .string (tx (earlierV a.t b.t))]] W _ from hC)
  have hz := 0
  clear l1 l2 l3 l4 s1 s2
  have HE : Hid (∀ W, Mt w (tx a.f) (tx a.t) (tx b.f) (tx b.t) ⟨#[]⟩ ⟨#[]⟩ W → W.cell? ⟨w.heap.size, 0, none⟩ = some (.string (tx a.f)) ∧ W.cell? ⟨w.heap.size, 1, none⟩ = some (.string (tx a.t)) ∧ W.cell? ⟨w.heap.size + 1, 0, none⟩ = some (.string (tx b.f)) ∧ W.cell? ⟨w.heap.size + 1, 1, none⟩ = some (.string (tx b.t)) ∧ Mt w (tx a.f) (tx a.t) (tx b.f) (tx b.t) ⟨#[]⟩ ⟨#[]⟩ W) := fun W h => h.cells
  generalize tx a.f = s at *
  generalize tx a.t = t at *
  generalize tx b.f = u at *
  generalize tx b.t = v at *
  generalize tx (laterV a.f b.f) = x at *
  generalize tx (earlierV a.t b.t) = y at *
  go_enter Try.func22, Try.ntmps22
  go_wp2_with (go_at_call 41; refine (hA.out _).mono ?_; rintro e w1 ⟨rfl, hb1⟩; have hx2 := hx.later hb1)
  clear c0 c1 c2 c3 hx hb1 hA
  have hx2d := hx2.later (Below.refl _ _).drew
  refine wp_region_held_drew (S := (fun W => W.cell? ⟨w.heap.size, 0, none⟩ = some (.string s) ∧ W.cell? ⟨w.heap.size, 1, none⟩ = some (.string t) ∧ W.cell? ⟨w.heap.size + 1, 0, none⟩ = some (.string u) ∧ W.cell? ⟨w.heap.size + 1, 1, none⟩ = some (.string v) ∧ Mt w s t u v ⟨#[]⟩ ⟨#[]⟩ W)) (by kernel_rfl) (HE.out _ hx2d) (fun hS => ?_)
  try simp only [Act.put, List.setIfInBounds_toArray, List.set_cons_zero, List.set_cons_succ]
  refine wpAnyH_take (i := 0) (v := .pointer (some ⟨w.heap.size, 0, none⟩)) rfl (by kernel_rfl) (by kernel_rfl) (by kernel_rfl) (fun _ _ _ h => h) (Or.inl ⟨by kernel_rfl, by intro w' hSw; obtain ⟨s0, s1, s2, s3, s4⟩ := hSw; go_simp⟩) hS ?_
  try simp only [Act.put, List.setIfInBounds_toArray, List.set_cons_zero, List.set_cons_succ]
  refine wpAnyH_take (i := 1) (v := .string s) rfl (by kernel_rfl) (by kernel_rfl) (by kernel_rfl) (fun _ _ _ h => h) (Or.inl ⟨by kernel_rfl, by intro w' hSw; obtain ⟨s0, s1, s2, s3, s4⟩ := hSw; go_simp⟩) hS ?_
  try simp only [Act.put, List.setIfInBounds_toArray, List.set_cons_zero, List.set_cons_succ]
  refine wpAnyH_take (i := 2) (v := .pointer (some ⟨w.heap.size + 1, 0, none⟩)) rfl (by kernel_rfl) (by kernel_rfl) (by kernel_rfl) (fun _ _ _ h => h) (Or.inl ⟨by kernel_rfl, by intro w' hSw; obtain ⟨s0, s1, s2, s3, s4⟩ := hSw; go_simp⟩) hS ?_
  try simp only [Act.put, List.setIfInBounds_toArray, List.set_cons_zero, List.set_cons_succ]
  refine wpAnyH_take (i := 3) (v := .string u) rfl (by kernel_rfl) (by kernel_rfl) (by kernel_rfl) (fun _ _ _ h => h) (Or.inl ⟨by kernel_rfl, by intro w' hSw; obtain ⟨s0, s1, s2, s3, s4⟩ := hSw; go_simp⟩) hS ?_
  try simp only [Act.put, List.setIfInBounds_toArray, List.set_cons_zero, List.set_cons_succ]
  refine wpAnyH_take (i := 4) (v := .string x) rfl (by kernel_rfl) (by kernel_rfl) (by kernel_rfl) (fun _ _ _ h => h) (Or.inl ⟨by kernel_rfl, by intro w' hSw; obtain ⟨s0, s1, s2, s3, s4⟩ := hSw; go_simp⟩) hS ?_
  try simp only [Act.put, List.setIfInBounds_toArray, List.set_cons_zero, List.set_cons_succ]
  refine wpAnyH_take (i := 5) (v := .pointer (some ⟨w.heap.size, 1, none⟩)) rfl (by kernel_rfl) (by kernel_rfl) (by kernel_rfl) (fun _ _ _ h => h) (Or.inl ⟨by kernel_rfl, by intro w' hSw; obtain ⟨s0, s1, s2, s3, s4⟩ := hSw; go_simp⟩) hS ?_
  try simp only [Act.put, List.setIfInBounds_toArray, List.set_cons_zero, List.set_cons_succ]
  refine wpAnyH_take (i := 6) (v := .string t) rfl (by kernel_rfl) (by kernel_rfl) (by kernel_rfl) (fun _ _ _ h => h) (Or.inl ⟨by kernel_rfl, by intro w' hSw; obtain ⟨s0, s1, s2, s3, s4⟩ := hSw; go_simp⟩) hS ?_
  try simp only [Act.put, List.setIfInBounds_toArray, List.set_cons_zero, List.set_cons_succ]
  refine wpAnyH_take (i := 7) (v := .pointer (some ⟨w.heap.size + 1, 1, none⟩)) rfl (by kernel_rfl) (by kernel_rfl) (by kernel_rfl) (fun _ _ _ h => h) (Or.inl ⟨by kernel_rfl, by intro w' hSw; obtain ⟨s0, s1, s2, s3, s4⟩ := hSw; go_simp⟩) hS ?_
  try simp only [Act.put, List.setIfInBounds_toArray, List.set_cons_zero, List.set_cons_succ]
  refine wpAnyH_take (i := 8) (v := .string v) rfl (by kernel_rfl) (by kernel_rfl) (by kernel_rfl) (fun _ _ _ h => h) (Or.inl ⟨by kernel_rfl, by intro w' hSw; obtain ⟨s0, s1, s2, s3, s4⟩ := hSw; go_simp⟩) hS ?_
  try simp only [Act.put, List.setIfInBounds_toArray, List.set_cons_zero, List.set_cons_succ]
  generalize hwd : w1.drew = w2 at *
  clear hwd
  refine wpAnyH_ready (rs := [9, 11]) (by kernel_rfl) (by simp) ?_
  refine (AllReadyH.cons rfl (fun K hK => ?_) (AllReadyH.cons rfl (fun K hK => ?_) AllReadyH.nil))
  · go_simp
    go_at_call 42
    refine (hM.out _).mono ?_
    rintro e w' ⟨rfl, rfl⟩
    refine hK.out _ _ (HE.out _ hx2d) (fun hS => ?_)
    clear hK K
    try simp only [Act.put, List.setIfInBounds_toArray, List.set_cons_zero, List.set_cons_succ]
    refine wpAnyH_take (i := 10) (v := .agg #[.string x, .string y]) rfl (by kernel_rfl) (by kernel_rfl) (by kernel_rfl) (fun _ _ _ h => h) (Or.inl ⟨by kernel_rfl, by intro w' hSw; obtain ⟨s0, s1, s2, s3, s4⟩ := hSw; go_simp⟩) hS ?_
    try simp only [Act.put, List.setIfInBounds_toArray, List.set_cons_zero, List.set_cons_succ]
    refine wpAnyH_ready (rs := [11]) (by kernel_rfl) (by simp) ?_
    refine (AllReadyH.cons rfl (fun K hK => ?_) AllReadyH.nil)
    · go_simp
      have hx2dA := hx2d.later (alloc_b _ (.cells #[.string ⟨#[]⟩, .string ⟨#[]⟩] TR))
      have hbn := B2.new w2 ⟨#[]⟩ ⟨#[]⟩
      have hB : w.heap.size + 2 < w2.heap.size := hx2d.lt
      generalize hwq : w2.alloc (.cells #[.string ⟨#[]⟩, .string ⟨#[]⟩] TR) = wq at *
      generalize hBq : w2.heap.size = B at *
      clear hwq hBq
      refine hK.out _ _ (HE.out _ hx2dA) (fun hS => ?_)
      clear hK K
      try simp only [Act.put, List.setIfInBounds_toArray, List.set_cons_zero, List.set_cons_succ]
      refine wpAnyH_ready (rs := [12]) (by kernel_rfl) (by simp) ?_
      refine AllReadyH.cons rfl (fun K hK => ?_) AllReadyH.nil
      obtain ⟨d0, d1, f0, f1⟩ := hbn.cells
      go_simp
      have hy := Mt.store (x0 := x) (y0 := y) hx2dA hB (.string x) (.string y)
      have hz : B2 _ B x y := box_set hbn x y
      clear d0 d1 f0 f1
      refine hK.out _ _ (HE.out _ hy) (fun hS => ?_)
      clear hK K
      try simp only [Act.put, List.setIfInBounds_toArray, List.set_cons_zero, List.set_cons_succ]
      refine wpAnyH_done (by kernel_rfl) ?_ _
      clear hS
      obtain ⟨d0, d1, f0, f1⟩ := hz.cells
      generalize hwr : (World.setCell (World.setCell _ _ _) _ _) = wr at *
      clear hwr
      go_wp2_with (go_at_call 18; refine (hC.out _).mono ?_; rintro e w5 ⟨rfl, hb5⟩; have hv := hy.later hb5; obtain ⟨g0, g1, g2, g3⟩ := (B2.later hz hb5).cells; obtain ⟨k0, k1, k2, k3⟩ := (show B2 w5 (w.heap.size + 2) ⟨#[]⟩ ⟨#[]⟩ from hv.b2).cells)
      have hw := hv.res x y
      obtain ⟨y0, y1, _, _⟩ := (show B2 _ (w.heap.size + 2) x y from hw.b2).cells
      refine bodyPost_ret (v := .tuple #[.agg #[.string x, .string y], .bool true, .int .i64 0]) (by simp [results, Try.results22, go_sem, y0, y1]) rfl ⟨rfl, hw.bel⟩
  · go_simp
    have hx2dA := hx2d.later (alloc_b _ (.cells #[.string ⟨#[]⟩, .string ⟨#[]⟩] TR))
    have hbn := B2.new w2 ⟨#[]⟩ ⟨#[]⟩
    have hB : w.heap.size + 2 < w2.heap.size := hx2d.lt
    generalize hwq : w2.alloc (.cells #[.string ⟨#[]⟩, .string ⟨#[]⟩] TR) = wq at *
    generalize hBq : w2.heap.size = B at *
    clear hwq hBq
    refine hK.out _ _ (HE.out _ hx2dA) (fun hS => ?_)
    clear hK K
    try simp only [Act.put, List.setIfInBounds_toArray, List.set_cons_zero, List.set_cons_succ]
    refine wpAnyH_ready (rs := [9]) (by kernel_rfl) (by simp) ?_
    refine (AllReadyH.cons rfl (fun K hK => ?_) AllReadyH.nil)
    · go_simp
      go_at_call 42
      refine (hM.out _).mono ?_
      rintro e w' ⟨rfl, rfl⟩
      refine hK.out _ _ (HE.out _ hx2dA) (fun hS => ?_)
      clear hK K
      try simp only [Act.put, List.setIfInBounds_toArray, List.set_cons_zero, List.set_cons_succ]
      refine wpAnyH_take (i := 10) (v := .agg #[.string x, .string y]) rfl (by kernel_rfl) (by kernel_rfl) (by kernel_rfl) (fun _ _ _ h => h) (Or.inl ⟨by kernel_rfl, by intro w' hSw; obtain ⟨s0, s1, s2, s3, s4⟩ := hSw; go_simp⟩) hS ?_
      try simp only [Act.put, List.setIfInBounds_toArray, List.set_cons_zero, List.set_cons_succ]
      refine wpAnyH_ready (rs := [12]) (by kernel_rfl) (by simp) ?_
      refine AllReadyH.cons rfl (fun K hK => ?_) AllReadyH.nil
      obtain ⟨d0, d1, f0, f1⟩ := hbn.cells
      go_simp
      have hy := Mt.store (x0 := x) (y0 := y) hx2dA hB (.string x) (.string y)
      have hz : B2 _ B x y := box_set hbn x y
      clear d0 d1 f0 f1
      refine hK.out _ _ (HE.out _ hy) (fun hS => ?_)
      clear hK K
      try simp only [Act.put, List.setIfInBounds_toArray, List.set_cons_zero, List.set_cons_succ]
      refine wpAnyH_done (by kernel_rfl) ?_ _
      clear hS
      obtain ⟨d0, d1, f0, f1⟩ := hz.cells
      generalize hwr : (World.setCell (World.setCell _ _ _) _ _) = wr at *
      clear hwr
      go_wp2_with (go_at_call 18; refine (hC.out _).mono ?_; rintro e w5 ⟨rfl, hb5⟩; have hv := hy.later hb5; obtain ⟨g0, g1, g2, g3⟩ := (B2.later hz hb5).cells; obtain ⟨k0, k1, k2, k3⟩ := (show B2 w5 (w.heap.size + 2) ⟨#[]⟩ ⟨#[]⟩ from hv.b2).cells)
      have hw := hv.res x y
      obtain ⟨y0, y1, _, _⟩ := (show B2 _ (w.heap.size + 2) x y from hw.b2).cells
      refine bodyPost_ret (v := .tuple #[.agg #[.string x, .string y], .bool true, .int .i64 0]) (by simp [results, Try.results22, go_sem, y0, y1]) rfl ⟨rfl, hw.bel⟩
set_option maxHeartbeats 1000000 in
theorem rmeet_bad (a b : Rg) (s1 : shortR a = true) (s2 : shortR b = true) (h : okB a b = 2) (w : World) :
    Calls Try.prog 22 #[.agg #[.string (tx a.f), .string (tx a.t)], .agg #[.string (tx b.f), .string (tx b.t)]] w fun e w' => e = .returned (.tuple #[.agg #[.string (tx []), .string (tx [])], .bool false, .int .i64 2]) ∧ Below w.heap.size w w' := by
  have hx := mt_new w (tx a.f) (tx a.t) (tx b.f) (tx b.t) ⟨#[]⟩ ⟨#[]⟩
  have hA := fun W => both_any a b s1 s2 W
  rw [h] at hA
  replace hA := Lib.hid hA
  obtain ⟨l1, l2⟩ := short_lens s1
  obtain ⟨l3, l4⟩ := short_lens s2
  obtain ⟨c0, c1, c2, c3, _⟩ := hx.cells
  have HE : Hid (∀ W, Mt w (tx a.f) (tx a.t) (tx b.f) (tx b.t) ⟨#[]⟩ ⟨#[]⟩ W → W.cell? ⟨w.heap.size, 0, none⟩ = some (.string (tx a.f)) ∧ W.cell? ⟨w.heap.size, 1, none⟩ = some (.string (tx a.t)) ∧ W.cell? ⟨w.heap.size + 1, 0, none⟩ = some (.string (tx b.f)) ∧ W.cell? ⟨w.heap.size + 1, 1, none⟩ = some (.string (tx b.t)) ∧ Mt w (tx a.f) (tx a.t) (tx b.f) (tx b.t) ⟨#[]⟩ ⟨#[]⟩ W) := fun W h => h.cells
  generalize tx a.f = s at *
  generalize tx a.t = t at *
  generalize tx b.f = u at *
  generalize tx b.t = v at *
  go_enter Try.func22, Try.ntmps22
  go_wp2_with (go_at_call 41; refine (hA.out _).mono ?_; rintro e w1 ⟨rfl, hb1⟩; have hv := hx.later hb1; obtain ⟨k0, k1, k2, k3⟩ := (show B2 w1 (w.heap.size + 2) ⟨#[]⟩ ⟨#[]⟩ from hv.b2).cells)
  have hw := hv.res ⟨#[]⟩ ⟨#[]⟩
  obtain ⟨y0, y1, _, _⟩ := (show B2 _ (w.heap.size + 2) ⟨#[]⟩ ⟨#[]⟩ from hw.b2).cells
  refine bodyPost_ret (v := .tuple #[.agg #[.string ⟨#[]⟩, .string ⟨#[]⟩], .bool false, .int .i64 2]) (by simp [results, Try.results22, go_sem, y0, y1]) rfl ⟨rfl, hw.bel⟩
theorem rmeet_any (a b : Rg) (s1 : shortR a = true) (s2 : shortR b = true) (w : World) :
    Calls Try.prog 22 #[.agg #[.string (tx a.f), .string (tx a.t)], .agg #[.string (tx b.f), .string (tx b.t)]] w fun e w' => e = .returned (.tuple #[.agg #[.string (tx (meetR a b).1.f), .string (tx (meetR a b).1.t)], .bool (meetR a b).2.1, .int .i64 (meetR a b).2.2]) ∧ Below w.heap.size w w' := by
  unfold meetR
  cases h : (okR a && okR b) with
  | false => exact rmeet_bad a b s1 s2 (by unfold okB; rw [h]; rfl) w
  | true =>
    have h0 : okB a b = 0 := by unfold okB; rw [h]; rfl
    cases hm : okR (meetV a b) with
    | false => exact rmeet_no a b s1 s2 h0 (by unfold okE; rw [hm]; rfl) w
    | true => exact rmeet_yes a b s1 s2 h0 (by unfold okE; rw [hm]; rfl) w
set_option maxHeartbeats 1000000 in
theorem rless_any (a b : Rg) (s1 : shortR a = true) (s2 : shortR b = true) (w : World) :
    Calls Try.prog 27 #[.agg #[.string (tx a.f), .string (tx a.t)], .agg #[.string (tx b.f), .string (tx b.t)]] w fun e w' => e = .returned (.tuple #[.bool (lessR a b).1, .int .i64 (lessR a b).2]) ∧ Below w.heap.size w w' := by
  have hr := show lessR a b = if okR a && okR b then (!a.t.isEmpty && leB a.t b.f, 0) else (false, 2) from rfl
  have hA := fun W => both_any a b s1 s2 W
  unfold okB at hA
  have hx := tw_new w (tx a.f) (tx a.t) (tx b.f) (tx b.t)
  have b1 : (Op.bytesLess (tx a.t).toList (tx b.f).toList || (tx a.t).toList == (tx b.f).toList) = leB a.t b.f := by rw [tx_l, tx_l]; rfl
  have e1 : ((tx a.t).toList == []) = a.t.isEmpty := by rw [tx_l]; cases a.t <;> rfl
  have e1' : (tx a.t).toList.isEmpty = a.t.isEmpty := by rw [tx_l]
  clear s1 s2
  generalize lessR a b = c at *
  generalize (okR a && okR b) = z at *
  generalize a.t.isEmpty = ey at *
  generalize leB a.t b.f = z2 at *
  generalize tx a.f = s at *
  generalize tx a.t = t at *
  generalize tx b.f = u at *
  generalize tx b.t = v at *
  cases z
  · replace hA := Lib.hid (show ∀ W, Calls Try.prog 41 #[.agg #[.string s, .string t], .agg #[.string u, .string v]] W (fun e w' => e = .returned (.int .i64 2) ∧ Below W.heap.size W w') from hA)
    obtain rfl : c = (false, 2) := hr
    clear b1 e1 e1'
    go_enter Try.func27, Try.ntmps27
    go_wp2_with (go_at_call 41; refine (hA.out _).mono ?_; rintro e w1 ⟨rfl, hb1⟩; have hx1 := hx.later hb1)
    go_ret2
    exact ⟨rfl, hx1.bel⟩
  · replace hA := Lib.hid (show ∀ W, Calls Try.prog 41 #[.agg #[.string s, .string t], .agg #[.string u, .string v]] W (fun e w' => e = .returned (.int .i64 0) ∧ Below W.heap.size W w') from hA)
    obtain rfl : c = (!ey && z2, 0) := hr
    cases ey <;> cases z2
    all_goals
      go_enter Try.func27, Try.ntmps27
      go_wp2_with (go_at_call 41; refine (hA.out _).mono ?_; rintro e w1 ⟨rfl, hb1⟩; have hx1 := hx.later hb1; obtain ⟨d0, d1, d2, d3, _⟩ := hx1.cells)
      go_ret2
      exact ⟨rfl, hx1.bel⟩
end Go.Proofs.Ytabiafhkhahgeaa.Rng
