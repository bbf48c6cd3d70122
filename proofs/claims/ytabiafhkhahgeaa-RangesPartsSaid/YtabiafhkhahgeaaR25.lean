/- The document's Without. -/
import Derived.Test.YtabiafhkhahgeaaR24
namespace Go.Proofs.Ytabiafhkhahgeaa.Rng
open Go.RowKit Go.Lib
set_option linter.unusedVariables false
set_option linter.unusedSimpArgs false
set_option maxRecDepth 100000

/-- Where a walk is to stop. -/
def Stop (p : Prop) : Prop := p
theorem Stop.mk {p : Prop} (h : Stop p) : p := h
theorem le_not (x y : List UInt8) : (bl x y || x == y) = !bl y x := by
  have h := num_bl (x.length + y.length) x y (by omega) (by omega)
  have h' := num_bl (x.length + y.length) y x (by omega) (by omega)
  by_cases hxy : x = y
  · subst hxy; rw [bl_irrefl]; simp
  · have h2 : num (x.length + y.length) x ≠ num (x.length + y.length) y := fun e => hxy (h.2.2 e)
    have h3 : (x == y) = false := by simpa using hxy
    rw [h3, h.1, h'.1, Bool.or_false]
    by_cases c : num (x.length + y.length) x < num (x.length + y.length) y
    · rw [decide_eq_true c, decide_eq_false (by omega)]; rfl
    · rw [decide_eq_false c, decide_eq_true (by omega)]; rfl
theorem cmp_lo {x y : List UInt8} : decide (cmpE (-1) x y < 0) = bl x y := by
  have := cfR_lt ⟨x, []⟩ ⟨y, []⟩
  unfold ltOf cfR at this
  exact this
theorem cmp_hi {x y : List UInt8} : decide (cmpE 1 x y < 0) = (!x.isEmpty && (y.isEmpty || bl x y)) := by
  unfold cmpE cmpS
  by_cases h1 : x = y
  · subst h1
    rw [if_pos rfl, bl_irrefl]
    cases x <;> rfl
  · rw [if_neg h1]
    by_cases h2 : x = []
    · subst h2; rw [if_pos rfl]; rfl
    · rw [if_neg h2]
      have e2 : x.isEmpty = false := by cases x with | nil => exact absurd rfl h2 | cons => rfl
      by_cases h3 : y = []
      · subst h3; rw [if_pos rfl, e2]; rfl
      · have e3 : y.isEmpty = false := by cases y with | nil => exact absurd rfl h3 | cons => rfl
        rw [if_neg h3, e2, e3]
        cases hb : bl x y with
        | true => rfl
        | false =>
          have : (x == y) = false := by simpa using h1
          rw [this]; rfl
set_option maxHeartbeats 8000000 in
theorem rwithout_00 (a b : Rg) (s1 : shortR a = true) (s2 : shortR b = true) (h : okB a b = 0) (d1 : bl a.f b.f = false) (d2 : (!b.t.isEmpty && (a.t.isEmpty || bl b.t a.t)) = false) (w : World) :
    Calls Try.prog 24 #[.agg #[.string (tx a.f), .string (tx a.t)], .agg #[.string (tx b.f), .string (tx b.t)]] w (Gives w [] 0) := by
  have hx := tw_new w (tx a.f) (tx a.t) (tx b.f) (tx b.t)
  have hA := fun W => both_any a b s1 s2 W
  rw [h] at hA
  replace hA := Lib.hid hA
  obtain ⟨c0, c1, c2, c3, _⟩ := hx.cells
  have HE : Hid (∀ W, Tw w (tx a.f) (tx a.t) (tx b.f) (tx b.t) W → W.cell? ⟨w.heap.size, 0, none⟩ = some (.string (tx a.f)) ∧ W.cell? ⟨w.heap.size, 1, none⟩ = some (.string (tx a.t)) ∧ W.cell? ⟨w.heap.size + 1, 0, none⟩ = some (.string (tx b.f)) ∧ W.cell? ⟨w.heap.size + 1, 1, none⟩ = some (.string (tx b.t)) ∧ Tw w (tx a.f) (tx a.t) (tx b.f) (tx b.t) W) := fun W h => h.cells
  have hM := Lib.hid (fun W => end_any a.t b.f W)
  have hmx : ∀ (ts : Array TypeId) (t : TypeId) (W : World), (Builtin.max_ ts t #[.string (tx a.f), .string (tx b.t)]).run Try.prog W = .ok (.string (tx (laterV a.f b.t))) W := fun ts t W => by rw [run_max_strs, maxS_later]
  have f1 : (Op.bytesLess (tx b.f).toList (tx a.f).toList || (tx b.f).toList == (tx a.f).toList) = !bl a.f b.f := by rw [tx_l, tx_l]; exact le_not _ _
  have f2 : (Op.bytesLess (tx a.t).toList (tx b.t).toList || (tx a.t).toList == (tx b.t).toList) = !bl b.t a.t := by rw [tx_l, tx_l]; exact le_not _ _
  have e1 : ((tx b.f).toList == []) = b.f.isEmpty := by rw [tx_l]; cases b.f <;> rfl
  have e1' : (tx b.f).toList.isEmpty = b.f.isEmpty := by rw [tx_l]
  have e2 : ((tx b.t).toList == []) = b.t.isEmpty := by rw [tx_l]; cases b.t <;> rfl
  have e2' : (tx b.t).toList.isEmpty = b.t.isEmpty := by rw [tx_l]
  have e3 : ((tx a.t).toList == []) = a.t.isEmpty := by rw [tx_l]; cases a.t <;> rfl
  have e3' : (tx a.t).toList.isEmpty = a.t.isEmpty := by rw [tx_l]
  clear s1 s2
  rw [d1] at f1
  simp only [Bool.not_true, Bool.not_false] at f1
  clear d1
  generalize bl b.t a.t = q2 at *
  generalize b.f.isEmpty = y1 at *
  generalize b.t.isEmpty = y2 at *
  generalize a.t.isEmpty = y3 at *
  generalize hs : tx a.f = s at *
  generalize ht : tx a.t = t at *
  generalize hu : tx b.f = u at *
  generalize hv : tx b.t = v at *
  generalize hy : tx (earlierV a.t b.f) = y at *
  generalize hz : tx (laterV a.f b.t) = z at *
  replace hs := Lib.hid hs
  replace ht := Lib.hid ht
  replace hy := Lib.hid hy
  replace hz := Lib.hid hz
  clear hu hv
  cases y1 <;> cases y2 <;> cases y3 <;> cases q2 <;> try (exact absurd d2 (by decide))
  all_goals
    clear d2
    simp only [Bool.not_true, Bool.not_false] at f2
    go_enter Try.func24, Try.ntmps24
    go_wp2_with (go_at_call 41; refine (hA.out _).mono ?_; rintro e w1 ⟨rfl, hb1⟩; have hx2 := hx.later hb1; have o1 : Ow (w.heap.size + 2) [] (.slice none 0 0) w1 := Ow.nil _ _; obtain ⟨g0, g1, g2, g3, _⟩ := hx2.cells)
    go_ret2
    exact ⟨_, rfl, Ow.base (base := w.heap.size + 2) o1 (by omega), hx2.bel⟩
set_option maxHeartbeats 8000000 in
theorem rwithout_10 (a b : Rg) (s1 : shortR a = true) (s2 : shortR b = true) (h : okB a b = 0) (d1 : bl a.f b.f = true) (d2 : (!b.t.isEmpty && (a.t.isEmpty || bl b.t a.t)) = false) (w : World) :
    Calls Try.prog 24 #[.agg #[.string (tx a.f), .string (tx a.t)], .agg #[.string (tx b.f), .string (tx b.t)]] w (Gives w [⟨a.f, earlierV a.t b.f⟩] 0) := by
  have hx := tw_new w (tx a.f) (tx a.t) (tx b.f) (tx b.t)
  have hA := fun W => both_any a b s1 s2 W
  rw [h] at hA
  replace hA := Lib.hid hA
  obtain ⟨c0, c1, c2, c3, _⟩ := hx.cells
  have HE : Hid (∀ W, Tw w (tx a.f) (tx a.t) (tx b.f) (tx b.t) W → W.cell? ⟨w.heap.size, 0, none⟩ = some (.string (tx a.f)) ∧ W.cell? ⟨w.heap.size, 1, none⟩ = some (.string (tx a.t)) ∧ W.cell? ⟨w.heap.size + 1, 0, none⟩ = some (.string (tx b.f)) ∧ W.cell? ⟨w.heap.size + 1, 1, none⟩ = some (.string (tx b.t)) ∧ Tw w (tx a.f) (tx a.t) (tx b.f) (tx b.t) W) := fun W h => h.cells
  have hM := Lib.hid (fun W => end_any a.t b.f W)
  have hmx : ∀ (ts : Array TypeId) (t : TypeId) (W : World), (Builtin.max_ ts t #[.string (tx a.f), .string (tx b.t)]).run Try.prog W = .ok (.string (tx (laterV a.f b.t))) W := fun ts t W => by rw [run_max_strs, maxS_later]
  have f1 : (Op.bytesLess (tx b.f).toList (tx a.f).toList || (tx b.f).toList == (tx a.f).toList) = !bl a.f b.f := by rw [tx_l, tx_l]; exact le_not _ _
  have f2 : (Op.bytesLess (tx a.t).toList (tx b.t).toList || (tx a.t).toList == (tx b.t).toList) = !bl b.t a.t := by rw [tx_l, tx_l]; exact le_not _ _
  have e1 : ((tx b.f).toList == []) = b.f.isEmpty := by rw [tx_l]; cases b.f <;> rfl
  have e1' : (tx b.f).toList.isEmpty = b.f.isEmpty := by rw [tx_l]
  have e2 : ((tx b.t).toList == []) = b.t.isEmpty := by rw [tx_l]; cases b.t <;> rfl
  have e2' : (tx b.t).toList.isEmpty = b.t.isEmpty := by rw [tx_l]
  have e3 : ((tx a.t).toList == []) = a.t.isEmpty := by rw [tx_l]; cases a.t <;> rfl
  have e3' : (tx a.t).toList.isEmpty = a.t.isEmpty := by rw [tx_l]
  have z1 : b.f.isEmpty = false := by
    cases hb : b.f with
    | nil => rw [hb, bl_nil] at d1; cases d1
    | cons => rfl
  clear s1 s2
  rw [d1] at f1
  simp only [Bool.not_true, Bool.not_false] at f1
  clear d1
  generalize bl b.t a.t = q2 at *
  generalize b.f.isEmpty = y1 at *
  generalize b.t.isEmpty = y2 at *
  generalize a.t.isEmpty = y3 at *
  generalize hs : tx a.f = s at *
  generalize ht : tx a.t = t at *
  generalize hu : tx b.f = u at *
  generalize hv : tx b.t = v at *
  generalize hy : tx (earlierV a.t b.f) = y at *
  generalize hz : tx (laterV a.f b.t) = z at *
  replace hs := Lib.hid hs
  replace ht := Lib.hid ht
  replace hy := Lib.hid hy
  replace hz := Lib.hid hz
  clear hu hv
  obtain rfl := z1
  cases y2 <;> cases y3 <;> cases q2 <;> try (exact absurd d2 (by decide))
  all_goals
    clear d2
    simp only [Bool.not_true, Bool.not_false] at f2
    go_enter Try.func24, Try.ntmps24
    go_wp2_with (go_at_call 41; refine (hA.out _).mono ?_; rintro e w1 ⟨rfl, hb1⟩; have hx2 := hx.later hb1; have o1 : Ow (w.heap.size + 2) [] (.slice none 0 0) w1 := Ow.nil _ _; obtain ⟨g0, g1, g2, g3, _⟩ := hx2.cells)
    clear c0 c1 c2 c3 hx hb1 hA g0 g1 g2 g3
    have hx2d := hx2.later (Below.refl _ _).drew
    have o1d := Ow.later o1 (Below.refl _ _).drew
    refine wp_region_held_drew (S := (fun W => W.cell? ⟨w.heap.size, 0, none⟩ = some (.string s) ∧ W.cell? ⟨w.heap.size, 1, none⟩ = some (.string t) ∧ W.cell? ⟨w.heap.size + 1, 0, none⟩ = some (.string u) ∧ W.cell? ⟨w.heap.size + 1, 1, none⟩ = some (.string v) ∧ Tw w s t u v W)) (by kernel_rfl) (HE.out _ hx2d) (fun hS => ?_)
    try simp only [Act.put, List.setIfInBounds_toArray, List.set_cons_zero, List.set_cons_succ]
    generalize hwd : w1.drew = w2 at *
    clear hwd hx2 o1
    refine wpAnyH_take (i := 0) (v := .slice none 0 0) rfl (by kernel_rfl) (by kernel_rfl) (by kernel_rfl) (fun _ _ _ h => h) (Or.inl ⟨by kernel_rfl, by intro w' hSw; obtain ⟨s0, s1, s2, s3, s4⟩ := hSw; go_simp⟩) hS ?_
    try simp only [Act.put, List.setIfInBounds_toArray, List.set_cons_zero, List.set_cons_succ]
    refine wpAnyH_take (i := 1) (v := .pointer (some ⟨w.heap.size, 0, none⟩)) rfl (by kernel_rfl) (by kernel_rfl) (by kernel_rfl) (fun _ _ _ h => h) (Or.inl ⟨by kernel_rfl, by intro w' hSw; obtain ⟨s0, s1, s2, s3, s4⟩ := hSw; go_simp⟩) hS ?_
    try simp only [Act.put, List.setIfInBounds_toArray, List.set_cons_zero, List.set_cons_succ]
    refine wpAnyH_take (i := 2) (v := .string s) rfl (by kernel_rfl) (by kernel_rfl) (by kernel_rfl) (fun _ _ _ h => h) (Or.inl ⟨by kernel_rfl, by intro w' hSw; obtain ⟨s0, s1, s2, s3, s4⟩ := hSw; go_simp⟩) hS ?_
    try simp only [Act.put, List.setIfInBounds_toArray, List.set_cons_zero, List.set_cons_succ]
    refine wpAnyH_take (i := 3) (v := .pointer (some ⟨w.heap.size, 1, none⟩)) rfl (by kernel_rfl) (by kernel_rfl) (by kernel_rfl) (fun _ _ _ h => h) (Or.inl ⟨by kernel_rfl, by intro w' hSw; obtain ⟨s0, s1, s2, s3, s4⟩ := hSw; go_simp⟩) hS ?_
    try simp only [Act.put, List.setIfInBounds_toArray, List.set_cons_zero, List.set_cons_succ]
    refine wpAnyH_take (i := 4) (v := .string t) rfl (by kernel_rfl) (by kernel_rfl) (by kernel_rfl) (fun _ _ _ h => h) (Or.inl ⟨by kernel_rfl, by intro w' hSw; obtain ⟨s0, s1, s2, s3, s4⟩ := hSw; go_simp⟩) hS ?_
    try simp only [Act.put, List.setIfInBounds_toArray, List.set_cons_zero, List.set_cons_succ]
    refine wpAnyH_take (i := 5) (v := .pointer (some ⟨w.heap.size + 1, 0, none⟩)) rfl (by kernel_rfl) (by kernel_rfl) (by kernel_rfl) (fun _ _ _ h => h) (Or.inl ⟨by kernel_rfl, by intro w' hSw; obtain ⟨s0, s1, s2, s3, s4⟩ := hSw; go_simp⟩) hS ?_
    try simp only [Act.put, List.setIfInBounds_toArray, List.set_cons_zero, List.set_cons_succ]
    refine wpAnyH_take (i := 6) (v := .string u) rfl (by kernel_rfl) (by kernel_rfl) (by kernel_rfl) (fun _ _ _ h => h) (Or.inl ⟨by kernel_rfl, by intro w' hSw; obtain ⟨s0, s1, s2, s3, s4⟩ := hSw; go_simp⟩) hS ?_
    try simp only [Act.put, List.setIfInBounds_toArray, List.set_cons_zero, List.set_cons_succ]
    refine wpAnyH_ready (rs := [7]) (by kernel_rfl) (by simp) ?_
    refine AllReadyH.cons rfl (fun K hK => ?_) AllReadyH.nil
    go_simp
    go_at_call 42
    refine (hM.out _).mono ?_
    rintro e w' ⟨rfl, rfl⟩
    refine hK.out _ _ (HE.out _ hx2d) (fun hS => ?_)
    clear hK K
    try simp only [Act.put, List.setIfInBounds_toArray, List.set_cons_zero, List.set_cons_succ]
    refine wpAnyH_take (i := 8) (v := .agg #[.string s, .string y]) rfl (by kernel_rfl) (by kernel_rfl) (by kernel_rfl) (fun _ _ _ h => h) (Or.inl ⟨by kernel_rfl, by intro w' hSw; obtain ⟨s0, s1, s2, s3, s4⟩ := hSw; go_simp⟩) hS ?_
    try simp only [Act.put, List.setIfInBounds_toArray, List.set_cons_zero, List.set_cons_succ]
    refine wpAnyH_ready (rs := [9]) (by kernel_rfl) (by simp) ?_
    refine AllReadyH.cons rfl (fun K hK => ?_) AllReadyH.nil
    go_simp
    have h3b := hx2d.later (alloc_b _ (.cells #[.string s, .string y] TR))
    have o3b := Ow.later o1d (alloc_b _ (.cells #[.string s, .string y] TR))
    have k3 := (show B2 _ _ _ _ from B2.new w2 s y).cells
    generalize hwq : w2.alloc (.cells #[.string s, .string y] TR) = w3b at *
    generalize hBq : w2.heap.size = B3 at *
    clear hwq hBq
    refine hK.out _ _ (HE.out _ h3b) (fun hS => ?_)
    clear hK K
    try simp only [Act.put, List.setIfInBounds_toArray, List.set_cons_zero, List.set_cons_succ]
    refine wpAnyH_ready (rs := [10]) (by kernel_rfl) (by simp) ?_
    refine AllReadyH.cons rfl (fun K hK => ?_) AllReadyH.nil
    refine step_append_rg rfl _ _ rfl (w.heap.size + 2) (.slice none 0 0) ([] : List Rg) rfl o3b B3 1 ⟨a.f, earlierV a.t b.f⟩ rfl (by show _ = some (Value.string (tx a.f)); rw [hs.out]; exact k3.1) (by show _ = some (Value.string (tx (earlierV a.t b.f))); rw [hy.out]; exact k3.2.1) (by simp) (by have := h3b.lt; omega) ?_
    intro v3 w3c o3c hg3
    have h3c := Tw.grown h3b o3b hg3
    refine hK.out _ _ (HE.out _ h3c) (fun hS => ?_)
    clear hK K
    try simp only [Act.put, List.setIfInBounds_toArray, List.set_cons_zero, List.set_cons_succ]
    refine wpAnyH_ready (rs := [11]) (by kernel_rfl) (by simp) ?_
    refine AllReadyH.cons rfl (fun K hK => ?_) AllReadyH.nil
    go_simp
    refine hK.out _ _ hS (fun hS => ?_)
    clear hK K
    try simp only [Act.put, List.setIfInBounds_toArray, List.set_cons_zero, List.set_cons_succ]
    refine wpAnyH_done (by kernel_rfl) ?_ _
    clear hS
    clear k3 hg3 h3b o3b o1d hx2d
    obtain ⟨g0, g1, g2, g3, _⟩ := h3c.cells
    go_wp2
    go_ret2
    exact ⟨_, rfl, Ow.base (base := w.heap.size + 2) o3c (by omega), h3c.bel⟩
set_option maxHeartbeats 8000000 in
theorem rwithout_01 (a b : Rg) (s1 : shortR a = true) (s2 : shortR b = true) (h : okB a b = 0) (d1 : bl a.f b.f = false) (d2 : (!b.t.isEmpty && (a.t.isEmpty || bl b.t a.t)) = true) (w : World) :
    Calls Try.prog 24 #[.agg #[.string (tx a.f), .string (tx a.t)], .agg #[.string (tx b.f), .string (tx b.t)]] w (Gives w [⟨laterV a.f b.t, a.t⟩] 0) := by
  have hx := tw_new w (tx a.f) (tx a.t) (tx b.f) (tx b.t)
  have hA := fun W => both_any a b s1 s2 W
  rw [h] at hA
  replace hA := Lib.hid hA
  obtain ⟨c0, c1, c2, c3, _⟩ := hx.cells
  have HE : Hid (∀ W, Tw w (tx a.f) (tx a.t) (tx b.f) (tx b.t) W → W.cell? ⟨w.heap.size, 0, none⟩ = some (.string (tx a.f)) ∧ W.cell? ⟨w.heap.size, 1, none⟩ = some (.string (tx a.t)) ∧ W.cell? ⟨w.heap.size + 1, 0, none⟩ = some (.string (tx b.f)) ∧ W.cell? ⟨w.heap.size + 1, 1, none⟩ = some (.string (tx b.t)) ∧ Tw w (tx a.f) (tx a.t) (tx b.f) (tx b.t) W) := fun W h => h.cells
  have hM := Lib.hid (fun W => end_any a.t b.f W)
  have hmx : ∀ (ts : Array TypeId) (t : TypeId) (W : World), (Builtin.max_ ts t #[.string (tx a.f), .string (tx b.t)]).run Try.prog W = .ok (.string (tx (laterV a.f b.t))) W := fun ts t W => by rw [run_max_strs, maxS_later]
  have f1 : (Op.bytesLess (tx b.f).toList (tx a.f).toList || (tx b.f).toList == (tx a.f).toList) = !bl a.f b.f := by rw [tx_l, tx_l]; exact le_not _ _
  have f2 : (Op.bytesLess (tx a.t).toList (tx b.t).toList || (tx a.t).toList == (tx b.t).toList) = !bl b.t a.t := by rw [tx_l, tx_l]; exact le_not _ _
  have e1 : ((tx b.f).toList == []) = b.f.isEmpty := by rw [tx_l]; cases b.f <;> rfl
  have e1' : (tx b.f).toList.isEmpty = b.f.isEmpty := by rw [tx_l]
  have e2 : ((tx b.t).toList == []) = b.t.isEmpty := by rw [tx_l]; cases b.t <;> rfl
  have e2' : (tx b.t).toList.isEmpty = b.t.isEmpty := by rw [tx_l]
  have e3 : ((tx a.t).toList == []) = a.t.isEmpty := by rw [tx_l]; cases a.t <;> rfl
  have e3' : (tx a.t).toList.isEmpty = a.t.isEmpty := by rw [tx_l]
  clear s1 s2
  rw [d1] at f1
  simp only [Bool.not_true, Bool.not_false] at f1
  clear d1
  generalize bl b.t a.t = q2 at *
  generalize b.f.isEmpty = y1 at *
  generalize b.t.isEmpty = y2 at *
  generalize a.t.isEmpty = y3 at *
  generalize hs : tx a.f = s at *
  generalize ht : tx a.t = t at *
  generalize hu : tx b.f = u at *
  generalize hv : tx b.t = v at *
  generalize hy : tx (earlierV a.t b.f) = y at *
  generalize hz : tx (laterV a.f b.t) = z at *
  replace hs := Lib.hid hs
  replace ht := Lib.hid ht
  replace hy := Lib.hid hy
  replace hz := Lib.hid hz
  clear hu hv
  cases y1 <;> cases y2 <;> cases y3 <;> cases q2 <;> try (exact absurd d2 (by decide))
  all_goals
    clear d2
    simp only [Bool.not_true, Bool.not_false] at f2
    go_enter Try.func24, Try.ntmps24
    go_wp2_with (first | (go_at_call 41; refine (hA.out _).mono ?_; rintro e w1 ⟨rfl, hb1⟩; have hx2 := hx.later hb1; have o1 : Ow (w.heap.size + 2) [] (.slice none 0 0) w1 := Ow.nil _ _; obtain ⟨g0, g1, g2, g3, _⟩ := hx2.cells) | (at_builtin; refine Stop.mk ?_))
    unfold Stop
    have hnb := hx2.later (alloc_b _ (.cells #[.string z, .string t] TR))
    have onb := Ow.later o1 (alloc_b _ (.cells #[.string z, .string t] TR))
    have kk := (show B2 _ _ _ _ from B2.new w1 z t).cells
    refine wpList_append_rg rfl _ _ rfl (w.heap.size + 2) _ [] rfl onb w1.heap.size 1 ⟨laterV a.f b.t, a.t⟩ rfl (by show _ = some (Value.string (tx (laterV a.f b.t))); rw [hz.out]; exact kk.1) (by show _ = some (Value.string (tx a.t)); rw [ht.out]; exact kk.2.1) (by simp) hnb.lt ?_
    intro v7 w7 o7 hg7
    have h7 := Tw.grown hnb onb hg7
    clear hnb onb kk hg7
    go_wp2
    go_ret2
    exact ⟨_, rfl, Ow.base (base := w.heap.size + 2) o7 (by omega), h7.bel⟩
set_option maxHeartbeats 8000000 in
theorem rwithout_11 (a b : Rg) (s1 : shortR a = true) (s2 : shortR b = true) (h : okB a b = 0) (d1 : bl a.f b.f = true) (d2 : (!b.t.isEmpty && (a.t.isEmpty || bl b.t a.t)) = true) (w : World) :
    Calls Try.prog 24 #[.agg #[.string (tx a.f), .string (tx a.t)], .agg #[.string (tx b.f), .string (tx b.t)]] w (Gives w [⟨a.f, earlierV a.t b.f⟩, ⟨laterV a.f b.t, a.t⟩] 0) := by
  have hx := tw_new w (tx a.f) (tx a.t) (tx b.f) (tx b.t)
  have hA := fun W => both_any a b s1 s2 W
  rw [h] at hA
  replace hA := Lib.hid hA
  obtain ⟨c0, c1, c2, c3, _⟩ := hx.cells
  have HE : Hid (∀ W, Tw w (tx a.f) (tx a.t) (tx b.f) (tx b.t) W → W.cell? ⟨w.heap.size, 0, none⟩ = some (.string (tx a.f)) ∧ W.cell? ⟨w.heap.size, 1, none⟩ = some (.string (tx a.t)) ∧ W.cell? ⟨w.heap.size + 1, 0, none⟩ = some (.string (tx b.f)) ∧ W.cell? ⟨w.heap.size + 1, 1, none⟩ = some (.string (tx b.t)) ∧ Tw w (tx a.f) (tx a.t) (tx b.f) (tx b.t) W) := fun W h => h.cells
  have hM := Lib.hid (fun W => end_any a.t b.f W)
  have hmx : ∀ (ts : Array TypeId) (t : TypeId) (W : World), (Builtin.max_ ts t #[.string (tx a.f), .string (tx b.t)]).run Try.prog W = .ok (.string (tx (laterV a.f b.t))) W := fun ts t W => by rw [run_max_strs, maxS_later]
  have f1 : (Op.bytesLess (tx b.f).toList (tx a.f).toList || (tx b.f).toList == (tx a.f).toList) = !bl a.f b.f := by rw [tx_l, tx_l]; exact le_not _ _
  have f2 : (Op.bytesLess (tx a.t).toList (tx b.t).toList || (tx a.t).toList == (tx b.t).toList) = !bl b.t a.t := by rw [tx_l, tx_l]; exact le_not _ _
  have e1 : ((tx b.f).toList == []) = b.f.isEmpty := by rw [tx_l]; cases b.f <;> rfl
  have e1' : (tx b.f).toList.isEmpty = b.f.isEmpty := by rw [tx_l]
  have e2 : ((tx b.t).toList == []) = b.t.isEmpty := by rw [tx_l]; cases b.t <;> rfl
  have e2' : (tx b.t).toList.isEmpty = b.t.isEmpty := by rw [tx_l]
  have e3 : ((tx a.t).toList == []) = a.t.isEmpty := by rw [tx_l]; cases a.t <;> rfl
  have e3' : (tx a.t).toList.isEmpty = a.t.isEmpty := by rw [tx_l]
  have z1 : b.f.isEmpty = false := by
    cases hb : b.f with
    | nil => rw [hb, bl_nil] at d1; cases d1
    | cons => rfl
  clear s1 s2
  rw [d1] at f1
  simp only [Bool.not_true, Bool.not_false] at f1
  clear d1
  generalize bl b.t a.t = q2 at *
  generalize b.f.isEmpty = y1 at *
  generalize b.t.isEmpty = y2 at *
  generalize a.t.isEmpty = y3 at *
  generalize hs : tx a.f = s at *
  generalize ht : tx a.t = t at *
  generalize hu : tx b.f = u at *
  generalize hv : tx b.t = v at *
  generalize hy : tx (earlierV a.t b.f) = y at *
  generalize hz : tx (laterV a.f b.t) = z at *
  replace hs := Lib.hid hs
  replace ht := Lib.hid ht
  replace hy := Lib.hid hy
  replace hz := Lib.hid hz
  clear hu hv
  obtain rfl := z1
  cases y2 <;> cases y3 <;> cases q2 <;> try (exact absurd d2 (by decide))
  all_goals
    clear d2
    simp only [Bool.not_true, Bool.not_false] at f2
    go_enter Try.func24, Try.ntmps24
    go_wp2_with (go_at_call 41; refine (hA.out _).mono ?_; rintro e w1 ⟨rfl, hb1⟩; have hx2 := hx.later hb1; have o1 : Ow (w.heap.size + 2) [] (.slice none 0 0) w1 := Ow.nil _ _; obtain ⟨g0, g1, g2, g3, _⟩ := hx2.cells)
    clear c0 c1 c2 c3 hx hb1 hA g0 g1 g2 g3
    have hx2d := hx2.later (Below.refl _ _).drew
    have o1d := Ow.later o1 (Below.refl _ _).drew
    refine wp_region_held_drew (S := (fun W => W.cell? ⟨w.heap.size, 0, none⟩ = some (.string s) ∧ W.cell? ⟨w.heap.size, 1, none⟩ = some (.string t) ∧ W.cell? ⟨w.heap.size + 1, 0, none⟩ = some (.string u) ∧ W.cell? ⟨w.heap.size + 1, 1, none⟩ = some (.string v) ∧ Tw w s t u v W)) (by kernel_rfl) (HE.out _ hx2d) (fun hS => ?_)
    try simp only [Act.put, List.setIfInBounds_toArray, List.set_cons_zero, List.set_cons_succ]
    generalize hwd : w1.drew = w2 at *
    clear hwd hx2 o1
    refine wpAnyH_take (i := 0) (v := .slice none 0 0) rfl (by kernel_rfl) (by kernel_rfl) (by kernel_rfl) (fun _ _ _ h => h) (Or.inl ⟨by kernel_rfl, by intro w' hSw; obtain ⟨s0, s1, s2, s3, s4⟩ := hSw; go_simp⟩) hS ?_
    try simp only [Act.put, List.setIfInBounds_toArray, List.set_cons_zero, List.set_cons_succ]
    refine wpAnyH_take (i := 1) (v := .pointer (some ⟨w.heap.size, 0, none⟩)) rfl (by kernel_rfl) (by kernel_rfl) (by kernel_rfl) (fun _ _ _ h => h) (Or.inl ⟨by kernel_rfl, by intro w' hSw; obtain ⟨s0, s1, s2, s3, s4⟩ := hSw; go_simp⟩) hS ?_
    try simp only [Act.put, List.setIfInBounds_toArray, List.set_cons_zero, List.set_cons_succ]
    refine wpAnyH_take (i := 2) (v := .string s) rfl (by kernel_rfl) (by kernel_rfl) (by kernel_rfl) (fun _ _ _ h => h) (Or.inl ⟨by kernel_rfl, by intro w' hSw; obtain ⟨s0, s1, s2, s3, s4⟩ := hSw; go_simp⟩) hS ?_
    try simp only [Act.put, List.setIfInBounds_toArray, List.set_cons_zero, List.set_cons_succ]
    refine wpAnyH_take (i := 3) (v := .pointer (some ⟨w.heap.size, 1, none⟩)) rfl (by kernel_rfl) (by kernel_rfl) (by kernel_rfl) (fun _ _ _ h => h) (Or.inl ⟨by kernel_rfl, by intro w' hSw; obtain ⟨s0, s1, s2, s3, s4⟩ := hSw; go_simp⟩) hS ?_
    try simp only [Act.put, List.setIfInBounds_toArray, List.set_cons_zero, List.set_cons_succ]
    refine wpAnyH_take (i := 4) (v := .string t) rfl (by kernel_rfl) (by kernel_rfl) (by kernel_rfl) (fun _ _ _ h => h) (Or.inl ⟨by kernel_rfl, by intro w' hSw; obtain ⟨s0, s1, s2, s3, s4⟩ := hSw; go_simp⟩) hS ?_
    try simp only [Act.put, List.setIfInBounds_toArray, List.set_cons_zero, List.set_cons_succ]
    refine wpAnyH_take (i := 5) (v := .pointer (some ⟨w.heap.size + 1, 0, none⟩)) rfl (by kernel_rfl) (by kernel_rfl) (by kernel_rfl) (fun _ _ _ h => h) (Or.inl ⟨by kernel_rfl, by intro w' hSw; obtain ⟨s0, s1, s2, s3, s4⟩ := hSw; go_simp⟩) hS ?_
    try simp only [Act.put, List.setIfInBounds_toArray, List.set_cons_zero, List.set_cons_succ]
    refine wpAnyH_take (i := 6) (v := .string u) rfl (by kernel_rfl) (by kernel_rfl) (by kernel_rfl) (fun _ _ _ h => h) (Or.inl ⟨by kernel_rfl, by intro w' hSw; obtain ⟨s0, s1, s2, s3, s4⟩ := hSw; go_simp⟩) hS ?_
    try simp only [Act.put, List.setIfInBounds_toArray, List.set_cons_zero, List.set_cons_succ]
    refine wpAnyH_ready (rs := [7]) (by kernel_rfl) (by simp) ?_
    refine AllReadyH.cons rfl (fun K hK => ?_) AllReadyH.nil
    go_simp
    go_at_call 42
    refine (hM.out _).mono ?_
    rintro e w' ⟨rfl, rfl⟩
    refine hK.out _ _ (HE.out _ hx2d) (fun hS => ?_)
    clear hK K
    try simp only [Act.put, List.setIfInBounds_toArray, List.set_cons_zero, List.set_cons_succ]
    refine wpAnyH_take (i := 8) (v := .agg #[.string s, .string y]) rfl (by kernel_rfl) (by kernel_rfl) (by kernel_rfl) (fun _ _ _ h => h) (Or.inl ⟨by kernel_rfl, by intro w' hSw; obtain ⟨s0, s1, s2, s3, s4⟩ := hSw; go_simp⟩) hS ?_
    try simp only [Act.put, List.setIfInBounds_toArray, List.set_cons_zero, List.set_cons_succ]
    refine wpAnyH_ready (rs := [9]) (by kernel_rfl) (by simp) ?_
    refine AllReadyH.cons rfl (fun K hK => ?_) AllReadyH.nil
    go_simp
    have h3b := hx2d.later (alloc_b _ (.cells #[.string s, .string y] TR))
    have o3b := Ow.later o1d (alloc_b _ (.cells #[.string s, .string y] TR))
    have k3 := (show B2 _ _ _ _ from B2.new w2 s y).cells
    generalize hwq : w2.alloc (.cells #[.string s, .string y] TR) = w3b at *
    generalize hBq : w2.heap.size = B3 at *
    clear hwq hBq
    refine hK.out _ _ (HE.out _ h3b) (fun hS => ?_)
    clear hK K
    try simp only [Act.put, List.setIfInBounds_toArray, List.set_cons_zero, List.set_cons_succ]
    refine wpAnyH_ready (rs := [10]) (by kernel_rfl) (by simp) ?_
    refine AllReadyH.cons rfl (fun K hK => ?_) AllReadyH.nil
    refine step_append_rg rfl _ _ rfl (w.heap.size + 2) (.slice none 0 0) ([] : List Rg) rfl o3b B3 1 ⟨a.f, earlierV a.t b.f⟩ rfl (by show _ = some (Value.string (tx a.f)); rw [hs.out]; exact k3.1) (by show _ = some (Value.string (tx (earlierV a.t b.f))); rw [hy.out]; exact k3.2.1) (by simp) (by have := h3b.lt; omega) ?_
    intro v3 w3c o3c hg3
    have h3c := Tw.grown h3b o3b hg3
    refine hK.out _ _ (HE.out _ h3c) (fun hS => ?_)
    clear hK K
    try simp only [Act.put, List.setIfInBounds_toArray, List.set_cons_zero, List.set_cons_succ]
    refine wpAnyH_ready (rs := [11]) (by kernel_rfl) (by simp) ?_
    refine AllReadyH.cons rfl (fun K hK => ?_) AllReadyH.nil
    go_simp
    refine hK.out _ _ hS (fun hS => ?_)
    clear hK K
    try simp only [Act.put, List.setIfInBounds_toArray, List.set_cons_zero, List.set_cons_succ]
    refine wpAnyH_done (by kernel_rfl) ?_ _
    clear hS
    clear k3 hg3 h3b o3b o1d hx2d
    obtain ⟨g0, g1, g2, g3, _⟩ := h3c.cells
    go_wp2_with (at_builtin; refine Stop.mk ?_)
    unfold Stop
    have hnb := h3c.later (alloc_b _ (.cells #[.string z, .string t] TR))
    have onb := Ow.later o3c (alloc_b _ (.cells #[.string z, .string t] TR))
    have kk := (show B2 _ _ _ _ from B2.new w3c z t).cells
    refine wpList_append_rg rfl _ _ rfl (w.heap.size + 2) _ [⟨a.f, earlierV a.t b.f⟩] rfl onb w3c.heap.size 1 ⟨laterV a.f b.t, a.t⟩ rfl (by show _ = some (Value.string (tx (laterV a.f b.t))); rw [hz.out]; exact kk.1) (by show _ = some (Value.string (tx a.t)); rw [ht.out]; exact kk.2.1) (by simp) hnb.lt ?_
    intro v7 w7 o7 hg7
    have h7 := Tw.grown hnb onb hg7
    clear hnb onb kk hg7
    go_wp2
    go_ret2
    exact ⟨_, rfl, Ow.base (base := w.heap.size + 2) o7 (by omega), h7.bel⟩
set_option maxHeartbeats 1000000 in
theorem rwithout_bad (a b : Rg) (s1 : shortR a = true) (s2 : shortR b = true) (h : okB a b = 2) (w : World) :
    Calls Try.prog 24 #[.agg #[.string (tx a.f), .string (tx a.t)], .agg #[.string (tx b.f), .string (tx b.t)]] w (Gives w [] 2) := by
  have hx := tw_new w (tx a.f) (tx a.t) (tx b.f) (tx b.t)
  have hA := fun W => both_any a b s1 s2 W
  rw [h] at hA
  replace hA := Lib.hid hA
  obtain ⟨c0, c1, c2, c3, _⟩ := hx.cells
  generalize tx a.f = s at *
  generalize tx a.t = t at *
  generalize tx b.f = u at *
  generalize tx b.t = v at *
  go_enter Try.func24, Try.ntmps24
  go_wp2_with (go_at_call 41; refine (hA.out _).mono ?_; rintro e w1 ⟨rfl, hb1⟩; have hx2 := hx.later hb1)
  go_ret2
  exact ⟨_, rfl, Ow.nil _ _, hx2.bel⟩
theorem rwithout_any (a b : Rg) (s1 : shortR a = true) (s2 : shortR b = true) (w : World) :
    Calls Try.prog 24 #[.agg #[.string (tx a.f), .string (tx a.t)], .agg #[.string (tx b.f), .string (tx b.t)]] w (Gives w (withR a b).1 (withR a b).2) := by
  unfold withR wo1 wo2
  cases h : (okR a && okR b) with
  | false => exact rwithout_bad a b s1 s2 (by unfold okB; rw [h]; rfl) w
  | true =>
    have h0 : okB a b = 0 := by unfold okB; rw [h]; rfl
    have d1 := cmp_lo (x := a.f) (y := b.f)
    have d2 := cmp_hi (x := b.t) (y := a.t)
    by_cases h1 : cmpE (-1) a.f b.f < 0 <;> by_cases h2 : cmpE 1 b.t a.t < 0
    · rw [if_pos h1, if_pos h2]; rw [decide_eq_true h1] at d1; rw [decide_eq_true h2] at d2; exact rwithout_11 a b s1 s2 h0 d1.symm d2.symm w
    · rw [if_pos h1, if_neg h2]; rw [decide_eq_true h1] at d1; rw [decide_eq_false h2] at d2; exact rwithout_10 a b s1 s2 h0 d1.symm d2.symm w
    · rw [if_neg h1, if_pos h2]; rw [decide_eq_false h1] at d1; rw [decide_eq_true h2] at d2; exact rwithout_01 a b s1 s2 h0 d1.symm d2.symm w
    · rw [if_neg h1, if_neg h2]; rw [decide_eq_false h1] at d1; rw [decide_eq_false h2] at d2; exact rwithout_00 a b s1 s2 h0 d1.symm d2.symm w
end Go.Proofs.Ytabiafhkhahgeaa.Rng
