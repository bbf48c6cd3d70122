/- Meet, Less, Inside. -/
import Derived.Test.YtocencmdfppkaaaR06
import Derived.Handy
import Derived.Outline
namespace Go.Proofs.Ytocencmdfppkaaa.Rng
open Go.RowKit Go.Lib
set_option linter.unusedVariables false
set_option linter.unusedSimpArgs false
set_option maxRecDepth 20000

/-- Three boxes: two ranges, and a result. -/
structure Mt (w : World) (s t u v x y : ByteArray) (w' : World) : Prop where
  b0 : w'.heap[w.heap.size]? = some (.cells #[.string s, .string t] TR (0, 0))
  b1 : w'.heap[w.heap.size + 1]? = some (.cells #[.string u, .string v] TR (0, 0))
  b2 : w'.heap[w.heap.size + 2]? = some (.cells #[.string x, .string y] TR (0, 0))
  bel : Below w.heap.size w w'
theorem Mt.lt {w w' : World} {s t u v x y : ByteArray} (h : Mt w s t u v x y w') : w.heap.size + 2 < w'.heap.size := (Array.getElem?_eq_some_iff.1 h.b2).1
theorem Mt.later {w w' w2 : World} {s t u v x y : ByteArray} (h : Mt w s t u v x y w') (hb : Below w'.heap.size w' w2) : Mt w s t u v x y w2 := by
  have := h.lt
  exact ⟨(hb.block _ (by omega)).trans h.b0, (hb.block _ (by omega)).trans h.b1, (hb.block _ (by omega)).trans h.b2, h.bel.trans (hb.mono h.bel.size)⟩
theorem Mt.cells {w w' : World} {s t u v x y : ByteArray} (h : Mt w s t u v x y w') :
    w'.cell? ⟨w.heap.size, 0, none⟩ = some (.string s) ∧ w'.cell? ⟨w.heap.size, 1, none⟩ = some (.string t) ∧ w'.cell? ⟨w.heap.size + 1, 0, none⟩ = some (.string u) ∧ w'.cell? ⟨w.heap.size + 1, 1, none⟩ = some (.string v) ∧ Mt w s t u v x y w' :=
  ⟨cell_of_row w' _ 0 _ TR _ h.b0, cell_of_row w' _ 1 _ TR _ h.b0, cell_of_row w' _ 0 _ TR _ h.b1, cell_of_row w' _ 1 _ TR _ h.b1, h⟩
theorem mt_new (w : World) (s t u v x y : ByteArray) : Mt w s t u v x y (((w.alloc (.cells #[.string s, .string t] TR)).alloc (.cells #[.string u, .string v] TR)).alloc (.cells #[.string x, .string y] TR)) := by
  refine ⟨?_, ?_, ?_, (((Below.refl _ _).alloc (Nat.le_refl _) _).alloc (by simp) _).alloc (by simp; omega) _⟩
  · rw [heap_alloc_old _ _ (by simp; omega), heap_alloc_old _ _ (by simp)]; exact heap_alloc_new _ _
  · rw [heap_alloc_old _ _ (by simp)]
    have := heap_alloc_new (w.alloc (.cells #[.string s, .string t] TR)) (.cells #[.string u, .string v] TR)
    simpa using this
  · have := heap_alloc_new ((w.alloc (.cells #[.string s, .string t] TR)).alloc (.cells #[.string u, .string v] TR)) (.cells #[.string x, .string y] TR)
    simpa using this
theorem two_rs (w : World) (q : Nat) (a b : Rg) (h : w.heap[q]? = some (.cells #[.string (tx a.f), .string (tx a.t), .string (tx b.f), .string (tx b.t)] TR (0, 0))) :
    Rs w (.slice (some ⟨q, 0, none⟩) 2 2) [a, b] := by
  refine ⟨_, 2, rfl, fun _ => ⟨q, 0, rfl, fun i r hr => ?_⟩⟩
  match i, hr with
  | 0, hr =>
    cases hr
    exact ⟨cell_of_row w q 0 _ TR _ h, cell_of_row w q 1 _ TR _ h⟩
  | 1, hr =>
    cases hr
    exact ⟨cell_of_row w q 2 _ TR _ h, cell_of_row w q 3 _ TR _ h⟩
  | n + 2, hr => simp at hr

theorem blk_set {w : World} {g : Nat} {cs : Array Value} {e : TypeId} (h : w.heap[g]? = some (.cells cs e (0, 0))) (i : Nat) (u : Value) : (w.setCell ⟨g, i, none⟩ u).heap[g]? = some (.cells (cs.setIfInBounds i u) e (0, 0)) := by
  simp [World.setCell, Array.getElem?_modify, h]
theorem blk_frozen {w : World} {g : Nat} {cs : Array Value} {e : TypeId} (h : w.heap[g]? = some (.cells cs e (0, 0))) (i : Nat) : w.frozen? ⟨g, i, none⟩ = false := by
  simp [World.frozen?, h]
/-- A box of the call's own that is written whole. -/
theorem box_set {w : World} {B : Nat} {x0 y0 : ByteArray} (h : w.heap[B]? = some (.cells #[.string x0, .string y0] TR (0, 0))) (x y : ByteArray) :
    ((w.setCell ⟨B, 0, none⟩ (.string x)).setCell ⟨B, 1, none⟩ (.string y)).heap[B]? = some (.cells #[.string x, .string y] TR (0, 0)) := by
  have h1 := blk_set h 0 (.string x)
  have h2 := blk_set h1 1 (.string y)
  simpa using h2
theorem box_other {w : World} {B : Nat} (k : Nat) (hk : k ≠ B) (x y : Value) : ((w.setCell ⟨B, 0, none⟩ x).setCell ⟨B, 1, none⟩ y).heap[k]? = w.heap[k]? := by
  rw [Below.heap_setCell _ _ _ _ hk, Below.heap_setCell _ _ _ _ hk]
theorem Mt.store {w w' : World} {s t u v x y x0 y0 : ByteArray} {B : Nat} (h : Mt w s t u v x y w') (hB : w.heap.size + 2 < B) (p q : Value) :
    Mt w s t u v x y ((w'.setCell ⟨B, 0, none⟩ p).setCell ⟨B, 1, none⟩ q) := by
  refine ⟨?_, ?_, ?_, (h.bel.setCell (by show w.heap.size ≤ B; omega) _).setCell (by show w.heap.size ≤ B; omega) _⟩
  · rw [box_other _ (by omega)]; exact h.b0
  · rw [box_other _ (by omega)]; exact h.b1
  · rw [box_other _ (by omega)]; exact h.b2
theorem Mt.res {w w' : World} {s t u v x y : ByteArray} (h : Mt w s t u v x y w') (p q : ByteArray) :
    Mt w s t u v p q ((w'.setCell ⟨w.heap.size + 2, 0, none⟩ (.string p)).setCell ⟨w.heap.size + 2, 1, none⟩ (.string q)) := by
  refine ⟨?_, ?_, box_set h.b2 p q, (h.bel.setCell (by show w.heap.size ≤ w.heap.size + 2; omega) _).setCell (by show w.heap.size ≤ w.heap.size + 2; omega) _⟩
  · rw [box_other _ (by omega)]; exact h.b0
  · rw [box_other _ (by omega)]; exact h.b1
def B2 (w : World) (B : Nat) (x y : ByteArray) : Prop := w.heap[B]? = some (.cells #[.string x, .string y] TR (0, 0))
theorem B2.later {w w' : World} {B : Nat} {x y : ByteArray} (h : B2 w B x y) (hb : Below w.heap.size w w') : B2 w' B x y := (hb.block _ (Array.getElem?_eq_some_iff.1 h).1).trans h
theorem B2.new (w : World) (x y : ByteArray) : B2 (w.alloc (.cells #[.string x, .string y] TR)) w.heap.size x y := heap_alloc_new _ _
theorem B2.cells {w : World} {B : Nat} {x y : ByteArray} (h : B2 w B x y) : w.cell? ⟨B, 0, none⟩ = some (.string x) ∧ w.cell? ⟨B, 1, none⟩ = some (.string y) ∧ w.frozen? ⟨B, 0, none⟩ = false ∧ w.frozen? ⟨B, 1, none⟩ = false :=
  ⟨cell_of_row w _ 0 _ TR _ h, cell_of_row w _ 1 _ TR _ h, blk_frozen h 0, blk_frozen h 1⟩
theorem alloc_b (w : World) (o : Obj) : Below w.heap.size w (w.alloc o) := (Below.refl _ _).alloc (Nat.le_refl _) o
set_option maxHeartbeats 4000000 in
theorem meet_no (a b : Rg) (h : okL [a, b] = 0) (hz : okE (meetV a b) = 2) (w : World) :
    Calls Try.prog 21 #[.agg #[.string (tx a.f), .string (tx a.t)], .agg #[.string (tx b.f), .string (tx b.t)]] w fun e w' => e = .returned (.tuple #[.agg #[.string (tx []), .string (tx [])], .bool false, .int .i64 0]) ∧ Below w.heap.size w w' := by
  have hx := mt_new w (tx a.f) (tx a.t) (tx b.f) (tx b.t) ⟨#[]⟩ ⟨#[]⟩
  have hA := fun v W hv => all_any v [a, b] W hv (by simp)
  rw [h] at hA
  replace hA := Lib.hid hA
  have hx1 := hx.later (alloc_b _ (.cells #[.string (tx a.f), .string (tx a.t), .string (tx b.f), .string (tx b.t)] TR))
  have hq := heap_alloc_new (((w.alloc (.cells #[.string (tx a.f), .string (tx a.t)] TR)).alloc (.cells #[.string (tx b.f), .string (tx b.t)] TR)).alloc (.cells #[.string ⟨#[]⟩, .string ⟨#[]⟩] TR)) (.cells #[.string (tx a.f), .string (tx a.t), .string (tx b.f), .string (tx b.t)] TR)
  have hRs := Lib.hid (two_rs _ _ a b hq)
  clear hq
  simp only [World.size_alloc] at hRs
  obtain ⟨c0, c1, c2, c3, _⟩ := hx.cells
  have hL := Lib.hid (fun W => later_any a.f b.f W)
  have hM := Lib.hid (fun W => earlier_any a.t b.t W)
  have hC := fun W => check_any (meetV a b) W
  rw [hz] at hC
  replace hC := Lib.hid (show ∀ W, Calls Try.prog 17 #[.agg #[.string (tx (laterV a.f b.f)), .string (tx (earlierV a.t b.t))]] W _ from hC)
  have hz := 0
  have HE : Hid (∀ W, Mt w (tx a.f) (tx a.t) (tx b.f) (tx b.t) ⟨#[]⟩ ⟨#[]⟩ W → W.cell? ⟨w.heap.size, 0, none⟩ = some (.string (tx a.f)) ∧ W.cell? ⟨w.heap.size, 1, none⟩ = some (.string (tx a.t)) ∧ W.cell? ⟨w.heap.size + 1, 0, none⟩ = some (.string (tx b.f)) ∧ W.cell? ⟨w.heap.size + 1, 1, none⟩ = some (.string (tx b.t)) ∧ Mt w (tx a.f) (tx a.t) (tx b.f) (tx b.t) ⟨#[]⟩ ⟨#[]⟩ W) := fun W h => h.cells
  generalize tx a.f = s at *
  generalize tx a.t = t at *
  generalize tx b.f = u at *
  generalize tx b.t = v at *
  generalize tx (laterV a.f b.f) = x at *
  generalize tx (earlierV a.t b.t) = y at *
  go_enter Try.func21, Try.ntmps21
  go_wp2_with (go_at_call 38; refine (hA.out _ _ hRs.out).mono ?_; rintro e w1 ⟨rfl, hb1⟩; have hx2 := hx1.later hb1)
  clear c0 c1 c2 c3 hx hx1 hb1 hRs hA
  have hx2d := hx2.later (Below.refl _ _).drew
  refine wp_region_held_drew (S := (fun W => W.cell? ⟨w.heap.size, 0, none⟩ = some (.string s) ∧ W.cell? ⟨w.heap.size, 1, none⟩ = some (.string t) ∧ W.cell? ⟨w.heap.size + 1, 0, none⟩ = some (.string u) ∧ W.cell? ⟨w.heap.size + 1, 1, none⟩ = some (.string v) ∧ Mt w s t u v ⟨#[]⟩ ⟨#[]⟩ W)) (by kernel_rfl) (HE.out _ hx2d) (fun hS => ?_)
  try simp only [Act.put, List.setIfInBounds_toArray, List.set_cons_zero, List.set_cons_succ]
  refine wpAnyH_take (i := 0) (v := .pointer (some ⟨w.heap.size, 0, none⟩)) rfl (by kernel_rfl) (by kernel_rfl) (by kernel_rfl) (fun _ _ _ h => h) (Or.inl ⟨by kernel_rfl, by intro w' hSw; obtain ⟨s0, s1, s2, s3, s4⟩ := hSw; go_simp⟩) hS ?_
  try simp only [Act.put, List.setIfInBounds_toArray, List.set_cons_zero, List.set_cons_succ]
  refine wpAnyH_take (i := 1) (v := .string s) rfl (by kernel_rfl) (by kernel_rfl) (by kernel_rfl) (fun _ _ _ h => h) (Or.inl ⟨by kernel_rfl, by intro w' hSw; obtain ⟨s0, s1, s2, s3, s4⟩ := hSw; go_simp⟩) hS ?_
  try simp only [Act.put, List.setIfInBounds_toArray, List.set_cons_zero, List.set_cons_succ]
  refine wpAnyH_take (i := 2) (v := .pointer (some ⟨w.heap.size + 1, 0, none⟩)) rfl (by kernel_rfl) (by kernel_rfl) (by kernel_rfl) (fun _ _ _ h => h) (Or.inl ⟨by kernel_rfl, by intro w' hSw; obtain ⟨s0, s1, s2, s3, s4⟩ := hSw; go_simp⟩) hS ?_
  try simp only [Act.put, List.setIfInBounds_toArray, List.set_cons_zero, List.set_cons_succ]
  refine wpAnyH_take (i := 3) (v := .string u) rfl (by kernel_rfl) (by kernel_rfl) (by kernel_rfl) (fun _ _ _ h => h) (Or.inl ⟨by kernel_rfl, by intro w' hSw; obtain ⟨s0, s1, s2, s3, s4⟩ := hSw; go_simp⟩) hS ?_
  try simp only [Act.put, List.setIfInBounds_toArray, List.set_cons_zero, List.set_cons_succ]
  refine wpAnyH_take (i := 5) (v := .pointer (some ⟨w.heap.size, 1, none⟩)) rfl (by kernel_rfl) (by kernel_rfl) (by kernel_rfl) (fun _ _ _ h => h) (Or.inl ⟨by kernel_rfl, by intro w' hSw; obtain ⟨s0, s1, s2, s3, s4⟩ := hSw; go_simp⟩) hS ?_
  try simp only [Act.put, List.setIfInBounds_toArray, List.set_cons_zero, List.set_cons_succ]
  refine wpAnyH_take (i := 6) (v := .string t) rfl (by kernel_rfl) (by kernel_rfl) (by kernel_rfl) (fun _ _ _ h => h) (Or.inl ⟨by kernel_rfl, by intro w' hSw; obtain ⟨s0, s1, s2, s3, s4⟩ := hSw; go_simp⟩) hS ?_
  try simp only [Act.put, List.setIfInBounds_toArray, List.set_cons_zero, List.set_cons_succ]
  refine wpAnyH_take (i := 7) (v := .pointer (some ⟨w.heap.size + 1, 1, none⟩)) rfl (by kernel_rfl) (by kernel_rfl) (by kernel_rfl) (fun _ _ _ h => h) (Or.inl ⟨by kernel_rfl, by intro w' hSw; obtain ⟨s0, s1, s2, s3, s4⟩ := hSw; go_simp⟩) hS ?_
  try simp only [Act.put, List.setIfInBounds_toArray, List.set_cons_zero, List.set_cons_succ]
  refine wpAnyH_take (i := 8) (v := .string v) rfl (by kernel_rfl) (by kernel_rfl) (by kernel_rfl) (fun _ _ _ h => h) (Or.inl ⟨by kernel_rfl, by intro w' hSw; obtain ⟨s0, s1, s2, s3, s4⟩ := hSw; go_simp⟩) hS ?_
  try simp only [Act.put, List.setIfInBounds_toArray, List.set_cons_zero, List.set_cons_succ]
  generalize hwd : w1.drew = w2 at *
  clear hwd
  refine wpAnyH_ready (rs := [4, 11]) (by kernel_rfl) (by simp) ?_
  refine (AllReadyH.cons rfl (fun K hK => ?_) (AllReadyH.cons rfl (fun K hK => ?_) AllReadyH.nil))
  · go_simp
    go_at_call 39
    refine (hL.out _).mono ?_
    rintro e w3 ⟨rfl, hb3⟩
    have hx2dL := hx2d.later hb3
    refine hK.out _ _ (HE.out _ hx2dL) (fun hS => ?_)
    clear hK K
    try simp only [Act.put, List.setIfInBounds_toArray, List.set_cons_zero, List.set_cons_succ]
    refine wpAnyH_ready (rs := [9, 11]) (by kernel_rfl) (by simp) ?_
    refine (AllReadyH.cons rfl (fun K hK => ?_) (AllReadyH.cons rfl (fun K hK => ?_) AllReadyH.nil))
    · go_simp
      go_at_call 40
      refine (hM.out _).mono ?_
      rintro e w4 ⟨rfl, hb4⟩
      have hx2dLM := hx2dL.later hb4
      refine hK.out _ _ (HE.out _ hx2dLM) (fun hS => ?_)
      clear hK K
      try simp only [Act.put, List.setIfInBounds_toArray, List.set_cons_zero, List.set_cons_succ]
      refine wpAnyH_take (i := 10) (v := .agg #[.string x, .string y]) rfl (by kernel_rfl) (by kernel_rfl) (by kernel_rfl) (fun _ _ _ h => h) (Or.inl ⟨by kernel_rfl, by intro w' hSw; obtain ⟨s0, s1, s2, s3, s4⟩ := hSw; go_simp⟩) hS ?_
      try simp only [Act.put, List.setIfInBounds_toArray, List.set_cons_zero, List.set_cons_succ]
      refine wpAnyH_ready (rs := [11]) (by kernel_rfl) (by simp) ?_
      refine (AllReadyH.cons rfl (fun K hK => ?_) AllReadyH.nil)
      · go_simp
        have hx2dLMA := hx2dLM.later (alloc_b _ (.cells #[.string ⟨#[]⟩, .string ⟨#[]⟩] TR))
        have hbn := B2.new w4 ⟨#[]⟩ ⟨#[]⟩
        have hB : w.heap.size + 2 < w4.heap.size := hx2dLM.lt
        generalize hwq : w4.alloc (.cells #[.string ⟨#[]⟩, .string ⟨#[]⟩] TR) = wq at *
        generalize hBq : w4.heap.size = B at *
        clear hwq hBq
        refine hK.out _ _ (HE.out _ hx2dLMA) (fun hS => ?_)
        clear hK K
        try simp only [Act.put, List.setIfInBounds_toArray, List.set_cons_zero, List.set_cons_succ]
        refine wpAnyH_ready (rs := [12]) (by kernel_rfl) (by simp) ?_
        refine AllReadyH.cons rfl (fun K hK => ?_) AllReadyH.nil
        obtain ⟨d0, d1, f0, f1⟩ := hbn.cells
        go_simp
        have hy := Mt.store (x0 := x) (y0 := y) hx2dLMA hB (.string x) (.string y)
        have hz : B2 _ B x y := box_set hbn x y
        clear d0 d1 f0 f1
        refine hK.out _ _ (HE.out _ hy) (fun hS => ?_)
        clear hK K
        try simp only [Act.put, List.setIfInBounds_toArray, List.set_cons_zero, List.set_cons_succ]
        refine wpAnyH_done (by kernel_rfl) ?_ _
        clear hS
        obtain ⟨d0, d1, f0, f1⟩ := hz.cells
        generalize hwr : (World.setCell (World.setCell _ _ _) _ _) = wr at *
        clear hwr
        go_wp2_with (go_at_call 17; refine (hC.out _).mono ?_; rintro e w5 ⟨rfl, hb5⟩; have hv := hy.later hb5; obtain ⟨g0, g1, g2, g3⟩ := (B2.later hz hb5).cells; obtain ⟨k0, k1, k2, k3⟩ := (show B2 w5 (w.heap.size + 2) ⟨#[]⟩ ⟨#[]⟩ from hv.b2).cells)
        have hw := hv.res ⟨#[]⟩ ⟨#[]⟩
        obtain ⟨y0, y1, _, _⟩ := (show B2 _ (w.heap.size + 2) ⟨#[]⟩ ⟨#[]⟩ from hw.b2).cells
        refine bodyPost_ret (v := .tuple #[.agg #[.string ⟨#[]⟩, .string ⟨#[]⟩], .bool false, .int .i64 0]) (by simp [results, Try.results21, go_sem, y0, y1]) rfl ⟨rfl, hw.bel⟩
    · go_simp
      have hx2dLA := hx2dL.later (alloc_b _ (.cells #[.string ⟨#[]⟩, .string ⟨#[]⟩] TR))
      have hbn := B2.new w3 ⟨#[]⟩ ⟨#[]⟩
      have hB : w.heap.size + 2 < w3.heap.size := hx2dL.lt
      generalize hwq : w3.alloc (.cells #[.string ⟨#[]⟩, .string ⟨#[]⟩] TR) = wq at *
      generalize hBq : w3.heap.size = B at *
      clear hwq hBq
      refine hK.out _ _ (HE.out _ hx2dLA) (fun hS => ?_)
      clear hK K
      try simp only [Act.put, List.setIfInBounds_toArray, List.set_cons_zero, List.set_cons_succ]
      refine wpAnyH_ready (rs := [9]) (by kernel_rfl) (by simp) ?_
      refine (AllReadyH.cons rfl (fun K hK => ?_) AllReadyH.nil)
      · go_simp
        go_at_call 40
        refine (hM.out _).mono ?_
        rintro e w4 ⟨rfl, hb4⟩
        have hx2dLAM := hx2dLA.later hb4
        have hbnM := hbn.later hb4
        refine hK.out _ _ (HE.out _ hx2dLAM) (fun hS => ?_)
        clear hK K
        try simp only [Act.put, List.setIfInBounds_toArray, List.set_cons_zero, List.set_cons_succ]
        refine wpAnyH_take (i := 10) (v := .agg #[.string x, .string y]) rfl (by kernel_rfl) (by kernel_rfl) (by kernel_rfl) (fun _ _ _ h => h) (Or.inl ⟨by kernel_rfl, by intro w' hSw; obtain ⟨s0, s1, s2, s3, s4⟩ := hSw; go_simp⟩) hS ?_
        try simp only [Act.put, List.setIfInBounds_toArray, List.set_cons_zero, List.set_cons_succ]
        refine wpAnyH_ready (rs := [12]) (by kernel_rfl) (by simp) ?_
        refine AllReadyH.cons rfl (fun K hK => ?_) AllReadyH.nil
        obtain ⟨d0, d1, f0, f1⟩ := hbnM.cells
        go_simp
        have hy := Mt.store (x0 := x) (y0 := y) hx2dLAM hB (.string x) (.string y)
        have hz : B2 _ B x y := box_set hbnM x y
        clear d0 d1 f0 f1
        refine hK.out _ _ (HE.out _ hy) (fun hS => ?_)
        clear hK K
        try simp only [Act.put, List.setIfInBounds_toArray, List.set_cons_zero, List.set_cons_succ]
        refine wpAnyH_done (by kernel_rfl) ?_ _
        clear hS
        obtain ⟨d0, d1, f0, f1⟩ := hz.cells
        generalize hwr : (World.setCell (World.setCell _ _ _) _ _) = wr at *
        clear hwr
        go_wp2_with (go_at_call 17; refine (hC.out _).mono ?_; rintro e w5 ⟨rfl, hb5⟩; have hv := hy.later hb5; obtain ⟨g0, g1, g2, g3⟩ := (B2.later hz hb5).cells; obtain ⟨k0, k1, k2, k3⟩ := (show B2 w5 (w.heap.size + 2) ⟨#[]⟩ ⟨#[]⟩ from hv.b2).cells)
        have hw := hv.res ⟨#[]⟩ ⟨#[]⟩
        obtain ⟨y0, y1, _, _⟩ := (show B2 _ (w.heap.size + 2) ⟨#[]⟩ ⟨#[]⟩ from hw.b2).cells
        refine bodyPost_ret (v := .tuple #[.agg #[.string ⟨#[]⟩, .string ⟨#[]⟩], .bool false, .int .i64 0]) (by simp [results, Try.results21, go_sem, y0, y1]) rfl ⟨rfl, hw.bel⟩
  · go_simp
    have hx2dA := hx2d.later (alloc_b _ (.cells #[.string ⟨#[]⟩, .string ⟨#[]⟩] TR))
    have hbn := B2.new w2 ⟨#[]⟩ ⟨#[]⟩
    have hB : w.heap.size + 2 < w2.heap.size := hx2d.lt
    generalize hwq : w2.alloc (.cells #[.string ⟨#[]⟩, .string ⟨#[]⟩] TR) = wq at *
    generalize hBq : w2.heap.size = B at *
    clear hwq hBq
    refine hK.out _ _ (HE.out _ hx2dA) (fun hS => ?_)
    clear hK K
    try simp only [Act.put, List.setIfInBounds_toArray, List.set_cons_zero, List.set_cons_succ]
    refine wpAnyH_ready (rs := [4]) (by kernel_rfl) (by simp) ?_
    refine (AllReadyH.cons rfl (fun K hK => ?_) AllReadyH.nil)
    · go_simp
      go_at_call 39
      refine (hL.out _).mono ?_
      rintro e w3 ⟨rfl, hb3⟩
      have hx2dAL := hx2dA.later hb3
      have hbnL := hbn.later hb3
      refine hK.out _ _ (HE.out _ hx2dAL) (fun hS => ?_)
      clear hK K
      try simp only [Act.put, List.setIfInBounds_toArray, List.set_cons_zero, List.set_cons_succ]
      refine wpAnyH_ready (rs := [9]) (by kernel_rfl) (by simp) ?_
      refine (AllReadyH.cons rfl (fun K hK => ?_) AllReadyH.nil)
      · go_simp
        go_at_call 40
        refine (hM.out _).mono ?_
        rintro e w4 ⟨rfl, hb4⟩
        have hx2dALM := hx2dAL.later hb4
        have hbnLM := hbnL.later hb4
        refine hK.out _ _ (HE.out _ hx2dALM) (fun hS => ?_)
        clear hK K
        try simp only [Act.put, List.setIfInBounds_toArray, List.set_cons_zero, List.set_cons_succ]
        refine wpAnyH_take (i := 10) (v := .agg #[.string x, .string y]) rfl (by kernel_rfl) (by kernel_rfl) (by kernel_rfl) (fun _ _ _ h => h) (Or.inl ⟨by kernel_rfl, by intro w' hSw; obtain ⟨s0, s1, s2, s3, s4⟩ := hSw; go_simp⟩) hS ?_
        try simp only [Act.put, List.setIfInBounds_toArray, List.set_cons_zero, List.set_cons_succ]
        refine wpAnyH_ready (rs := [12]) (by kernel_rfl) (by simp) ?_
        refine AllReadyH.cons rfl (fun K hK => ?_) AllReadyH.nil
        obtain ⟨d0, d1, f0, f1⟩ := hbnLM.cells
        go_simp
        have hy := Mt.store (x0 := x) (y0 := y) hx2dALM hB (.string x) (.string y)
        have hz : B2 _ B x y := box_set hbnLM x y
        clear d0 d1 f0 f1
        refine hK.out _ _ (HE.out _ hy) (fun hS => ?_)
        clear hK K
        try simp only [Act.put, List.setIfInBounds_toArray, List.set_cons_zero, List.set_cons_succ]
        refine wpAnyH_done (by kernel_rfl) ?_ _
        clear hS
        obtain ⟨d0, d1, f0, f1⟩ := hz.cells
        generalize hwr : (World.setCell (World.setCell _ _ _) _ _) = wr at *
        clear hwr
        go_wp2_with (go_at_call 17; refine (hC.out _).mono ?_; rintro e w5 ⟨rfl, hb5⟩; have hv := hy.later hb5; obtain ⟨g0, g1, g2, g3⟩ := (B2.later hz hb5).cells; obtain ⟨k0, k1, k2, k3⟩ := (show B2 w5 (w.heap.size + 2) ⟨#[]⟩ ⟨#[]⟩ from hv.b2).cells)
        have hw := hv.res ⟨#[]⟩ ⟨#[]⟩
        obtain ⟨y0, y1, _, _⟩ := (show B2 _ (w.heap.size + 2) ⟨#[]⟩ ⟨#[]⟩ from hw.b2).cells
        refine bodyPost_ret (v := .tuple #[.agg #[.string ⟨#[]⟩, .string ⟨#[]⟩], .bool false, .int .i64 0]) (by simp [results, Try.results21, go_sem, y0, y1]) rfl ⟨rfl, hw.bel⟩
set_option maxHeartbeats 4000000 in
theorem meet_yes (a b : Rg) (h : okL [a, b] = 0) (hz : okE (meetV a b) = 0) (w : World) :
    Calls Try.prog 21 #[.agg #[.string (tx a.f), .string (tx a.t)], .agg #[.string (tx b.f), .string (tx b.t)]] w fun e w' => e = .returned (.tuple #[.agg #[.string (tx (laterV a.f b.f)), .string (tx (earlierV a.t b.t))], .bool true, .int .i64 0]) ∧ Below w.heap.size w w' := by
  have hx := mt_new w (tx a.f) (tx a.t) (tx b.f) (tx b.t) ⟨#[]⟩ ⟨#[]⟩
  have hA := fun v W hv => all_any v [a, b] W hv (by simp)
  rw [h] at hA
  replace hA := Lib.hid hA
  have hx1 := hx.later (alloc_b _ (.cells #[.string (tx a.f), .string (tx a.t), .string (tx b.f), .string (tx b.t)] TR))
  have hq := heap_alloc_new (((w.alloc (.cells #[.string (tx a.f), .string (tx a.t)] TR)).alloc (.cells #[.string (tx b.f), .string (tx b.t)] TR)).alloc (.cells #[.string ⟨#[]⟩, .string ⟨#[]⟩] TR)) (.cells #[.string (tx a.f), .string (tx a.t), .string (tx b.f), .string (tx b.t)] TR)
  have hRs := Lib.hid (two_rs _ _ a b hq)
  clear hq
  simp only [World.size_alloc] at hRs
  obtain ⟨c0, c1, c2, c3, _⟩ := hx.cells
  have hL := Lib.hid (fun W => later_any a.f b.f W)
  have hM := Lib.hid (fun W => earlier_any a.t b.t W)
  have hC := fun W => check_any (meetV a b) W
  rw [hz] at hC
  replace hC := Lib.hid (show ∀ W, Calls Try.prog 17 #[.agg #[.string (tx (laterV a.f b.f)), .string (tx (earlierV a.t b.t))]] W _ from hC)
  have hz := 0
  have HE : Hid (∀ W, Mt w (tx a.f) (tx a.t) (tx b.f) (tx b.t) ⟨#[]⟩ ⟨#[]⟩ W → W.cell? ⟨w.heap.size, 0, none⟩ = some (.string (tx a.f)) ∧ W.cell? ⟨w.heap.size, 1, none⟩ = some (.string (tx a.t)) ∧ W.cell? ⟨w.heap.size + 1, 0, none⟩ = some (.string (tx b.f)) ∧ W.cell? ⟨w.heap.size + 1, 1, none⟩ = some (.string (tx b.t)) ∧ Mt w (tx a.f) (tx a.t) (tx b.f) (tx b.t) ⟨#[]⟩ ⟨#[]⟩ W) := fun W h => h.cells
  generalize tx a.f = s at *
  generalize tx a.t = t at *
  generalize tx b.f = u at *
  generalize tx b.t = v at *
  generalize tx (laterV a.f b.f) = x at *
  generalize tx (earlierV a.t b.t) = y at *
  go_enter Try.func21, Try.ntmps21
  go_wp2_with (go_at_call 38; refine (hA.out _ _ hRs.out).mono ?_; rintro e w1 ⟨rfl, hb1⟩; have hx2 := hx1.later hb1)
  clear c0 c1 c2 c3 hx hx1 hb1 hRs hA
  have hx2d := hx2.later (Below.refl _ _).drew
  refine wp_region_held_drew (S := (fun W => W.cell? ⟨w.heap.size, 0, none⟩ = some (.string s) ∧ W.cell? ⟨w.heap.size, 1, none⟩ = some (.string t) ∧ W.cell? ⟨w.heap.size + 1, 0, none⟩ = some (.string u) ∧ W.cell? ⟨w.heap.size + 1, 1, none⟩ = some (.string v) ∧ Mt w s t u v ⟨#[]⟩ ⟨#[]⟩ W)) (by kernel_rfl) (HE.out _ hx2d) (fun hS => ?_)
  try simp only [Act.put, List.setIfInBounds_toArray, List.set_cons_zero, List.set_cons_succ]
  refine wpAnyH_take (i := 0) (v := .pointer (some ⟨w.heap.size, 0, none⟩)) rfl (by kernel_rfl) (by kernel_rfl) (by kernel_rfl) (fun _ _ _ h => h) (Or.inl ⟨by kernel_rfl, by intro w' hSw; obtain ⟨s0, s1, s2, s3, s4⟩ := hSw; go_simp⟩) hS ?_
  try simp only [Act.put, List.setIfInBounds_toArray, List.set_cons_zero, List.set_cons_succ]
  refine wpAnyH_take (i := 1) (v := .string s) rfl (by kernel_rfl) (by kernel_rfl) (by kernel_rfl) (fun _ _ _ h => h) (Or.inl ⟨by kernel_rfl, by intro w' hSw; obtain ⟨s0, s1, s2, s3, s4⟩ := hSw; go_simp⟩) hS ?_
  try simp only [Act.put, List.setIfInBounds_toArray, List.set_cons_zero, List.set_cons_succ]
  refine wpAnyH_take (i := 2) (v := .pointer (some ⟨w.heap.size + 1, 0, none⟩)) rfl (by kernel_rfl) (by kernel_rfl) (by kernel_rfl) (fun _ _ _ h => h) (Or.inl ⟨by kernel_rfl, by intro w' hSw; obtain ⟨s0, s1, s2, s3, s4⟩ := hSw; go_simp⟩) hS ?_
  try simp only [Act.put, List.setIfInBounds_toArray, List.set_cons_zero, List.set_cons_succ]
  refine wpAnyH_take (i := 3) (v := .string u) rfl (by kernel_rfl) (by kernel_rfl) (by kernel_rfl) (fun _ _ _ h => h) (Or.inl ⟨by kernel_rfl, by intro w' hSw; obtain ⟨s0, s1, s2, s3, s4⟩ := hSw; go_simp⟩) hS ?_
  try simp only [Act.put, List.setIfInBounds_toArray, List.set_cons_zero, List.set_cons_succ]
  refine wpAnyH_take (i := 5) (v := .pointer (some ⟨w.heap.size, 1, none⟩)) rfl (by kernel_rfl) (by kernel_rfl) (by kernel_rfl) (fun _ _ _ h => h) (Or.inl ⟨by kernel_rfl, by intro w' hSw; obtain ⟨s0, s1, s2, s3, s4⟩ := hSw; go_simp⟩) hS ?_
  try simp only [Act.put, List.setIfInBounds_toArray, List.set_cons_zero, List.set_cons_succ]
  refine wpAnyH_take (i := 6) (v := .string t) rfl (by kernel_rfl) (by kernel_rfl) (by kernel_rfl) (fun _ _ _ h => h) (Or.inl ⟨by kernel_rfl, by intro w' hSw; obtain ⟨s0, s1, s2, s3, s4⟩ := hSw; go_simp⟩) hS ?_
  try simp only [Act.put, List.setIfInBounds_toArray, List.set_cons_zero, List.set_cons_succ]
  refine wpAnyH_take (i := 7) (v := .pointer (some ⟨w.heap.size + 1, 1, none⟩)) rfl (by kernel_rfl) (by kernel_rfl) (by kernel_rfl) (fun _ _ _ h => h) (Or.inl ⟨by kernel_rfl, by intro w' hSw; obtain ⟨s0, s1, s2, s3, s4⟩ := hSw; go_simp⟩) hS ?_
  try simp only [Act.put, List.setIfInBounds_toArray, List.set_cons_zero, List.set_cons_succ]
  refine wpAnyH_take (i := 8) (v := .string v) rfl (by kernel_rfl) (by kernel_rfl) (by kernel_rfl) (fun _ _ _ h => h) (Or.inl ⟨by kernel_rfl, by intro w' hSw; obtain ⟨s0, s1, s2, s3, s4⟩ := hSw; go_simp⟩) hS ?_
  try simp only [Act.put, List.setIfInBounds_toArray, List.set_cons_zero, List.set_cons_succ]
  generalize hwd : w1.drew = w2 at *
  clear hwd
  refine wpAnyH_ready (rs := [4, 11]) (by kernel_rfl) (by simp) ?_
  refine (AllReadyH.cons rfl (fun K hK => ?_) (AllReadyH.cons rfl (fun K hK => ?_) AllReadyH.nil))
  · go_simp
    go_at_call 39
    refine (hL.out _).mono ?_
    rintro e w3 ⟨rfl, hb3⟩
    have hx2dL := hx2d.later hb3
    refine hK.out _ _ (HE.out _ hx2dL) (fun hS => ?_)
    clear hK K
    try simp only [Act.put, List.setIfInBounds_toArray, List.set_cons_zero, List.set_cons_succ]
    refine wpAnyH_ready (rs := [9, 11]) (by kernel_rfl) (by simp) ?_
    refine (AllReadyH.cons rfl (fun K hK => ?_) (AllReadyH.cons rfl (fun K hK => ?_) AllReadyH.nil))
    · go_simp
      go_at_call 40
      refine (hM.out _).mono ?_
      rintro e w4 ⟨rfl, hb4⟩
      have hx2dLM := hx2dL.later hb4
      refine hK.out _ _ (HE.out _ hx2dLM) (fun hS => ?_)
      clear hK K
      try simp only [Act.put, List.setIfInBounds_toArray, List.set_cons_zero, List.set_cons_succ]
      refine wpAnyH_take (i := 10) (v := .agg #[.string x, .string y]) rfl (by kernel_rfl) (by kernel_rfl) (by kernel_rfl) (fun _ _ _ h => h) (Or.inl ⟨by kernel_rfl, by intro w' hSw; obtain ⟨s0, s1, s2, s3, s4⟩ := hSw; go_simp⟩) hS ?_
      try simp only [Act.put, List.setIfInBounds_toArray, List.set_cons_zero, List.set_cons_succ]
      refine wpAnyH_ready (rs := [11]) (by kernel_rfl) (by simp) ?_
      refine (AllReadyH.cons rfl (fun K hK => ?_) AllReadyH.nil)
      · go_simp
        have hx2dLMA := hx2dLM.later (alloc_b _ (.cells #[.string ⟨#[]⟩, .string ⟨#[]⟩] TR))
        have hbn := B2.new w4 ⟨#[]⟩ ⟨#[]⟩
        have hB : w.heap.size + 2 < w4.heap.size := hx2dLM.lt
        generalize hwq : w4.alloc (.cells #[.string ⟨#[]⟩, .string ⟨#[]⟩] TR) = wq at *
        generalize hBq : w4.heap.size = B at *
        clear hwq hBq
        refine hK.out _ _ (HE.out _ hx2dLMA) (fun hS => ?_)
        clear hK K
        try simp only [Act.put, List.setIfInBounds_toArray, List.set_cons_zero, List.set_cons_succ]
        refine wpAnyH_ready (rs := [12]) (by kernel_rfl) (by simp) ?_
        refine AllReadyH.cons rfl (fun K hK => ?_) AllReadyH.nil
        obtain ⟨d0, d1, f0, f1⟩ := hbn.cells
        go_simp
        have hy := Mt.store (x0 := x) (y0 := y) hx2dLMA hB (.string x) (.string y)
        have hz : B2 _ B x y := box_set hbn x y
        clear d0 d1 f0 f1
        refine hK.out _ _ (HE.out _ hy) (fun hS => ?_)
        clear hK K
        try simp only [Act.put, List.setIfInBounds_toArray, List.set_cons_zero, List.set_cons_succ]
        refine wpAnyH_done (by kernel_rfl) ?_ _
        clear hS
        obtain ⟨d0, d1, f0, f1⟩ := hz.cells
        generalize hwr : (World.setCell (World.setCell _ _ _) _ _) = wr at *
        clear hwr
        go_wp2_with (go_at_call 17; refine (hC.out _).mono ?_; rintro e w5 ⟨rfl, hb5⟩; have hv := hy.later hb5; obtain ⟨g0, g1, g2, g3⟩ := (B2.later hz hb5).cells; obtain ⟨k0, k1, k2, k3⟩ := (show B2 w5 (w.heap.size + 2) ⟨#[]⟩ ⟨#[]⟩ from hv.b2).cells)
        have hw := hv.res x y
        obtain ⟨y0, y1, _, _⟩ := (show B2 _ (w.heap.size + 2) x y from hw.b2).cells
        refine bodyPost_ret (v := .tuple #[.agg #[.string x, .string y], .bool true, .int .i64 0]) (by simp [results, Try.results21, go_sem, y0, y1]) rfl ⟨rfl, hw.bel⟩
    · go_simp
      have hx2dLA := hx2dL.later (alloc_b _ (.cells #[.string ⟨#[]⟩, .string ⟨#[]⟩] TR))
      have hbn := B2.new w3 ⟨#[]⟩ ⟨#[]⟩
      have hB : w.heap.size + 2 < w3.heap.size := hx2dL.lt
      generalize hwq : w3.alloc (.cells #[.string ⟨#[]⟩, .string ⟨#[]⟩] TR) = wq at *
      generalize hBq : w3.heap.size = B at *
      clear hwq hBq
      refine hK.out _ _ (HE.out _ hx2dLA) (fun hS => ?_)
      clear hK K
      try simp only [Act.put, List.setIfInBounds_toArray, List.set_cons_zero, List.set_cons_succ]
      refine wpAnyH_ready (rs := [9]) (by kernel_rfl) (by simp) ?_
      refine (AllReadyH.cons rfl (fun K hK => ?_) AllReadyH.nil)
      · go_simp
        go_at_call 40
        refine (hM.out _).mono ?_
        rintro e w4 ⟨rfl, hb4⟩
        have hx2dLAM := hx2dLA.later hb4
        have hbnM := hbn.later hb4
        refine hK.out _ _ (HE.out _ hx2dLAM) (fun hS => ?_)
        clear hK K
        try simp only [Act.put, List.setIfInBounds_toArray, List.set_cons_zero, List.set_cons_succ]
        refine wpAnyH_take (i := 10) (v := .agg #[.string x, .string y]) rfl (by kernel_rfl) (by kernel_rfl) (by kernel_rfl) (fun _ _ _ h => h) (Or.inl ⟨by kernel_rfl, by intro w' hSw; obtain ⟨s0, s1, s2, s3, s4⟩ := hSw; go_simp⟩) hS ?_
        try simp only [Act.put, List.setIfInBounds_toArray, List.set_cons_zero, List.set_cons_succ]
        refine wpAnyH_ready (rs := [12]) (by kernel_rfl) (by simp) ?_
        refine AllReadyH.cons rfl (fun K hK => ?_) AllReadyH.nil
        obtain ⟨d0, d1, f0, f1⟩ := hbnM.cells
        go_simp
        have hy := Mt.store (x0 := x) (y0 := y) hx2dLAM hB (.string x) (.string y)
        have hz : B2 _ B x y := box_set hbnM x y
        clear d0 d1 f0 f1
        refine hK.out _ _ (HE.out _ hy) (fun hS => ?_)
        clear hK K
        try simp only [Act.put, List.setIfInBounds_toArray, List.set_cons_zero, List.set_cons_succ]
        refine wpAnyH_done (by kernel_rfl) ?_ _
        clear hS
        obtain ⟨d0, d1, f0, f1⟩ := hz.cells
        generalize hwr : (World.setCell (World.setCell _ _ _) _ _) = wr at *
        clear hwr
        go_wp2_with (go_at_call 17; refine (hC.out _).mono ?_; rintro e w5 ⟨rfl, hb5⟩; have hv := hy.later hb5; obtain ⟨g0, g1, g2, g3⟩ := (B2.later hz hb5).cells; obtain ⟨k0, k1, k2, k3⟩ := (show B2 w5 (w.heap.size + 2) ⟨#[]⟩ ⟨#[]⟩ from hv.b2).cells)
        have hw := hv.res x y
        obtain ⟨y0, y1, _, _⟩ := (show B2 _ (w.heap.size + 2) x y from hw.b2).cells
        refine bodyPost_ret (v := .tuple #[.agg #[.string x, .string y], .bool true, .int .i64 0]) (by simp [results, Try.results21, go_sem, y0, y1]) rfl ⟨rfl, hw.bel⟩
  · go_simp
    have hx2dA := hx2d.later (alloc_b _ (.cells #[.string ⟨#[]⟩, .string ⟨#[]⟩] TR))
    have hbn := B2.new w2 ⟨#[]⟩ ⟨#[]⟩
    have hB : w.heap.size + 2 < w2.heap.size := hx2d.lt
    generalize hwq : w2.alloc (.cells #[.string ⟨#[]⟩, .string ⟨#[]⟩] TR) = wq at *
    generalize hBq : w2.heap.size = B at *
    clear hwq hBq
    refine hK.out _ _ (HE.out _ hx2dA) (fun hS => ?_)
    clear hK K
    try simp only [Act.put, List.setIfInBounds_toArray, List.set_cons_zero, List.set_cons_succ]
    refine wpAnyH_ready (rs := [4]) (by kernel_rfl) (by simp) ?_
    refine (AllReadyH.cons rfl (fun K hK => ?_) AllReadyH.nil)
    · go_simp
      go_at_call 39
      refine (hL.out _).mono ?_
      rintro e w3 ⟨rfl, hb3⟩
      have hx2dAL := hx2dA.later hb3
      have hbnL := hbn.later hb3
      refine hK.out _ _ (HE.out _ hx2dAL) (fun hS => ?_)
      clear hK K
      try simp only [Act.put, List.setIfInBounds_toArray, List.set_cons_zero, List.set_cons_succ]
      refine wpAnyH_ready (rs := [9]) (by kernel_rfl) (by simp) ?_
      refine (AllReadyH.cons rfl (fun K hK => ?_) AllReadyH.nil)
      · go_simp
        go_at_call 40
        refine (hM.out _).mono ?_
        rintro e w4 ⟨rfl, hb4⟩
        have hx2dALM := hx2dAL.later hb4
        have hbnLM := hbnL.later hb4
        refine hK.out _ _ (HE.out _ hx2dALM) (fun hS => ?_)
        clear hK K
        try simp only [Act.put, List.setIfInBounds_toArray, List.set_cons_zero, List.set_cons_succ]
        refine wpAnyH_take (i := 10) (v := .agg #[.string x, .string y]) rfl (by kernel_rfl) (by kernel_rfl) (by kernel_rfl) (fun _ _ _ h => h) (Or.inl ⟨by kernel_rfl, by intro w' hSw; obtain ⟨s0, s1, s2, s3, s4⟩ := hSw; go_simp⟩) hS ?_
        try simp only [Act.put, List.setIfInBounds_toArray, List.set_cons_zero, List.set_cons_succ]
        refine wpAnyH_ready (rs := [12]) (by kernel_rfl) (by simp) ?_
        refine AllReadyH.cons rfl (fun K hK => ?_) AllReadyH.nil
        obtain ⟨d0, d1, f0, f1⟩ := hbnLM.cells
        go_simp
        have hy := Mt.store (x0 := x) (y0 := y) hx2dALM hB (.string x) (.string y)
        have hz : B2 _ B x y := box_set hbnLM x y
        clear d0 d1 f0 f1
        refine hK.out _ _ (HE.out _ hy) (fun hS => ?_)
        clear hK K
        try simp only [Act.put, List.setIfInBounds_toArray, List.set_cons_zero, List.set_cons_succ]
        refine wpAnyH_done (by kernel_rfl) ?_ _
        clear hS
        obtain ⟨d0, d1, f0, f1⟩ := hz.cells
        generalize hwr : (World.setCell (World.setCell _ _ _) _ _) = wr at *
        clear hwr
        go_wp2_with (go_at_call 17; refine (hC.out _).mono ?_; rintro e w5 ⟨rfl, hb5⟩; have hv := hy.later hb5; obtain ⟨g0, g1, g2, g3⟩ := (B2.later hz hb5).cells; obtain ⟨k0, k1, k2, k3⟩ := (show B2 w5 (w.heap.size + 2) ⟨#[]⟩ ⟨#[]⟩ from hv.b2).cells)
        have hw := hv.res x y
        obtain ⟨y0, y1, _, _⟩ := (show B2 _ (w.heap.size + 2) x y from hw.b2).cells
        refine bodyPost_ret (v := .tuple #[.agg #[.string x, .string y], .bool true, .int .i64 0]) (by simp [results, Try.results21, go_sem, y0, y1]) rfl ⟨rfl, hw.bel⟩
set_option maxHeartbeats 1000000 in
theorem meet_bad (a b : Rg) (h : okL [a, b] = 2) (w : World) :
    Calls Try.prog 21 #[.agg #[.string (tx a.f), .string (tx a.t)], .agg #[.string (tx b.f), .string (tx b.t)]] w fun e w' => e = .returned (.tuple #[.agg #[.string (tx []), .string (tx [])], .bool false, .int .i64 2]) ∧ Below w.heap.size w w' := by
  have hx := mt_new w (tx a.f) (tx a.t) (tx b.f) (tx b.t) ⟨#[]⟩ ⟨#[]⟩
  have hA := fun v W hv => all_any v [a, b] W hv (by simp)
  rw [h] at hA
  replace hA := Lib.hid hA
  have hx1 := hx.later (alloc_b _ (.cells #[.string (tx a.f), .string (tx a.t), .string (tx b.f), .string (tx b.t)] TR))
  have hq := heap_alloc_new (((w.alloc (.cells #[.string (tx a.f), .string (tx a.t)] TR)).alloc (.cells #[.string (tx b.f), .string (tx b.t)] TR)).alloc (.cells #[.string ⟨#[]⟩, .string ⟨#[]⟩] TR)) (.cells #[.string (tx a.f), .string (tx a.t), .string (tx b.f), .string (tx b.t)] TR)
  have hRs := Lib.hid (two_rs _ _ a b hq)
  clear hq
  simp only [World.size_alloc] at hRs
  obtain ⟨c0, c1, c2, c3, _⟩ := hx.cells
  have HE : Hid (∀ W, Mt w (tx a.f) (tx a.t) (tx b.f) (tx b.t) ⟨#[]⟩ ⟨#[]⟩ W → W.cell? ⟨w.heap.size, 0, none⟩ = some (.string (tx a.f)) ∧ W.cell? ⟨w.heap.size, 1, none⟩ = some (.string (tx a.t)) ∧ W.cell? ⟨w.heap.size + 1, 0, none⟩ = some (.string (tx b.f)) ∧ W.cell? ⟨w.heap.size + 1, 1, none⟩ = some (.string (tx b.t)) ∧ Mt w (tx a.f) (tx a.t) (tx b.f) (tx b.t) ⟨#[]⟩ ⟨#[]⟩ W) := fun W h => h.cells
  generalize tx a.f = s at *
  generalize tx a.t = t at *
  generalize tx b.f = u at *
  generalize tx b.t = v at *
  go_enter Try.func21, Try.ntmps21
  go_wp2_with (go_at_call 38; refine (hA.out _ _ hRs.out).mono ?_; rintro e w1 ⟨rfl, hb1⟩; have hv := hx1.later hb1; obtain ⟨k0, k1, k2, k3⟩ := (show B2 w1 (w.heap.size + 2) ⟨#[]⟩ ⟨#[]⟩ from hv.b2).cells)
  have hw := hv.res ⟨#[]⟩ ⟨#[]⟩
  obtain ⟨y0, y1, _, _⟩ := (show B2 _ (w.heap.size + 2) ⟨#[]⟩ ⟨#[]⟩ from hw.b2).cells
  refine bodyPost_ret (v := .tuple #[.agg #[.string ⟨#[]⟩, .string ⟨#[]⟩], .bool false, .int .i64 2]) (by simp [results, Try.results21, go_sem, y0, y1]) rfl ⟨rfl, hw.bel⟩

theorem okL2 (a b : Rg) : okL [a, b] = if okR a && okR b then 0 else 2 := by unfold okL; simp [List.all_cons]
/-- A range as a value. -/
def rgV (r : Rg) : Value := .agg #[.string (tx r.f), .string (tx r.t)]
theorem meet_any (a b : Rg) (w : World) :
    Calls Try.prog 21 #[.agg #[.string (tx a.f), .string (tx a.t)], .agg #[.string (tx b.f), .string (tx b.t)]] w fun e w' => e = .returned (.tuple #[.agg #[.string (tx (meetR a b).1.f), .string (tx (meetR a b).1.t)], .bool (meetR a b).2.1, .int .i64 (meetR a b).2.2]) ∧ Below w.heap.size w w' := by
  unfold meetR
  cases h : (okR a && okR b) with
  | false => exact meet_bad a b (by rw [okL2, h]; rfl) w
  | true =>
    have h0 : okL [a, b] = 0 := by rw [okL2, h]; rfl
    cases hm : okR (meetV a b) with
    | false => exact meet_no a b h0 (by unfold okE; rw [hm]; rfl) w
    | true => exact meet_yes a b h0 (by unfold okE; rw [hm]; rfl) w

end Go.Proofs.Ytocencmdfppkaaa.Rng
