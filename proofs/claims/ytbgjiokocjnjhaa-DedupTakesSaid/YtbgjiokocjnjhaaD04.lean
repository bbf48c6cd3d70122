/- slices.Insert of one entry into a row of the table's own: at the end, in place, into a new row. -/
import Derived.Test.YtbgjiokocjnjhaaD03
import Derived.Shelf.Spec.SlicesInsert
namespace Go.Proofs.Ytbgjiokocjnjhaa.Ded
open Go.RowKit Go.Lib Go.Shelf
open Rng (tx nameOk)
set_option linter.unusedVariables false
set_option linter.unusedSimpArgs false
set_option maxRecDepth 100000

/-- The row that comes back. -/
def Insd (base : Nat) (M : List En) (v : Value) (w : World) (e : Ending) (w' : World) : Prop :=
  ∃ v', e = .returned v' ∧ Ow base M v' w' ∧ w.grownBy w' v.ownBlock ∧ (v'.ownBlock = v.ownBlock ∨ v'.ownBlock = some w.heap.size)
theorem ins_end (base : Nat) (v : Value) (L : List En) (x : En) (vb vc : Nat) (w : World) (hown : Ow base L v w) (hx : w.heap[vb]? = some (.cells (ec x).toArray TN (0, 0))) (hn : L.length ≤ 100000000) (hbase : base ≤ w.heap.size) :
    Calls Try.prog 54 #[v, .int .i64 L.length, .slice (some ⟨vb, 0, none⟩) 1 vc] w (Insd base (L ++ [x]) v w) := by
  obtain ⟨v', w', hr, h1, h2, h3⟩ := run_append_en base w TNs v L hown vb vc x hx hn hbase
  have HI : Hid (Insd base (L ++ [x]) v w (.returned v') w') := Lib.hid ⟨v', rfl, h1, h2, h3⟩
  clear h1 h2 h3
  rcases hown.2 with ⟨rfl, h0⟩ | ⟨g, cap, cur, rfl, hb, hg, hle, hm, hsz, ht⟩
  · obtain rfl := List.eq_nil_of_length_eq_zero h0
    go_enter Try.func54, Try.ntmps54
    go_wp2_with (at_builtin; refine Lib.wpList_append_run _ rfl _ _ _ _ rfl _ _ rfl rfl _ _ hr ?_)
    all_goals (go_ret; exact HI.out)
  · unfold maxLen at hm
    replace hr := Lib.hid hr
    replace ht := Lib.hid ht
    replace hsz := Lib.hid hsz
    replace hg := Lib.hid hg
    generalize hN : L.length = n at *
    replace hN := Lib.hid hN
    go_enter Try.func54, Try.ntmps54
    go_wp2_with (at_builtin; refine Lib.wpList_append_run _ rfl _ _ _ _ rfl _ _ rfl rfl _ _ hr.out ?_)
    all_goals (go_ret; exact HI.out)
set_option maxHeartbeats 4000000 in
theorem ins_shift (base : Nat) (g cap : Nat) (cur : Array Value) (L : List En) (x : En) (i vb vc : Nat) (w : World) (hi : i < L.length) (hb : base ≤ g) (hg : w.heap[g]? = some (.cells cur TN (0, 0))) (hroom : L.length + 1 ≤ cap) (hm : cap ≤ maxLen)
    (hsz : cur.size = cap * 7) (ht : cur.toList.take (L.length * 7) = flat L) (hx : w.heap[vb]? = some (.cells (ec x).toArray TN (0, 0))) (hne : vb ≠ g) :
    Calls Try.prog 54 #[.slice (some ⟨g, 0, none⟩) L.length cap, .int .i64 i, .slice (some ⟨vb, 0, none⟩) 1 vc] w (Insd base (L.take i ++ x :: L.drop i) (.slice (some ⟨g, 0, none⟩) L.length cap) w) := by
  have hfl := flat_len L
  have hcl : cur.toList.length = cap * 7 := by simpa using hsz
  have hov : ∀ lb cb, (callFunc 82 #[.slice (some ⟨vb, 0, none⟩) 1 vc, .slice (some ⟨g, (i + 1) * 7, none⟩) lb cb]).run Try.prog w = .ok (.value (.bool false)) w := fun lb cb => by
    rw [run_callFunc_extern Try.func82 (by kernel_rfl) (by kernel_rfl) (by kernel_rfl) (e := Extern.SlicesOverlaps.overlaps #[TNs, TNs] #[4]) (by kernel_rfl),
      Lib.run_overlaps_apart w TNs 4 TN Try.underlying81 7 Try.sizeOf94 ⟨vb, 0, none⟩ ⟨g, (i + 1) * 7, none⟩ 1 vc lb cb hne TN TN 7 cur.size (by simp [World.shape?, hx]) (by simp [World.shape?, hg]) (by omega) (by simp [World.frozen?, hx]) (by simp [World.frozen?, hx])]
    rfl
  have hdl : ((flat L).drop (i * 7)).length = (L.length - i) * 7 := by rw [List.length_drop, hfl, Nat.sub_mul]
  have hcg : ∀ j, j < cap * 7 → (w.cell? ⟨g, j, none⟩).isSome = true := fun j hj => by rw [cell_of_row w g j cur TN _ hg, Array.getElem?_eq_getElem (by omega)]; rfl
  have hfz : ∀ j, w.frozen? ⟨g, j, none⟩ = false := fun j => by simp [World.frozen?, hg]
  have hcv : ∀ j u, (flat L)[j]? = some u → w.cell? ⟨g, j, none⟩ = some u := fun j u hu => by
    have hj : j < (flat L).length := (List.getElem?_eq_some_iff.1 hu).1
    rw [cell_of_row w g j cur TN _ hg, ← hu, ← ht, List.getElem?_take, if_pos (by omega)]
    simp
  have hcp1 : ∀ ty dc sc, (Builtin.copy_ #[TNs, TNs] ty #[.slice (some ⟨g, (i + 1) * 7, none⟩) (L.length - i) dc, .slice (some ⟨g, i * 7, none⟩) (L.length + 1 - i) sc]).run Try.prog w.drew = .ok (goInt (L.length - i : Nat)) (w.drew.setCells g ((i + 1) * 7) ((flat L).drop (i * 7))) := fun ty dc sc =>
    run_copy7 w.drew ty g ((i + 1) * 7) _ dc ⟨g, i * 7, none⟩ _ sc (L.length - i) _ (by simp only [Nat.min_def]; split <;> omega) hdl (by omega)
      (fun j v hj => by rw [addr_add]; exact hcv _ v (by rwa [List.getElem?_drop] at hj))
      (fun j hj => hcg _ (by omega)) (fun j hj => hfz _) (fun v hv => flat_one' L v (List.mem_of_mem_drop hv))
  obtain ⟨W1, hW1⟩ : ∃ W1, W1 = w.drew.setCells g ((i + 1) * 7) ((flat L).drop (i * 7)) := ⟨_, rfl⟩
  have hB1 : W1.heap[g]? = some (.cells (ovr cur.toList ((i + 1) * 7) ((flat L).drop (i * 7))).toArray TN (0, 0)) := by
    rw [hW1]
    exact heap_setCells g TN _ _ w.drew cur hg (by omega)
  have hl1 : (ovr cur.toList ((i + 1) * 7) ((flat L).drop (i * 7))).length = cap * 7 := by rw [ovr_len (by omega)]; exact hcl
  have hG1 : w.grownBy W1 (some g) := by
    rw [hW1]
    exact World.grownBy.trans (b := w.drew) ⟨rfl, rfl, rfl, Nat.le_refl _, fun _ _ _ => rfl⟩ (setCells_grown g _ _ w.drew)
  have hxv : W1.heap[vb]? = some (.cells (ec x).toArray TN (0, 0)) := (hG1.block vb (Array.getElem?_eq_some_iff.1 hx).1 (by simpa using hne)).trans hx
  have hcp2 : ∀ (W : World), W.heap = W1.heap → ∀ ty dc, (Builtin.copy_ #[TNs, TNs] ty #[.slice (some ⟨g, i * 7, none⟩) (L.length + 1 - i) dc, .slice (some ⟨vb, 0, none⟩) 1 vc]).run Try.prog W = .ok (goInt (1 : Nat)) (W.setCells g (i * 7) (ec x)) := fun W hW ty dc =>
    run_copy7 W ty g (i * 7) _ dc ⟨vb, 0, none⟩ 1 vc 1 (ec x) (by simp only [Nat.min_def]; split <;> omega) rfl (by omega)
      (fun j v hj => by rw [addr_add, Nat.zero_add, cell_of_row W vb j _ TN _ (by rw [hW]; exact hxv)]; simpa using hj)
      (fun j hj => by
        have hj' : j < 7 := hj
        rw [cell_of_row W g _ _ TN _ (by rw [hW]; exact hB1), Array.getElem?_eq_getElem (by simp; omega)]; rfl)
      (fun j hj => by simp [World.frozen?, hW, hB1]) (ec_one x)
  have HI : Hid (∀ W : World, W.heap = W1.heap → W.os = W1.os → W.tape = W1.tape → W.output = W1.output → Insd base (L.take i ++ x :: L.drop i) (.slice (some ⟨g, 0, none⟩) L.length cap) w (.returned (.slice (some ⟨g, 0, none⟩) (L.length + 1) cap)) (W.setCells g (i * 7) (ec x))) := Lib.hid fun W e1 e2 e3 e4 => by
    have hW2 : W.heap[g]? = some (.cells (ovr cur.toList ((i + 1) * 7) ((flat L).drop (i * 7))).toArray TN (0, 0)) := by rw [e1]; exact hB1
    have h2 := heap_setCells g TN (ec x) (i * 7) W _ hW2 (by show i * 7 + 7 ≤ _; rw [List.size_toArray, hl1]; omega)
    refine ⟨_, rfl, ?_, ?_, .inl rfl⟩
    · have hlen : (L.take i ++ x :: L.drop i).length = L.length + 1 := by simp; omega
      refine ⟨by rw [flat_len], .inr ⟨g, cap, _, by rw [hlen], hb, h2, by rw [hlen]; omega, hm, ?_, ?_⟩⟩
      · have hT : (ovr cur.toList ((i + 1) * 7) ((flat L).drop (i * 7))).toArray.toList.length = cap * 7 := by simpa using hl1
        rw [List.size_toArray, ovr_len (by rw [hT]; show i * 7 + 7 ≤ _; omega)]
        exact hT
      · rw [hlen]
        simp only [List.toList_toArray]
        exact shift_row L x i (by omega) cur.toList ht (by omega)
    · refine World.grownBy.trans (b := W) ⟨e2.trans hG1.os, e3.trans hG1.tape, e4.trans hG1.output, by rw [e1]; exact hG1.size, fun k hk hne => by rw [e1]; exact hG1.block k hk hne⟩ ?_
      exact setCells_grown g _ _ W
  have hcp1' := hcp1
  rw [← hW1] at hcp1'
  clear hcp1 hcg hfz hcv hdl hcl hfl
  have hz2 : ¬ ((i : Int) = (L.length : Int)) := by omega
  have hw1 : IntKind.i64.wrap ((i : Int) + 1) = (i : Int) + 1 := by unfold maxLen at hm; rw [IntKind.wrap_i64]; omega
  have hb1 : (0 : Int) ≤ (i : Int) + 1 := by omega
  have hin : i ≤ L.length := by omega
  have htn : ((i : Int) + 1).toNat = i + 1 := by omega
  have hb3 : (i : Int) ≤ (L.length : Int) + 1 := by omega
  have hb2 : ¬ (cap = i + 1) := by omega
  have hb4 : ¬ (cap = i) := by omega
  have mixed : Try.prog.follows Departure.mixedOrders = true := by kernel_rfl
  unfold maxLen at hm
  clear hG1 hB1 hl1 hxv hx hg ht hsz
  replace hW1 := Lib.hid hW1
  have HC2 := Lib.hid hcp2
  clear hcp2
  generalize hN : L.length = n at *
  have HN := Lib.hid hN
  clear hN
  go_enter Try.func54, Try.ntmps54
  go_wp2_with (simp only [hov])
  go_region_law_o (refine step_copy_runI rfl _ _ TNs TNs rfl _ _ (by simp [Act.eval, Act.put]) (by simp [Act.eval, Act.put]) (hcp1' _ _ _) ?_)
  have e2 := HC2.out W1 rfl
  go_wp2
  go_ret
  exact HI.out _ rfl rfl rfl rfl
abbrev zN : Value := .agg #[.int .i64 0, .int .i64 0, .string ⟨#[]⟩, .int .i64 0, .int .i64 0, .int .i64 0, .string ⟨#[]⟩]
theorem zero_size (k : Nat) : (Builtin.zeroCells zN.cells k).size = k * 7 := by
  show ((Array.range (k * 7)).map _).size = k * 7
  simp
set_option maxHeartbeats 4000000 in
theorem ins_grow (base : Nat) (g : Nat) (cur : Array Value) (L : List En) (x : En) (i vb vc : Nat) (w : World) (hi : i < L.length) (hb : base ≤ w.heap.size) (hg : w.heap[g]? = some (.cells cur TN (0, 0))) (hn : L.length ≤ 100000000)
    (hsz : cur.size = L.length * 7) (ht : cur.toList.take (L.length * 7) = flat L) (hx : w.heap[vb]? = some (.cells (ec x).toArray TN (0, 0))) :
    Calls Try.prog 54 #[.slice (some ⟨g, 0, none⟩) L.length L.length, .int .i64 i, .slice (some ⟨vb, 0, none⟩) 1 vc] w (Insd base (L.take i ++ x :: L.drop i) (.slice (some ⟨g, 0, none⟩) L.length L.length) w) := by
  have hfl := flat_len L
  obtain ⟨i0, hi0, hz0, hz1, hz2⟩ := info_p info_en
  have hcv : ∀ j u, (flat L)[j]? = some u → w.cell? ⟨g, j, none⟩ = some u := fun j u hu => by
    have hj : j < (flat L).length := (List.getElem?_eq_some_iff.1 hu).1
    rw [cell_of_row w g j cur TN _ hg, ← hu, ← ht, List.getElem?_take, if_pos (by omega)]
    simp
  have hgw : g < w.heap.size := (Array.getElem?_eq_some_iff.1 hg).1
  have hvw : vb < w.heap.size := (Array.getElem?_eq_some_iff.1 hx).1
  have htk : ((flat L).take (i * 7)).length = i * 7 := by rw [List.length_take]; omega
  have hdl : ((flat L).drop (i * 7)).length = (L.length - i) * 7 := by rw [List.length_drop, hfl, Nat.sub_mul]
  have hold : (Builtin.firstCells i0.size i (.slice (some ⟨g, 0, none⟩) i L.length)).run Try.prog w.drew = .ok ((flat L).take (i * 7)).toArray w.drew := by
    rw [hz1]
    refine run_firstCells_some w.drew 7 i ⟨g, 0, none⟩ i L.length _ htk fun j v hj => ?_
    rw [addr_add, Nat.zero_add]
    rw [List.getElem?_take] at hj
    split at hj
    · exact hcv j v hj
    · cases hj
  obtain ⟨G, hG⟩ : ∃ G, G = grownCap w (L.length + 1) L.length TN := ⟨_, rfl⟩
  have hGn : L.length + 1 ≤ G := by rw [hG]; exact grownCap_ge w _ _ _
  have hGm : G ≤ maxLen := by rw [hG]; exact grownCap_le_maxLen w _ _ _ (by unfold maxLen; omega)
  obtain ⟨ROW, hROW⟩ : ∃ ROW : Array Value, ROW = ((flat L).take (i * 7)).toArray ++ Builtin.zeroCells zN.cells (L.length + 1 - i) ++ Builtin.zeroCells zN.cells (G - (L.length + 1)) := ⟨_, rfl⟩
  have hRs : ROW.size = G * 7 := by
    rw [hROW, Array.size_append, Array.size_append, zero_size, zero_size, List.size_toArray, htk]
    omega
  have hRt : ROW.toList.take (i * 7) = (flat L).take (i * 7) := by
    rw [hROW, Array.toList_append, Array.toList_append, List.append_assoc]
    exact take_pre rfl (by simpa using htk)
  have hik : i + (L.length + 1 - i) = L.length + 1 := by omega
  have hkk : (L.length : Int) + 1 - (i : Int) = ((L.length + 1 - i : Nat) : Int) := by omega
  have hrz : ∀ ty, (Builtin.append_ #[TNs, 3] ty #[.slice (some ⟨g, 0, none⟩) i L.length, .int .i64 ((L.length : Int) + 1 - (i : Int))]).run Try.prog w =
      .ok (.slice (some ⟨w.heap.size, 0, none⟩) (L.length + 1) G) (w.drew.alloc (.cells ROW TN)) := fun ty => by
    have h := Lib.run_append_grow_zeros (P := Try.prog) w TNs 3 ty TN i0 _ .i64 .i64 Try.underlying81 Try.underlying3 hi0 hz0 (some ⟨g, 0, none⟩) i L.length _ hold (L.length + 1 - i) (by omega) (by omega) (by omega) (by omega) (by rw [hz2]; omega) (by rw [hz2, hik]; exact growslice_fits (by omega) (by omega))
    rw [hik] at h
    rw [hkk, h, hROW, hG]
  obtain ⟨W1, hW1⟩ : ∃ W1, W1 = w.drew.alloc (.cells ROW TN) := ⟨_, rfl⟩
  have hB1 : W1.heap[w.heap.size]? = some (.cells ROW TN (0, 0)) := by rw [hW1]; exact heap_alloc_new w.drew _
  have hO1 : ∀ k, k < w.heap.size → W1.heap[k]? = w.heap[k]? := fun k hk => by rw [hW1]; exact Below.heap_alloc w.drew _ k hk
  have hG1 : w.grownBy W1 (some g) := by
    rw [hW1]
    exact World.grownBy.trans (b := w.drew) ⟨rfl, rfl, rfl, Nat.le_refl _, fun _ _ _ => rfl⟩ (World.grownBy_alloc w.drew _ _)
  have hcpA : ∀ (W : World), W.heap = W1.heap → ∀ ty dc, (Builtin.copy_ #[TNs, TNs] ty #[.slice (some ⟨w.heap.size, i * 7, none⟩) (L.length + 1 - i) dc, .slice (some ⟨vb, 0, none⟩) 1 vc]).run Try.prog W = .ok (goInt (1 : Nat)) (W.setCells w.heap.size (i * 7) (ec x)) := fun W hW ty dc =>
    run_copy7 W ty w.heap.size (i * 7) _ dc ⟨vb, 0, none⟩ 1 vc 1 (ec x) (by simp only [Nat.min_def]; split <;> omega) rfl (by omega)
      (fun j v hj => by rw [addr_add, Nat.zero_add, cell_of_row W vb j _ TN _ (by rw [hW]; exact (hO1 _ hvw).trans hx)]; simpa using hj)
      (fun j hj => by
        have hj' : j < 7 := hj
        rw [cell_of_row W w.heap.size _ _ TN _ (by rw [hW]; exact hB1), Array.getElem?_eq_getElem (by omega)]; rfl)
      (fun j hj => by simp [World.frozen?, hW, hB1]) (ec_one x)
  have hA2 : ∀ (W : World), W.heap = W1.heap → (W.setCells w.heap.size (i * 7) (ec x)).heap[w.heap.size]? = some (.cells (ovr ROW.toList (i * 7) (ec x)).toArray TN (0, 0)) ∧ (∀ k, k < w.heap.size → (W.setCells w.heap.size (i * 7) (ec x)).heap[k]? = w.heap[k]?) := fun W hW => by
    refine ⟨heap_setCells w.heap.size TN (ec x) (i * 7) W ROW (by rw [hW]; exact hB1) (by show i * 7 + 7 ≤ _; omega), fun k hk => ?_⟩
    have hWs : W.heap.size = W1.heap.size := by rw [hW]
    have hs1 : w.heap.size ≤ W1.heap.size := hG1.size
    rw [(setCells_grown w.heap.size (ec x) (i * 7) W).block k (by omega) (by simp; omega), hW, hO1 k hk]
  have hl2 : (ovr ROW.toList (i * 7) (ec x)).length = G * 7 := by rw [ovr_len (by show i * 7 + 7 ≤ _; simp; omega)]; simpa using hRs
  have hcpB : ∀ (W : World), (W.heap[w.heap.size]? = some (.cells (ovr ROW.toList (i * 7) (ec x)).toArray TN (0, 0)) ∧ ∀ k, k < w.heap.size → W.heap[k]? = w.heap[k]?) → ∀ ty dc sc, (Builtin.copy_ #[TNs, TNs] ty #[.slice (some ⟨w.heap.size, (i + 1) * 7, none⟩) (L.length - i) dc, .slice (some ⟨g, i * 7, none⟩) (L.length - i) sc]).run Try.prog W = .ok (goInt (L.length - i : Nat)) (W.setCells w.heap.size ((i + 1) * 7) ((flat L).drop (i * 7))) := fun W hW ty dc sc =>
    run_copy7 W ty w.heap.size ((i + 1) * 7) _ dc ⟨g, i * 7, none⟩ _ sc (L.length - i) _ (by simp only [Nat.min_def]; split <;> omega) hdl (by omega)
      (fun j v hj => by
        rw [addr_add, cell_of_row W g _ cur TN _ ((hW.2 g hgw).trans hg), ← cell_of_row w g _ cur TN _ hg]
        exact hcv _ v (by rwa [List.getElem?_drop] at hj))
      (fun j hj => by rw [cell_of_row W _ _ _ TN _ hW.1, Array.getElem?_eq_getElem (by rw [List.size_toArray, hl2]; omega)]; rfl)
      (fun j hj => by simp [World.frozen?, hW.1]) (fun v hv => flat_one' L v (List.mem_of_mem_drop hv))
  have HI : Hid (∀ W : World, (W.heap[w.heap.size]? = some (.cells (ovr ROW.toList (i * 7) (ec x)).toArray TN (0, 0)) ∧ ∀ k, k < w.heap.size → W.heap[k]? = w.heap[k]?) → W.os = w.os → W.tape = w.tape → W.output = w.output →
      Insd base (L.take i ++ x :: L.drop i) (.slice (some ⟨g, 0, none⟩) L.length L.length) w (.returned (.slice (some ⟨w.heap.size, 0, none⟩) (L.length + 1) G)) (W.setCells w.heap.size ((i + 1) * 7) ((flat L).drop (i * 7)))) := Lib.hid fun W hW e2 e3 e4 => by
    have hlt : w.heap.size < W.heap.size := (Array.getElem?_eq_some_iff.1 hW.1).1
    have h2 := heap_setCells w.heap.size TN ((flat L).drop (i * 7)) ((i + 1) * 7) W _ hW.1 (by rw [List.size_toArray, hl2, hdl]; omega)
    refine ⟨_, rfl, ?_, ?_, .inr rfl⟩
    · have hlen : (L.take i ++ x :: L.drop i).length = L.length + 1 := by simp; omega
      refine ⟨by rw [flat_len], .inr ⟨w.heap.size, G, _, by rw [hlen], hb, h2, by rw [hlen]; omega, hGm, ?_, ?_⟩⟩
      · have hT : (ovr ROW.toList (i * 7) (ec x)).toArray.toList.length = G * 7 := by simpa using hl2
        rw [List.size_toArray, ovr_len (by rw [hT, hdl]; omega)]
        exact hT
      · rw [hlen]
        simp only [List.toList_toArray]
        exact grow_row L x i (by omega) ROW.toList hRt (by simp; omega)
    · have h3 := setCells_grown w.heap.size ((flat L).drop (i * 7)) ((i + 1) * 7) W
      exact ⟨h3.os.trans e2, h3.tape.trans e3, h3.output.trans e4, Nat.le_trans (by omega) h3.size, fun k hk _ => (h3.block k (by omega) (by simp; omega)).trans (hW.2 k hk)⟩
  have hE : (W1.setCells w.heap.size (i * 7) (ec x)).os = w.os ∧ (W1.setCells w.heap.size (i * 7) (ec x)).tape = w.tape ∧ (W1.setCells w.heap.size (i * 7) (ec x)).output = w.output := by
    have h3 := setCells_grown w.heap.size (ec x) (i * 7) W1
    exact ⟨h3.os.trans hG1.os, h3.tape.trans hG1.tape, h3.output.trans hG1.output⟩
  have hw1 : IntKind.i64.wrap ((i : Int) + 1) = (i : Int) + 1 := by rw [IntKind.wrap_i64]; omega
  have hz2' : ¬ ((i : Int) = (L.length : Int)) := by omega
  have hb1 : (0 : Int) ≤ (i : Int) + 1 := by omega
  have hin : i ≤ L.length := by omega
  have htn : ((i : Int) + 1).toNat = i + 1 := by omega
  have hb3 : (i : Int) ≤ (L.length : Int) := by omega
  have hGi : ¬ (G = i) := by omega
  have hGim : ¬ (G = i + 1) := by omega
  have hci : ¬ (L.length = i) := by omega
  have mixed : Try.prog.follows Departure.mixedOrders = true := by kernel_rfl
  unfold maxLen at hGm
  rw [← hW1] at hrz
  have HA := Lib.hid (hcpA W1 rfl)
  have HB := Lib.hid (fun W hW => hcpB W hW)
  have HA2 := Lib.hid hA2
  have HE := Lib.hid hE
  clear hcpA hcpB hA2 hE hl2 hG1 hO1 hB1 hkk hik hRt hRs hROW hG hold hdl htk hcv hfl hz2 hz1 hz0 hi0 hx hg ht hsz
  replace hW1 := Lib.hid hW1
  generalize hN : L.length = n at *
  have HN := Lib.hid hN
  clear hN
  go_enter Try.func54, Try.ntmps54
  have hA := HA.out
  have hrz' := Lib.hid hrz
  clear hrz
  go_wp2_with (at_builtin; refine Lib.wpList_append_run _ rfl _ _ _ _ rfl _ _ rfl rfl _ _ (hrz'.out _) ?_)
  have hq := HA2.out W1 rfl
  generalize hW2 : W1.setCells w.heap.size (i * 7) (ec x) = W2 at *
  have hq2 : (W2.drew.heap[w.heap.size]? = some (.cells (ovr ROW.toList (i * 7) (ec x)).toArray TN (0, 0)) ∧ ∀ k, k < w.heap.size → W2.drew.heap[k]? = w.heap[k]?) := hq
  have HB2 := HB.out W2.drew hq2 3 (G - (i + 1)) (n - i)
  have HI2 := Lib.hid (HI.out W2.drew hq2 (show W2.drew.os = w.os from HE.out.1) (show W2.drew.tape = w.tape from HE.out.2.1) (show W2.drew.output = w.output from HE.out.2.2))
  clear hq hq2 hA
  go_region_law_o (refine step_copy_runI rfl _ _ TNs TNs rfl (.slice (some ⟨w.heap.size, (i + 1) * 7, none⟩) (n - i) (G - (i + 1))) (.slice (some ⟨g, i * 7, none⟩) (n - i) (n - i)) (by simp [Act.eval, Act.put]) (by simp [Act.eval, Act.put]) HB2 ?_)
  clear HB2
  go_wp2
  go_ret
  exact HI2.out
end Go.Proofs.Ytbgjiokocjnjhaa.Ded
