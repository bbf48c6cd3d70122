/- slices.AppendSeq and Collect of a set's nodes; Nodes. -/
import Derived.Test.YtmbkopeikldonaaDoorU08
import Derived.Shelf.Abstract
namespace Go.Proofs.YtmbkopeikldonaaDoor.Quo
open Go.RowKit Go.Lib Go.Shelf
set_option linter.unusedVariables false
set_option linter.unusedSimpArgs false
set_option maxRecDepth 100000
attribute [local go_sem] Oper.semAt_some

theorem held_put {n : Nat} (hG : 0 < n) (W : World) (l : Nat) (o o' : Obj) (hl : n ≤ l) (_ : W.heap[l]? = some o) (_ : o.isCells = false) (_ : o.isWalk = false) : Held W (W.putObj l o') := by
  refine ⟨(grownBy_putObj' W l o').size, ?_⟩
  rcases Nat.lt_or_ge 0 W.heap.size with h | h
  · exact (grownBy_putObj' W l o').block _ h (by intro e; injection e with e; omega)
  · have h2 : (W.putObj l o').heap.size = W.heap.size := by simp [World.putObj]
    rw [Array.getElem?_eq_none (by omega), Array.getElem?_eq_none (by omega)]
theorem rows_kept {w w' : World} {base size n : Nat} {e : TypeId} {v : Value} {xs : List Value} (h : w.ownsRow base e size v n xs) (hs : ∀ k, v.ownBlock = some k → w'.heap[k]? = w.heap[k]?) : w'.ownsRow base e size v n xs := by
  refine ⟨h.1, ?_⟩
  rcases h.2 with hn | ⟨g, cap, cur, rfl, hbg, hg, rest⟩
  · exact .inl hn
  · exact .inr ⟨g, cap, cur, rfl, hbg, (hs g rfl).trans hg, rest⟩
theorem rows_cells {w : World} {base size n : Nat} {e : TypeId} {v : Value} {xs : List Value} (h : w.ownsRow base e size v n xs) : ∀ (g : Nat) (o : Obj), v.ownBlock = some g → w.heap[g]? = some o → o.isCells = true := by
  intro g o hg ho
  rcases h.2 with ⟨rfl, _⟩ | ⟨g', cap, cur, rfl, _, hh, _⟩
  · cases hg
  · have : g' = g := by simpa [Value.ownBlock] using hg
    subst this
    rw [hh] at ho
    cases ho
    rfl
theorem others_below {W W' : World} (h : Below W.heap.size W W') : KeepsOthers W W' := ⟨h.size, fun k o hk _ => (h.block k (Array.getElem?_eq_some_iff.1 hk).1).trans hk⟩
/-- The state between two rounds. -/
structure AAt (w : World) (pre : List (Fin 64)) (W : World) : Prop where
  ex : ∃ u, Boxed W w.heap.size 41 u ∧ OwI (w.heap.size + 1) (pre.map Fin.val) u W
  bel : Below w.heap.size w W
  siz : w.heap.size + 1 ≤ W.heap.size
theorem aat_from {w : World} (B : Nat) (hB : w.heap.size + 1 ≤ B) : OwnFrom B (fun (pre : List (Fin 64)) W => AAt w pre W) := by
  rintro pre W W' row ⟨⟨u, h1, h2⟩, h6, h7⟩ hg hr
  refine ⟨⟨u, h1.kept hg fun e => ?_, rows_kept h2 fun k hk => hg.block k (World.ownsRow.lt h2 k hk).2 fun e => ?_⟩, h6.grown hg h6.size fun r e => ?_, Nat.le_trans h7 hg.size⟩
  · have := (hr _ e.symm).1; omega
  · obtain ⟨_, o, ho, hc⟩ := hr _ e.symm
    rw [rows_cells h2 k o hk ho] at hc; cases hc
  · have := (hr r e).1; omega
theorem wpListIn_append_I {F : Fence} {n : Nat} {ops : Array Oper} {rest : List Oper} {o : Oper} {a : Act} {w : World} {Q : Exit → Act → World → Prop} (hgd : o.guard = none) (s x : Operand)
    (ho : o.op = .call { callee := .builtin .append, args := #[s, x], argTypes := #[41, 41] })
    (base : Nat) (v : Value) (l : List Nat) (hs : a.eval s = v) (hown : OwI base l v w) (g c y : Nat) (hx : a.eval x = .slice (some ⟨g, 0, none⟩) 1 c) (hc : w.cell? ⟨g, 0, none⟩ = some (.int .i64 (y : Nat)))
    (hn : l.length ≤ 100000) (hbase : base ≤ w.heap.size)
    (h : ∀ v' w', OwI base (l ++ [y]) v' w' → w.grownBy w' v.ownBlock → wpListIn F n Tryd.prog ops Q rest (a.put o.dst v') w') :
    wpListIn F n Tryd.prog ops Q (o :: rest) a w := by
  obtain ⟨i0, hi, hz0, hz1, hz2⟩ := info_parts info_i
  refine wpListIn_append_own _ hgd _ _ 41 ho base TI i0 (.int .i64 0) 1 8 Tryd.underlying41 hi hz0 hz1 hz2 rfl (by decide) _ _ _ hs hown ⟨g, 0, none⟩ 1 c (nums .i64 [y]) hx rfl (fun j u hu => by
    cases j with
    | zero => cases hu; simpa [Addr.add] using hc
    | succ j => simp [nums] at hu) (nums_one _ _) (by unfold maxLen; omega) (by omega) hbase ?_
  intro v' w' h1 h2 _
  refine h v' w' ?_ h2
  show w'.ownsRow base TI 1 v' (l ++ [y]).length (nums .i64 (l ++ [y]))
  rw [nums_app, List.length_append]
  exact h1
set_option maxHeartbeats 2000000 in
theorem appendSeq_any (x : Nat) (hx : x < 18446744073709551616) (w : World) (hH : Hv w) (Bn : Nat) (hBox : w.cell? ⟨Bn, 0, none⟩ = some (.int .u64 x)) :
    Calls Tryd.prog 43 #[.slice none 0 0, .func (.func 41) #[] #[.pointer (some ⟨Bn, 0, none⟩)]] w (OwnI (bitsOf x) w) := by
  refine (callsIn_wide (n := 4)).1 ?_
  refine callsIn_of_wp_marks Tryd.func43 rfl trivial ?_ rfl
  simp only [Tryd.ntmps43, List.size_toArray, List.length_cons, List.length_nil, Nat.reduceAdd, Nat.reduceSub, Array.replicate_succ, Array.replicate_zero, List.push_toArray, List.append_toArray, List.nil_append, List.cons_append]
  gi_wp2
  obtain ⟨w0, hw0⟩ : ∃ w0, w.alloc (.cells #[.slice none 0 0] 41) = w0 := ⟨_, rfl⟩
  have hz0 : w0.heap.size = w.heap.size + 1 := by rw [← hw0]; simp
  have hb0 : Below w.heap.size w w0 := by rw [← hw0]; exact alloc_b _ _
  have hH0 := hH.later hb0
  have hbox2 : w0.cell? ⟨Bn, 0, none⟩ = some (.int .u64 x) := (hb0.cell (p := ⟨Bn, 0, none⟩) (World.block_lt_of_cell? w _ hBox)).trans hBox
  have hst := members_stops x hx w0 hH0 Bn hbox2
  have h00 : AAt w [] w0 := ⟨⟨.slice none 0 0, by rw [← hw0]; exact Boxed.new w _ _, OwI.nil _ _⟩, hb0, by omega⟩
  have hgl := hH.lt
  have hlen := bits_lt x
  rw [hw0]
  refine wpIn_rangeFunc_ownH rfl (by omega) (gf := 41) (lb := #[.pointer (some ⟨Bn, 0, none⟩)]) rfl trivial (enters_of Tryd.func41 (by kernel_rfl) rfl)
    hst (fun h k => h.trans k) (held_put hH0.lt) (Below.refl _ _) (fun _ => rfl)
    (fun pre W => AAt w pre W) (fun _ _ _ => False) (aat_from _ (by omega)) (fun _ _ _ _ _ hs _ _ => hs) h00
    (fun y a' W => a' = { tmps := #[.slice none 0 0, .func (.func 41) #[] #[.pointer (some ⟨Bn, 0, none⟩)], .pointer (some ⟨w.heap.size, 0, none⟩), undef, .slice none 0 0, .int .i64 (y.val : Nat), .func (.func 41) #[] #[.pointer (some ⟨Bn, 0, none⟩)], .int .i64 (y.val : Nat), undef, undef, undef, undef, undef], defers := [] })
    ?ax ?assign ?body ?done ?stop
  case ax =>
    rintro y a' _ W W' row h hg hr
    exact h
  case assign =>
    rintro l' pre y W K hM hK
    dsimp only [encN] at hK ⊢
    have hKA := Lib.hid (hK _ W (KeepsOthers.from ⟨Nat.le_refl _, fun _ _ h _ => h⟩ _) ⟨Nat.le_refl _, rfl⟩ hM rfl)
    clear hK
    gi_wp2
    exact hKA.out
  case body =>
    rintro l' pre y a' W _ _ hM rfl hlt
    obtain ⟨⟨u, hl, how⟩, hbel, hsiz⟩ := hM
    obtain ⟨m, hm⟩ : ∃ m, pre.map Fin.val = m := ⟨_, rfl⟩
    have hml : m.length = pre.length := by rw [← hm, List.length_map]
    have hmy : (pre ++ [y]).map Fin.val = m ++ [y.val] := by rw [List.map_append, hm]; rfl
    rw [hm] at how
    have c0 := hl.cell
    have hls : w.heap.size < W.heap.size := hl.lt
    have hcell : (W.alloc (.cells #[.int .i64 (y.val : Nat)] TI)).cell? ⟨W.heap.size, 0, none⟩ = some (.int .i64 (y.val : Nat)) := cell_of_row _ _ 0 _ _ _ (heap_alloc_new W _)
    have how2 := how.later (alloc_b W (.cells #[.int .i64 (y.val : Nat)] TI))
    have hub : ∀ k, u.ownBlock = some k → w.heap.size + 1 ≤ k ∧ k < W.heap.size := World.ownsRow.lt how
    have hpl : m.length ≤ 100000 := by omega
    clear hml hm
    have hgW : 0 < w.heap.size := hgl
    have HA4 : ∀ (W4 : World) (v4 : Value), OwI (w.heap.size + 1) (m ++ [y.val]) v4 W4 → (W.alloc (.cells #[.int .i64 (y.val : Nat)] TI)).grownBy W4 u.ownBlock →
        Boxed W4 w.heap.size 41 u ∧ (KeepsFrom w0.heap.size W (W4.setCell ⟨w.heap.size, 0, none⟩ v4) ∧ Held W (W4.setCell ⟨w.heap.size, 0, none⟩ v4) ∧ AAt w (pre ++ [y]) (W4.setCell ⟨w.heap.size, 0, none⟩ v4)) := by
      intro W4 v4 how4 hg
      have hb : Below W.heap.size W (W.alloc (.cells #[.int .i64 (y.val : Nat)] TI)) := alloc_b _ _
      have hlu : ∀ k, k < W.heap.size → u.ownBlock ≠ some k → W4.heap[k]? = W.heap[k]? := fun k hk hn =>
        (hg.block k (by have := hb.size; omega) (fun e => hn e.symm)).trans (hb.block k (by omega))
      have hlu1 : ∀ k, k < w.heap.size + 1 → W4.heap[k]? = W.heap[k]? := fun k hk => hlu k (by omega) (fun e => by have := (hub k e).1; omega)
      have hl4 : Boxed W4 w.heap.size 41 u := (hlu1 _ (by omega)).trans hl
      have hne1 : ∀ k, k ≠ w.heap.size → (W4.setCell ⟨w.heap.size, 0, none⟩ v4).heap[k]? = W4.heap[k]? := fun k hk => Below.heap_setCell W4 _ _ k hk
      have hs4 : W.heap.size ≤ W4.heap.size := Nat.le_trans hb.size hg.size
      have hs5 : (W4.setCell ⟨w.heap.size, 0, none⟩ v4).heap.size = W4.heap.size := by simp [World.setCell]
      refine ⟨hl4, KeepsOthers.from (((others_below hb).trans (KeepsOthers.of_grownBy hg fun j o ej hj => rows_cells how2 j o ej hj)).trans (KeepsOthers.setCell _ _ _)) _, ⟨by rw [hs5]; exact hs4, ?_⟩, ⟨v4, hl4.set _, by rw [hmy]; exact rows_kept how4 fun k hk => hne1 k (by have := (World.ownsRow.lt how4 k hk).1; omega)⟩, ?_, by rw [hs5]; omega⟩
      · exact (hne1 _ (by omega)).trans (hlu1 _ (by omega))
      · exact (((hbel.trans (hb.mono hbel.size)).grown hg (Nat.le_trans hbel.size hb.size) (fun k hk => by have := (hub k hk).1; omega))).setCell (p := ⟨w.heap.size, 0, none⟩) (Nat.le_refl _) _
    replace HA4 := Lib.hid HA4
    clear hmy
    obtain ⟨ua, uc, rfl⟩ := how.form
    replace how2 := Lib.hid how2
    clear how
    gi_wp2_with (gi_at_builtin; refine wpListIn_append_I rfl _ _ rfl (w.heap.size + 1) _ m rfl how2.out W.heap.size 1 y.val rfl hcell hpl (by simp; omega) ?_; intro v' w3 hown' hg3; obtain ⟨a4, cap4, rfl⟩ := hown'.form; obtain ⟨g1, g2, g3, g4⟩ := HA4.out w3 _ hown' hg3; have c3 := g1.cell; have f3 := g1.frozen)
    rw [show (m ++ [y.val]).length = m.length + 1 by simp] at g2 g3 g4
    exact ⟨g2, g3, g4⟩
  case done =>
    rintro D ys W hD hys hM hK
    obtain ⟨⟨u, hl, how⟩, hbel, hsiz⟩ := hM
    rw [hys] at how
    have c0 := hl.cell
    obtain ⟨ua, ucap, rfl⟩ := how.form
    have how := Lib.hid how
    simp only [Exit.inBlock, Exit.then]
    go_at_K
    gi_wp2
    refine ⟨by simp, .inl ⟨_, _, rfl, run_takeDeferred (show W.heap[D]? = _ from hK), ?_⟩⟩
    have hg5 := grownBy_putObj' W D (.deferred none)
    have hsame : ∀ (k : Nat), k < W.heap.size → k ≠ D → (W.putObj D (.deferred none)).heap[k]? = W.heap[k]? := fun k hk hD => hg5.block k hk (by intro e; injection e with e; exact hD e)
    refine ⟨.slice ua (bitsOf x).length ucap, by simp [results, Tryd.results43, go_sem], _, rfl, OwI.base (base := w.heap.size + 1) (rows_kept how.out fun k hk => hsame k (World.ownsRow.lt how.out k hk).2 fun e => ?_) (by omega), hbel.grown hg5 hbel.size (fun k e => by cases e; omega)⟩
    subst e
    have := rows_cells how.out k _ hk hK
    cases this
  case stop =>
    rintro D c pre W _ _ h _
    exact h.elim
theorem nodes_any (x : Nat) (hx : x < 18446744073709551616) (w : World) (hH : Hv w) :
    Calls Tryd.prog 29 #[.int .u64 x] w (OwnI (bitsOf x) w) := by
  have hb := alloc_b w (.cells #[.int .u64 x] TU)
  have hA := appendSeq_any x hx (w.alloc (.cells #[.int .u64 x] TU)) (hH.later hb) w.heap.size (cell_of_row _ _ 0 _ _ _ (heap_alloc_new w _))
  have hA := Lib.hid hA
  have hC : Hid (Calls Tryd.prog 39 #[.func (.func 41) #[] #[.pointer (some ⟨w.heap.size, 0, none⟩)]] (w.alloc (.cells #[.int .u64 x] TU)) (OwnI (bitsOf x) (w.alloc (.cells #[.int .u64 x] TU)))) := by
    refine Lib.hid ?_
    generalize w.alloc (.cells #[.int .u64 x] TU) = w1 at *
    go_enter Tryd.func39, Tryd.ntmps39
    go_wp2_with (go_at_call 43; refine hA.out.mono ?_; rintro e w2 ⟨u, rfl, ho, hb⟩)
    go_ret
    exact ⟨u, rfl, ho, hb⟩
  replace hb := Lib.hid hb
  clear hA
  go_enter Tryd.func29, Tryd.ntmps29
  go_wp2_with (first
    | (go_at_call 38; refine (members_any _ _).mono ?_; rintro e w' ⟨rfl, rfl⟩)
    | (go_at_call 39; refine hC.out.mono ?_; rintro e w2 ⟨u, rfl, ho, hb2⟩))
  go_ret
  exact ⟨u, rfl, ho.base hb.out.size, below2 hb.out hb2⟩
end Go.Proofs.YtmbkopeikldonaaDoor.Quo
