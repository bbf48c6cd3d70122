/- slices.AppendSeq and Collect of the ranges of a slice. -/
import Derived.Test.YtocencmdfppkaaaR10
import Derived.Outline
namespace Go.Proofs.Ytocencmdfppkaaa.Rng
open Go.RowKit Go.Lib
set_option linter.unusedVariables false
set_option linter.unusedSimpArgs false
set_option maxRecDepth 100000
attribute [local go_sem] Oper.semAt_some

theorem held_put {G : Nat → Prop} {n : Nat} (hG : ∀ k, G k → k < n) (W : World) (l : Nat) (o o' : Obj) (hl : n ≤ l) (_ : W.heap[l]? = some o) (_ : o.isCells = false) (_ : o.isWalk = false) : Held G W (W.putObj l o') := by
  refine ⟨(grownBy_putObj' W l o').size, fun k hk => ?_⟩
  have h1 := hG k hk
  rcases Nat.lt_or_ge k W.heap.size with h | h
  · exact (grownBy_putObj' W l o').block k h (by intro e; injection e with e; omega)
  · have h2 : (W.putObj l o').heap.size = W.heap.size := by simp [World.putObj]
    rw [Array.getElem?_eq_none (by omega), Array.getElem?_eq_none (by omega)]
theorem rows_kept {w w' : World} {base size n : Nat} {e : TypeId} {v : Value} {xs : List Value} (h : w.ownsRow base e size v n xs) (hs : ∀ k, v.ownBlock = some k → w'.heap[k]? = w.heap[k]?) : w'.ownsRow base e size v n xs := by
  refine ⟨h.1, ?_⟩
  rcases h.2 with hn | ⟨g, cap, cur, rfl, hbg, hg, rest⟩
  · exact .inl hn
  · exact .inr ⟨g, cap, cur, rfl, hbg, (hs g rfl).trans hg, rest⟩
theorem rows_cells {w : World} {base size n : Nat} {e : TypeId} {v : Value} {xs : List Value} (h : w.ownsRow base e size v n xs) : ∀ (g : Nat) (o : Obj), v.ownBlock = some g → w.heap[g]? = some o → o.isCells = true := by
  intro g o hg ho
  rcases h.2 with ⟨rfl, _⟩ | ⟨g', cap, cur, rfl, _, hh, _⟩
  · cases hg
  · have : g' = g := by simpa [Value.ownBlock] using hg
    subst this
    rw [hh] at ho
    cases ho
    rfl
theorem others_below {W W' : World} (h : Below W.heap.size W W') : KeepsOthers W W' := ⟨h.size, fun k o hk _ => (h.block k (Array.getElem?_eq_some_iff.1 hk).1).trans hk⟩
/-- The state between two rounds. -/
structure AAt (w : World) (pre : List Rg) (W : World) : Prop where
  ex : ∃ u, Boxed W w.heap.size 36 u ∧ Ow (w.heap.size + 1) pre u W
  bel : Below w.heap.size w W
  siz : w.heap.size + 1 ≤ W.heap.size
theorem aat_from {w : World} (B : Nat) (hB : w.heap.size + 1 ≤ B) : OwnFrom B (fun (pre : List Rg) W => AAt w pre W) := by
  rintro pre W W' row ⟨⟨u, h1, h2⟩, h6, h7⟩ hg hr
  refine ⟨⟨u, h1.kept hg fun e => ?_, rows_kept h2 fun k hk => hg.block k (World.ownsRow.lt h2 k hk).2 fun e => ?_⟩, h6.grown hg h6.size fun r e => ?_, Nat.le_trans h7 hg.size⟩
  · have := (hr _ e.symm).1; omega
  · obtain ⟨_, o, ho, hc⟩ := hr _ e.symm
    rw [rows_cells h2 k o hk ho] at hc; cases hc
  · have := (hr r e).1; omega
def Bxd (W : World) (q : Nat) (x : Rg) : Prop := W.heap[q]? = some (.cells #[.string (tx x.f), .string (tx x.t)] TR (0, 0))
theorem wpList_append_rg {ops : Array Oper} {rest : List Oper} {o : Oper} {a : Act} {w : World} {Q : Exit → Act → World → Prop} (hgd : o.guard = none) (s x : Operand)
    (ho : o.op = .call { callee := .builtin .append, args := #[s, x], argTypes := #[36, 36] })
    (base : Nat) (v : Value) (l : List Rg) (hs : a.eval s = v) (hown : Ow base l v w) (g c : Nat) (r : Rg) (hx : a.eval x = .slice (some ⟨g, 0, none⟩) 1 c)
    (h0 : w.cell? ⟨g, 0, none⟩ = some (.string (tx r.f))) (h1 : w.cell? ⟨g, 1, none⟩ = some (.string (tx r.t))) (hn : l.length ≤ 100000000) (hbase : base ≤ w.heap.size)
    (h : ∀ v' w', Ow base (l ++ [r]) v' w' → w.grownBy w' v.ownBlock → wpList Try.prog ops Q rest (a.put o.dst v') w') :
    wpList Try.prog ops Q (o :: rest) a w := by
  refine wpList_plain hgd fun K hK => ?_
  obtain ⟨v', w', hrun, h1, h2⟩ := run_append_rg base w o.type v l hown g c r h0 h1 hn hbase
  unfold Oper.wp execOp
  simp only [ho, resolve, invoke, builtin, Sem.run_bind, Sem.run_pure, Result.andThen_ok, List.map_toArray, List.map_cons, List.map_nil, hs, hx, hrun]
  exact hK _ _ (h v' w' h1 h2)
set_option maxHeartbeats 2000000 in
theorem appendSeq_any (v : Value) (L : List Rg) (w : World) (hv : Rs w v L) (hlen : L.length ≤ 1000) (Bn : Nat) (hG : ∀ k, Gv v Bn k → k < w.heap.size) (hBox : w.cell? ⟨Bn, 0, none⟩ = some v) :
    Calls Try.prog 66 #[.slice none 0 0, .func (.func 59) #[] #[.pointer (some ⟨Bn, 0, none⟩)]] w fun e w' => ∃ u, e = .returned u ∧ Ow w.heap.size L u w' ∧ Below w.heap.size w w' := by
  refine (callsIn_wide (n := 4)).1 ?_
  refine callsIn_of_wp_marks Try.func66 rfl trivial ?_ rfl
  simp only [Try.ntmps66, List.size_toArray, List.length_cons, List.length_nil, Nat.reduceAdd, Nat.reduceSub, Array.replicate_succ, Array.replicate_zero, List.push_toArray, List.append_toArray, List.nil_append, List.cons_append]
  gi_wp2
  obtain ⟨w0, hw0⟩ : ∃ w0, w.alloc (.cells #[.slice none 0 0] 36) = w0 := ⟨_, rfl⟩
  have hz0 : w0.heap.size = w.heap.size + 1 := by rw [← hw0]; simp
  have hb0 : Below w.heap.size w w0 := by rw [← hw0]; exact alloc_b _ _
  have hG2 : ∀ k, Gv v Bn k → k < w0.heap.size := fun k hk => by have := hG k hk; omega
  have hv2 := hv.later hb0
  have hbox2 : w0.cell? ⟨Bn, 0, none⟩ = some v := (hb0.cell (p := ⟨Bn, 0, none⟩) (hG _ (.inr rfl))).trans hBox
  have hst := values_stops v L w0 hv2 hlen Bn hG2 hbox2
  have h00 : AAt w [] w0 := ⟨⟨.slice none 0 0, by rw [← hw0]; exact Boxed.new w _ _, Ow.nil _ _⟩, hb0, by omega⟩
  rw [hw0]
  refine wpIn_rangeFunc_ownH rfl (by omega) (gf := 59) (lb := #[.pointer (some ⟨Bn, 0, none⟩)]) rfl trivial (enters_of Try.func59 (by kernel_rfl) rfl)
    hst (fun h k => h.trans k) (held_put hG2) (Below.refl _ _) (fun _ => rfl)
    (fun pre W => AAt w pre W) (fun _ _ _ => False) (aat_from _ (by omega)) (fun _ _ _ _ _ hs _ _ => hs) h00
    (fun x a' W => ∃ q, w0.heap.size ≤ q ∧ Bxd W q x ∧ (∃ u, Boxed W w.heap.size 36 u ∧ u.ownBlock ≠ some q) ∧ a' = { tmps := #[.slice none 0 0, .func (.func 59) #[] #[.pointer (some ⟨Bn, 0, none⟩)], .pointer (some ⟨w.heap.size, 0, none⟩), undef, .slice none 0 0, .pointer (some ⟨q, 0, none⟩), .func (.func 59) #[] #[.pointer (some ⟨Bn, 0, none⟩)], .agg #[.string (tx x.f), .string (tx x.t)], undef, undef, undef, undef, undef], defers := [] })
    ?ax ?assign ?body ?done ?stop
  case ax =>
    rintro x a' _ W W' row ⟨q, h1, h2, ⟨u, h4, h5⟩, h3⟩ hg hr
    refine ⟨q, h1, (hg.block q (Array.getElem?_eq_some_iff.1 h2).1 fun e => ?_).trans h2, ⟨u, h4.kept hg fun e => ?_, h5⟩, h3⟩
    · obtain ⟨_, o, ho, hc⟩ := hr q e.symm
      rw [show W.heap[q]? = _ from h2] at ho
      cases ho; cases hc
    · have := (hr _ e.symm).1; omega
  case assign =>
    rintro l' pre x W K hM hK
    dsimp only [encR] at hK ⊢
    have hA := alloc_b W (.cells #[.string (tx x.f), .string (tx x.t)] TR)
    have hA2 := aat_from (w := w) w0.heap.size (by omega) pre W _ none hM (below_grown hA) (fun r e => by cases e)
    have hG3 : ∀ k, Gv v Bn k → k < W.heap.size := fun k hk => by have := hG k hk; have := hM.siz; omega
    have hAu : ∃ u, Boxed (W.alloc (.cells #[.string (tx x.f), .string (tx x.t)] TR)) w.heap.size 36 u ∧ u.ownBlock ≠ some W.heap.size := by
      obtain ⟨u, hl, how⟩ := hM.ex
      exact ⟨u, hl.alloc _, fun e => by have := (World.ownsRow.lt how _ e).2; omega⟩
    have hKA := Lib.hid (hK _ _ (KeepsOthers.from (others_below hA) _) (Held.of_below hA hG3) hA2 ⟨W.heap.size, by have := hM.siz; omega, heap_alloc_new W _, hAu, rfl⟩)
    clear hK hA2 hAu
    gi_wp2
    exact hKA.out
  case body =>
    rintro l' pre x a' W _ _ hM ⟨q, hq, hqb, ⟨u1, hl1, hu1⟩, rfl⟩ hlt
    obtain ⟨⟨u, hl, how⟩, hbel, hsiz⟩ := hM
    have huq : u.ownBlock ≠ some q := by
      have h1 := (show W.heap[w.heap.size]? = _ from hl1).symm.trans (show W.heap[w.heap.size]? = _ from hl)
      have h2 : u1 = u := by simpa using h1
      rw [← h2]; exact hu1
    clear hl1 hu1
    have c0 := hl.cell
    obtain ⟨q0, q1, _, _⟩ := (show B2 W q _ _ from hqb).cells
    obtain ⟨i0, hi, hz0', hz1, hz2⟩ := info_parts info_rg
    have hqs : q < W.heap.size := (Array.getElem?_eq_some_iff.1 hqb).1
    have hls : w.heap.size < W.heap.size := hl.lt
    have hnews : ∀ (j : Nat) (z : Value), ([.string (tx x.f), .string (tx x.t)] : List Value)[j]? = some z → (W.alloc (.cells #[.string (tx x.f), .string (tx x.t)] TR)).cell? ((⟨W.heap.size, 0, none⟩ : Addr).add j) = some z := by
      intro j z hz
      obtain ⟨k0, k1, _, _⟩ := (B2.new W (tx x.f) (tx x.t)).cells
      rw [addr_add, Nat.zero_add]
      match j, hz with
      | 0, hz => cases hz; exact k0
      | 1, hz => cases hz; exact k1
    have hone : ∀ z ∈ ([.string (tx x.f), .string (tx x.t)] : List Value), z.oneCell' = true := by
      intro z hz
      simp only [List.mem_cons, List.not_mem_nil, or_false] at hz
      rcases hz with rfl | rfl <;> rfl
    have how2 := how.later (alloc_b W (.cells #[.string (tx x.f), .string (tx x.t)] TR))
    have hub : ∀ k, u.ownBlock = some k → w.heap.size + 1 ≤ k ∧ k < W.heap.size := World.ownsRow.lt how
    have hpl : pre.length ≤ 1000 := by omega
    have HA4 : ∀ (W4 : World) (v4 : Value), Ow (w.heap.size + 1) (pre ++ [x]) v4 W4 → (W.alloc (.cells #[.string (tx x.f), .string (tx x.t)] TR)).grownBy W4 u.ownBlock →
        Boxed W4 w.heap.size 36 u ∧ (KeepsFrom w0.heap.size W (W4.setCell ⟨w.heap.size, 0, none⟩ v4) ∧ Held (Gv v Bn) W (W4.setCell ⟨w.heap.size, 0, none⟩ v4) ∧ AAt w (pre ++ [x]) (W4.setCell ⟨w.heap.size, 0, none⟩ v4)) := by
      intro W4 v4 how4 hg
      have hb : Below W.heap.size W (W.alloc (.cells #[.string (tx x.f), .string (tx x.t)] TR)) := alloc_b _ _
      have hlu : ∀ k, k < W.heap.size → u.ownBlock ≠ some k → W4.heap[k]? = W.heap[k]? := fun k hk hn =>
        (hg.block k (by have := hb.size; omega) (fun e => hn e.symm)).trans (hb.block k (by omega))
      have hlu1 : ∀ k, k < w.heap.size + 1 → W4.heap[k]? = W.heap[k]? := fun k hk => hlu k (by omega) (fun e => by have := (hub k e).1; omega)
      have hl4 : Boxed W4 w.heap.size 36 u := (hlu1 _ (by omega)).trans hl
      have hne1 : ∀ k, k ≠ w.heap.size → (W4.setCell ⟨w.heap.size, 0, none⟩ v4).heap[k]? = W4.heap[k]? := fun k hk => Below.heap_setCell W4 _ _ k hk
      have hs4 : W.heap.size ≤ W4.heap.size := Nat.le_trans hb.size hg.size
      have hs5 : (W4.setCell ⟨w.heap.size, 0, none⟩ v4).heap.size = W4.heap.size := by simp [World.setCell]
      refine ⟨hl4, KeepsOthers.from (((others_below hb).trans (KeepsOthers.of_grownBy hg fun j o ej hj => rows_cells how2 j o ej hj)).trans (KeepsOthers.setCell _ _ _)) _, ⟨by rw [hs5]; exact hs4, fun k hk => ?_⟩, ⟨v4, hl4.set _, ?_⟩, ?_, by rw [hs5]; omega⟩
      · have hkw : k < w.heap.size := hG k hk
        exact (hne1 k (by omega)).trans (hlu1 k (by omega))
      · exact rows_kept how4 fun k hk => hne1 k (by have := (World.ownsRow.lt how4 k hk).1; omega)
      · exact (((hbel.trans (hb.mono hbel.size)).grown hg (Nat.le_trans hbel.size hb.size) (fun k hk => by have := (hub k hk).1; omega))).setCell (p := ⟨w.heap.size, 0, none⟩) (Nat.le_refl _) _
    replace HA4 := Lib.hid HA4
    have HF : Hid (∀ v' w', w'.ownsRow (w.heap.size + 1) TR 2 v' (pre.length + 1) (flat pre ++ [.string (tx x.f), .string (tx x.t)]) → Ow (w.heap.size + 1) (pre ++ [x]) v' w') := fun v' w' h => by
      show w'.ownsRow _ TR 2 v' (pre ++ [x]).length (flat (pre ++ [x]))
      rw [flat_app, List.length_append]
      exact h
    replace how2 := Lib.hid (show (W.alloc (.cells #[.string (tx x.f), .string (tx x.t)] TR)).ownsRow (w.heap.size + 1) TR 2 u pre.length (flat pre) from how2)
    clear how
    generalize tx x.f = s at *
    generalize tx x.t = t at *
    gi_wp2_with (gi_at_builtin; refine wpListIn_append_own _ rfl _ _ 36 rfl (w.heap.size + 1) TR i0 (.agg #[.string ⟨#[]⟩, .string ⟨#[]⟩]) 2 32 Try.underlying36 hi hz0' hz1 hz2 rfl (by decide) _ _ _ rfl how2.out ⟨W.heap.size, 0, none⟩ 1 1 [.string s, .string t] rfl rfl hnews hone (by unfold maxLen; omega) (by omega) (by simp; omega) ?_; intro v' w3 hown' hg3 hnil3; obtain ⟨a4, cap4, rfl⟩ := (HF.out _ _ hown').form; obtain ⟨g1, g2, g3, g4⟩ := HA4.out w3 _ (HF.out _ _ hown') hg3; have c3 := g1.cell; have f3 := g1.frozen)
    rw [show (pre ++ [x]).length = pre.length + 1 by simp] at g2 g3 g4
    exact ⟨g2, g3, g4⟩
  case done =>
    rintro D ys W hD rfl hM hK
    obtain ⟨⟨u, hl, how⟩, hbel, hsiz⟩ := hM
    have c0 := hl.cell
    obtain ⟨ua, ucap, rfl⟩ := how.form
    have how := Lib.hid how
    simp only [Exit.inBlock, Exit.then]
    go_at_K
    gi_wp2
    refine ⟨by simp, .inl ⟨_, _, rfl, run_takeDeferred (show W.heap[D]? = _ from hK), ?_⟩⟩
    have hg5 := grownBy_putObj' W D (.deferred none)
    have hsame : ∀ (k : Nat), k < W.heap.size → k ≠ D → (W.putObj D (.deferred none)).heap[k]? = W.heap[k]? := fun k hk hD => hg5.block k hk (by intro e; injection e with e; exact hD e)
    refine ⟨.slice ua ys.length ucap, by simp [results, Try.results66, go_sem], _, rfl, Ow.base (base := w.heap.size + 1) (rows_kept how.out fun k hk => hsame k (World.ownsRow.lt how.out k hk).2 fun e => ?_) (by omega), hbel.grown hg5 hbel.size (fun k e => by cases e; omega)⟩
    subst e
    have := rows_cells how.out k _ hk hK
    cases this
  case stop =>
    rintro D c pre W _ _ h _
    exact h.elim
theorem collect_any (v : Value) (L : List Rg) (w : World) (hv : Rs w v L) (hlen : L.length ≤ 1000) (Bn : Nat) (hG : ∀ k, Gv v Bn k → k < w.heap.size) (hBox : w.cell? ⟨Bn, 0, none⟩ = some v) :
    Calls Try.prog 57 #[.func (.func 59) #[] #[.pointer (some ⟨Bn, 0, none⟩)]] w fun e w' => ∃ u, e = .returned u ∧ Ow w.heap.size L u w' ∧ Below w.heap.size w w' := by
  have hA := Lib.hid (appendSeq_any v L w hv hlen Bn hG hBox)
  clear hBox hv hG
  go_enter Try.func57, Try.ntmps57
  go_wp2_with (go_at_call 66; refine hA.out.mono ?_; rintro e w1 ⟨u, rfl, ho, hb⟩)
  go_ret
  exact ⟨u, rfl, ho, hb⟩
end Go.Proofs.Ytocencmdfppkaaa.Rng
