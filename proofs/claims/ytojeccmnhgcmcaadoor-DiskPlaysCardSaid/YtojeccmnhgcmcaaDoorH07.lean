/- slices.AppendSeq and Collect of a log's contents; Records. -/
import Derived.Test.YtojeccmnhgcmcaaDoorH06
namespace Go.Proofs.YtojeccmnhgcmcaaDoor.Dsk
open Go.RowKit Go.ChangeShapes _root_.Go.Proofs.YtojeccmnhgcmcaaDoor.Frame
open _root_.Go.Proofs.YtojeccmnhgcmcaaDoor.Crc (Hv more more_lt ret_u32)
set_option linter.unusedVariables false
set_option linter.unusedSimpArgs false
set_option maxRecDepth 100000
attribute [local go_sem] Oper.semAt_some

/-- The state between two rounds. -/
structure RAt (w : World) (pre : List S3) (W : World) : Prop where
  ex : ∃ u, Boxed W w.heap.size TSs u ∧ W.ownsRow (w.heap.size + 1) TSl 1 u pre.length (pre.map sv)
  bel : Below w.heap.size w W
  siz : w.heap.size + 1 ≤ W.heap.size
theorem rat_from {w : World} (B : Nat) (hB : w.heap.size + 1 ≤ B) : OwnFrom B (fun (pre : List S3) W => RAt w pre W) := by
  rintro pre W W' row ⟨⟨u, h1, h2⟩, h6, h7⟩ hg hr
  refine ⟨⟨u, h1.kept hg fun e => ?_, rows_kept h2 fun k hk => hg.block k (World.ownsRow.lt h2 k hk).2 fun e => ?_⟩, h6.grown hg h6.size fun r e => ?_, Nat.le_trans h7 hg.size⟩
  · have := (hr _ e.symm).1; omega
  · obtain ⟨_, o, ho, hc⟩ := hr _ e.symm
    rw [rows_cells h2 k o hk ho] at hc; cases hc
  · have := (hr r e).1; omega
theorem wpListIn_append_sl {F : Fence} {n : Nat} {ops : Array Oper} {rest : List Oper} {o : Oper} {a : Act} {w : World} {Q : Exit → Act → World → Prop} (hgd : o.guard = none) (s x : Operand)
    (ho : o.op = .call { callee := .builtin .append, args := #[s, x], argTypes := #[TSs, TSs] })
    (base : Nat) (v : Value) (l : List S3) (hs : a.eval s = v) (hown : w.ownsRow base TSl 1 v l.length (l.map sv)) (g c : Nat) (y : S3) (hx : a.eval x = .slice (some ⟨g, 0, none⟩) 1 c) (hc : w.cell? ⟨g, 0, none⟩ = some (sv y))
    (hn : l.length ≤ 100000000) (hbase : base ≤ w.heap.size)
    (h : ∀ v' w', w'.ownsRow base TSl 1 v' (l.length + 1) ((l ++ [y]).map sv) → w.grownBy w' v.ownBlock → wpListIn F n Tryd.prog ops Q rest (a.put o.dst v') w') :
    wpListIn F n Tryd.prog ops Q (o :: rest) a w := by
  obtain ⟨i0, hi, hz0, hz1, hz2⟩ := info_parts info_sl
  refine wpListIn_append_own _ hgd _ _ TSs ho base TSl i0 (.slice none 0 0) 1 24 Tryd.underlying39 hi hz0 hz1 hz2 rfl (by decide) _ _ _ hs hown ⟨g, 0, none⟩ 1 c [sv y] hx rfl (fun j u hu => by
    cases j with
    | zero => cases hu; simpa [Addr.add] using hc
    | succ j => simp at hu) (fun u hu => by simp at hu; subst hu; exact sv_one y) (by unfold maxLen; omega) (by omega) hbase ?_
  intro v' w' h1 h2 _
  refine h v' w' ?_ h2
  rw [List.map_append]
  exact h1
/-- A list of contents in slices of one's own. -/
structure OwnL (base : Nat) (L : List (List Nat)) (v : Value) (W : World) : Prop where
  ex : ∃ xs, W.ownsRow base TSl 1 v L.length xs ∧ ReadsL base L xs W
set_option maxHeartbeats 2000000 in
theorem appendSeq_any {w : World} {d : Nat} {F : Nat → Prop} {m : St} (h : Dx w d F m) (hH : Hv w) (Bn : Nat) (hBox : w.cell? ⟨Bn, 0, none⟩ = some (.pointer (some ⟨d, 0, none⟩))) :
    Calls Tryd.prog 53 #[.slice none 0 0, .func (.func 54) #[] #[.pointer (some ⟨Bn, 0, none⟩)]] w fun e w' => ∃ v, e = .returned v ∧ OwnL w.heap.size m.L v w' ∧ Below w.heap.size w w' := by
  refine (callsIn_wide (n := 4)).1 ?_
  refine callsIn_of_wp_marks Tryd.func53 rfl trivial ?_ rfl
  simp only [Tryd.ntmps53, List.size_toArray, List.length_cons, List.length_nil, Nat.reduceAdd, Nat.reduceSub, Array.replicate_succ, Array.replicate_zero, List.push_toArray, List.append_toArray, List.nil_append, List.cons_append]
  gi_wp2
  obtain ⟨w0, hw0⟩ : ∃ w0, w.alloc (.cells #[.slice none 0 0] TSs) = w0 := ⟨_, rfl⟩
  have hz0 : w0.heap.size = w.heap.size + 1 := by rw [← hw0]; simp
  have hb0 : Below w.heap.size w w0 := by rw [← hw0]; exact (Below.refl _ _).alloc (Nat.le_refl _) _
  have hx0 := h.later hb0
  have hbox2 : w0.cell? ⟨Bn, 0, none⟩ = some (.pointer (some ⟨d, 0, none⟩)) := (hb0.cell (p := ⟨Bn, 0, none⟩) (World.block_lt_of_cell? w _ hBox)).trans hBox
  have hst := contents_yields hx0 (hH.later hb0) Bn hbox2
  have h00 : RAt w [] w0 := ⟨⟨.slice none 0 0, by rw [← hw0]; exact Boxed.new w _ _, ⟨rfl, .inl ⟨rfl, rfl⟩⟩⟩, hb0, by omega⟩
  have hLl : m.L.length ≤ 16777216 := by
    have h6 : m.L.length ≤ tot m.L := by
      generalize m.L = L
      induction L with
      | nil => exact Nat.zero_le _
      | cons c L ih => show L.length + 1 ≤ 8 + c.length + tot L; omega
    have := h.ok.le
    omega
  clear h hx0 hH hbox2 hBox
  rw [hw0]
  refine range_yields (gf := 54) (lb := #[.pointer (some ⟨Bn, 0, none⟩)]) rfl trivial (enters_of Tryd.func54 (by kernel_rfl) rfl) hst
    (fun h k => h.trans k) (fun W l o o' _ ho hc => KpT.put W l o o' ho hc) (fun xs W l o o' _ ho hc hS => hS.kpt (KpT.put W l o o' ho hc)) (Below.refl _ _)
    (fun pre W => RAt w pre W) (rat_from _ (by omega)) h00
    (fun y => { tmps := #[.slice none 0 0, .func (.func 54) #[] #[.pointer (some ⟨Bn, 0, none⟩)], .pointer (some ⟨w.heap.size, 0, none⟩), undef, .slice none 0 0, sv y, .func (.func 54) #[] #[.pointer (some ⟨Bn, 0, none⟩)], sv y, undef, undef, undef, undef, undef], defers := [] })
    ?assign ?body ?done
  case assign =>
    rintro l' y W K hK
    replace hK := Lib.hid hK
    gi_wp2
    exact hK.out
  case body =>
    rintro l' pre ⟨ya, yn, yc⟩ W _ hM hlt
    obtain ⟨y, hy⟩ : ∃ y : S3, y = (ya, yn, yc) := ⟨_, rfl⟩
    rw [← hy]
    obtain ⟨⟨u, hl, how⟩, hbel, hsiz⟩ := hM
    have hmy : (pre ++ [y]).length = pre.length + 1 := by simp
    have c0 := hl.cell
    have hls : w.heap.size < W.heap.size := hl.lt
    have hcell : (W.alloc (.cells #[sv y] TSl)).cell? ⟨W.heap.size, 0, none⟩ = some (sv y) := cell_of_row _ _ 0 _ _ _ (heap_alloc_new W _)
    have hab : Below W.heap.size W (W.alloc (.cells #[sv y] TSl)) := (Below.refl _ _).alloc (Nat.le_refl _) _
    have how2 := rows_later how hab
    have hub : ∀ k, u.ownBlock = some k → w.heap.size + 1 ≤ k ∧ k < W.heap.size := World.ownsRow.lt how
    have hpl : pre.length ≤ 100000000 := by omega
    have HA4 : ∀ (W4 : World) (v4 : Value), W4.ownsRow (w.heap.size + 1) TSl 1 v4 (pre.length + 1) ((pre ++ [y]).map sv) → (W.alloc (.cells #[sv y] TSl)).grownBy W4 u.ownBlock →
        Boxed W4 w.heap.size TSs u ∧ (KeepsFrom w0.heap.size W (W4.setCell ⟨w.heap.size, 0, none⟩ v4) ∧ KpT W (W4.setCell ⟨w.heap.size, 0, none⟩ v4) ∧ RAt w (pre ++ [y]) (W4.setCell ⟨w.heap.size, 0, none⟩ v4)) := by
      intro W4 v4 how4 hg
      have hlu : ∀ k, k < W.heap.size → u.ownBlock ≠ some k → W4.heap[k]? = W.heap[k]? := fun k hk hn =>
        (hg.block k (by have := hab.size; omega) (fun e => hn e.symm)).trans (hab.block k (by omega))
      have hlu1 : ∀ k, k < w.heap.size + 1 → W4.heap[k]? = W.heap[k]? := fun k hk => hlu k (by omega) (fun e => by have := (hub k e).1; omega)
      have hl4 : Boxed W4 w.heap.size TSs u := (hlu1 _ (by omega)).trans hl
      have hne1 : ∀ k, k ≠ w.heap.size → (W4.setCell ⟨w.heap.size, 0, none⟩ v4).heap[k]? = W4.heap[k]? := fun k hk => Below.heap_setCell W4 _ _ k hk
      have hs4 : W.heap.size ≤ W4.heap.size := Nat.le_trans hab.size hg.size
      have hs5 : (W4.setCell ⟨w.heap.size, 0, none⟩ v4).heap.size = W4.heap.size := by simp [World.setCell]
      refine ⟨hl4, KeepsOthers.from (((others_below hab).trans (KeepsOthers.of_grownBy hg fun j o ej hj => rows_cells how2 j o ej hj)).trans (KeepsOthers.setCell _ _ _)) _, ⟨by rw [hs5]; exact hs4, fun k c t fr hk h1 h2 => ?_⟩, ⟨v4, hl4.set _, by rw [hmy]; exact rows_kept how4 fun k hk => hne1 k (by have := (World.ownsRow.lt how4 k hk).1; omega)⟩, ?_, by rw [hs5]; omega⟩
      · have hkl := (Array.getElem?_eq_some_iff.1 hk).1
        refine (hne1 k fun e => ?_).trans ((hlu k hkl fun e => ?_).trans hk)
        · subst e
          rw [show W.heap[w.heap.size]? = _ from hl] at hk
          injection hk with hk
          injection hk with _ hk
          exact h2 hk.symm
        · rcases how.2 with ⟨rfl, _⟩ | ⟨g, cap, cur, rfl, _, hgg, _⟩
          · cases e
          · injection e with e
            subst e
            rw [hgg] at hk
            injection hk with hk
            injection hk with _ hk
            exact h1 hk.symm
      · exact (((hbel.trans (hab.mono hbel.size)).grown hg (Nat.le_trans hbel.size hab.size) (fun k hk => by have := (hub k hk).1; omega))).setCell (p := ⟨w.heap.size, 0, none⟩) (Nat.le_refl _) _
    replace HA4 := Lib.hid HA4
    clear hmy
    obtain ⟨ua, uc, rfl⟩ := rows_form how
    replace how2 := Lib.hid how2
    clear how
    subst hy
    dsimp only [sv] at hcell ⊢
    gi_wp2_with (gi_at_builtin; refine wpListIn_append_sl rfl _ _ rfl (w.heap.size + 1) _ pre rfl how2.out W.heap.size 1 (ya, yn, yc) rfl hcell hpl (by simp; omega) ?_; intro v' w3 hown' hg3; obtain ⟨a4, cap4, rfl⟩ := rows_form hown'; obtain ⟨g1, g2, g3, g4⟩ := HA4.out w3 _ hown' hg3; have c3 := g1.cell; have f3 := g1.frozen)
    exact ⟨g2, g3, g4⟩
  case done =>
    rintro D ys W hD hS hM hK
    obtain ⟨⟨u, hl, how⟩, hbel, hsiz⟩ := hM
    have hyl : ys.length = m.L.length := by rw [← hS.1, List.length_map]
    rw [hyl] at how
    have c0 := hl.cell
    obtain ⟨ua, ucap, rfl⟩ := rows_form how
    have how := Lib.hid how
    simp only [Exit.inBlock, Exit.then]
    go_at_K
    gi_wp2
    refine ⟨by simp, .inl ⟨_, _, rfl, run_takeDeferred (show W.heap[D]? = _ from hK), ?_⟩⟩
    have hg5 := grownBy_putObj' W D (.deferred none)
    have hsame : ∀ (k : Nat), k < W.heap.size → k ≠ D → (W.putObj D (.deferred none)).heap[k]? = W.heap[k]? := fun k hk hD => hg5.block k hk (by intro e; injection e with e; exact hD e)
    have hkp := KpT.put W D _ (.deferred none) hK rfl
    refine ⟨.slice ua m.L.length ucap, by simp [results, Tryd.results53, go_sem], _, rfl, ⟨_, rows_base (base := w.heap.size + 1) (rows_kept how.out fun k hk => hsame k (World.ownsRow.lt how.out k hk).2 fun e => ?_) (by omega), ?_⟩, hbel.grown hg5 hbel.size (fun k e => by cases e; omega)⟩
    · subst e
      have := rows_cells how.out k _ hk hK
      cases this
    · have h3 := hS.kpt hkp
      exact ⟨h3.1, fun i v hv => (h3.2 i v hv).wide (by omega)⟩
theorem records_any {W : World} {d : Nat} {F : Nat → Prop} {m : St} (h : Dx W d F m) (hH : Hv W) :
    Calls Tryd.prog 32 #[.pointer (some ⟨d, 0, none⟩)] W fun e W' => ∃ v, e = .returned v ∧ OwnL W.heap.size m.L v W' ∧ Below W.heap.size W W' := by
  have hV := Lib.hid h.valid
  have hb : Below W.heap.size W (W.alloc (.cells #[.pointer (some ⟨d, 0, none⟩)] 70)) := (Below.refl _ _).alloc (Nat.le_refl _) _
  have hA := Lib.hid (appendSeq_any (h.later hb) (hH.later hb) W.heap.size (cell_of_row _ _ 0 _ _ _ (heap_alloc_new W _)))
  have hC : Hid (Calls Tryd.prog 46 #[.func (.func 54) #[] #[.pointer (some ⟨W.heap.size, 0, none⟩)]] (W.alloc (.cells #[.pointer (some ⟨d, 0, none⟩)] 70)) fun e W' => ∃ v, e = .returned v ∧ OwnL (W.alloc (.cells #[.pointer (some ⟨d, 0, none⟩)] 70)).heap.size m.L v W' ∧ Below (W.alloc (.cells #[.pointer (some ⟨d, 0, none⟩)] 70)).heap.size (W.alloc (.cells #[.pointer (some ⟨d, 0, none⟩)] 70)) W') := by
    refine Lib.hid ?_
    generalize W.alloc (.cells #[.pointer (some ⟨d, 0, none⟩)] 70) = w1 at *
    go_enter Tryd.func46, Tryd.ntmps46
    go_wp2_with (go_at_call 53; refine hA.out.mono ?_; rintro e w2 ⟨u, rfl, ho, hb⟩)
    go_ret
    exact ⟨u, rfl, ho, hb⟩
  replace hb := Lib.hid hb
  clear hA h hH
  go_enter Tryd.func32, Tryd.ntmps32
  go_wp2_with (first
    | (go_at_call 39; refine hV.out.mono ?_; rintro e w' ⟨rfl, rfl⟩)
    | (go_at_call 47; refine (contents_mk _ _).mono ?_; rintro e w' ⟨rfl, rfl⟩)
    | (go_at_call 46; refine hC.out.mono ?_; rintro e w2 ⟨u, rfl, ho, hb2⟩))
  go_ret
  rw [World.size_alloc] at ho
  obtain ⟨xs, h1, h2⟩ := ho.ex
  exact ⟨u, rfl, ⟨xs, rows_base h1 (by omega), h2.1, fun i v hv => (h2.2 i v hv).wide (by omega)⟩, hb.out.trans (hb2.mono (by simp))⟩
end Go.Proofs.YtojeccmnhgcmcaaDoor.Dsk
