/- What AcceptAgrees has in memory: the acceptors of a group, and what each proposer knows. -/
import Derived.Test.YtdodnejfjpkbcaaA11
import Derived.Test.YtdodnejfjpkbcaaA12
namespace Go.Proofs.Ytdodnejfjpkbcaa.Acc
open Go.RowKit Go.Maps Go.Lib
open Bal (TB alloc_b)
set_option linter.unusedVariables false
set_option linter.unusedSimpArgs false
set_option maxRecDepth 20000

abbrev TPt : TypeId := 25
abbrev TPts : TypeId := 55
abbrev T12 : TypeId := 61
abbrev pV (b : Nat) : Value := .pointer (some ⟨b, 0, none⟩)
def ptrs (P : Nat → Nat × Nat) (n : Nat) : List Value := (List.range n).map fun i => pV (P i).1
theorem ptrs_succ (P : Nat → Nat × Nat) (n : Nat) : ptrs P (n + 1) = ptrs P n ++ [pV (P n).1] := by simp [ptrs, List.range_succ]
theorem ptrs_len (P : Nat → Nat × Nat) (n : Nat) : (ptrs P n).length = n := by simp [ptrs]
theorem ptrs_at (P : Nat → Nat × Nat) {n i : Nat} (h : i < n) : (ptrs P n)[i]? = some (pV (P i).1) := by simp [ptrs, List.getElem?_map, h]
theorem ptrs_congr {P Q : Nat → Nat × Nat} {n : Nat} (h : ∀ i, i < n → P i = Q i) : ptrs P n = ptrs Q n := by
  refine List.map_congr_left fun i hi => ?_
  rw [h i (List.mem_range.1 hi)]
theorem info_pt : (Try.prog.info? TPt).map (fun i => (i.zero, i.size, i.bytes)) = some (some (.pointer none), 1, 8) := by kernel_rfl
def OwP (base : Nat) (P : Nat → Nat × Nat) (n : Nat) (v : Value) (w : World) : Prop := w.ownsRow base TPt 1 v n (ptrs P n)
theorem OwP.nil (base : Nat) (P : Nat → Nat × Nat) (w : World) : OwP base P 0 (.slice none 0 0) w := World.ownsRow_nil w base TPt 1
theorem run_append_p (base : Nat) (w : World) (ty : TypeId) (v : Value) (P : Nat → Nat × Nat) (n : Nat) (hown : OwP base P n v w) (g c : Nat) (hc : w.cell? ⟨g, 0, none⟩ = some (pV (P n).1)) (hn : n ≤ 100000) (hbase : base ≤ w.heap.size) :
    ∃ v' w', (Builtin.append_ #[TPts, TPts] ty #[v, .slice (some ⟨g, 0, none⟩) 1 c]).run Try.prog w = .ok v' w' ∧ OwP base P (n + 1) v' w' ∧ w.grownBy w' v.ownBlock := by
  obtain ⟨i0, hi, hz0, hz1, hz2⟩ := info_p info_pt
  obtain ⟨v', w', h1, h2, h3, _, h5⟩ := run_append_own_at (P := Try.prog) w base TPts ty TPt i0 _ 1 8 Try.underlying55 hi hz0 hz1 hz2 rfl (by decide) v n (ptrs P n) hown ⟨g, 0, none⟩ 1 c [pV (P n).1] rfl (fun j u hu => by
    cases j with
    | zero => cases hu; simpa [Addr.add] using hc
    | succ j => simp at hu) (fun u hu => by rw [List.mem_singleton] at hu; subst hu; rfl) (by unfold maxLen; omega) (by omega) hbase
  refine ⟨v', w', h1, ?_, h3⟩
  unfold OwP
  rw [ptrs_succ]
  exact h2
theorem wpList_append_p {ops : Array Oper} {rest : List Oper} {o : Oper} {a : Act} {w : World} {Q : Exit → Act → World → Prop} (hgd : o.guard = none) (s x : Operand)
    (ho : o.op = .call { callee := .builtin .append, args := #[s, x], argTypes := #[TPts, TPts] })
    (base : Nat) (v : Value) (P : Nat → Nat × Nat) (n : Nat) (hs : a.eval s = v) (hown : OwP base P n v w) (g c : Nat) (hx : a.eval x = .slice (some ⟨g, 0, none⟩) 1 c) (hc : w.cell? ⟨g, 0, none⟩ = some (pV (P n).1))
    (hn : n ≤ 100000) (hbase : base ≤ w.heap.size)
    (h : ∀ v' w', OwP base P (n + 1) v' w' → w.grownBy w' v.ownBlock → wpList Try.prog ops Q rest (a.put o.dst v') w') :
    wpList Try.prog ops Q (o :: rest) a w := by
  refine wpList_plain hgd fun K hK => ?_
  obtain ⟨v', w', hrun, h1, h2⟩ := run_append_p base w o.type v P n hown g c hc hn hbase
  unfold Oper.wp execOp
  simp only [ho, resolve, invoke, builtin, Sem.run_bind, Sem.run_pure, Result.andThen_ok, List.map_toArray, List.map_cons, List.map_nil, hs, hx, hrun]
  exact hK _ _ (h v' w' h1 h2)
/-- A row of another type is none of an acceptor's blocks. -/
theorem row_apart {base size n : Nat} {e : TypeId} {xs : List Value} {v : Value} {W : World} {sb mb : Nat} {s : St} (h : W.ownsRow base e size v n xs) (x : Ax W sb mb s) (he : e ≠ TA) : ∀ k, v.ownBlock = some k → k ≠ sb ∧ k ≠ mb := by
  intro k hk
  rcases h.2 with ⟨rfl, _⟩ | ⟨g, cap, cur, rfl, _, hg, _⟩
  · cases hk
  · injection hk with hk
    subst hk
    constructor
    · rintro rfl
      rw [x.box] at hg
      injection hg with hg
      injection hg with _ hg
      exact he hg.symm
    · rintro rfl
      obtain ⟨es, clock, hb, _⟩ := x.own
      rw [hb] at hg
      cases hg
theorem blk_apart {W : World} {sb mb k : Nat} {s : St} {cs : Array Value} {T : TypeId} (x : Ax W sb mb s) (h : W.heap[k]? = some (.cells cs T (0, 0))) (hT : T ≠ TA) : k ≠ sb ∧ k ≠ mb := by
  constructor
  · rintro rfl
    rw [x.box] at h
    injection h with h
    injection h with _ h
    exact hT h.symm
  · rintro rfl
    obtain ⟨es, clock, hb, _⟩ := x.own
    rw [hb] at h
    cases h
theorem blk_kept {W W' : World} {sb mb k : Nat} {s : St} {cs : Array Value} {T : TypeId} (x : Ax W sb mb s) (h : W.heap[k]? = some (.cells cs T (0, 0))) (hT : T ≠ TA) (hK : Keeps (fun k => k = sb ∨ k = mb) W W') : W'.heap[k]? = some (.cells cs T (0, 0)) := by
  obtain ⟨a, b⟩ := blk_apart x h hT
  exact (hK.block k (Array.getElem?_eq_some_iff.1 h).1 (fun h => h.elim a b)).trans h
/-! What the proposers know. -/
structure TrC (n : Nat) (cs : Array Value) (Ts : Nat → TrP) : Prop where
  size : cs.size = 72
  at' : ∀ k, k < 12 → cs[k * 6]? = some (.int .u64 ((Ts k).t : Nat)) ∧ cs[k * 6 + 1]? = some (.int .i64 0) ∧ cs[k * 6 + 2]? = some (.int .i64 (bR n (Ts k).b)) ∧ cs[k * 6 + 3]? = some (.int .i64 (bM n (Ts k).b)) ∧ cs[k * 6 + 4]? = some (.string (Ts k).bv) ∧ cs[k * 6 + 5]? = some (.int .u64 ((Ts k).w : Nat))
theorem TrC.setT {n : Nat} {cs : Array Value} {Ts : Nat → TrP} (h : TrC n cs Ts) {k : Nat} (hk : k < 12) (t : Nat) : TrC n (cs.setIfInBounds (k * 6) (.int .u64 (t : Nat))) (upd Ts k ⟨t, (Ts k).b, (Ts k).bv, (Ts k).w⟩) := by
  refine ⟨by rw [Array.size_setIfInBounds, h.size], fun j hj => ?_⟩
  obtain ⟨g0, g1, g2, g3, g4, g5⟩ := h.at' j hj
  have hs := h.size
  have key : ∀ i, i ≠ k * 6 → (cs.setIfInBounds (k * 6) (.int .u64 (t : Nat)))[i]? = cs[i]? := fun i hi => Array.getElem?_setIfInBounds_ne (Ne.symm hi)
  rw [key (j * 6 + 1) (by omega), key (j * 6 + 2) (by omega), key (j * 6 + 3) (by omega), key (j * 6 + 4) (by omega), key (j * 6 + 5) (by omega)]
  by_cases e : j = k
  · subst e
    rw [upd_same]
    exact ⟨Array.getElem?_setIfInBounds_self_of_lt (by omega), g1, g2, g3, g4, g5⟩
  · rw [upd_other _ _ e, key (j * 6) (by omega)]
    exact ⟨g0, g1, g2, g3, g4, g5⟩
theorem TrC.setW {n : Nat} {cs : Array Value} {Ts : Nat → TrP} (h : TrC n cs Ts) {k : Nat} (hk : k < 12) (x : Nat) : TrC n (cs.setIfInBounds (k * 6 + 5) (.int .u64 (x : Nat))) (upd Ts k ⟨(Ts k).t, (Ts k).b, (Ts k).bv, x⟩) := by
  refine ⟨by rw [Array.size_setIfInBounds, h.size], fun j hj => ?_⟩
  obtain ⟨g0, g1, g2, g3, g4, g5⟩ := h.at' j hj
  have hs := h.size
  have key : ∀ i, i ≠ k * 6 + 5 → (cs.setIfInBounds (k * 6 + 5) (.int .u64 (x : Nat)))[i]? = cs[i]? := fun i hi => Array.getElem?_setIfInBounds_ne (Ne.symm hi)
  rw [key (j * 6) (by omega), key (j * 6 + 1) (by omega), key (j * 6 + 2) (by omega), key (j * 6 + 3) (by omega), key (j * 6 + 4) (by omega)]
  by_cases e : j = k
  · subst e
    rw [upd_same]
    exact ⟨g0, g1, g2, g3, g4, Array.getElem?_setIfInBounds_self_of_lt (by omega)⟩
  · rw [upd_other _ _ e, key (j * 6 + 5) (by omega)]
    exact ⟨g0, g1, g2, g3, g4, g5⟩
theorem TrC.setB {n : Nat} {cs : Array Value} {Ts : Nat → TrP} (h : TrC n cs Ts) {k : Nat} (hk : k < 12) (b : Nat) (v : ByteArray) :
    TrC n ((((cs.setIfInBounds (k * 6 + 1) (.int .i64 0)).setIfInBounds (k * 6 + 2) (.int .i64 (bR n b))).setIfInBounds (k * 6 + 3) (.int .i64 (bM n b))).setIfInBounds (k * 6 + 4) (.string v)) (upd Ts k ⟨(Ts k).t, b, v, (Ts k).w⟩) := by
  refine ⟨by simp only [Array.size_setIfInBounds, h.size], fun j hj => ?_⟩
  obtain ⟨g0, g1, g2, g3, g4, g5⟩ := h.at' j hj
  have hs := h.size
  by_cases e : j = k
  · subst e
    rw [upd_same]
    simp only [Array.getElem?_setIfInBounds, Array.size_setIfInBounds]
    refine ⟨?_, ?_, ?_, ?_, ?_, ?_⟩
    · rw [if_neg (by omega), if_neg (by omega), if_neg (by omega), if_neg (by omega)]; exact g0
    · rw [if_neg (by omega), if_neg (by omega), if_neg (by omega), if_pos trivial, if_pos (by omega)]
    · rw [if_neg (by omega), if_neg (by omega), if_pos trivial, if_pos (by omega)]
    · rw [if_neg (by omega), if_pos trivial, if_pos (by omega)]
    · rw [if_pos trivial, if_pos (by omega)]
    · rw [if_neg (by omega), if_neg (by omega), if_neg (by omega), if_neg (by omega)]; exact g5
  · rw [upd_other _ _ e]
    have key : ∀ i, (i < k * 6 + 1 ∨ k * 6 + 4 < i) → ((((cs.setIfInBounds (k * 6 + 1) (.int .i64 0)).setIfInBounds (k * 6 + 2) (.int .i64 (bR n b))).setIfInBounds (k * 6 + 3) (.int .i64 (bM n b))).setIfInBounds (k * 6 + 4) (.string v))[i]? = cs[i]? := fun i hi => by
      simp only [Array.getElem?_setIfInBounds]
      rw [if_neg (by omega), if_neg (by omega), if_neg (by omega), if_neg (by omega)]
    rw [key (j * 6) (by omega), key (j * 6 + 1) (by omega), key (j * 6 + 2) (by omega), key (j * 6 + 3) (by omega), key (j * 6 + 4) (by omega), key (j * 6 + 5) (by omega)]
    exact ⟨g0, g1, g2, g3, g4, g5⟩
/-! All of it. -/
structure Ag (w : World) (n : Nat) (nv : Value) (P : Nat → Nat × Nat) (tb : Nat) (σ : Sg) (W : World) : Prop where
  nod : OwP w.heap.size P n nv W
  acc : ∀ i, i < n → WAt w (P i).1 (P i).2 (stA n (σ.As i)) W
  inj : ∀ i, i < n → ∀ j, j < n → i ≠ j → (P i).1 ≠ (P j).1 ∧ (P i).2 ≠ (P j).2
  tri : ∃ cs, W.heap[tb]? = some (.cells cs T12 (0, 0)) ∧ TrC n cs σ.Ts
  tbn : w.heap.size ≤ tb
  bel : Below w.heap.size w W
section
variable {w W W' : World} {n : Nat} {nv : Value} {P : Nat → Nat × Nat} {tb : Nat} {σ : Sg}
theorem Ag.later (h : Ag w n nv P tb σ W) (hb : Below W.heap.size W W') : Ag w n nv P tb σ W' :=
  ⟨rows_later h.nod hb, fun i hi => (h.acc i hi).later hb, h.inj, by
    obtain ⟨cs, hc, ht⟩ := h.tri
    exact ⟨cs, (hb.block _ (Array.getElem?_eq_some_iff.1 hc).1).trans hc, ht⟩, h.tbn, h.bel.trans (hb.mono h.bel.size)⟩
theorem Ag.drew (h : Ag w n nv P tb σ W) : Ag w n nv P tb σ W.drew := h.later (Below.refl _ _).drew
theorem Ag.alloc (h : Ag w n nv P tb σ W) (o : Obj) : Ag w n nv P tb σ (W.alloc o) := h.later (alloc_b _ _)
theorem tri_apart {sb mb : Nat} {s : St} {cs : Array Value} (x : Ax W sb mb s) (h : W.heap[tb]? = some (.cells cs T12 (0, 0))) : tb ≠ sb ∧ tb ≠ mb := by
  constructor
  · rintro rfl
    rw [x.box] at h
    injection h with h
    injection h with _ h
    exact absurd h (by decide)
  · rintro rfl
    obtain ⟨es, clock, hb, _⟩ := x.own
    rw [hb] at h
    cases h
/-- One acceptor goes on. -/
theorem Ag.step (h : Ag w n nv P tb σ W) {i : Nat} (hi : i < n) (x : AcP) (hA : WAt w (P i).1 (P i).2 (stA n x) W') (hK : Keeps (fun k => k = (P i).1 ∨ k = (P i).2) W W') (c : ByteArray) :
    Ag w n nv P tb ⟨upd σ.As i x, σ.Ts, c⟩ W' := by
  refine ⟨rows_kept h.nod fun k hk => ?_, fun j hj => ?_, h.inj, ?_, h.tbn, hA.bel⟩
  · obtain ⟨a, b⟩ := row_apart h.nod (h.acc i hi).ax (by decide) k hk
    exact hK.block k (World.ownsRow.lt h.nod k hk).2 (fun h => h.elim a b)
  · by_cases e : j = i
    · subst e
      show WAt w _ _ (stA n (upd σ.As j x j)) W'
      rw [upd_same]
      exact hA
    · show WAt w _ _ (stA n (upd σ.As i x j)) W'
      rw [upd_other _ _ e]
      have hj' := h.acc j hj
      obtain ⟨n1, n2⟩ := h.inj j hj i hi e
      have m1 := (h.acc i hi).ax
      have hne1 : (P j).1 ≠ (P i).2 := by
        intro e2
        obtain ⟨es, clock, hb, _⟩ := m1.own
        have := hj'.ax.box
        rw [e2, hb] at this
        cases this
      have hne2 : (P j).2 ≠ (P i).1 := by
        intro e2
        obtain ⟨es, clock, hb, _⟩ := hj'.ax.own
        rw [e2, m1.box] at hb
        cases hb
      exact ⟨hj'.ax.kept hK (fun h => h.elim n1 hne1) (fun h => h.elim hne2 n2), hA.bel, hj'.hs, hj'.hm⟩
  · obtain ⟨cs, hc, ht⟩ := h.tri
    obtain ⟨a, b⟩ := tri_apart (h.acc i hi).ax hc
    exact ⟨cs, (hK.block tb (Array.getElem?_eq_some_iff.1 hc).1 (fun h => h.elim a b)).trans hc, ht⟩
/-- The block of the trials alone has changed. -/
theorem Ag.set (h : Ag w n nv P tb σ W) {cs' : Array Value} {Ts' : Nat → TrP} (hK : Keeps (fun k => k = tb) W W') (hc' : W'.heap[tb]? = some (.cells cs' T12 (0, 0))) (ht' : TrC n cs' Ts') (c : ByteArray) :
    Ag w n nv P tb ⟨σ.As, Ts', c⟩ W' := by
  obtain ⟨cs, hc, ht⟩ := h.tri
  have hbel : Below w.heap.size w W' := h.bel.trans (hK.below h.bel.size fun k hk => by subst hk; exact h.tbn)
  refine ⟨rows_kept h.nod fun k hk => ?_, fun j hj => ?_, h.inj, ⟨cs', hc', ht'⟩, h.tbn, hbel⟩
  · refine hK.block k (World.ownsRow.lt h.nod k hk).2 ?_
    rintro rfl
    rcases h.nod.2 with ⟨e, _⟩ | ⟨g, cap, cur, e, _, hg, _⟩
    · rw [e] at hk; cases hk
    · rw [e] at hk
      injection hk with hk
      subst hk
      rw [hc] at hg
      injection hg with hg
      injection hg with _ hg
      exact absurd hg (by decide)
  · have hj' := h.acc j hj
    obtain ⟨a, b⟩ := tri_apart hj'.ax hc
    exact ⟨hj'.ax.kept hK (fun h => a h.symm) (fun h => b h.symm), hbel, hj'.hs, hj'.hm⟩
theorem Ag.setT (h : Ag w n nv P tb σ W) {k : Nat} (hk : k < 12) (t : Nat) :
    Ag w n nv P tb ⟨σ.As, upd σ.Ts k ⟨t, (σ.Ts k).b, (σ.Ts k).bv, (σ.Ts k).w⟩, σ.ch⟩ (W.setCell ⟨tb, k * 6, none⟩ (.int .u64 (t : Nat))) := by
  obtain ⟨cs, hc, ht⟩ := h.tri
  exact h.set ((Keeps.refl (fun k => k = tb) W).setCell (p := ⟨tb, k * 6, none⟩) (.inl rfl) _) (heap_setCell_same W tb _ _ _ _ hc) (ht.setT hk t) _
theorem Ag.setW (h : Ag w n nv P tb σ W) {k : Nat} (hk : k < 12) (x : Nat) :
    Ag w n nv P tb ⟨σ.As, upd σ.Ts k ⟨(σ.Ts k).t, (σ.Ts k).b, (σ.Ts k).bv, x⟩, σ.ch⟩ (W.setCell ⟨tb, k * 6 + 5, none⟩ (.int .u64 (x : Nat))) := by
  obtain ⟨cs, hc, ht⟩ := h.tri
  exact h.set ((Keeps.refl (fun k => k = tb) W).setCell (p := ⟨tb, k * 6 + 5, none⟩) (.inl rfl) _) (heap_setCell_same W tb _ _ _ _ hc) (ht.setW hk x) _
theorem Ag.setB (h : Ag w n nv P tb σ W) {k : Nat} (hk : k < 12) (b : Nat) (v : ByteArray) :
    Ag w n nv P tb ⟨σ.As, upd σ.Ts k ⟨(σ.Ts k).t, b, v, (σ.Ts k).w⟩, σ.ch⟩ ((((W.setCell ⟨tb, k * 6 + 1, none⟩ (.int .i64 0)).setCell ⟨tb, k * 6 + 2, none⟩ (.int .i64 (bR n b))).setCell ⟨tb, k * 6 + 3, none⟩ (.int .i64 (bM n b))).setCell ⟨tb, k * 6 + 4, none⟩ (.string v)) := by
  obtain ⟨cs, hc, ht⟩ := h.tri
  exact h.set (((((Keeps.refl (fun k => k = tb) W).setCell (p := ⟨tb, k * 6 + 1, none⟩) (.inl rfl) _).setCell (p := ⟨tb, k * 6 + 2, none⟩) (.inl rfl) _).setCell (p := ⟨tb, k * 6 + 3, none⟩) (.inl rfl) _).setCell (p := ⟨tb, k * 6 + 4, none⟩) (.inl rfl) _)
    (heap_setCell_same _ tb _ _ _ _ (heap_setCell_same _ tb _ _ _ _ (heap_setCell_same _ tb _ _ _ _ (heap_setCell_same W tb _ _ _ _ hc)))) (ht.setB hk b v) _
/-- The cells of a trial. -/
theorem Ag.cells (h : Ag w n nv P tb σ W) {k : Nat} (hk : k < 12) :
    W.cell? ⟨tb, k * 6, none⟩ = some (.int .u64 ((σ.Ts k).t : Nat)) ∧ W.cell? ⟨tb, k * 6 + 1, none⟩ = some (.int .i64 0) ∧ W.cell? ⟨tb, k * 6 + 2, none⟩ = some (.int .i64 (bR n (σ.Ts k).b)) ∧ W.cell? ⟨tb, k * 6 + 3, none⟩ = some (.int .i64 (bM n (σ.Ts k).b)) ∧
    W.cell? ⟨tb, k * 6 + 4, none⟩ = some (.string (σ.Ts k).bv) ∧ W.cell? ⟨tb, k * 6 + 5, none⟩ = some (.int .u64 ((σ.Ts k).w : Nat)) := by
  obtain ⟨cs, hc, ht⟩ := h.tri
  obtain ⟨g0, g1, g2, g3, g4, g5⟩ := ht.at' k hk
  exact ⟨(cell_of_row W tb _ _ _ _ hc).trans g0, (cell_of_row W tb _ _ _ _ hc).trans g1, (cell_of_row W tb _ _ _ _ hc).trans g2, (cell_of_row W tb _ _ _ _ hc).trans g3, (cell_of_row W tb _ _ _ _ hc).trans g4, (cell_of_row W tb _ _ _ _ hc).trans g5⟩
theorem Ag.frozen (h : Ag w n nv P tb σ W) (i : Nat) : W.frozen? ⟨tb, i, none⟩ = false := by
  obtain ⟨cs, hc, ht⟩ := h.tri
  exact frozen_of_row W tb i _ T12 hc
/-- Where the pointers stand. -/
theorem Ag.node (h : Ag w n nv P tb σ W) (hn : 1 ≤ n) : ∃ g cap, nv = .slice (some ⟨g, 0, none⟩) n cap ∧ g < W.heap.size ∧ ∀ i, i < n → W.cell? ⟨g, i, none⟩ = some (pV (P i).1) := by
  rcases h.nod.2 with ⟨_, h0⟩ | ⟨g, cap, cur, hv, hbg, hg, h1, h2, h3, h4⟩
  · omega
  · refine ⟨g, cap, hv, (Array.getElem?_eq_some_iff.1 hg).1, fun i hi => ?_⟩
    have e1 := ptrs_at P hi
    rw [← h4, List.getElem?_take_of_lt (by omega)] at e1
    rw [← e1]
    simp [World.cell?, hg]
theorem Ag.nodeAt {g cap : Nat} (h : Ag w n (.slice (some ⟨g, 0, none⟩) n cap) P tb σ W) (hn : 1 ≤ n) {i : Nat} (hi : i < n) : W.cell? ⟨g, i, none⟩ = some (pV (P i).1) := by
  obtain ⟨g', cap', hv, _, hc⟩ := h.node hn
  injection hv with h1 h2 h3
  injection h1 with h1
  injection h1 with h1
  rw [h1]
  exact hc i hi
theorem upd_self {α : Type} (f : Nat → α) (i : Nat) : upd f i (f i) = f := by
  funext j
  by_cases e : j = i
  · subst e; exact upd_same _ _ _
  · exact upd_other _ _ e
theorem upd_upd {α : Type} (f : Nat → α) (i : Nat) (x y : α) : upd (upd f i x) i y = upd f i y := by
  funext j
  by_cases e : j = i
  · subst e; rw [upd_same, upd_same]
  · rw [upd_other _ _ e, upd_other _ _ e, upd_other _ _ e]
end
theorem conv_key (W : World) (g c : Nat) (b : UInt8) (n : Int) (hn : n = (b.toNat : Int)) (h : W.cell? ⟨g, 0, none⟩ = some (.int .u8 n)) :
    (convert 68 9 (.slice (some ⟨g, 0, none⟩) 1 c)).run Try.prog W = .ok (.string ⟨#[b]⟩) W := by
  exact run_convert_bytes_back W 68 9 5 ⟨g, 0, none⟩ c [b] Try.underlying68 Try.underlying5 Try.underlying9 (fun j hj => by
    have hj0 : j = 0 := by simp at hj; omega
    subst hj0
    rw [addr_add, h, hn]
    rfl)
end Go.Proofs.Ytdodnejfjpkbcaa.Acc
