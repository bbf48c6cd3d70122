/- Rows of entries that are written into; what greatest has in a round. -/
import Derived.Test.YtffiooclkchoiaaP08
namespace Go.Proofs.Ytffiooclkchoiaa.Prp
open Go.RowKit Go.Lib
open Bal (TB bOk ckB ordV eqB eqB_t eqB_f eq_b alloc_b check_any order_any)
set_option linter.unusedVariables false
set_option linter.unusedSimpArgs false
set_option maxRecDepth 20000

theorem rows_set {w : World} {base n size cap g : Nat} {e : TypeId} {xs : List Value} (h : w.ownsRow base e size (.slice (some ⟨g, 0, none⟩) n cap) n xs) (j : Nat) (u : Value) :
    (w.setCell ⟨g, j, none⟩ u).ownsRow base e size (.slice (some ⟨g, 0, none⟩) n cap) n (xs.set j u) := by
  refine ⟨by rw [List.length_set]; exact h.1, ?_⟩
  rcases h.2 with ⟨h1, _⟩ | ⟨g', cap', cur, hv, hb, hg, h1, h2, h3, h4⟩
  · cases h1
  · injection hv with e1 _ e3
    injection e1 with e1
    injection e1 with e1 _
    subst e1 e3
    refine .inr ⟨g, cap, cur.setIfInBounds j u, rfl, hb, heap_setCell_same w g j _ _ _ hg, h1, h2, by rw [Array.size_setIfInBounds]; exact h3, ?_⟩
    rw [Array.toList_setIfInBounds, List.take_set, h4]
theorem flat_set : ∀ (L : List Et) (k : Nat) (e : Et), k < L.length → ((((flat L).set (k * 4) (.int .i64 e.s)).set (k * 4 + 1) (.int .i64 e.r)).set (k * 4 + 2) (.int .i64 e.m)).set (k * 4 + 3) (.string e.v) = flat (L.set k e)
  | [], k, e, h => by simp at h
  | x :: L, 0, e, _ => by simp [flat, ec]
  | x :: L, k + 1, e, h => by
    have ih := flat_set L k e (by simpa using h)
    rw [List.set_cons_succ, flat_cons, flat_cons, ← ih]
    have e4 : (ec x).length = 4 := rfl
    rw [List.set_append_right _ _ (by omega), List.set_append_right _ _ (by omega), List.set_append_right _ _ (by omega), List.set_append_right _ _ (by omega)]
    simp only [e4]
    rw [show (k + 1) * 4 - 4 = k * 4 by omega, show (k + 1) * 4 + 1 - 4 = k * 4 + 1 by omega, show (k + 1) * 4 + 2 - 4 = k * 4 + 2 by omega, show (k + 1) * 4 + 3 - 4 = k * 4 + 3 by omega]
theorem flat_setb : ∀ (L : List Et) (k : Nat) (e : Et) (r m : Int), L[k]? = some e → ((flat L).set (k * 4 + 1) (.int .i64 r)).set (k * 4 + 2) (.int .i64 m) = flat (L.set k ⟨e.s, r, m, e.v⟩)
  | [], k, e, r, m, h => by simp at h
  | x :: L, 0, e, r, m, h => by
    simp only [List.getElem?_cons_zero, Option.some.injEq] at h
    subst h
    simp [flat, ec]
  | x :: L, k + 1, e, r, m, h => by
    have ih := flat_setb L k e r m (by simpa using h)
    rw [List.set_cons_succ, flat_cons, flat_cons, ← ih]
    have e4 : (ec x).length = 4 := rfl
    rw [List.set_append_right _ _ (by omega), List.set_append_right _ _ (by omega)]
    simp only [e4]
    rw [show (k + 1) * 4 + 1 - 4 = k * 4 + 1 by omega, show (k + 1) * 4 + 2 - 4 = k * 4 + 2 by omega]
theorem OwE.set4 {w : World} {base g n cap : Nat} {L : List Et} (h : OwE base L (.slice (some ⟨g, 0, none⟩) n cap) w) (k : Nat) (hk : k < L.length) (e : Et) :
    OwE base (L.set k e) (.slice (some ⟨g, 0, none⟩) n cap) ((((w.setCell ⟨g, k * 4, none⟩ (.int .i64 e.s)).setCell ⟨g, k * 4 + 1, none⟩ (.int .i64 e.r)).setCell ⟨g, k * 4 + 2, none⟩ (.int .i64 e.m)).setCell ⟨g, k * 4 + 3, none⟩ (.string e.v)) := by
  obtain ⟨a, c, hv⟩ := rows_form h
  injection hv with _ h2 _
  subst h2
  have := rows_set (rows_set (rows_set (rows_set h (k * 4) (.int .i64 e.s)) (k * 4 + 1) (.int .i64 e.r)) (k * 4 + 2) (.int .i64 e.m)) (k * 4 + 3) (.string e.v)
  rw [flat_set L k e hk] at this
  unfold OwE
  rw [List.length_set]
  exact this
theorem OwE.set2 {w : World} {base g n cap : Nat} {L : List Et} (h : OwE base L (.slice (some ⟨g, 0, none⟩) n cap) w) (k : Nat) {e : Et} (he : L[k]? = some e) (r m : Int) :
    OwE base (L.set k ⟨e.s, r, m, e.v⟩) (.slice (some ⟨g, 0, none⟩) n cap) ((w.setCell ⟨g, k * 4 + 1, none⟩ (.int .i64 r)).setCell ⟨g, k * 4 + 2, none⟩ (.int .i64 m)) := by
  obtain ⟨a, c, hv⟩ := rows_form h
  injection hv with _ h2 _
  subst h2
  have := rows_set (rows_set h (k * 4 + 1) (.int .i64 r)) (k * 4 + 2) (.int .i64 m)
  rw [flat_setb L k e r m he] at this
  unfold OwE
  rw [List.length_set]
  exact this
theorem ord_gt (a b x y : Int) : decide (0 < ordV a b x y) = gtB a b x y := by
  have hc : ∀ p q : Int, (p < q ∧ compareInt p q = -1) ∨ (p = q ∧ compareInt p q = 0) ∨ (q < p ∧ compareInt p q = 1) := fun p q => by
    rcases Int.lt_trichotomy p q with h | h | h
    · exact .inl ⟨h, by unfold compareInt; simp; omega⟩
    · exact .inr (.inl ⟨h, by unfold compareInt; simp [h]⟩)
    · exact .inr (.inr ⟨h, by unfold compareInt; simp; omega⟩)
  unfold ordV Bal.fdV gtB
  rcases hc a x with ⟨h1, e1⟩ | ⟨h1, e1⟩ | ⟨h1, e1⟩ <;> rcases hc b y with ⟨h2, e2⟩ | ⟨h2, e2⟩ | ⟨h2, e2⟩ <;> rw [e1, e2] <;> simp <;> omega

/-! What greatest has in a round. -/
structure Bd (w w0 W0 : World) (q0 q7 : Nat) (e : Et) (N : Nat) (B : Nat → Et) (W : World) : Prop where
  bel : Below w.heap.size w W
  kq0 : Kq q0 w0.heap.size w0 W
  kq : Kq q0 w0.heap.size W0 W
  ko : KeepsOthers W0 W
  row : ∃ v, W.heap[q0]? = some (.cells #[v] TEs (0, 0)) ∧ OwE w0.heap.size (lst N B) v W ∧ v.ownBlock ≠ some q7
  ent : W.heap[q7]? = some (.cells #[.int .i64 e.s, .int .i64 e.r, .int .i64 e.m, .string e.v] TE (0, 0))
section
variable {w w0 W0 : World} {q0 q7 : Nat} {e : Et} {N : Nat} {B : Nat → Et} {W W' : World}
theorem ko_later {A B C : World} (h : KeepsOthers A B) (hb : Below B.heap.size B C) : KeepsOthers A C :=
  ⟨Nat.le_trans h.size hb.size, fun k o hk ho => by
    have h1 := h.same k o hk ho
    exact (hb.block k (Array.getElem?_eq_some_iff.1 h1).1).trans h1⟩
theorem Bd.later (h : Bd w w0 W0 q0 q7 e N B W) (hb : Below W.heap.size W W') : Bd w w0 W0 q0 q7 e N B W' := by
  obtain ⟨v, h1, h2, h3⟩ := h.row
  exact ⟨h.bel.trans (hb.mono h.bel.size), h.kq0.trans ⟨hb.size, fun k hk _ => hb.block k (Nat.lt_of_lt_of_le hk h.kq0.1)⟩, h.kq.trans ⟨hb.size, fun k hk _ => hb.block k (Nat.lt_of_lt_of_le hk h.kq0.1)⟩, ko_later h.ko hb,
    ⟨v, (hb.block _ (Array.getElem?_eq_some_iff.1 h1).1).trans h1, rows_later h2 hb, h3⟩, (hb.block _ (Array.getElem?_eq_some_iff.1 h.ent).1).trans h.ent⟩
/-- The box q0 and the row that it holds are written. -/
theorem Bd.wrote (h : Bd w w0 W0 q0 q7 e N B W) {v : Value} (hv : W.heap[q0]? = some (.cells #[v] TEs (0, 0))) (hq : w.heap.size ≤ q0 ∧ q0 < w0.heap.size) (h7 : w0.heap.size ≤ q7) (hK : Keeps (fun k => k = q0 ∨ v.ownBlock = some k) W W') {N' : Nat} {B' : Nat → Et}
    (hrow : ∃ v', W'.heap[q0]? = some (.cells #[v'] TEs (0, 0)) ∧ OwE w0.heap.size (lst N' B') v' W' ∧ v'.ownBlock ≠ some q7) : Bd w w0 W0 q0 q7 e N' B' W' := by
  obtain ⟨v0, h1, h2, h3⟩ := h.row
  have e0 : v0 = v := by
    rw [hv] at h1
    injection h1 with h1
    injection h1 with h1 _
    injection h1 with h1
    injection h1 with h1 _
    exact h1.symm
  subst e0
  have hlo : ∀ k, v0.ownBlock = some k → w0.heap.size ≤ k := fun k hk => (World.ownsRow.lt h2 k hk).1
  have hcell : ∀ (k : Nat) (o : Obj), W.heap[k]? = some o → o.isCells = false → ¬ (k = q0 ∨ v0.ownBlock = some k) := by
    rintro k o ho hc (rfl | hk)
    · rw [hv] at ho; cases ho; cases hc
    · rcases h2.2 with ⟨rfl, _⟩ | ⟨g, cap, cur, rfl, _, hg, _⟩
      · cases hk
      · injection hk with hk
        subst hk
        rw [hg] at ho; cases ho; cases hc
  refine ⟨h.bel.trans (hK.below h.bel.size ?_), h.kq0.trans ⟨hK.size, fun k hk hn => hK.block k (Nat.lt_of_lt_of_le hk h.kq0.1) ?_⟩, h.kq.trans ⟨hK.size, fun k hk hn => hK.block k (Nat.lt_of_lt_of_le hk h.kq0.1) ?_⟩, ⟨Nat.le_trans h.ko.size hK.size, fun k o hk ho => ?_⟩, hrow, ?_⟩
  · rintro k (rfl | hk)
    · exact hq.1
    · have := hlo k hk; omega
  · rintro (rfl | hk2)
    · exact hn rfl
    · have := hlo k hk2; omega
  · rintro (rfl | hk2)
    · exact hn rfl
    · have := hlo k hk2; omega
  · have h4 := h.ko.same k o hk ho
    exact (hK.block k (Array.getElem?_eq_some_iff.1 h4).1 (hcell k o h4 ho)).trans h4
  · refine (hK.block q7 (Array.getElem?_eq_some_iff.1 h.ent).1 ?_).trans h.ent
    rintro (rfl | hk)
    · omega
    · exact h3 hk
/-- What is read in a round. -/
theorem Bd.cells (h : Bd w w0 W0 q0 q7 e N B W) : W.cell? ⟨q7, 0, none⟩ = some (.int .i64 e.s) ∧ W.cell? ⟨q7, 1, none⟩ = some (.int .i64 e.r) ∧ W.cell? ⟨q7, 2, none⟩ = some (.int .i64 e.m) ∧ W.cell? ⟨q7, 3, none⟩ = some (.string e.v) :=
  ⟨cell_of_row W q7 0 _ TE _ h.ent, cell_of_row W q7 1 _ TE _ h.ent, cell_of_row W q7 2 _ TE _ h.ent, cell_of_row W q7 3 _ TE _ h.ent⟩
/-- One entry more. -/
theorem Bd.grow (h : Bd w w0 W0 q0 q7 e N B W) {v v' : Value} {w1 : World} (hv : W.heap[q0]? = some (.cells #[v] TEs (0, 0))) (hq : w.heap.size ≤ q0 ∧ q0 < w0.heap.size) (h7 : w0.heap.size ≤ q7) (o : Obj)
    (hrow : OwE w0.heap.size (lst N B ++ [B N]) v' w1) (hg : (W.alloc o).grownBy w1 v.ownBlock) (hloc : v'.ownBlock = v.ownBlock ∨ v'.ownBlock = some (W.alloc o).heap.size) :
    Bd w w0 W0 q0 q7 e (N + 1) B (w1.setCell ⟨q0, 0, none⟩ v') ∧ w1.heap[q0]? = some (.cells #[v] TEs (0, 0)) := by
  have h4 := h.ent
  have hlt := (Array.getElem?_eq_some_iff.1 h.ent).1
  obtain ⟨v0, h1, h2, h3⟩ := h.row
  have e0 : v0 = v := by
    rw [hv] at h1
    injection h1 with h1
    injection h1 with h1 _
    injection h1 with h1
    injection h1 with h1 _
    exact h1.symm
  subst e0
  have hq1 : w1.heap[q0]? = some (.cells #[v0] TEs (0, 0)) := by
    have hql := (Array.getElem?_eq_some_iff.1 hv).1
    refine (hg.block q0 (by rw [World.size_alloc]; omega) (fun e => ?_)).trans ((Below.heap_alloc _ _ _ hql).trans hv)
    have := (World.ownsRow.lt h2 q0 e.symm).1
    omega
  have hK : Keeps (fun k => k = q0 ∨ v0.ownBlock = some k) W (w1.setCell ⟨q0, 0, none⟩ v') :=
    ((Keeps.refl (fun k => k = q0 ∨ v0.ownBlock = some k) W).alloc o |>.grown hg (fun g e => .inl (.inr e))).setCell (p := ⟨q0, 0, none⟩) (.inl (.inl rfl)) _
  refine ⟨h.wrote hv hq h7 hK ⟨v', heap_setCell_same w1 q0 0 _ _ _ hq1, ?_, ?_⟩, hq1⟩
  · rw [lst_succ]
    refine rows_kept hrow fun k hk => Below.heap_setCell _ _ _ k (fun e => ?_)
    subst e
    have := (World.ownsRow.lt hrow _ hk).1
    omega
  · intro e
    rcases hloc with hl | hl
    · rw [hl] at e; exact h3 e
    · rw [hl, World.size_alloc] at e
      injection e with e
      omega
end
end Go.Proofs.Ytffiooclkchoiaa.Prp
