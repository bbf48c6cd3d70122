/- Lists of numbers of one's own, appends; slices.Equal. -/
import Derived.Test.YtmbkopeikldonaaDoorU04
import Derived.Maps.AppendAt
namespace Go.Proofs.YtmbkopeikldonaaDoor.Quo
open Go.RowKit Go.Lib
set_option linter.unusedVariables false
set_option linter.unusedSimpArgs false
set_option maxRecDepth 20000

theorem nums_app (K : IntKind) (a b : List Nat) : nums K (a ++ b) = nums K a ++ nums K b := by simp [nums]
theorem rows_form {w : World} {base n size : Nat} {e : TypeId} {v : Value} {xs : List Value} (h : w.ownsRow base e size v n xs) : ∃ a cap, v = .slice a n cap := by
  rcases h.2 with ⟨rfl, rfl⟩ | ⟨g, cap, cur, rfl, _⟩
  · exact ⟨none, 0, rfl⟩
  · exact ⟨_, cap, rfl⟩
theorem rows_later {w w' : World} {base size n : Nat} {e : TypeId} {v : Value} {xs : List Value} (h : w.ownsRow base e size v n xs) (hb : Below w.heap.size w w') : w'.ownsRow base e size v n xs := by
  refine ⟨h.1, ?_⟩
  rcases h.2 with hn | ⟨g, cap, cur, rfl, hbg, hg, rest⟩
  · exact .inl hn
  · exact .inr ⟨g, cap, cur, rfl, hbg, (hb.block g (Array.getElem?_eq_some_iff.1 hg).1).trans hg, rest⟩
theorem rows_base {w : World} {base base' size n : Nat} {e : TypeId} {v : Value} {xs : List Value} (h : w.ownsRow base e size v n xs) (hb : base' ≤ base) : w.ownsRow base' e size v n xs := by
  refine ⟨h.1, ?_⟩
  rcases h.2 with h | ⟨g, cap, cur, rfl, hbg, rest⟩
  · exact .inl h
  · exact .inr ⟨g, cap, cur, rfl, Nat.le_trans hb hbg, rest⟩
theorem info_u : (Tryd.prog.info? 22).map (fun i => (i.zero, i.size, i.bytes)) = some (some (.int .u64 0), 1, 8) := by kernel_rfl
theorem info_i : (Tryd.prog.info? 3).map (fun i => (i.zero, i.size, i.bytes)) = some (some (.int .i64 0), 1, 8) := by kernel_rfl
abbrev TI : TypeId := 3
def eqL (l m : List Nat) : Bool := decide (l = m)
theorem eqL_t (l : List Nat) : eqL l l = true := decide_eq_true rfl
/-- Where two lists part. -/
theorem part_at (l m : List Nat) (hl : l.length = m.length) (h : l ≠ m) : ∃ k, k < l.length ∧ l.getD k 0 ≠ m.getD k 0 ∧ ∀ j, j < k → l.getD j 0 = m.getD j 0 := by
  induction l generalizing m with
  | nil => cases m with
    | nil => exact absurd rfl h
    | cons => simp at hl
  | cons x l ih =>
    cases m with
    | nil => simp at hl
    | cons y m =>
      by_cases e : x = y
      · subst e
        obtain ⟨k, h1, h2, h3⟩ := ih m (by simpa using hl) (fun e => h (by rw [e]))
        refine ⟨k + 1, by simpa using h1, by simpa using h2, fun j hj => ?_⟩
        cases j with
        | zero => rfl
        | succ j => simpa using h3 j (by omega)
      · exact ⟨0, by simp, by simpa using e, fun j hj => by omega⟩

/-! []uint64. -/
def OwU (base : Nat) (l : List Nat) (v : Value) (w : World) : Prop := w.ownsRow base 22 1 v l.length (nums .u64 l)
theorem OwU.ns {base : Nat} {l : List Nat} {v : Value} {w : World} (h : OwU base l v w) : IsNs .u64 w v l := own_ns h
theorem OwU.later {base : Nat} {l : List Nat} {v : Value} {w w' : World} (h : OwU base l v w) (hb : Below w.heap.size w w') : OwU base l v w' := rows_later h hb
theorem OwU.base {base base' : Nat} {l : List Nat} {v : Value} {w : World} (h : OwU base l v w) (hb : base' ≤ base) : OwU base' l v w := rows_base h hb
theorem OwU.form {base : Nat} {l : List Nat} {v : Value} {w : World} (h : OwU base l v w) : ∃ a cap, v = .slice a l.length cap := rows_form h
theorem OwU.nil (base : Nat) (w : World) : OwU base [] (.slice none 0 0) w := World.ownsRow_nil w base 22 1
theorem run_append_U (base : Nat) (w : World) (ty : TypeId) (v : Value) (l : List Nat) (hown : OwU base l v w) (g c x : Nat) (hc : w.cell? ⟨g, 0, none⟩ = some (.int .u64 (x : Nat))) (hn : l.length ≤ 100000) (hbase : base ≤ w.heap.size) :
    ∃ v' w', (Builtin.append_ #[35, 35] ty #[v, .slice (some ⟨g, 0, none⟩) 1 c]).run Tryd.prog w = .ok v' w' ∧ OwU base (l ++ [x]) v' w' ∧ w.grownBy w' v.ownBlock := by
  obtain ⟨i0, hi, hz0, hz1, hz2⟩ := info_parts info_u
  obtain ⟨v', w', h1, h2, h3, _, h5⟩ := run_append_own_at (P := Tryd.prog) w base 35 ty 22 i0 (.int .u64 0) 1 8 Tryd.underlying35 hi hz0 hz1 hz2 rfl (by decide) v l.length (nums .u64 l) hown ⟨g, 0, none⟩ 1 c (nums .u64 [x]) rfl (fun j u hu => by
    cases j with
    | zero => cases hu; simpa [Addr.add] using hc
    | succ j => simp [nums] at hu) (nums_one _ _) (by unfold maxLen; omega) (by omega) hbase
  refine ⟨v', w', h1, ?_, h3⟩
  show w'.ownsRow base 22 1 v' (l ++ [x]).length (nums .u64 (l ++ [x]))
  rw [nums_app, List.length_append]
  exact h2
theorem wpList_append_U {ops : Array Oper} {rest : List Oper} {o : Oper} {a : Act} {w : World} {Q : Exit → Act → World → Prop} (hgd : o.guard = none) (s x : Operand)
    (ho : o.op = .call { callee := .builtin .append, args := #[s, x], argTypes := #[35, 35] })
    (base : Nat) (v : Value) (l : List Nat) (hs : a.eval s = v) (hown : OwU base l v w) (g c y : Nat) (hx : a.eval x = .slice (some ⟨g, 0, none⟩) 1 c) (hc : w.cell? ⟨g, 0, none⟩ = some (.int .u64 (y : Nat)))
    (hn : l.length ≤ 100000) (hbase : base ≤ w.heap.size)
    (h : ∀ v' w', OwU base (l ++ [y]) v' w' → w.grownBy w' v.ownBlock → wpList Tryd.prog ops Q rest (a.put o.dst v') w') :
    wpList Tryd.prog ops Q (o :: rest) a w := by
  refine wpList_plain hgd fun K hK => ?_
  obtain ⟨v', w', hrun, h1, h2⟩ := run_append_U base w o.type v l hown g c y hc hn hbase
  unfold Oper.wp execOp
  simp only [ho, resolve, invoke, builtin, Sem.run_bind, Sem.run_pure, Result.andThen_ok, List.map_toArray, List.map_cons, List.map_nil, hs, hx, hrun]
  exact hK _ _ (h v' w' h1 h2)
theorem owBU {l : List Nat} {v : Value} {w w1 w0 : World} {o : Obj} (h : OwU w0.heap.size l v w) (hg : (w.alloc o).grownBy w1 v.ownBlock) (hb : Below w0.heap.size w0 w) : Below w0.heap.size w0 w1 := by
  have h1 : Below w0.heap.size w0 (w.alloc o) := hb.trans ((alloc_b w o).mono hb.size)
  exact h1.grown hg h1.size (fun k e => (World.ownsRow.lt h k e).1)
theorem eqA_U (v1 v2 : Value) (l m : List Nat) (w : World) (h1 : IsNs .u64 w v1 l) (h2 : IsNs .u64 w v2 m) (hl : l.length ≤ 100000) (hm : m.length ≤ 100000) :
    Calls Tryd.prog 25 #[v1, v2] w fun e w' => e = .returned (.bool (eqL l m)) ∧ Below w.heap.size w w' := by
  obtain ⟨a1, cap1, rfl, hc1⟩ := h1
  obtain ⟨a2, cap2, rfl, hc2⟩ := h2
  by_cases hlm : l.length = m.length
  · have hc2' : 0 < l.length → ∃ b off, a2 = some ⟨b, off, none⟩ ∧ ∀ i, i < l.length → w.cell? ⟨b, off + i, none⟩ = some (.int .u64 (m.getD i 0 : Nat)) := by rw [hlm]; exact hc2
    have hP := part_at l m hlm
    have hE := Lib.hid (show l = m → eqL l m = true from fun e => by rw [e]; exact eqL_t m)
    have hN := Lib.hid (show l ≠ m → eqL l m = false from fun e => decide_eq_false e)
    have hlen := Lib.hid hlm
    generalize hB : eqL l m = B at *
    rw [← hlm]
    rw [← hlm] at hm
    clear hlm hc2 hB
    rcases Nat.eq_zero_or_pos l.length with h0 | hp
    · have e0 : l = m := by
        have e1 := List.eq_nil_of_length_eq_zero h0
        have e2 := List.eq_nil_of_length_eq_zero (hlen.out.symm.trans h0)
        rw [e1, e2]
      have hB := hE.out e0
      subst hB
      replace hc1 := Lib.hid hc1
      replace hc2' := Lib.hid hc2'
      rw [h0]
      go_enter Tryd.func25, Tryd.ntmps25
      go_wp2
      refine wp_loop_rounds 1 ?_
      rw [rounds_succ]
      go_wp2
      go_ret
      exact ⟨rfl, Below.refl _ _⟩
    · obtain ⟨b1, o1, rfl, hd1⟩ := hc1 hp
      obtain ⟨b2, o2, rfl, hd2⟩ := hc2' hp
      have hb1 : b1 < w.heap.size := World.block_lt_of_cell? w _ (hd1 0 hp)
      have hb2 : b2 < w.heap.size := World.block_lt_of_cell? w _ (hd2 0 hp)
      clear hc1 hc2'
      replace hd1 := Lib.hid hd1
      replace hd2 := Lib.hid hd2
      replace hP := Lib.hid hP
      go_enter Tryd.func25, Tryd.ntmps25
      go_wp2
      go_loopw [13] (fun i wr => ∃ k : Nat, k ≤ l.length ∧ i = .int .i64 k ∧ Below w.heap.size w wr ∧ ∀ j, j < k → l.getD j 0 = m.getD j 0) (fun i _ => l.length - (intOf i).toNat)
      case atStart => exact ⟨0, Nat.zero_le _, rfl, Below.refl _ _, fun j h => by omega⟩
      case round =>
        obtain ⟨k, hk, rfl, hbel, hall⟩ := hrel
        replace hall := Lib.hid hall
        by_cases hlt : k < l.length
        · have g1 : wr.cell? ⟨b1, o1 + k, none⟩ = some (.int .u64 (l.getD k 0 : Nat)) := by
            rw [hbel.cell (p := ⟨b1, o1 + k, none⟩) hb1]; exact hd1.out k hlt
          have g2 : wr.cell? ⟨b2, o2 + k, none⟩ = some (.int .u64 (m.getD k 0 : Nat)) := by
            rw [hbel.cell (p := ⟨b2, o2 + k, none⟩) hb2]; exact hd2.out k hlt
          generalize hy : l.getD k 0 = y at *
          generalize hz : m.getD k 0 = z at *
          have i1 : 0 ≤ (k : Int) := by omega
          have i2 : (k : Int) < (l.length : Int) := by omega
          replace hy := Lib.hid hy
          replace hz := Lib.hid hz
          by_cases hyz : y = z
          · subst hyz
            go_wp2
            go_region
            all_goals
              go_wp2
              go_roundw
              case rel => exact ⟨k + 1, by omega, by go_num, hbel.drew, fun j hj => by
                by_cases e : j = k
                · rw [e, hy.out, hz.out]
                · exact hall.out j (by omega)⟩
              case measure => simp [intOf]; omega
          · have q1 : ((y : Int) == (z : Int)) = false := by simp; omega
            have q2 : ((y : Int) != (z : Int)) = true := by simp; omega
            have q3 : ¬ (y : Int) = (z : Int) := by omega
            have hB : B = false := hN.out (fun e => hyz (by rw [← hy.out, ← hz.out, e]))
            subst hB
            have hbd := hbel.drew
            clear hyz
            go_wp2
            go_region
            all_goals
              go_wp2
              go_ret
              exact ⟨rfl, hbd⟩
        · have hB : B = true := by
            refine hE.out ?_
            apply Classical.byContradiction
            intro hne
            obtain ⟨j, hj, h2, _⟩ := hP.out hne
            exact h2 (hall.out j (by omega))
          subst hB
          go_wp2
          go_ret
          exact ⟨rfl, hbel⟩
  · have hB : eqL l m = false := decide_eq_false (fun e => hlm (by rw [e]))
    rw [hB]
    have q1 : ((l.length : Int) == (m.length : Int)) = false := by simp; omega
    have q2 : ((l.length : Int) != (m.length : Int)) = true := by simp; omega
    have q3 : ¬ (l.length : Int) = (m.length : Int) := by omega
    have q4 : ¬ l.length = m.length := hlm
    clear hc1 hc2 hB
    go_enter Tryd.func25, Tryd.ntmps25
    go_wp2
    go_ret
    exact ⟨rfl, Below.refl _ _⟩

/-! []int. -/
def OwI (base : Nat) (l : List Nat) (v : Value) (w : World) : Prop := w.ownsRow base 3 1 v l.length (nums .i64 l)
theorem OwI.ns {base : Nat} {l : List Nat} {v : Value} {w : World} (h : OwI base l v w) : IsNs .i64 w v l := own_ns h
theorem OwI.later {base : Nat} {l : List Nat} {v : Value} {w w' : World} (h : OwI base l v w) (hb : Below w.heap.size w w') : OwI base l v w' := rows_later h hb
theorem OwI.base {base base' : Nat} {l : List Nat} {v : Value} {w : World} (h : OwI base l v w) (hb : base' ≤ base) : OwI base' l v w := rows_base h hb
theorem OwI.form {base : Nat} {l : List Nat} {v : Value} {w : World} (h : OwI base l v w) : ∃ a cap, v = .slice a l.length cap := rows_form h
theorem OwI.nil (base : Nat) (w : World) : OwI base [] (.slice none 0 0) w := World.ownsRow_nil w base 3 1
theorem run_append_I (base : Nat) (w : World) (ty : TypeId) (v : Value) (l : List Nat) (hown : OwI base l v w) (g c x : Nat) (hc : w.cell? ⟨g, 0, none⟩ = some (.int .i64 (x : Nat))) (hn : l.length ≤ 100000) (hbase : base ≤ w.heap.size) :
    ∃ v' w', (Builtin.append_ #[41, 41] ty #[v, .slice (some ⟨g, 0, none⟩) 1 c]).run Tryd.prog w = .ok v' w' ∧ OwI base (l ++ [x]) v' w' ∧ w.grownBy w' v.ownBlock := by
  obtain ⟨i0, hi, hz0, hz1, hz2⟩ := info_parts info_i
  obtain ⟨v', w', h1, h2, h3, _, h5⟩ := run_append_own_at (P := Tryd.prog) w base 41 ty 3 i0 (.int .i64 0) 1 8 Tryd.underlying41 hi hz0 hz1 hz2 rfl (by decide) v l.length (nums .i64 l) hown ⟨g, 0, none⟩ 1 c (nums .i64 [x]) rfl (fun j u hu => by
    cases j with
    | zero => cases hu; simpa [Addr.add] using hc
    | succ j => simp [nums] at hu) (nums_one _ _) (by unfold maxLen; omega) (by omega) hbase
  refine ⟨v', w', h1, ?_, h3⟩
  show w'.ownsRow base 3 1 v' (l ++ [x]).length (nums .i64 (l ++ [x]))
  rw [nums_app, List.length_append]
  exact h2
theorem wpList_append_I {ops : Array Oper} {rest : List Oper} {o : Oper} {a : Act} {w : World} {Q : Exit → Act → World → Prop} (hgd : o.guard = none) (s x : Operand)
    (ho : o.op = .call { callee := .builtin .append, args := #[s, x], argTypes := #[41, 41] })
    (base : Nat) (v : Value) (l : List Nat) (hs : a.eval s = v) (hown : OwI base l v w) (g c y : Nat) (hx : a.eval x = .slice (some ⟨g, 0, none⟩) 1 c) (hc : w.cell? ⟨g, 0, none⟩ = some (.int .i64 (y : Nat)))
    (hn : l.length ≤ 100000) (hbase : base ≤ w.heap.size)
    (h : ∀ v' w', OwI base (l ++ [y]) v' w' → w.grownBy w' v.ownBlock → wpList Tryd.prog ops Q rest (a.put o.dst v') w') :
    wpList Tryd.prog ops Q (o :: rest) a w := by
  refine wpList_plain hgd fun K hK => ?_
  obtain ⟨v', w', hrun, h1, h2⟩ := run_append_I base w o.type v l hown g c y hc hn hbase
  unfold Oper.wp execOp
  simp only [ho, resolve, invoke, builtin, Sem.run_bind, Sem.run_pure, Result.andThen_ok, List.map_toArray, List.map_cons, List.map_nil, hs, hx, hrun]
  exact hK _ _ (h v' w' h1 h2)
theorem owBI {l : List Nat} {v : Value} {w w1 w0 : World} {o : Obj} (h : OwI w0.heap.size l v w) (hg : (w.alloc o).grownBy w1 v.ownBlock) (hb : Below w0.heap.size w0 w) : Below w0.heap.size w0 w1 := by
  have h1 : Below w0.heap.size w0 (w.alloc o) := hb.trans ((alloc_b w o).mono hb.size)
  exact h1.grown hg h1.size (fun k e => (World.ownsRow.lt h k e).1)
theorem eqA_I (v1 v2 : Value) (l m : List Nat) (w : World) (h1 : IsNs .i64 w v1 l) (h2 : IsNs .i64 w v2 m) (hl : l.length ≤ 100000) (hm : m.length ≤ 100000) :
    Calls Tryd.prog 28 #[v1, v2] w fun e w' => e = .returned (.bool (eqL l m)) ∧ Below w.heap.size w w' := by
  obtain ⟨a1, cap1, rfl, hc1⟩ := h1
  obtain ⟨a2, cap2, rfl, hc2⟩ := h2
  by_cases hlm : l.length = m.length
  · have hc2' : 0 < l.length → ∃ b off, a2 = some ⟨b, off, none⟩ ∧ ∀ i, i < l.length → w.cell? ⟨b, off + i, none⟩ = some (.int .i64 (m.getD i 0 : Nat)) := by rw [hlm]; exact hc2
    have hP := part_at l m hlm
    have hE := Lib.hid (show l = m → eqL l m = true from fun e => by rw [e]; exact eqL_t m)
    have hN := Lib.hid (show l ≠ m → eqL l m = false from fun e => decide_eq_false e)
    have hlen := Lib.hid hlm
    generalize hB : eqL l m = B at *
    rw [← hlm]
    rw [← hlm] at hm
    clear hlm hc2 hB
    rcases Nat.eq_zero_or_pos l.length with h0 | hp
    · have e0 : l = m := by
        have e1 := List.eq_nil_of_length_eq_zero h0
        have e2 := List.eq_nil_of_length_eq_zero (hlen.out.symm.trans h0)
        rw [e1, e2]
      have hB := hE.out e0
      subst hB
      replace hc1 := Lib.hid hc1
      replace hc2' := Lib.hid hc2'
      rw [h0]
      go_enter Tryd.func28, Tryd.ntmps28
      go_wp2
      refine wp_loop_rounds 1 ?_
      rw [rounds_succ]
      go_wp2
      go_ret
      exact ⟨rfl, Below.refl _ _⟩
    · obtain ⟨b1, o1, rfl, hd1⟩ := hc1 hp
      obtain ⟨b2, o2, rfl, hd2⟩ := hc2' hp
      have hb1 : b1 < w.heap.size := World.block_lt_of_cell? w _ (hd1 0 hp)
      have hb2 : b2 < w.heap.size := World.block_lt_of_cell? w _ (hd2 0 hp)
      clear hc1 hc2'
      replace hd1 := Lib.hid hd1
      replace hd2 := Lib.hid hd2
      replace hP := Lib.hid hP
      go_enter Tryd.func28, Tryd.ntmps28
      go_wp2
      go_loopw [13] (fun i wr => ∃ k : Nat, k ≤ l.length ∧ i = .int .i64 k ∧ Below w.heap.size w wr ∧ ∀ j, j < k → l.getD j 0 = m.getD j 0) (fun i _ => l.length - (intOf i).toNat)
      case atStart => exact ⟨0, Nat.zero_le _, rfl, Below.refl _ _, fun j h => by omega⟩
      case round =>
        obtain ⟨k, hk, rfl, hbel, hall⟩ := hrel
        replace hall := Lib.hid hall
        by_cases hlt : k < l.length
        · have g1 : wr.cell? ⟨b1, o1 + k, none⟩ = some (.int .i64 (l.getD k 0 : Nat)) := by
            rw [hbel.cell (p := ⟨b1, o1 + k, none⟩) hb1]; exact hd1.out k hlt
          have g2 : wr.cell? ⟨b2, o2 + k, none⟩ = some (.int .i64 (m.getD k 0 : Nat)) := by
            rw [hbel.cell (p := ⟨b2, o2 + k, none⟩) hb2]; exact hd2.out k hlt
          generalize hy : l.getD k 0 = y at *
          generalize hz : m.getD k 0 = z at *
          have i1 : 0 ≤ (k : Int) := by omega
          have i2 : (k : Int) < (l.length : Int) := by omega
          replace hy := Lib.hid hy
          replace hz := Lib.hid hz
          by_cases hyz : y = z
          · subst hyz
            go_wp2
            go_region
            all_goals
              go_wp2
              go_roundw
              case rel => exact ⟨k + 1, by omega, by go_num, hbel.drew, fun j hj => by
                by_cases e : j = k
                · rw [e, hy.out, hz.out]
                · exact hall.out j (by omega)⟩
              case measure => simp [intOf]; omega
          · have q1 : ((y : Int) == (z : Int)) = false := by simp; omega
            have q2 : ((y : Int) != (z : Int)) = true := by simp; omega
            have q3 : ¬ (y : Int) = (z : Int) := by omega
            have hB : B = false := hN.out (fun e => hyz (by rw [← hy.out, ← hz.out, e]))
            subst hB
            have hbd := hbel.drew
            clear hyz
            go_wp2
            go_region
            all_goals
              go_wp2
              go_ret
              exact ⟨rfl, hbd⟩
        · have hB : B = true := by
            refine hE.out ?_
            apply Classical.byContradiction
            intro hne
            obtain ⟨j, hj, h2, _⟩ := hP.out hne
            exact h2 (hall.out j (by omega))
          subst hB
          go_wp2
          go_ret
          exact ⟨rfl, hbel⟩
  · have hB : eqL l m = false := decide_eq_false (fun e => hlm (by rw [e]))
    rw [hB]
    have q1 : ((l.length : Int) == (m.length : Int)) = false := by simp; omega
    have q2 : ((l.length : Int) != (m.length : Int)) = true := by simp; omega
    have q3 : ¬ (l.length : Int) = (m.length : Int) := by omega
    have q4 : ¬ l.length = m.length := hlm
    clear hc1 hc2 hB
    go_enter Tryd.func28, Tryd.ntmps28
    go_wp2
    go_ret
    exact ⟨rfl, Below.refl _ _⟩
end Go.Proofs.YtmbkopeikldonaaDoor.Quo
