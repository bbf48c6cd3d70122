/- A list of ranges behind another one; the short ways of RangesParts. -/
import Derived.Test.YtabiafhkhahgeaaR31
namespace Go.Proofs.Ytabiafhkhahgeaa.Rng
open Go.RowKit Go.Lib
set_option linter.unusedVariables false
set_option linter.unusedSimpArgs false
set_option maxRecDepth 100000

theorem flat_cells {w : World} {b off : Nat} {M : List Rg} (h : ∀ i r, M[i]? = some r → w.cell? ⟨b, off + i * 2, none⟩ = some (.string (tx r.f)) ∧ w.cell? ⟨b, off + i * 2 + 1, none⟩ = some (.string (tx r.t))) :
    ∀ j u, (flat M)[j]? = some u → w.cell? ⟨b, off + j, none⟩ = some u := by
  intro j u hu
  have hj : j < (flat M).length := (List.getElem?_eq_some_iff.1 hu).1
  rw [flat_len] at hj
  obtain ⟨r, hr⟩ : ∃ r, M[j / 2]? = some r := ⟨M[j / 2]'(by omega), List.getElem?_eq_getElem (by omega)⟩
  obtain ⟨f1, f2⟩ := flat_get M (j / 2) r hr
  obtain ⟨c1, c2⟩ := h (j / 2) r hr
  rcases Nat.mod_two_eq_zero_or_one j with hm | hm
  · have e : j / 2 * 2 = j := by omega
    rw [e] at f1 c1
    rw [hu] at f1
    rw [c1, f1]
  · have e : j / 2 * 2 + 1 = j := by omega
    rw [e] at f2
    rw [Nat.add_assoc, e] at c2
    rw [hu] at f2
    rw [c2, f2]
theorem run_append_rgs (base : Nat) (w : World) (ty : TypeId) (v : Value) (l : List Rg) (hown : Ow base l v w) (A : Option Addr) (m c : Nat) (M : List Rg) (hb : Rs w (.slice A m c) M)
    (hn : l.length + M.length ≤ 100000000) (hbase : base ≤ w.heap.size) :
    ∃ v' w', (Builtin.append_ #[36, 36] ty #[v, .slice A m c]).run Try.prog w = .ok v' w' ∧ Ow base (l ++ M) v' w' ∧ w.grownBy w' v.ownBlock := by
  obtain ⟨i0, hi, hz0, hz1, hz2⟩ := info_parts info_rg
  obtain ⟨A', c', he, hc⟩ := hb
  injection he with e1 e2 e3
  subst e1 e2 e3
  cases A with
  | none =>
    have h0 : M.length = 0 := by
      rcases Nat.eq_zero_or_pos M.length with h1 | h1
      · exact h1
      · obtain ⟨b, off, e, _⟩ := hc h1
        cases e
    have hl := List.eq_nil_of_length_eq_zero h0
    subst hl
    have hrun : (Builtin.append_ #[36, 36] ty #[v, .slice none 0 c]).run Try.prog w = .ok v w := by
      rcases hown.2 with ⟨rfl, h0⟩ | ⟨g, cap, cur, rfl, _, _, hnc, _⟩
      · simp [Builtin.append_, run_underlying Try.underlying36, sizeOf, typeInfo, hi, Builtin.lenOf, Builtin.firstCells]
      · simp [Builtin.append_, run_underlying Try.underlying36, sizeOf, typeInfo, hi, Builtin.lenOf, Builtin.firstCells, hnc, storeCells]
    exact ⟨v, w, hrun, by rw [List.append_nil]; exact hown, World.grownBy.refl w _⟩
  | some ad =>
    by_cases h0 : M.length = 0
    · have hl := List.eq_nil_of_length_eq_zero h0
      subst hl
      obtain ⟨v', w', h1, h2, h3, _, h5⟩ := run_append_own_at (P := Try.prog) w base 36 ty TR i0 (.agg #[.string ⟨#[]⟩, .string ⟨#[]⟩]) 2 32 Try.underlying36 hi hz0 hz1 hz2 rfl (by decide) v l.length (flat l) hown ad 0 c [] rfl (fun j u hu => by cases hu) (fun u hu => by cases hu) (by unfold maxLen; omega) (by omega) hbase
      refine ⟨v', w', h1, ?_, h3⟩
      show w'.ownsRow base TR 2 v' (l ++ []).length (flat (l ++ []))
      rw [List.append_nil]
      simpa using h2
    · obtain ⟨b, off, e, hd⟩ := hc (by omega)
      cases e
      obtain ⟨v', w', h1, h2, h3, _, h5⟩ := run_append_own_at (P := Try.prog) w base 36 ty TR i0 (.agg #[.string ⟨#[]⟩, .string ⟨#[]⟩]) 2 32 Try.underlying36 hi hz0 hz1 hz2 rfl (by decide) v l.length (flat l) hown ⟨b, off, none⟩ M.length c (flat M) (flat_len M) (fun j u hu => by
        rw [addr_add]; exact flat_cells hd j u hu) (flat_one M) (by unfold maxLen; omega) (by omega) hbase
      refine ⟨v', w', h1, ?_, h3⟩
      show w'.ownsRow base TR 2 v' (l ++ M).length (flat (l ++ M))
      rw [flat_app, List.length_append]
      exact h2
theorem wpList_append_rgs {ops : Array Oper} {rest : List Oper} {o : Oper} {a : Act} {w : World} {Q : Exit → Act → World → Prop} (hgd : o.guard = none) (s x : Operand)
    (ho : o.op = .call { callee := .builtin .append, args := #[s, x], argTypes := #[36, 36] })
    (base : Nat) (v : Value) (l : List Rg) (hs : a.eval s = v) (hown : Ow base l v w) (A : Option Addr) (m c : Nat) (M : List Rg) (hx : a.eval x = .slice A m c) (hb : Rs w (.slice A m c) M)
    (hn : l.length + M.length ≤ 100000000) (hbase : base ≤ w.heap.size)
    (h : ∀ v' w', Ow base (l ++ M) v' w' → w.grownBy w' v.ownBlock → wpList Try.prog ops Q rest (a.put o.dst v') w') :
    wpList Try.prog ops Q (o :: rest) a w := by
  refine wpList_plain hgd fun K hK => ?_
  obtain ⟨v', w', hrun, h1, h2⟩ := run_append_rgs base w o.type v l hown A m c M hb hn hbase
  unfold Oper.wp execOp
  simp only [ho, resolve, invoke, builtin, Sem.run_bind, Sem.run_pure, Result.andThen_ok, List.map_toArray, List.map_cons, List.map_nil, hs, hx, hrun]
  exact hK _ _ (h v' w' h1 h2)
set_option maxHeartbeats 4000000 in
theorem parts_long (a b : Rg) (h : (shortR a && shortR b) = false) (w : World) :
    Calls Try.prog 7 #[.agg #[.string (tx a.f), .string (tx a.t)], .agg #[.string (tx b.f), .string (tx b.t)]] w fun e w' => e = .returned (.bool true) ∧ Below w.heap.size w w' := by
  have hS := Lib.hid (fun W => short_any a W)
  have hQ := Lib.hid (fun W => short_any b W)
  have hW := Lib.hid (fun W => works_any W)
  have hx := tw_new w (tx a.f) (tx a.t) (tx b.f) (tx b.t)
  obtain ⟨c0, c1, c2, c3, _⟩ := hx.cells
  generalize shortR a = z at *
  generalize shortR b = z2 at *
  generalize tx a.f = s at *
  generalize tx a.t = t at *
  generalize tx b.f = u at *
  generalize tx b.t = v at *
  cases z <;> cases z2
  case true.true => cases h
  case true.false =>
    go_enter Try.func7, Try.ntmps7
    go_wp2_with (first
      | (go_at_call_of 11 (Value.agg #[Value.string s, Value.string t]); refine (hS.out _).mono ?_; rintro e w1 ⟨rfl, hb1⟩; have hx1 := hx.later hb1; obtain ⟨d0, d1, d2, d3, _⟩ := hx1.cells)
      | (go_at_call_of 11 (Value.agg #[Value.string u, Value.string v]); refine (hQ.out _).mono ?_; rintro e w3 ⟨rfl, hb3⟩; have hx3 := hx1.later hb3)
      | (go_at_call 12; refine (hW.out _).mono ?_; rintro e w2 ⟨rfl, hb2⟩; have hx2 := hx3.later hb2))
    go_ret
    exact ⟨rfl, hx2.bel⟩
  all_goals
    go_enter Try.func7, Try.ntmps7
    go_wp2_with (first
      | (go_at_call_of 11 (Value.agg #[Value.string s, Value.string t]); refine (hS.out _).mono ?_; rintro e w1 ⟨rfl, hb1⟩; have hx1 := hx.later hb1)
      | (go_at_call 12; refine (hW.out _).mono ?_; rintro e w2 ⟨rfl, hb2⟩; have hx2 := hx1.later hb2))
    go_ret
    exact ⟨rfl, hx2.bel⟩
set_option maxHeartbeats 2000000 in
theorem parts_bad (a b : Rg) (h1 : shortR a = true) (h2 : shortR b = true) (ho : (okR a && okR b) = false) (w : World) :
    Calls Try.prog 7 #[.agg #[.string (tx a.f), .string (tx a.t)], .agg #[.string (tx b.f), .string (tx b.t)]] w fun e w' => e = .returned (.bool true) ∧ Below w.heap.size w w' := by
  have hS := fun W => short_any a W
  have hQ := fun W => short_any b W
  rw [h1] at hS
  rw [h2] at hQ
  replace hS := Lib.hid hS
  replace hQ := Lib.hid hQ
  have hW := Lib.hid (fun W => works_any W)
  have hx := tw_new w (tx a.f) (tx a.t) (tx b.f) (tx b.t)
  have hM := fun W => meet_any a b W
  have hN := fun W => without_any a b W
  rw [meetR_no ho] at hM
  rw [withR_no ho] at hN
  replace hM := Lib.hid (show ∀ W, Calls Try.prog 21 #[.agg #[.string (tx a.f), .string (tx a.t)], .agg #[.string (tx b.f), .string (tx b.t)]] W (fun e w' => e = .returned (.tuple #[.agg #[.string ⟨#[]⟩, .string ⟨#[]⟩], .bool false, .int .i64 2]) ∧ Below W.heap.size W w') from hM)
  replace hN := Lib.hid (show ∀ W, Calls Try.prog 23 #[.agg #[.string (tx a.f), .string (tx a.t)], .agg #[.string (tx b.f), .string (tx b.t)]] W (Gives W [] 2) from hN)
  obtain ⟨c0, c1, c2, c3, _⟩ := hx.cells
  clear h1 h2
  generalize tx a.f = s at *
  generalize tx a.t = t at *
  generalize tx b.f = u at *
  generalize tx b.t = v at *
  go_enter Try.func7, Try.ntmps7
  go_wp2_with (first
    | (go_at_call_of 11 (Value.agg #[Value.string s, Value.string t]); refine (hS.out _).mono ?_; rintro e w1 ⟨rfl, hb1⟩; have hx1 := hx.later hb1; obtain ⟨d0, d1, d2, d3, _⟩ := hx1.cells)
    | (go_at_call_of 11 (Value.agg #[Value.string u, Value.string v]); refine (hQ.out _).mono ?_; rintro e w3 ⟨rfl, hb3⟩; have hx3 := hx1.later hb3; obtain ⟨e0, e1, e2, e3, _⟩ := hx3.cells)
    | (go_at_call 21; refine (hM.out _).mono ?_; rintro e w4 ⟨rfl, hb4⟩; have hx4 := (hx3.later hb4).later (alloc_b w4 (.cells #[.string ⟨#[]⟩, .string ⟨#[]⟩] TR)); obtain ⟨g0, g1, g2, g3, _⟩ := hx4.cells)
    | (go_at_call 23; refine (hN.out _).mono ?_; rintro e w5 ⟨vv, rfl, ho5, hb5⟩; have hx5 := hx4.later hb5)
    | (go_at_call 12; refine (hW.out _).mono ?_; rintro e w2 ⟨rfl, hb2⟩; have hx2 := hx5.later hb2))
  go_ret
  exact ⟨rfl, hx2.bel⟩
end Go.Proofs.Ytabiafhkhahgeaa.Rng
