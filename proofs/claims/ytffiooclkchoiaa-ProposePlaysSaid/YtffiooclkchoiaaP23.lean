/- Rows of what nodes told; the state behind a list of promises that were taken, in any order. -/
import Derived.Test.YtffiooclkchoiaaP22
namespace Go.Proofs.Ytffiooclkchoiaa.Prp
open Go.RowKit Go.Lib
open Bal (TB bOk ckB ordV eqB eqB_t eqB_f eq_b alloc_b check_any order_any)
set_option linter.unusedVariables false
set_option linter.unusedSimpArgs false
set_option maxRecDepth 100000

/-! Rows. -/
theorem info_t : (Try.prog.info? TTd).map (fun i => (i.zero, i.size, i.bytes)) = some (some (.agg #[.int .i64 0, .int .i64 0, .slice none 0 0]), 3, 40) := by kernel_rfl
def tc (t : Td) : List Value := [.int .i64 t.k, .int .i64 t.u, t.v]
def flatT (L : List Td) : List Value := L.flatMap tc
theorem flatT_app (a b : List Td) : flatT (a ++ b) = flatT a ++ flatT b := by simp [flatT]
theorem flatT_one (e : Td) : flatT [e] = tc e := by simp [flatT]
theorem flatT_cons (e : Td) (L : List Td) : flatT (e :: L) = tc e ++ flatT L := rfl
theorem flatT_at : ∀ (L : List Td) (i j : Nat) (e : Td), L[i]? = some e → j < 3 → (flatT L)[i * 3 + j]? = (tc e)[j]?
  | [], i, j, e, h, _ => by simp at h
  | x :: L, 0, j, e, h, hj => by
    simp only [List.getElem?_cons_zero, Option.some.injEq] at h
    subst h
    rw [flatT_cons, Nat.zero_mul, Nat.zero_add, List.getElem?_append_left (by show j < 3; omega)]
  | x :: L, i + 1, j, e, h, hj => by
    rw [List.getElem?_cons_succ] at h
    rw [flatT_cons, List.getElem?_append_right (by show 3 ≤ _; omega), ← flatT_at L i j e h hj]
    congr 1
    show (i + 1) * 3 + j - 3 = _
    omega
def OwT (base : Nat) (L : List Td) (v : Value) (w : World) : Prop := w.ownsRow base TTd 3 v L.length (flatT L)
theorem OwT.nil (base : Nat) (w : World) : OwT base [] (.slice none 0 0) w := World.ownsRow_nil w base TTd 3
theorem OwT.later {base : Nat} {L : List Td} {v : Value} {w w' : World} (h : OwT base L v w) (hb : Below w.heap.size w w') : OwT base L v w' := rows_later h hb
theorem OwT.kept {base : Nat} {L : List Td} {v : Value} {w w' : World} {F : Nat → Prop} (h : OwT base L v w) (hk : Keeps F w w') (hF : ∀ k, F k → k < base) : OwT base L v w' :=
  rows_kept h fun k e => hk.block k (World.ownsRow.lt h k e).2 fun hf => by have := hF k hf; have := (World.ownsRow.lt h k e).1; omega
theorem OwT.form {base : Nat} {L : List Td} {v : Value} {w : World} (h : OwT base L v w) : ∃ a cap, v = .slice a L.length cap := by
  rcases h.2 with ⟨rfl, h0⟩ | ⟨g, cap, cur, rfl, _⟩
  · exact ⟨none, 0, by rw [h0]⟩
  · exact ⟨_, cap, rfl⟩
theorem OwT.cells {base : Nat} {L : List Td} {v : Value} {w : World} (h : OwT base L v w) (hp : 0 < L.length) : ∃ g cap, v = .slice (some ⟨g, 0, none⟩) L.length cap ∧ base ≤ g ∧ g < w.heap.size ∧
    ∀ i e, L[i]? = some e → w.cell? ⟨g, i * 3, none⟩ = some (.int .i64 e.k) ∧ w.cell? ⟨g, i * 3 + 1, none⟩ = some (.int .i64 e.u) ∧ w.cell? ⟨g, i * 3 + 2, none⟩ = some e.v := by
  rcases h.2 with ⟨_, h0⟩ | ⟨g, cap, cur, rfl, hbg, hg, h1, h2, h3, h4⟩
  · omega
  · refine ⟨g, cap, rfl, hbg, (Array.getElem?_eq_some_iff.1 hg).1, fun i e he => ?_⟩
    have hi : i < L.length := (List.getElem?_eq_some_iff.1 he).1
    have key : ∀ j, j < 3 → w.cell? ⟨g, i * 3 + j, none⟩ = (tc e)[j]? := fun j hj => by
      have e1 := flatT_at L i j e he hj
      rw [← h4, List.getElem?_take_of_lt (by omega)] at e1
      rw [← e1]
      simp [World.cell?, hg]
    exact ⟨key 0 (by omega), key 1 (by omega), key 2 (by omega)⟩
theorem run_append_t (base : Nat) (w : World) (ty : TypeId) (v : Value) (L : List Td) (hown : OwT base L v w) (g c : Nat) (x : Td) (hv : ∃ a n c, x.v = .slice a n c) (hx : w.heap[g]? = some (.cells (tc x).toArray TTd (0, 0))) (hn : L.length ≤ 100000) (hbase : base ≤ w.heap.size) :
    ∃ v' w', (Builtin.append_ #[TTds, TTds] ty #[v, .slice (some ⟨g, 0, none⟩) 1 c]).run Try.prog w = .ok v' w' ∧ OwT base (L ++ [x]) v' w' ∧ w.grownBy w' v.ownBlock := by
  obtain ⟨i0, hi, hz0, hz1, hz2⟩ := info_p info_t
  obtain ⟨xk, xu, xL, xv⟩ := x
  obtain ⟨a, n, d, hv⟩ := hv
  simp only at hv
  subst hv
  obtain ⟨v', w', h1, h2, h3, _, h5⟩ := run_append_own_at (P := Try.prog) w base TTds ty TTd i0 _ 3 40 td_slice hi hz0 hz1 hz2 rfl (by decide) v L.length (flatT L) hown ⟨g, 0, none⟩ 1 c (tc ⟨xk, xu, xL, .slice a n d⟩) rfl
    (fun j u hu => by rw [addr_add, Nat.zero_add, cell_of_row w g j _ TTd _ hx]; simpa using hu) (fun u hu => by simp [tc] at hu; rcases hu with rfl | rfl | rfl <;> rfl) (by unfold maxLen; omega) (by omega) hbase
  refine ⟨v', w', h1, ?_, h3⟩
  show w'.ownsRow base TTd 3 v' (L ++ [_]).length (flatT (L ++ [_]))
  rw [flatT_app, flatT_one, List.length_append]
  exact h2
theorem wpList_append_t {ops : Array Oper} {rest : List Oper} {o : Oper} {a : Act} {w : World} {Q : Exit → Act → World → Prop} (hgd : o.guard = none) (s x : Operand)
    (ho : o.op = .call { callee := .builtin .append, args := #[s, x], argTypes := #[TTds, TTds] })
    (base : Nat) (v : Value) (L : List Td) (hs : a.eval s = v) (hown : OwT base L v w) (g c : Nat) (y : Td) (hv : ∃ a n c, y.v = .slice a n c) (hx : a.eval x = .slice (some ⟨g, 0, none⟩) 1 c) (hc : w.heap[g]? = some (.cells (tc y).toArray TTd (0, 0)))
    (hn : L.length ≤ 100000) (hbase : base ≤ w.heap.size)
    (h : ∀ v' w', OwT base (L ++ [y]) v' w' → w.grownBy w' v.ownBlock → wpList Try.prog ops Q rest (a.put o.dst v') w') :
    wpList Try.prog ops Q (o :: rest) a w := by
  refine wpList_plain hgd fun K hK => ?_
  obtain ⟨v', w', hrun, h1, h2⟩ := run_append_t base w o.type v L hown g c y hv hc hn hbase
  unfold Oper.wp execOp
  simp only [ho, resolve, invoke, builtin, Sem.run_bind, Sem.run_pure, Result.andThen_ok, List.map_toArray, List.map_cons, List.map_nil, hs, hx, hrun]
  exact hK _ _ (h v' w' h1 h2)

/-! The state behind promises that were taken. -/
def PL (T : List Td) : Nat → Pm := fun i => match T.find? (fun t => decide (t.k = (i : Int))) with
  | some t => ⟨true, t.L, t.u⟩
  | none => zP
def stT (s : St) (T : List Td) : St := ⟨s.n, s.r, s.m, s.f, PL T⟩
structure GdT (s : St) (T : List Td) : Prop where
  nd : (T.map Td.k).Nodup
  ok : ∀ t ∈ T, argOk s t.k t.L t.u = true ∧ fitL t.L = true
theorem argOk_st (s : St) (T : List Td) (k : Int) (l : List Et) (u : Int) : argOk (stT s T) k l u = argOk s k l u := rfl
theorem gd_nil (s : St) : GdT s [] := ⟨List.nodup_nil, fun t h => by cases h⟩
theorem st_nil {s : St} (h : ∀ i, s.P i = zP) : stT s [] = s := by
  obtain ⟨n, r, m, f, P⟩ := s
  show (⟨n, r, m, f, PL []⟩ : St) = _
  congr 1
  exact funext fun i => (h i).symm
theorem pl_a (T : List Td) (i : Nat) : (PL T i).a = true ↔ ∃ t ∈ T, t.k = (i : Int) := by
  unfold PL
  cases h : T.find? (fun t => decide (t.k = (i : Int))) with
  | none =>
    rw [List.find?_eq_none] at h
    simp only [Bool.false_eq_true, false_iff]
    rintro ⟨t, ht, e⟩
    exact h t ht (decide_eq_true e)
  | some t =>
    have h1 := List.mem_of_find?_eq_some h
    have h2 := List.find?_some h
    simp only [true_iff]
    exact ⟨t, h1, of_decide_eq_true h2⟩
theorem pl_none {T : List Td} {i : Nat} (h : ∀ t ∈ T, t.k ≠ (i : Int)) : PL T i = zP := by
  unfold PL
  rw [List.find?_eq_none.2 (fun t ht e => h t ht (of_decide_eq_true e))]
theorem pl_cons (t : Td) (T : List Td) {m : Nat} (hm : t.k = (m : Int)) : PL (t :: T) = updP (PL T) m ⟨true, t.L, t.u⟩ := by
  funext i
  unfold PL
  rw [List.find?_cons]
  by_cases e : i = m
  · subst e
    rw [updP_same, decide_eq_true hm]
  · rw [updP_other _ _ e, decide_eq_false (by rw [hm]; omega)]
theorem pl_snoc (t : Td) (T : List Td) {m : Nat} (hm : t.k = (m : Int)) (h : ∀ x ∈ T, x.k ≠ (m : Int)) : PL (T ++ [t]) = updP (PL T) m ⟨true, t.L, t.u⟩ := by
  funext i
  unfold PL
  rw [List.find?_append]
  by_cases e : i = m
  · subst e
    rw [updP_same, List.find?_eq_none.2 (fun x hx e => h x hx (of_decide_eq_true e)), List.find?_cons, decide_eq_true hm]
    rfl
  · rw [updP_other _ _ e, List.find?_cons, decide_eq_false (show ¬ t.k = (i : Int) by rw [hm]; omega)]
    cases T.find? (fun t => decide (t.k = (i : Int))) <;> rfl
theorem arg_k {s : St} {k : Int} {l : List Et} {u : Int} (h : argOk s k l u = true) : ∃ m : Nat, k = m ∧ (m : Int) < s.n ∧ 0 ≤ u ∧ u ≤ 4096 := by
  unfold argOk at h
  simp only [Bool.and_eq_true, decide_eq_true_eq] at h
  obtain ⟨m, rfl⟩ := Int.eq_ofNat_of_zero_le h.1.1.1
  exact ⟨m, rfl, h.1.1.2, h.2⟩
theorem add_gd {s : St} {T : List Td} (hG : GdT s T) (t : Td) (h : addE (stT s T) t.k t.L t.u = 0) : GdT s (T ++ [t]) ∧ addS (stT s T) t.k t.L t.u = stT s (T ++ [t]) := by
  have h0 := h
  unfold addE at h
  rw [argOk_st] at h
  split at h
  · rename_i hA
    split at h
    · rename_i hF
      split at h
      · cases h
      · rename_i ha
        obtain ⟨m, hm, hmn, hu⟩ := arg_k hA
        have hno : ∀ x ∈ T, x.k ≠ (m : Int) := fun x hx e => ha (by rw [hm, Int.toNat_natCast]; exact (pl_a T m).2 ⟨x, hx, e⟩)
        refine ⟨⟨?_, fun x hx => ?_⟩, ?_⟩
        · rw [List.map_append, List.nodup_append]
          refine ⟨hG.nd, by simp, fun a ha b hb => ?_⟩
          obtain ⟨x, hx, rfl⟩ := List.mem_map.1 ha
          simp only [List.map_cons, List.map_nil, List.mem_singleton] at hb
          rw [hb, hm]
          exact hno x hx
        · rcases List.mem_append.1 hx with hx | hx
          · exact hG.ok x hx
          · simp only [List.mem_singleton] at hx
            subst hx
            exact ⟨hA, hF⟩
        · unfold addS
          rw [if_pos h0]
          show (⟨s.n, s.r, s.m, s.f, updP (PL T) t.k.toNat ⟨true, t.L, t.u⟩⟩ : St) = ⟨s.n, s.r, s.m, s.f, PL (T ++ [t])⟩
          rw [pl_snoc t T hm hno, hm, Int.toNat_natCast]
    · cases h
  · cases h
theorem add_cons {s : St} {T : List Td} {t : Td} (hG : GdT s (t :: T)) : addE (stT s T) t.k t.L t.u = 0 ∧ addS (stT s T) t.k t.L t.u = stT s (t :: T) := by
  obtain ⟨hA, hF⟩ := hG.ok t (List.mem_cons_self)
  obtain ⟨m, hm, hmn, hu⟩ := arg_k hA
  have hnd := hG.nd
  rw [List.map_cons, List.nodup_cons] at hnd
  have hE : addE (stT s T) t.k t.L t.u = 0 := by
    unfold addE
    rw [argOk_st, if_pos hA, if_pos hF, if_neg]
    rw [hm, Int.toNat_natCast]
    intro ha
    obtain ⟨x, hx, e⟩ := (pl_a T m).1 ha
    exact hnd.1 (by rw [hm, ← e]; exact List.mem_map.2 ⟨x, hx, rfl⟩)
  refine ⟨hE, ?_⟩
  unfold addS
  rw [if_pos hE]
  show (⟨s.n, s.r, s.m, s.f, updP (PL T) t.k.toNat ⟨true, t.L, t.u⟩⟩ : St) = ⟨s.n, s.r, s.m, s.f, PL (t :: T)⟩
  rw [pl_cons t T hm, hm, Int.toNat_natCast]
theorem GdT.tail {s : St} {t : Td} {T : List Td} (h : GdT s (t :: T)) : GdT s T := by
  have hnd := h.nd
  rw [List.map_cons, List.nodup_cons] at hnd
  exact ⟨hnd.2, fun x hx => h.ok x (List.mem_cons_of_mem _ hx)⟩
theorem GdT.drop {s : St} {T : List Td} (h : GdT s T) (j : Nat) : GdT s (T.drop j) := by
  refine ⟨?_, fun x hx => h.ok x (List.mem_of_mem_drop hx)⟩
  rw [List.map_drop]
  exact h.nd.sublist (List.drop_sublist _ _)
theorem pc_gd {s : St} (h7 : s.n ≤ 7) : ∀ {T : List Td}, GdT s T → Quo.pc (nodesK (PL T) 7) = T.length
  | [], _ => by
    have : nodesK (PL []) 7 = 0 := by decide +kernel
    rw [this]; exact pc_zero
  | t :: T, hG => by
    obtain ⟨hA, hF⟩ := hG.ok t (List.mem_cons_self)
    obtain ⟨m, hm, hmn, hu⟩ := arg_k hA
    have hnd := hG.nd
    rw [List.map_cons, List.nodup_cons] at hnd
    have hm7 : m < 7 := by omega
    have hbit : (nodesK (PL T) 7).testBit m = false := by
      rw [nodes_bit, decide_eq_true hm7, Bool.true_and, Bool.eq_false_iff]
      intro ha
      obtain ⟨x, hx, e⟩ := (pl_a T m).1 ha
      exact hnd.1 (by rw [hm, ← e]; exact List.mem_map.2 ⟨x, hx, rfl⟩)
    rw [pl_cons t T hm, nodes_upd (PL T) hm7 _ rfl, pc_or _ (nodes_lt _ 7) m hm7 hbit, pc_gd h7 hG.tail, List.length_cons]
theorem rdy_gd {s : St} {T : List Td} (hs : OkS (stT s T)) (hn : s.n = 7) (hG : GdT s T) : rdy (stT s T) = decide (4 ≤ T.length) := by
  rw [rdy_pc hs]
  show decide (s.n < 2 * (Quo.pc (nodesK (PL T) 7) : Int)) = _
  rw [pc_gd (by omega) hG, hn]
  exact decide_eq_decide.2 (by omega)
theorem beg_snoc {s : St} {T : List Td} {t : Td} (hG : GdT s (T ++ [t])) (h7 : s.n ≤ 7) : beg (stT s T) ≤ beg (stT s (T ++ [t])) ∧ t.u ≤ upK (PL (T ++ [t])) 7 := by
  obtain ⟨hA, hF⟩ := hG.ok t (by simp)
  obtain ⟨m, hm, hmn, hu⟩ := arg_k hA
  have hno : ∀ x ∈ T, x.k ≠ (m : Int) := fun x hx e => by
    have hnd := hG.nd
    rw [List.map_append, List.nodup_append] at hnd
    exact hnd.2.2 x.k (List.mem_map.2 ⟨x, hx, rfl⟩) t.k (by simp) (by rw [e, hm])
  have hU := up_upd (PL T) m t.L t.u hu.1 (by rw [pl_none hno]) 7
  rw [if_pos (by omega)] at hU
  unfold beg
  show max s.f (upK (PL T) 7) ≤ max s.f (upK (PL (T ++ [t])) 7) ∧ _
  rw [pl_snoc t T hm hno, hU]
  omega
theorem valL_at {s : St} {k : Nat} {e : Et} (h : (valL s)[k]? = some e) : e.s = beg s + k ∧ e.r = s.r ∧ e.m = s.m := by
  unfold valL at h
  split at h
  · unfold valsOf at h
    have hk : k < topN (beg s) (allK s.P 7) := by
      have := (List.getElem?_eq_some_iff.1 h).1
      rwa [lst_len] at this
    rw [lst_at _ _ _ hk] at h
    injection h with h
    subst h
    exact ⟨rfl, rfl, rfl⟩
  · simp at h
theorem beg_bd {s : St} (h : OkS s) : 0 ≤ beg s ∧ beg s ≤ 4096 ∧ s.f ≤ beg s ∧ upK s.P 7 ≤ beg s ∧ 0 ≤ upK s.P 7 ∧ upK s.P 7 ≤ 4096 := by
  have hf := h.hf
  have h0 := up_nn s.P 7
  have h1 := up_lim s.P (u := 4096) (by omega) 7 (fun j _ => by
    cases ha : (s.P j).a with
    | true => exact (h.on j ha).2.2.2.2
    | false => rw [h.off j ha]; decide)
  unfold beg
  omega
/-! Two proposers beside a row of promises. -/
structure Fx (w W0 : World) (base b c : Nat) : Prop where
  ne : b ≠ c
  b0 : W0.heap.size ≤ b
  c0 : W0.heap.size ≤ c
  b1 : b < base
  c1 : c < base
  w0 : w.heap.size ≤ W0.heap.size
structure OA (w W0 : World) (base b c : Nat) (s q : St) (T : List Td) (v : Value) (W : World) : Prop where
  p : PAt w b s W
  q : PAt w c q W
  t : OwT base T v W
  bel : Below W0.heap.size W0 W
  sz : base ≤ W.heap.size
section
variable {w W0 W W' : World} {base b c : Nat} {s q : St} {T : List Td} {v : Value}
theorem OA.later (x : OA w W0 base b c s q T v W) (h : Below W.heap.size W W') : OA w W0 base b c s q T v W' := ⟨x.p.later h, x.q.later h, x.t.later h, x.bel.trans (h.mono x.bel.size), Nat.le_trans x.sz h.size⟩
theorem OA.alloc (x : OA w W0 base b c s q T v W) (o : Obj) : OA w W0 base b c s q T v (W.alloc o) := x.later (alloc_b _ _)
theorem OA.drew (x : OA w W0 base b c s q T v W) : OA w W0 base b c s q T v W.drew := x.later (Below.refl _ _).drew
theorem OA.add (x : OA w W0 base b c s q T v W) (f : Fx w W0 base b c) {s' : St} (hp : PAt w b s' W') (h : Keeps (fun j => j = b) W W') : OA w W0 base b c s' q T v W' :=
  ⟨hp, x.q.keptP x.p (fun e => f.ne e.symm) h, x.t.kept h (fun k e => by subst e; exact f.b1), x.bel.trans (h.below x.bel.size fun k e => by subst e; exact f.b0), Nat.le_trans x.sz h.size⟩
theorem OA.addq (x : OA w W0 base b c s q T v W) (f : Fx w W0 base b c) {q' : St} (hq : PAt w c q' W') (h : Keeps (fun j => j = c) W W') : OA w W0 base b c s q' T v W' :=
  ⟨x.p.keptP x.q f.ne h, hq, x.t.kept h (fun k e => by subst e; exact f.c1), x.bel.trans (h.below x.bel.size fun k e => by subst e; exact f.c0), Nat.le_trans x.sz h.size⟩
theorem row_ne {base base' : Nat} {L : List Et} {v u : Value} (h : OwE base L u W) (x : OwT base' T v W) {k : Nat} (hk : u.ownBlock = some k) : v.ownBlock ≠ some k := by
  intro e
  rcases h.2 with ⟨rfl, _⟩ | ⟨g, cap, cur, rfl, _, hg, _⟩
  · cases hk
  · injection hk with hk
    subst hk
    rcases x.2 with ⟨rfl, _⟩ | ⟨g', cap', cur', rfl, _, hg', _⟩
    · cases e
    · injection e with e
      subst e
      rw [hg] at hg'
      injection hg' with hg'
      injection hg' with _ hg'
      exact absurd hg' (by decide)
theorem PAt.keptG {n : Nat} (x : PAt w n s W) (h : OwT base T v W) (hg : W.grownBy W' v.ownBlock) (hn : n < base) (hw : w.heap.size ≤ base) : PAt w n s W' := by
  obtain ⟨vs, hx⟩ := x.px
  have hK : Keeps (fun k => v.ownBlock = some k) W W' := (Keeps.refl _ W).grown hg fun g e => .inl e
  refine ⟨⟨vs, hx.kept hK (fun e => ?_) fun i hi k hk e => row_ne (hx.lst i hi) h hk e⟩, x.bel.grown hg x.bel.size (fun k e => Nat.le_trans hw (World.ownsRow.lt h k e).1), x.lo⟩
  have := (World.ownsRow.lt h n e).1
  omega
theorem OA.push (x : OA w W0 base b c s q T v W) (f : Fx w W0 base b c) {T' : List Td} {v' : Value} (h : OwT base T' v' W') (hg : W.grownBy W' v.ownBlock) : OA w W0 base b c s q T' v' W' :=
  ⟨x.p.keptG x.t hg f.b1 (by have := f.w0; have := f.b0; have := f.b1; omega), x.q.keptG x.t hg f.c1 (by have := f.w0; have := f.b0; have := f.b1; omega), h, own_below x.t hg x.bel (by have := f.b0; have := f.b1; omega), Nat.le_trans x.sz hg.size⟩
end
end Go.Proofs.Ytffiooclkchoiaa.Prp
