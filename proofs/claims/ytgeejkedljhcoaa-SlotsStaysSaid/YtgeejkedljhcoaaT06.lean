/- Prefix. -/
import Derived.Test.YtgeejkedljhcoaaT05
import Derived.Stop.RegionWithIn
import Derived.Sort.QuietIn
namespace Go.Proofs.Ytgeejkedljhcoaa.Slt
open Go.RowKit Go.Maps Go.Lib
set_option linter.unusedVariables false
set_option linter.unusedSimpArgs false
set_option maxRecDepth 20000
attribute [local go_sem] Oper.semAt_some

/-! A region without a defer statement in a round, at the wide fence: as everywhere. -/
theorem oper_round {P : Program} {n l : Nat} {o : Oper} {a : Act} {w : World} {K : Act → World → Prop} {Q : Exit → Act → World → Prop} (hd : ∀ c, o.op ≠ .defer c) (h : o.wp P a w K Q) : o.wpIn (Fence.wide.inRound l) n P a w K Q := by
  unfold Oper.wpIn
  refine ⟨fun _ _ => trivial, ?_⟩
  rw [Fence.inRound_round, Oper.semAt_some _ _ _ hd]
  unfold Oper.wp at h
  generalize (execOp a.eval o).run P w = r at *
  cases r with
  | ok x w' =>
    cases x <;> simp only [Oper.upon, Oper.uponIn] at h ⊢
    case value => exact h
    case skip => exact h
    case defer => exact h
    case enter f args => exact ⟨(fun e => by simp [Fence.wide] at e), (callsIn_wide.2 h).inRound l⟩
    case row row args =>
      refine ⟨(fun e => by simp [Fence.wide] at e), fun c cs _ => ?_⟩
      obtain ⟨v, w'', hr, hs⟩ := h c cs
      exact ⟨v, w'', hr, stepsIn_wide.2 hs⟩
  | halt x w' => cases x <;> simp only [Oper.upon, Oper.uponIn] at h ⊢ <;> exact h
theorem op_round {P : Program} {n l i : Nat} {ops : Array Oper} {a : Act} {w : World} {K : Act → World → Prop} {Q : Exit → Act → World → Prop} (hd : ∀ (i : Nat) (o : Oper) c, ops[i]? = some o → o.op ≠ .defer c) (hQ : ∀ a w, ¬ Q .outgrown a w)
    (h : wpOp P ops Q i K a w) : wpOpIn (Fence.wide.inRound l) n P ops Q i K a w := by
  unfold wpOp at h
  unfold wpOpIn
  cases ho : ops[i]? with
  | none => simp only [ho] at h ⊢; exact h
  | some o =>
    simp only [ho] at h ⊢
    by_cases hw : Region.wanted o (yielded ops a.tmps) = true
    · simp only [hw, if_true] at h ⊢
      rcases h with h | ⟨_, a', w', h⟩
      · exact oper_round (hd i o · ho) h
      · exact absurd h (hQ a' w')
    · simp only [hw] at h ⊢
      exact ⟨fun _ _ => trivial, h⟩
theorem any_round {P : Program} {n l : Nat} {ops : Array Oper} {Q : Exit → Act → World → Prop} (hd : ∀ (i : Nat) (o : Oper) c, ops[i]? = some o → o.op ≠ .defer c) (hQ : ∀ a w, ¬ Q .outgrown a w) :
    ∀ (fuel : Nat) (listed : Array Bool) (a : Act) (w : World), wpAny P .any ops Q fuel listed a w → wpAnyIn (Fence.wide.inRound l) n P .any ops Q fuel listed a w
  | 0, _, _, _, h => h
  | fuel + 1, listed, a, w, h => ⟨h.1, fun i hi => op_round hd hQ (wpOp_mono (fun a' w' h' => any_round hd hQ fuel _ a' w' h') (h.2 i hi))⟩
/-- No defer statement stands in the list. -/
def plainOps (l : List Oper) : Bool := l.all fun o => match o.op with | .defer _ => false | _ => true
theorem plainOps_no {l : List Oper} (h : plainOps l = true) (i : Nat) (o : Oper) (c : Call) (ho : l.toArray[i]? = some o) : o.op ≠ .defer c := by
  intro e
  have hm : o ∈ l := by
    have h2 : l[i]? = some o := by simpa using ho
    exact List.mem_of_getElem? h2
  have := List.all_eq_true.1 h o hm
  rw [e] at this
  cases this

/-- A region that only reads, in a round at the wide fence: one walk in the text's order. -/
theorem region_quiet_round {P : Program} {n l0 id : Nat} {Q : Exit → Act → World → Prop} {a : Act} {w : World} {l : List Oper} (hm : P.follows .mixedOrders = true) (hB : Region.lexB .any l.toArray = true)
    (hd : ∀ (i : Nat) (o : Oper) c, l.toArray[i]? = some o → o.op ≠ .defer c) (hQ : ∀ a w, ¬ Q .outgrown a w)
    (h : wpQuiet P l.toArray (fun w' => ∃ n, w' = w.drewN n) (fun a' => ∀ w', (∃ n, w' = w.drewN n) → Q .normal a' w') l a) : (Code.region id l.toArray true).wpIn (Fence.wide.inRound l0) n P Q a w := by
  simp only [Region.lexB, Bool.and_eq_true] at hB
  refine wpIn_region_any hm (any_round hd hQ _ _ _ _ (wpAny_of_quiet (C := fun w' => ∃ n, w' = w.drewN n) (Q := fun a' => ∀ w', (∃ n, w' = w.drewN n) → Q .normal a' w') (fun _ w' hw' h => h w' hw') _ _ _ _ ⟨1, rfl⟩ ?_))
  have := wpAnyQ_lex (C := fun w' => ∃ n, w' = w.drewN n) (md := .any) hB.1 l.toArray.toList 0 (Array.replicate l.toArray.size false) a (by simp) (by simpa using hB.2) (by simpa using h)
  simpa using this

/-- The values from a slot on, up to the first gap. -/
def preL (b : Int) : List Et → List ByteArray
  | [] => []
  | e :: r => if e.s = b then e.k :: preL (b + 1) r else []
/-- The slots are those from b on. -/
def Con (b : Int) (L : List Et) : Prop := ∀ i e, L[i]? = some e → e.s = b + (i : Nat)
theorem con_nil (b : Int) : Con b [] := fun i e h => by simp at h
theorem con_snoc {b : Int} {L : List Et} {e : Et} (h : Con b L) (he : e.s = b + (L.length : Nat)) : Con b (L ++ [e]) := by
  intro i x hx
  rw [List.getElem?_append] at hx
  split at hx
  · exact h i x hx
  · rename_i hi
    have : i - L.length = 0 := by
      have := (List.getElem?_eq_some_iff.1 hx).1
      simp only [List.length_cons, List.length_nil] at this
      omega
    rw [this] at hx
    simp only [List.getElem?_cons_zero, Option.some.injEq] at hx
    subst hx
    rw [he]
    have : i = L.length := by omega
    rw [this]
theorem con_cons {b : Int} {L : List Et} {e : Et} (h : Con b (e :: L)) : e.s = b ∧ Con (b + 1) L := by
  refine ⟨by have := h 0 e rfl; omega, fun i x hx => ?_⟩
  have := h (i + 1) x hx
  omega
theorem pre_con : ∀ {b : Int} {L : List Et} (_ : Con b L) (R : List Et), preL b (L ++ R) = L.map (·.k) ++ preL (b + (L.length : Nat)) R
  | b, [], h, R => by simp [preL]
  | b, e :: L, h, R => by
    obtain ⟨h1, h2⟩ := con_cons h
    show (if e.s = b then _ else _) = _
    have ih := pre_con h2 R
    have : b + 1 + (L.length : Int) = b + ((L.length + 1 : Nat) : Int) := by omega
    rw [this] at ih
    rw [if_pos h1]
    show e.k :: preL (b + 1) (L ++ R) = _
    rw [ih]
    rfl
theorem pre_all {b : Int} {L : List Et} (h : Con b L) : preL b L = L.map (·.k) := by
  have := pre_con h []
  rw [List.append_nil] at this
  rw [this]
  simp [preL]
theorem pre_stop {b : Int} {L R : List Et} {e : Et} (h : Con b L) (he : e.s ≠ b + (L.length : Nat)) : preL b (L ++ [e] ++ R) = L.map (·.k) := by
  rw [List.append_assoc, pre_con h]
  show _ ++ (if _ then _ else _) = _
  rw [if_neg he, List.append_nil]
def preV (s : St) : List ByteArray := preL s.b s.M
/-- Before the loop: the log, the box of its pointer, the box of the list. -/
structure P0 (w : World) (sb mb : Nat) (s : St) (W : World) : Prop where
  ax : Ax W sb mb s
  bx : W.heap[w.heap.size]? = some (.cells #[.pointer (some ⟨sb, 0, none⟩)] 25 (0, 0))
  lst : W.heap[w.heap.size + 1]? = some (.cells #[.slice none 0 0] TSs (0, 0))
  bel : Below w.heap.size w W
theorem P0.later {w W W' : World} {sb mb : Nat} {s : St} (h : P0 w sb mb s W) (hb : Below W.heap.size W W') : P0 w sb mb s W' :=
  ⟨h.ax.later hb, (hb.block _ (Array.getElem?_eq_some_iff.1 h.bx).1).trans h.bx, (hb.block _ (Array.getElem?_eq_some_iff.1 h.lst).1).trans h.lst, h.bel.trans (hb.mono h.bel.size)⟩
abbrev S0 (w : World) (sb mb : Nat) (s : St) (W : World) : Prop :=
  W.cell? ⟨w.heap.size, 0, none⟩ = some (.pointer (some ⟨sb, 0, none⟩)) ∧ W.cell? ⟨sb, 0, none⟩ = some (.int .i64 s.b) ∧ P0 w sb mb s W
theorem P0.s0 {w W : World} {sb mb : Nat} {s : St} (h : P0 w sb mb s W) : S0 w sb mb s W := ⟨cell_of_row W _ 0 _ _ _ h.bx, h.ax.cells.1, h⟩
theorem S0.from' {w W : World} {sb mb : Nat} {s : St} (h : S0 w sb mb s W) (o1 o2 : Obj) : S0 w sb mb s ((W.alloc o1).alloc o2) := ((h.2.2.later (alloc_b _ _)).later (alloc_b _ _)).s0
theorem appendIn_s {F : Fence} {n : Nat} {ops : Array Oper} {rest : List Oper} {o : Oper} {a : Act} {w : World} {Q : Exit → Act → World → Prop} (hgd : o.guard = none) (s x : Operand)
    (ho : o.op = .call { callee := .builtin .append, args := #[s, x], argTypes := #[TSs, TSs] })
    (base : Nat) (v : Value) (m : Nat) (xs : List Value) (hs : a.eval s = v) (hown : w.ownsRow base TK 1 v m xs) (g c : Nat) (y : ByteArray) (hx : a.eval x = .slice (some ⟨g, 0, none⟩) 1 c) (hc : w.heap[g]? = some (.cells #[.string y] TK (0, 0)))
    (hn : m ≤ 100000) (hbase : base ≤ w.heap.size)
    (h : ∀ v' w', w'.ownsRow base TK 1 v' (m + 1) (xs ++ [.string y]) → w.grownBy w' v.ownBlock → wpListIn F n Try.prog ops Q rest (a.put o.dst v') w') :
    wpListIn F n Try.prog ops Q (o :: rest) a w := by
  refine wpListIn_plain hgd fun K hK => ?_
  obtain ⟨i0, hi, hz0, hz1, hz2⟩ := info_p info_s
  obtain ⟨v', w', hrun, h1, h2, _, h4⟩ := run_append_own_at (P := Try.prog) w base TSs o.type TK i0 _ 1 16 Try.underlying43 hi hz0 hz1 hz2 rfl (by decide) v m xs hown ⟨g, 0, none⟩ 1 c [.string y] rfl
    (fun j u hu => by rw [addr_add, Nat.zero_add, cell_of_row w g j _ TK _ hc]; simpa using hu) (fun u hu => by simp at hu; subst hu; rfl) (by unfold maxLen; omega) (by omega) hbase
  unfold Oper.wpIn
  refine ⟨?_, ?_⟩
  · simp [Oper.about, ho, resolve, Target.leads, Sem.run_pure]
  · rw [Oper.semAt_plain F _ _ (by rw [ho]; intro c hc'; cases hc')]
    simp [execOp, ho, resolve, invoke, builtin, hs, hx, hrun, Result.andThen]
    exact hK _ _ (h v' w' h1 h2)
theorem appendIn_i {F : Fence} {n : Nat} {ops : Array Oper} {rest : List Oper} {o : Oper} {a : Act} {w : World} {Q : Exit → Act → World → Prop} (hgd : o.guard = none) (s x : Operand)
    (ho : o.op = .call { callee := .builtin .append, args := #[s, x], argTypes := #[TIs, TIs] })
    (base : Nat) (v : Value) (m : Nat) (xs : List Value) (hs : a.eval s = v) (hown : w.ownsRow base TI 1 v m xs) (g c : Nat) (y : Int) (hx : a.eval x = .slice (some ⟨g, 0, none⟩) 1 c) (hc : w.heap[g]? = some (.cells #[.int .i64 y] TI (0, 0)))
    (hn : m ≤ 100000000) (hbase : base ≤ w.heap.size)
    (h : ∀ v' w', w'.ownsRow base TI 1 v' (m + 1) (xs ++ [.int .i64 y]) → w.grownBy w' v.ownBlock → wpListIn F n Try.prog ops Q rest (a.put o.dst v') w') :
    wpListIn F n Try.prog ops Q (o :: rest) a w := by
  refine wpListIn_plain hgd fun K hK => ?_
  obtain ⟨i0, hi, hz0, hz1, hz2⟩ := info_p info_i
  obtain ⟨v', w', hrun, h1, h2, _, h4⟩ := run_append_own_at (P := Try.prog) w base TIs o.type TI i0 _ 1 8 Try.underlying45 hi hz0 hz1 hz2 rfl (by decide) v m xs hown ⟨g, 0, none⟩ 1 c [.int .i64 y] rfl
    (fun j u hu => by rw [addr_add, Nat.zero_add, cell_of_row w g j _ TI _ hc]; simpa using hu) (fun u hu => by simp at hu; subst hu; rfl) (by unfold maxLen; omega) (by omega) hbase
  unfold Oper.wpIn
  refine ⟨?_, ?_⟩
  · simp [Oper.about, ho, resolve, Target.leads, Sem.run_pure]
  · rw [Oper.semAt_plain F _ _ (by rw [ho]; intro c hc'; cases hc')]
    simp [execOp, ho, resolve, invoke, builtin, hs, hx, hrun, Result.andThen]
    exact hK _ _ (h v' w' h1 h2)
/-- What an append onto a list in the box q0 does. -/
theorem app_facts {W w1 : World} {q0 base n m n0 : Nat} {T e : TypeId} {xs ys : List Value} {u v' : Value} {o : Obj} (F : Nat → Prop) (hu : W.heap[q0]? = some (.cells #[u] T (0, 0))) (hr : W.ownsRow base e 1 u n xs) (hq : q0 < base) (hn : n0 ≤ base) (hnW : n0 ≤ W.heap.size) (hF : F q0)
    (h1 : w1.ownsRow base e 1 v' m ys) (h2 : (W.alloc o).grownBy w1 u.ownBlock) :
    w1.heap[q0]? = some (.cells #[u] T (0, 0)) ∧ (w1.setCell ⟨q0, 0, none⟩ v').heap[q0]? = some (.cells #[v'] T (0, 0)) ∧ (w1.setCell ⟨q0, 0, none⟩ v').ownsRow base e 1 v' m ys ∧ KeepsOthers W (w1.setCell ⟨q0, 0, none⟩ v') ∧
    Kq F n0 W (w1.setCell ⟨q0, 0, none⟩ v') ∧ (∀ k, k < base → k ≠ q0 → k < W.heap.size → (w1.setCell ⟨q0, 0, none⟩ v').heap[k]? = W.heap[k]?) ∧ (∀ B, B ≤ q0 → Below B W (w1.setCell ⟨q0, 0, none⟩ v')) := by
  have hlt := (Array.getElem?_eq_some_iff.1 hu).1
  have hub : ∀ k, u.ownBlock = some k → base ≤ k := fun k hk => (World.ownsRow.lt hr k hk).1
  have hblk : ∀ k, k < base → k < W.heap.size → w1.heap[k]? = W.heap[k]? := fun k hk hl =>
    (h2.block k (by rw [World.size_alloc]; omega) (fun e => by have := hub k e.symm; omega)).trans (Below.heap_alloc _ _ k hl)
  have hq1 := (hblk q0 hq hlt).trans hu
  have hsz : W.heap.size ≤ w1.heap.size := by have := h2.size; rw [World.size_alloc] at this; omega
  have hss : (w1.setCell ⟨q0, 0, none⟩ v').heap.size = w1.heap.size := by simp [World.setCell]
  have hk2 : ∀ k, k < base → k ≠ q0 → k < W.heap.size → (w1.setCell ⟨q0, 0, none⟩ v').heap[k]? = W.heap[k]? := fun k hk hn hl => (Below.heap_setCell _ _ _ k hn).trans (hblk k hk hl)
  have hsc : (w1.setCell ⟨q0, 0, none⟩ v').heap[q0]? = some (.cells #[v'] T (0, 0)) := heap_setCell_same w1 q0 0 _ T v' hq1
  refine ⟨hq1, hsc, rows_kept h1 fun k hk => Below.heap_setCell _ _ _ k (by have := (World.ownsRow.lt h1 k hk).1; show k ≠ q0; omega), ?_, ⟨by rw [hss]; exact hsz, fun k hk hf => ?_⟩, hk2, fun B hB => ?_⟩
  · refine ((KeepsOthers.alloc W o).trans (KeepsOthers.of_grownBy h2 fun j ob ej hj => ?_)).trans (KeepsOthers.setCell _ _ _)
    rcases hr.2 with ⟨rfl, _⟩ | ⟨g, cap, cur, rfl, _, hgb, _⟩
    · cases ej
    · injection ej with ej
      have ej : g = j := ej
      subst ej
      have hgl := (Array.getElem?_eq_some_iff.1 hgb).1
      rw [(Below.heap_alloc W o g hgl).trans hgb] at hj
      cases hj
      rfl
  · exact hk2 k (by omega) (fun e => hf (by rw [e]; exact hF)) (by omega)
  · exact ⟨h2.os, h2.tape, h2.output, by rw [hss]; exact hsz, fun k hk => hk2 k (by omega) (by omega) (by omega)⟩
structure Pt (w w0 : World) (q0 : Nat) (L : List ByteArray) (W : World) : Prop where
  bel : Below w.heap.size w W
  kq0 : Kq (fun k => k = q0) w0.heap.size w0 W
  row : ∃ v, W.heap[q0]? = some (.cells #[v] TSs (0, 0)) ∧ OwS w0.heap.size L v W
theorem Pt.later {w w0 : World} {q0 : Nat} {L : List ByteArray} {W V : World} (h : Pt w w0 q0 L W) (hb : Below W.heap.size W V) : Pt w w0 q0 L V := by
  obtain ⟨v, h1, h2⟩ := h.row
  exact ⟨h.bel.trans (hb.mono h.bel.size), h.kq0.trans (Kq.of_below hb h.kq0.1), v, (hb.block _ (Array.getElem?_eq_some_iff.1 h1).1).trans h1, rows_later h2 hb⟩
theorem pt_from {β : Type} {w w0 : World} {q0 : Nat} (hq : w.heap.size ≤ q0 ∧ q0 < w0.heap.size) (hw : w.heap.size ≤ w0.heap.size) (f : β → List ByteArray) (P : β → Prop) : OwnFrom w0.heap.size (fun (pre : β) W => P pre ∧ Pt w w0 q0 (f pre) W) := by
  rintro pre W W' row ⟨hp, h1, h2, v, h3, h4⟩ hg hr
  refine ⟨hp, h1.grown hg h1.size (fun k e => by have := (hr k e).1; omega), h2.trans ⟨hg.size, fun k hk hn => hg.block k (Nat.lt_of_lt_of_le hk h2.1) (fun e => by have := (hr k e.symm).1; omega)⟩, v, (hg.block q0 (Array.getElem?_eq_some_iff.1 h3).1 (fun e => by have := (hr q0 e.symm).1; omega)).trans h3, ?_⟩
  refine rows_kept h4 fun k hk => hg.block k (World.ownsRow.lt h4 k hk).2 (fun e => ?_)
  obtain ⟨_, o, ho, hc⟩ := hr k e.symm
  rcases h4.2 with ⟨rfl, _⟩ | ⟨g, cap, cur, rfl, _, hgb, _⟩
  · cases hk
  · injection hk with hk
    subst hk
    rw [hgb] at ho
    cases ho
    cases hc
set_option maxRecDepth 100000 in
set_option maxHeartbeats 4000000 in
theorem prefix_any {sb mb : Nat} {s : St} (w : World) (x : Ax w sb mb s) :
    Calls Try.prog 27 #[.pointer (some ⟨sb, 0, none⟩)] w fun e w' => ∃ v, e = .returned v ∧ OwS w.heap.size (preV s) v w' ∧ Below w.heap.size w w' := by
  obtain ⟨PV, hPV⟩ : ∃ PV, preV s = PV := ⟨_, rfl⟩
  rw [hPV]
  replace hPV := Lib.hid hPV
  have x1 := x.alloc (.cells #[.pointer (some ⟨sb, 0, none⟩)] 25)
  have hV := Lib.hid x1.valid
  have hP0 : P0 w sb mb s ((w.alloc (.cells #[.pointer (some ⟨sb, 0, none⟩)] 25)).alloc (.cells #[.slice none 0 0] TSs)) := by
    refine ⟨x1.alloc _, ?_, ?_, (alloc_b _ _).alloc (by rw [World.size_alloc]; omega) _⟩
    · exact (Below.heap_alloc _ _ _ (by rw [World.size_alloc]; omega)).trans (heap_alloc_new _ _)
    · have := heap_alloc_new (w.alloc (.cells #[.pointer (some ⟨sb, 0, none⟩)] 25)) (.cells #[.slice none 0 0] TSs)
      rwa [World.size_alloc] at this
  replace hP0 := Lib.hid (hP0.later (Below.refl _ _).drew)
  refine (callsIn_wide (n := 4)).1 ?_
  refine callsIn_of_wp_marks Try.func27 rfl trivial ?_ rfl
  simp only [Try.ntmps27, List.size_toArray, List.length_cons, List.length_nil, Nat.reduceAdd, Nat.reduceSub, Array.replicate_succ, Array.replicate_zero, List.push_toArray, List.append_toArray, List.nil_append, List.cons_append]
  gi_wp2_with (first
    | (refine ⟨trivial, ?_⟩; gi_at_call 41; refine (callsIn_wide.2 hV.out).mono ?_; rintro e w' ⟨rfl, rfl⟩))
  refine wpIn_wide.2 ?_
  go_region_held3 (S0 w sb mb s) (first | exact hP0.out.s0 | exact S0.from' (by assumption) _ _ | assumption)
    ((go_at_call 49; refine (from_any _ _ _).mono ?_; rintro e w2 ⟨rfl, rfl⟩))
  rename_i hHeld
  have hP := hHeld.2.2
  gi_wp2
  obtain ⟨w0, hw0⟩ : ∃ w0, ((((w.alloc (.cells #[.pointer (some ⟨sb, 0, none⟩)] 25)).alloc (.cells #[.slice none 0 0] TSs)).alloc (.cells #[.pointer (some ⟨sb, 0, none⟩)] 25)).alloc (.cells #[.int .i64 s.b] TI)).drew = w0 := ⟨_, rfl⟩
  have hz0 : w0.heap.size = w.heap.size + 4 := by rw [← hw0]; simp
  have hc1 : w0.cell? ⟨w.heap.size + 1 + 1, 0, none⟩ = some (.pointer (some ⟨sb, 0, none⟩)) := by
    rw [← hw0]
    have := (Boxed.new ((w.alloc (.cells #[.pointer (some ⟨sb, 0, none⟩)] 25)).alloc (.cells #[.slice none 0 0] TSs)) 25 (.pointer (some ⟨sb, 0, none⟩))).alloc (.cells #[.int .i64 s.b] TI)
    rw [World.size_alloc, World.size_alloc] at this
    exact this.cell
  have hc2 : w0.cell? ⟨w.heap.size + 1 + 1 + 1, 0, none⟩ = some (.int .i64 s.b) := by
    rw [← hw0]
    have := (Boxed.new (((w.alloc (.cells #[.pointer (some ⟨sb, 0, none⟩)] 25)).alloc (.cells #[.slice none 0 0] TSs)).alloc (.cells #[.pointer (some ⟨sb, 0, none⟩)] 25)) TI (.int .i64 s.b))
    rw [World.size_alloc, World.size_alloc, World.size_alloc] at this
    exact this.cell
  change Code.wpIn _ _ _ _ _ _ (((((w.alloc (.cells #[.pointer (some ⟨sb, 0, none⟩)] 25)).alloc (.cells #[.slice none 0 0] TSs)).alloc (.cells #[.pointer (some ⟨sb, 0, none⟩)] 25)).alloc (.cells #[.int .i64 s.b] TI)).drew)
  rw [hw0]
  change P0 w sb mb s ((((w.alloc (.cells #[.pointer (some ⟨sb, 0, none⟩)] 25)).alloc (.cells #[.slice none 0 0] TSs)).alloc (.cells #[.pointer (some ⟨sb, 0, none⟩)] 25)).alloc (.cells #[.int .i64 s.b] TI)).drew at hP
  rw [hw0] at hP
  clear hw0 hHeld hP0 hV
  obtain ⟨hx0, hbx, hb0, hbel0⟩ := hP
  have hxl := x.lt
  obtain ⟨q3, hq3⟩ : ∃ q3, w.heap.size = q3 := ⟨_, rfl⟩
  obtain ⟨q0, hq0⟩ : ∃ q0, w.heap.size + 1 = q0 := ⟨_, rfl⟩
  obtain ⟨q1, hq1⟩ : ∃ q1, w.heap.size + 1 + 1 = q1 := ⟨_, rfl⟩
  obtain ⟨q2, hq2⟩ : ∃ q2, w.heap.size + 1 + 1 + 1 = q2 := ⟨_, rfl⟩
  rw [hq2, hq1, hq0, hq3]
  rw [hq3] at hbx
  rw [hq0] at hb0
  rw [hq1] at hc1
  rw [hq2] at hc2
  have hqq : w.heap.size ≤ q0 ∧ q0 < w0.heap.size := ⟨by omega, by omega⟩
  have hst := from_stops (fun k => k = q0) w0 hx0 q1 q2 hc1 hc2 (by omega) (by omega) (by omega)
  have h00 : Con s.b (vals ([] : List Em)) ∧ Pt w w0 q0 ((vals ([] : List Em)).map (·.k)) w0 := ⟨con_nil _, hbel0, Kq.refl _ _ _, _, hb0, OwS.nil _ _⟩
  have hszw := hbel0.size
  have hml := x.ok.len
  have hbb := x.ok.hb
  have hcl : w0.cell? ⟨q3, 0, none⟩ = some (.pointer (some ⟨sb, 0, none⟩)) := cell_of_row w0 q3 0 _ _ _ hbx
  have hcb := hx0.cells.1
  have hE : Hid (∀ V, Kq (fun k => k = q0) w0.heap.size w0 V → V.cell? ⟨q3, 0, none⟩ = some (.pointer (some ⟨sb, 0, none⟩)) ∧ V.cell? ⟨sb, 0, none⟩ = some (.int .i64 s.b)) := Lib.hid fun V hV =>
    ⟨(hV.cell (p := ⟨q3, 0, none⟩) (by show q3 < _; omega) (by show ¬ q3 = q0; omega)).trans hcl, (hV.cell (p := ⟨sb, 0, none⟩) (by show sb < _; omega) (by show ¬ sb = q0; omega)).trans hcb⟩
  have hpv : Hid (∀ ys : List Em, Con s.b (vals ys) → vals ys = s.M → PV = (vals ys).map (·.k)) := Lib.hid fun ys h1 h2 => by rw [← hPV.out]; unfold preV; rw [← h2]; exact pre_all h1
  have hps : Hid (∀ (p : List Em) (y : Em), Con s.b (vals p) → y.val.s ≠ s.b + ((vals p).length : Nat) → (∃ r, vals (p ++ [y]) ++ r = s.M) → PV = (vals p).map (·.k)) := Lib.hid fun p y h1 h2 h3 => by
    obtain ⟨r, h3⟩ := h3
    rw [← hPV.out]
    unfold preV
    rw [← h3, vals_snoc]
    exact pre_stop h1 h2
  clear hcl hcb hbx hb0 hc1 hc2 hx0 x1 x
  generalize s.b = b at *
  have hDq := Lib.hid (show q0 + 2 < w0.heap.size from by omega)
  replace hz0 := Lib.hid hz0
  clear hq3 hq0 hq1 hq2
  refine wpIn_rangeFunc_ownF rfl (by omega) (gf := 59) (lb := #[.pointer (some ⟨q1, 0, none⟩), .pointer (some ⟨q2, 0, none⟩)]) rfl trivial (enters_of Try.func59 (by kernel_rfl) rfl)
    hst (fun h k => h.trans k) (fun W l o o' hl ho hc _ => ⟨by simp [World.putObj], fun k hk hn => (grownBy_putObj' W l o').block k (by have := (Array.getElem?_eq_some_iff.1 ho).1; omega) (fun e => by injection e with e; omega)⟩) (Below.refl _ _) (fun _ => rfl)
    (fun (pre : List Em) W => Con b (vals pre) ∧ Pt w w0 q0 ((vals pre).map (·.k)) W)
    (fun c (pre : List Em) W => (c = .exit 0 ∧ ∃ (p : List Em) (y : Em), pre = p ++ [y] ∧ Con b (vals p) ∧ y.val.s ≠ b + ((vals p).length : Nat)) ∧ Pt w w0 q0 ((vals pre.dropLast).map (·.k)) W)
    (pt_from hqq hszw _ _) (fun c => pt_from hqq hszw (fun pre : List Em => (vals pre.dropLast).map (·.k)) _) h00
    (fun x => { tmps := #[.pointer (some ⟨sb, 0, none⟩), .pointer (some ⟨q3, 0, none⟩), .slice none 0 0, .pointer (some ⟨q0, 0, none⟩), .int .i64 x.val.s, .string x.val.k, .pointer (some ⟨sb, 0, none⟩), .bool true, .bool false, .pointer (some ⟨sb, 0, none⟩), .pointer (some ⟨sb, 0, none⟩), .pointer (some ⟨sb, 0, none⟩), .pointer (some ⟨sb, 0, none⟩), .int .i64 b, .func (.func 59) #[] #[.pointer (some ⟨q1, 0, none⟩), .pointer (some ⟨q2, 0, none⟩)], .int .i64 x.val.s, .string x.val.k, undef, undef, undef, undef, undef, undef, undef, undef, undef, undef, undef, undef, undef, undef], defers := [] })
    ?assign ?body ?done ?stop
  case assign =>
    intro l' x W K hK
    gi_wp2
    simpa using hK
  case body =>
    rintro l' pre y W ⟨hcon, hM⟩ hlt
    obtain ⟨v, hv, hO⟩ := hM.row
    obtain ⟨d3, d4⟩ := hE.out _ hM.kq0
    obtain ⟨a, cap, rfl⟩ := rows_form hO
    have dv := cell_of_row W q0 0 _ TSs _ hv
    simp only [List.getElem?_toArray, List.getElem?_cons_zero] at dv
    have hpl : ((vals pre).map (·.k)).length = pre.length := by rw [List.length_map, vals_len]
    have hvl := vals_len pre
    have hvs := Lib.hid (vals_snoc pre y)
    obtain ⟨e, he1, he2⟩ := y
    obtain ⟨es, ev⟩ := e
    obtain ⟨n, hn⟩ : ∃ n, pre.length = n := ⟨_, rfl⟩
    rw [hpl, hn] at hv hO dv
    have hw1 : IntKind.i64.wrap (b + (n : Int)) = b + n := by rw [IntKind.wrap_i64]; omega
    by_cases he : es = b + n
    · have e1 : (es != b + (n : Int)) = false := by simpa using he
      have hcon2 := Lib.hid (con_snoc (e := ⟨es, ev⟩) hcon (by rw [hvl, hn]; exact he))
      replace he := Lib.hid he
      obtain ⟨i0, hi, hz1, hz2, hz3⟩ := info_p info_s
      have hko := Lib.hid (fun V (hb : Below W.heap.size W V) => (⟨hb.size, fun k o hk _ => (hb.block k (Array.getElem?_eq_some_iff.1 hk).1).trans hk⟩ : KeepsOthers W V))
      have hkb := Lib.hid (fun V (hb : Below W.heap.size W V) => (Kq.of_below hb hM.kq0.1 : Kq (fun k => k = q0) w0.heap.size W V))
      have hMl := Lib.hid (fun V (hb : Below W.heap.size W V) => hM.later hb)
      have hrow : ∀ V, Below W.heap.size W V → V.heap[q0]? = some (.cells #[.slice a n cap] TSs (0, 0)) ∧ V.ownsRow w0.heap.size TK 1 (.slice a n cap) n (txts ((vals pre).map (·.k))) := fun V hb => by
        have h3 : W.ownsRow w0.heap.size TK 1 (.slice a n cap) n (txts ((vals pre).map (·.k))) := by have := hO; unfold OwS at this; rw [hpl, hn] at this; exact this
        exact ⟨(hb.block _ (Array.getElem?_eq_some_iff.1 hv).1).trans hv, rows_later h3 hb⟩
      replace hrow := Lib.hid hrow
      have hn4 : Hid (n ≤ 5000) := Lib.hid (by omega)
      clear hps hpv hE hM hv hO hcon
      gi_wp2
      refine region_quiet_round (by kernel_rfl) (by kernel_rfl) (plainOps_no (by kernel_rfl)) (fun _ _ h => h) ?_
      repeat (go_big_quiet_step (fail))
      refine wpQuiet_nil ?_
      intro _ hw'
      obtain ⟨nq, hw''⟩ := hw'
      subst hw''
      have hbV : Below W.heap.size W (W.drewN nq) := below_drewN (Below.refl _ _) _
      have dv2 : (W.drewN nq).cell? ⟨q0, 0, none⟩ = some (.slice a n cap) := dv
      generalize W.drewN nq = V at *
      obtain ⟨hv, hO⟩ := hrow.out V hbV
      have hM := hMl.out V hbV
      have hD := Lib.hid (fun (v' : Value) (w1 : World) (o : Obj) (h1 : w1.ownsRow w0.heap.size TK 1 v' (n + 1) (txts ((vals pre).map (·.k)) ++ [.string ev])) (h2 : (V.alloc o).grownBy w1 (Value.slice a n cap).ownBlock) =>
        app_facts (n0 := w0.heap.size) (fun k => k = q0) hv hO (by omega) (Nat.le_refl _) hM.kq0.1 rfl h1 h2)
      have hO2 := Lib.hid (rows_later hO (alloc_b V (.cells #[.string ev] TK)))
      have hca := Lib.hid (heap_alloc_new V (.cells #[.string ev] TK))
      have hsV : Hid (w0.heap.size ≤ (V.alloc (.cells #[.string ev] TK)).heap.size) := Lib.hid (by rw [World.size_alloc]; have := hM.kq0.1; omega)
      have hfin : Hid (∀ v' w', w'.heap[q0]? = some (.cells #[v'] TSs (0, 0)) → w'.ownsRow w0.heap.size TK 1 v' (n + 1) (txts ((vals pre).map (·.k)) ++ [.string ev]) → Kq (fun k => k = q0) w0.heap.size V w' → (∀ B, B ≤ q0 → Below B V w') → Con b (vals pre ++ [⟨es, ev⟩]) ∧ Pt w w0 q0 ((vals pre ++ [(⟨es, ev⟩ : Et)]).map (·.k)) w') := Lib.hid fun v' w' h1 h2 h3 h4 => by
        refine ⟨hcon2.out, hM.bel.trans (h4 w.heap.size hqq.1), hM.kq0.trans h3, v', h1, ?_⟩
        unfold OwS
        rw [List.map_append, List.length_append, hpl, hn, txts_app]
        exact h2
      clear hM hv hO hrow hMl dv d3 d4
      gi_wp2_with (gi_at_builtin; refine appendIn_s rfl _ _ rfl w0.heap.size _ n _ rfl hO2.out V.heap.size _ ev rfl hca.out (by have := hn4.out; omega) hsV.out ?_; intro v' w1 hown' hgrow; obtain ⟨g1, g2, g3, g4, g5, _, g7⟩ := hD.out _ _ _ hown' hgrow; obtain ⟨ga, gcap, rfl⟩ := rows_form hown'; have c4 := cell_of_row w1 q0 0 _ TSs _ g1; have f4 := frozen_of_row w1 q0 0 _ TSs g1)
      refine ⟨(hko.out V hbV).trans g4, (hkb.out V hbV).trans g5, ?_⟩
      show Con b (vals (pre ++ [(⟨⟨es, ev⟩, he1, he2⟩ : Em)])) ∧ Pt w w0 q0 ((vals (pre ++ [(⟨⟨es, ev⟩, he1, he2⟩ : Em)])).map (·.k)) _
      rw [hvs.out]
      exact hfin.out _ _ g2 g3 g5 g7
    · have e1 : (es != b + (n : Int)) = true := by simpa using he
      have hko := Lib.hid (fun V (hb : Below W.heap.size W V) => (⟨hb.size, fun k o hk _ => (hb.block k (Array.getElem?_eq_some_iff.1 hk).1).trans hk⟩ : KeepsOthers W V))
      have hfin : Hid (∀ V, Below W.heap.size W V → (∃ (p : List Em) (z : Em), pre ++ [(⟨⟨es, ev⟩, he1, he2⟩ : Em)] = p ++ [z] ∧ Con b (vals p) ∧ z.val.s ≠ b + ((vals p).length : Nat)) ∧ Pt w w0 q0 ((vals (pre ++ [(⟨⟨es, ev⟩, he1, he2⟩ : Em)]).dropLast).map (·.k)) V) := Lib.hid fun V hb =>
        ⟨⟨pre, _, rfl, hcon, by rw [hvl, hn]; exact he⟩, by rw [List.dropLast_concat]; exact hM.later hb⟩
      clear hps hpv hE hM hv hO hcon
      gi_wp2
      refine region_quiet_round (by kernel_rfl) (by kernel_rfl) (plainOps_no (by kernel_rfl)) (fun _ _ h => h) ?_
      repeat (go_big_quiet_step (fail))
      refine wpQuiet_nil ?_
      intro _ hw'
      obtain ⟨nq, hw''⟩ := hw'
      subst hw''
      have hbV : Below W.heap.size W (W.drewN nq) := below_drewN (Below.refl _ _) _
      obtain ⟨f1, f2⟩ := hfin.out _ hbV
      gi_wp2
      exact ⟨hko.out _ hbV, ⟨rfl, f1⟩, f2⟩
  case done =>
    rintro D ys W hD hys ⟨hcon, hM⟩ hK
    rw [← hpv.out ys hcon hys] at hM
    obtain ⟨hb, hk0, v, hv, hr⟩ := hM
    obtain ⟨a, m, cap, rfl⟩ : ∃ a m cap, v = .slice a m cap := by
      obtain ⟨a, c, e⟩ := rows_form hr
      exact ⟨a, _, c, e⟩
    have dv := (Boxed.cell (show Boxed W q0 TSs (.slice a m cap) from hv))
    have hfinal : Hid (OwS w.heap.size PV (.slice a m cap) (W.putObj D (.deferred none)) ∧ Below w.heap.size w (W.putObj D (.deferred none))) := Lib.hid (by
      have hg := grownBy_putObj' W D (.deferred none)
      refine ⟨rows_base (rows_kept hr fun k hk => hg.block k (World.ownsRow.lt hr k hk).2 fun e => ?_) hszw, hb.grown hg hb.size (fun k e => by cases e; omega)⟩
      cases e
      rcases hr.2 with ⟨h1, _⟩ | ⟨g, cap', cur, h1, _, hgb, _⟩
      · rw [h1] at hk; cases hk
      · rw [h1] at hk
        injection hk with hk
        have hk : g = D := hk
        subst hk
        rw [hgb] at hK
        cases hK)
    clear hpv hps hst hr hb hk0
    simp only [Exit.inBlock, Exit.then]
    go_at_K
    gi_wp2
    refine ⟨by simp, .inl ⟨_, _, rfl, run_takeDeferred hK, ?_⟩⟩
    exact ⟨.slice a m cap, by simp [results, Try.results27, go_sem], _, rfl, hfinal.out⟩
  case stop =>
    rintro D c pre W hD hr0 ⟨⟨rfl, p, y, rfl, hcon, hy⟩, hM⟩ hK
    rw [List.dropLast_concat, ← hps.out p y hcon hy hr0] at hM
    obtain ⟨hb, hk0, v, hv, hr⟩ := hM
    obtain ⟨a, m, cap, rfl⟩ : ∃ a m cap, v = .slice a m cap := by
      obtain ⟨a, c, e⟩ := rows_form hr
      exact ⟨a, _, c, e⟩
    have dv := (Boxed.cell (show Boxed W q0 TSs (.slice a m cap) from hv))
    have hfinal : Hid (OwS w.heap.size PV (.slice a m cap) (W.putObj D (.deferred none)) ∧ Below w.heap.size w (W.putObj D (.deferred none))) := Lib.hid (by
      have hg := grownBy_putObj' W D (.deferred none)
      refine ⟨rows_base (rows_kept hr fun k hk => hg.block k (World.ownsRow.lt hr k hk).2 fun e => ?_) hszw, hb.grown hg hb.size (fun k e => by cases e; omega)⟩
      cases e
      rcases hr.2 with ⟨h1, _⟩ | ⟨g, cap', cur, h1, _, hgb, _⟩
      · rw [h1] at hk; cases hk
      · rw [h1] at hk
        injection hk with hk
        have hk : g = D := hk
        subst hk
        rw [hgb] at hK
        cases hK)
    clear hpv hps hst hr hb hk0
    gi_wp2
    refine ⟨by simp, .inl ⟨_, _, rfl, run_takeDeferred hK, ?_⟩⟩
    exact ⟨.slice a m cap, by simp [results, Try.results27, go_sem], _, rfl, hfinal.out⟩
end Go.Proofs.Ytgeejkedljhcoaa.Slt
