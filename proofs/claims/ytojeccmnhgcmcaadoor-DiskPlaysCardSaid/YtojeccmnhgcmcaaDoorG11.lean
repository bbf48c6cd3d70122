/- Slices of records that were found; All. -/
import Derived.Test.YtojeccmnhgcmcaaDoorG10
namespace Go.Proofs.YtojeccmnhgcmcaaDoor.Frame
open Go.RowKit Go.ChangeShapes
open Crc (Hv more more_lt ret_u32)
set_option linter.unusedVariables false
set_option linter.unusedSimpArgs false
attribute [local go_sem] Oper.semAt_some

/-! A region without a defer statement in a round, at the wide fence: as everywhere. -/
theorem oper_round {P : Program} {n l : Nat} {o : Oper} {a : Act} {w : World} {K : Act → World → Prop} {Q : Exit → Act → World → Prop} (hd : ∀ c, o.op ≠ .defer c) (h : o.wp P a w K Q) : o.wpIn (Fence.wide.inRound l) n P a w K Q := by
  unfold Oper.wpIn
  refine ⟨fun _ _ => trivial, ?_⟩
  rw [Fence.inRound_round, Oper.semAt_some _ _ _ hd]
  unfold Oper.wp at h
  generalize (execOp a.eval o).run P w = r at *
  cases r with
  | ok x w' =>
    cases x <;> simp only [Oper.upon, Oper.uponIn] at h ⊢
    case value => exact h
    case skip => exact h
    case defer => exact h
    case enter f args => exact ⟨(fun e => by simp [Fence.wide] at e), (callsIn_wide.2 h).inRound l⟩
    case row row args =>
      refine ⟨(fun e => by simp [Fence.wide] at e), fun c cs _ => ?_⟩
      obtain ⟨v, w'', hr, hs⟩ := h c cs
      exact ⟨v, w'', hr, stepsIn_wide.2 hs⟩
  | halt x w' => cases x <;> simp only [Oper.upon, Oper.uponIn] at h ⊢ <;> exact h
theorem op_round {P : Program} {n l i : Nat} {ops : Array Oper} {a : Act} {w : World} {K : Act → World → Prop} {Q : Exit → Act → World → Prop} (hd : ∀ (i : Nat) (o : Oper) c, ops[i]? = some o → o.op ≠ .defer c) (hQ : ∀ a w, ¬ Q .outgrown a w)
    (h : wpOp P ops Q i K a w) : wpOpIn (Fence.wide.inRound l) n P ops Q i K a w := by
  unfold wpOp at h
  unfold wpOpIn
  cases ho : ops[i]? with
  | none => simp only [ho] at h ⊢; exact h
  | some o =>
    simp only [ho] at h ⊢
    by_cases hw : Region.wanted o (yielded ops a.tmps) = true
    · simp only [hw, if_true] at h ⊢
      rcases h with h | ⟨_, a', w', h⟩
      · exact oper_round (hd i o · ho) h
      · exact absurd h (hQ a' w')
    · simp only [hw] at h ⊢
      exact ⟨fun _ _ => trivial, h⟩
theorem any_round {P : Program} {n l : Nat} {ops : Array Oper} {Q : Exit → Act → World → Prop} (hd : ∀ (i : Nat) (o : Oper) c, ops[i]? = some o → o.op ≠ .defer c) (hQ : ∀ a w, ¬ Q .outgrown a w) :
    ∀ (fuel : Nat) (listed : Array Bool) (a : Act) (w : World), wpAny P .any ops Q fuel listed a w → wpAnyIn (Fence.wide.inRound l) n P .any ops Q fuel listed a w
  | 0, _, _, _, h => h
  | fuel + 1, listed, a, w, h => ⟨h.1, fun i hi => op_round hd hQ (wpOp_mono (fun a' w' h' => any_round hd hQ fuel _ a' w' h') (h.2 i hi))⟩
theorem region_round {P : Program} {S : World → Prop} {n l id : Nat} {ops : Array Oper} {Q : Exit → Act → World → Prop} {a : Act} {w : World} (hm : P.follows .mixedOrders = true) (hd : ∀ (i : Nat) (o : Oper) c, ops[i]? = some o → o.op ≠ .defer c) (hQ : ∀ a w, ¬ Q .outgrown a w)
    (h : wpAnyH P .any ops Q S ops.size (Array.replicate ops.size false) a w.drew) : (Code.region id ops true).wpIn (Fence.wide.inRound l) n P Q a w :=
  wpIn_region_any hm (any_round hd hQ _ _ _ _ (wpAny_of_held _ _ _ _ h))

/-- No defer statement stands in the list. -/
def plainOps (l : List Oper) : Bool := l.all fun o => match o.op with | .defer _ => false | _ => true
theorem plainOps_no {l : List Oper} (h : plainOps l = true) (i : Nat) (o : Oper) (c : Call) (ho : l.toArray[i]? = some o) : o.op ≠ .defer c := by
  intro e
  have hm : o ∈ l := by
    have h2 : l[i]? = some o := by simpa using ho
    exact List.mem_of_getElem? h2
  have := List.all_eq_true.1 h o hm
  rw [e] at this
  cases this

/-! A slice of one's own, of whatever elements. -/
theorem rows_base {w : World} {base base' size n : Nat} {e : TypeId} {v : Value} {xs : List Value} (h : w.ownsRow base e size v n xs) (hb : base' ≤ base) : w.ownsRow base' e size v n xs := by
  refine ⟨h.1, ?_⟩
  rcases h.2 with h | ⟨g, cap, cur, rfl, hbg, rest⟩
  · exact .inl h
  · exact .inr ⟨g, cap, cur, rfl, Nat.le_trans hb hbg, rest⟩
theorem rows_lt {w : World} {base size n : Nat} {e : TypeId} {v : Value} {xs : List Value} (h : w.ownsRow base e size v n xs) : ∀ k, v.ownBlock = some k → base ≤ k ∧ k < w.heap.size := h.lt
theorem rows_kept {w w' : World} {base size n : Nat} {e : TypeId} {v : Value} {xs : List Value} (h : w.ownsRow base e size v n xs) (hs : Same (fun k => v.ownBlock = some k) w w') : w'.ownsRow base e size v n xs := by
  refine ⟨h.1, ?_⟩
  rcases h.2 with hn | ⟨g, cap, cur, rfl, hbg, hg, rest⟩
  · exact .inl hn
  · exact .inr ⟨g, cap, cur, rfl, hbg, (hs g rfl).trans hg, rest⟩
theorem rows_later {w w' : World} {base size n : Nat} {e : TypeId} {v : Value} {xs : List Value} (h : w.ownsRow base e size v n xs) (hb : Below w.heap.size w w') : w'.ownsRow base e size v n xs := rows_kept h fun k hk => hb.block k (rows_lt h k hk).2
theorem rows_form {w : World} {base n size : Nat} {e : TypeId} {v : Value} {xs : List Value} (h : w.ownsRow base e size v n xs) : ∃ a cap, v = .slice a n cap := by
  rcases h.2 with ⟨rfl, rfl⟩ | ⟨g, cap, cur, rfl, _⟩
  · exact ⟨none, 0, rfl⟩
  · exact ⟨_, cap, rfl⟩
theorem rows_type {w : World} {base size n g : Nat} {e T : TypeId} {v : Value} {xs : List Value} {cs : Array Value} (h : w.ownsRow base e size v n xs) (hg : v.ownBlock = some g) (hc : w.heap[g]? = some (.cells cs T (0, 0))) : T = e := by
  rcases h.2 with ⟨rfl, _⟩ | ⟨g', cap, cur, rfl, _, hh, _⟩
  · cases hg
  · have : g' = g := by simpa [Value.ownBlock] using hg
    subst this
    rw [hc] at hh
    injection hh with hh
    injection hh with _ h2
theorem rows_cells {w : World} {base size n : Nat} {e : TypeId} {v : Value} {xs : List Value} (h : w.ownsRow base e size v n xs) : ∀ (g : Nat) (o : Obj), v.ownBlock = some g → w.heap[g]? = some o → o.isCells = true := by
  intro g o hg ho
  rcases h.2 with ⟨rfl, _⟩ | ⟨g', cap, cur, rfl, _, hh, _⟩
  · cases hg
  · have : g' = g := by simpa [Value.ownBlock] using hg
    subst this
    rw [hh] at ho
    cases ho
    rfl

theorem rows_ne {w : World} {base base' size size' n n' k : Nat} {e e' : TypeId} {v v' : Value} {xs xs' : List Value} (h : w.ownsRow base e size v n xs) (h' : w.ownsRow base' e' size' v' n' xs') (hne : e ≠ e') (hk : v.ownBlock = some k) : some k ≠ v'.ownBlock := by
  intro hk'
  rcases h.2 with ⟨rfl, _⟩ | ⟨g, cap, cur, rfl, _, hh, _⟩
  · cases hk
  · have e1 : g = k := by simpa [Value.ownBlock] using hk
    subst e1
    exact hne (rows_type h' hk'.symm hh)
/-- A record with the slice of its content: place, content, slice. -/
abbrev Zz := Nat × List Nat × Value
def flat (zs : List Zz) : List Value := zs.flatMap fun z => [.int .i64 (z.1 : Nat), z.2.2]
theorem flat_app (a b : List Zz) : flat (a ++ b) = flat a ++ flat b := by unfold flat; rw [List.flatMap_append]
theorem flat_len (zs : List Zz) : (flat zs).length = zs.length * 2 := by
  induction zs with
  | nil => rfl
  | cons z zs ih => show (flat zs).length + 1 + 1 = (zs.length + 1) * 2; omega
theorem info_fr : (Tryd.prog.info? 81).map (fun i => (i.zero, i.size, i.bytes)) = some (some (.agg #[.int .i64 0, .slice none 0 0]), 2, 32) := by kernel_rfl
theorem info_rf : (Tryd.prog.info? 69).map (fun i => (i.zero, i.size, i.bytes)) = some (some (.agg #[.int .i64 0, .slice none 0 0]), 2, 32) := by kernel_rfl
theorem run_append_z (TS T : TypeId) (hu : Tryd.prog.underlying TS = some (.slice T)) (hinf : (Tryd.prog.info? T).map (fun i => (i.zero, i.size, i.bytes)) = some (some (.agg #[.int .i64 0, .slice none 0 0]), 2, 32))
    (base : Nat) (w : World) (ty : TypeId) (v : Value) (zs : List Zz) (n : Nat) (hown : w.ownsRow base T 2 v n (flat zs)) (g c : Nat) (k : Int) (a : Option Addr) (m cp : Nat)
    (h0 : w.cell? ⟨g, 0, none⟩ = some (.int .i64 k)) (h1 : w.cell? ⟨g, 1, none⟩ = some (.slice a m cp)) (hn : n ≤ 100000000) (hbase : base ≤ w.heap.size) :
    ∃ v' w', (Builtin.append_ #[TS, TS] ty #[v, .slice (some ⟨g, 0, none⟩) 1 c]).run Tryd.prog w = .ok v' w' ∧ w'.ownsRow base T 2 v' (n + 1) (flat zs ++ [.int .i64 k, .slice a m cp]) ∧ w.grownBy w' v.ownBlock ∧ (v'.ownBlock = v.ownBlock ∨ v'.ownBlock = some w.heap.size) := by
  obtain ⟨i0, hi, hz0, hz1, hz2⟩ := info_parts hinf
  obtain ⟨v', w', h1', h2, h3, _, h5⟩ := run_append_own_at (P := Tryd.prog) w base TS ty T i0 (.agg #[.int .i64 0, .slice none 0 0]) 2 32 hu hi hz0 hz1 hz2 rfl (by decide) v n (flat zs) hown ⟨g, 0, none⟩ 1 c [.int .i64 k, .slice a m cp] rfl (fun j u hu => by
    rw [addr_add, Nat.zero_add]
    match j, hu with
    | 0, hu => cases hu; exact h0
    | 1, hu => cases hu; exact h1) (fun u hu => by
      simp only [List.mem_cons, List.not_mem_nil, or_false] at hu
      rcases hu with rfl | rfl <;> rfl) (by unfold maxLen; omega) (by omega) hbase
  exact ⟨v', w', h1', h2, h3, h5⟩
theorem step_append_z (TS T : TypeId) (hu : Tryd.prog.underlying TS = some (.slice T)) (hinf : (Tryd.prog.info? T).map (fun i => (i.zero, i.size, i.bytes)) = some (some (.agg #[.int .i64 0, .slice none 0 0]), 2, 32))
    {ops : Array Oper} {o : Oper} {a : Act} {w : World} {K : Act → World → Prop} {Q : Exit → Act → World → Prop} {E : Prop} (hgd : o.guard = none) (s x : Operand)
    (ho : o.op = .call { callee := .builtin .append, args := #[s, x], argTypes := #[TS, TS] })
    (base : Nat) (v : Value) (zs : List Zz) (n : Nat) (hs : a.eval s = v) (hown : w.ownsRow base T 2 v n (flat zs)) (g c : Nat) (k : Int) (A : Option Addr) (m cp : Nat) (hx : a.eval x = .slice (some ⟨g, 0, none⟩) 1 c)
    (h0 : w.cell? ⟨g, 0, none⟩ = some (.int .i64 k)) (h1 : w.cell? ⟨g, 1, none⟩ = some (.slice A m cp)) (hn : n ≤ 100000000) (hbase : base ≤ w.heap.size)
    (h : ∀ v' w', w'.ownsRow base T 2 v' (n + 1) (flat zs ++ [.int .i64 k, .slice A m cp]) → w.grownBy w' v.ownBlock → (v'.ownBlock = v.ownBlock ∨ v'.ownBlock = some w.heap.size) → K (a.put o.dst v') w') :
    if Region.wanted o (yielded ops a.tmps) = true then Oper.wp Tryd.prog o a w K Q else E := by
  have hw : Region.wanted o (yielded ops a.tmps) = true := by simp [Region.wanted, hgd]
  rw [if_pos hw]
  obtain ⟨v', w', hrun, h1, h2, h3⟩ := run_append_z TS T hu hinf base w o.type v zs n hown g c k A m cp h0 h1 hn hbase
  unfold Oper.wp execOp
  simp only [ho, resolve, invoke, builtin, Sem.run_bind, Sem.run_pure, Result.andThen_ok, List.map_toArray, List.map_cons, List.map_nil, hs, hx, hrun]
  exact h v' w' h1 h2 h3
theorem wpList_append_z (TS T : TypeId) (hu : Tryd.prog.underlying TS = some (.slice T)) (hinf : (Tryd.prog.info? T).map (fun i => (i.zero, i.size, i.bytes)) = some (some (.agg #[.int .i64 0, .slice none 0 0]), 2, 32))
    {ops : Array Oper} {rest : List Oper} {o : Oper} {a : Act} {w : World} {Q : Exit → Act → World → Prop} (hgd : o.guard = none) (s x : Operand)
    (ho : o.op = .call { callee := .builtin .append, args := #[s, x], argTypes := #[TS, TS] })
    (base : Nat) (v : Value) (zs : List Zz) (n : Nat) (hs : a.eval s = v) (hown : w.ownsRow base T 2 v n (flat zs)) (g c : Nat) (k : Int) (A : Option Addr) (m cp : Nat) (hx : a.eval x = .slice (some ⟨g, 0, none⟩) 1 c)
    (h0 : w.cell? ⟨g, 0, none⟩ = some (.int .i64 k)) (h1 : w.cell? ⟨g, 1, none⟩ = some (.slice A m cp)) (hn : n ≤ 100000000) (hbase : base ≤ w.heap.size)
    (h : ∀ v' w', w'.ownsRow base T 2 v' (n + 1) (flat zs ++ [.int .i64 k, .slice A m cp]) → w.grownBy w' v.ownBlock → (v'.ownBlock = v.ownBlock ∨ v'.ownBlock = some w.heap.size) → wpList Tryd.prog ops Q rest (a.put o.dst v') w') :
    wpList Tryd.prog ops Q (o :: rest) a w := by
  refine wpList_plain hgd fun K hK => ?_
  obtain ⟨v', w', hrun, h1, h2, h3⟩ := run_append_z TS T hu hinf base w o.type v zs n hown g c k A m cp h0 h1 hn hbase
  unfold Oper.wp execOp
  simp only [ho, resolve, invoke, builtin, Sem.run_bind, Sem.run_pure, Result.andThen_ok, List.map_toArray, List.map_cons, List.map_nil, hs, hx, hrun]
  exact hK _ _ (h v' w' h1 h2 h3)

/-- The state between two rounds of All. -/
structure AAt (w : World) {w0 : World} {F : Nat → Prop} {b : List Nat} (pre : List (Item w0 F b)) (W : World) : Prop where
  ex : ∃ (u : Value) (zs : List Zz), Boxed W w.heap.size 74 u ∧ W.ownsRow (w.heap.size + 3) 81 2 u pre.length (flat zs) ∧ zs.map (fun z => (z.1, z.2.1)) = pre.map (fun x => (x.k, x.c)) ∧ ∀ z ∈ zs, Mine W (w.heap.size + 3) z.2.2 z.2.1
  ebox : Boxed W (w.heap.size + 1) 3 (.int .i64 (endp 0 pre : Nat))
  bel : Below w.heap.size w W
  siz : w.heap.size + 3 ≤ W.heap.size
theorem aat_from {w w0 : World} {F : Nat → Prop} {b : List Nat} (B : Nat) (hB : w.heap.size + 3 ≤ B) : OwnFrom B (fun (pre : List (Item w0 F b)) W => AAt w pre W) := by
  rintro pre W W' row ⟨⟨u, zs, h1, h2, h3, h4⟩, h5, h6, h7⟩ hg hr
  refine ⟨⟨u, zs, h1.kept hg fun e => ?_, rows_kept h2 fun k hk => hg.block k (rows_lt h2 k hk).2 fun e => ?_, h3, fun z hz => ⟨own_kept (h4 z hz).own fun k hk => hg.block k (own_lt (h4 z hz).own k hk).2 fun e => ?_, (h4 z hz).h8⟩⟩, h5.kept hg fun e => ?_, h6.grown hg h6.size fun r e => ?_, Nat.le_trans h7 hg.size⟩
  · have := (hr _ e.symm).1; omega
  · obtain ⟨_, o, ho, hc⟩ := hr _ e.symm
    rw [rows_cells h2 k o hk ho] at hc; cases hc
  · obtain ⟨_, o, ho, hc⟩ := hr _ e.symm
    rw [rows_cells (h4 z hz).own k o hk ho] at hc; cases hc
  · have := (hr _ e.symm).1; omega
  · have := (hr r e).1; omega
theorem others_below {W W' : World} (h : Below W.heap.size W W') : KeepsOthers W W' := ⟨h.size, fun k o hk _ => (h.block k (Array.getElem?_eq_some_iff.1 hk).1).trans hk⟩
theorem world3 (w : World) (o1 o2 : Obj) (u : Value) (T : TypeId) : (((w.alloc o1).alloc o2).alloc (.cells #[u] T)).cell? ⟨w.heap.size + 1 + 1, 0, none⟩ = some u := by
  have := Boxed.new ((w.alloc o1).alloc o2) T u
  rw [World.size_alloc, World.size_alloc] at this
  exact this.cell
/-- The slice of the records L that were found, all of it of one's own. -/
structure Frs (T : TypeId) (w : World) (base : Nat) (v : Value) (L : List (List Nat)) : Prop where
  ex : ∃ zs : List Zz, w.ownsRow base T 2 v L.length (flat zs) ∧ zs.map (fun z => z.2.1) = L ∧ (∀ (i : Nat) (h : i < zs.length), (zs[i]).1 = tot (L.take i)) ∧ ∀ z ∈ zs, Mine w base z.2.2 z.2.1
set_option maxRecDepth 100000 in
set_option maxHeartbeats 2000000 in
theorem all_any (F : Nat → Prop) (v : Value) (b : List Nat) (w : World) (hv : Bs w F v b) (hF : ∀ k, F k → k < w.heap.size) (hH : Hv w) (hlen : b.length ≤ 100000000) :
    Calls Tryd.prog 51 #[v] w fun e w' => ∃ u, e = .returned (.tuple #[u, .int .i64 (tot (chain b) : Nat)]) ∧ Frs 81 w' w.heap.size u (chain b) ∧ Below w.heap.size w w' := by
  have hv0 := hv
  obtain ⟨h8, a, cap, rfl, hcap, _⟩ := hv0
  have htot := chain_tot b h8
  refine (callsIn_wide (n := 4)).1 ?_
  refine callsIn_of_wp_marks Tryd.func51 rfl trivial ?_ rfl
  simp only [Tryd.ntmps51, List.size_toArray, List.length_cons, List.length_nil, Nat.reduceAdd, Nat.reduceSub, Array.replicate_succ, Array.replicate_zero, List.push_toArray, List.append_toArray, List.nil_append, List.cons_append]
  gi_wp2_with (first
    | (refine ⟨trivial, ?_⟩; gi_at_call 57; refine (callsIn_wide.2 (records_any _ _ _ _)).mono ?_; rintro e w' ⟨rfl, rfl⟩))
  obtain ⟨w0, hw0⟩ : ∃ w0, ((w.alloc (.cells #[.slice none 0 0] 74)).alloc (.cells #[.int .i64 0] 3)).alloc (.cells #[.slice a b.length cap] 29) = w0 := ⟨_, rfl⟩
  have hz0 : w0.heap.size = w.heap.size + 3 := by rw [← hw0]; simp
  have hb0 : Below w.heap.size w w0 := by rw [← hw0]; exact (((Below.refl _ _).alloc (Nat.le_refl _) _).alloc (by simp) _).alloc (by simp; omega) _
  have hv2 := hv.kept (Same.of_below hb0 hF)
  have hF2 : ∀ k, F k → k < w0.heap.size := fun k hk => Nat.lt_of_lt_of_le (hF k hk) hb0.size
  have hH2 := hv_later hH hb0
  have hbox : w0.cell? ⟨w.heap.size + 2, 0, none⟩ = some (.slice a b.length cap) := by rw [← hw0]; exact world3 w _ _ _ _
  have hst := records_stops F _ b _ hv2 hF2 hH2 hlen (w.heap.size + 2) (by omega) hbox
  have hG : ∀ k, Gs F (w.heap.size + 2) k → k < w0.heap.size := by
    rintro k (hk | rfl | rfl)
    · exact hF2 k hk
    · omega
    · exact hv_lt hH2
  have hG2 : ∀ k, Gs F (w.heap.size + 2) k → k < w.heap.size ∨ k = w.heap.size + 2 := by
    rintro k (hk | rfl | rfl)
    · exact .inl (hF k hk)
    · exact .inr rfl
    · exact .inl (hv_lt hH)
  have h00 : AAt w ([] : List (Item w0 F b)) w0 := by
    refine ⟨⟨.slice none 0 0, [], ?_, ⟨rfl, .inl ⟨rfl, rfl⟩⟩, rfl, fun z hz => absurd hz List.not_mem_nil⟩, ?_, hb0, by omega⟩
    · rw [← hw0]; exact ((Boxed.new w _ _).alloc _).alloc _
    · rw [← hw0]
      have := (Boxed.new (w.alloc (.cells #[.slice none 0 0] 74)) 3 (.int .i64 0)).alloc (.cells #[.slice a b.length cap] 29)
      rwa [World.size_alloc] at this
  have hN : (chain b).length ≤ 100000000 := by
    have h2 : (chain b).length ≤ tot (chain b) := by
      generalize chain b = L
      induction L with
      | nil => exact Nat.zero_le _
      | cons c L ih => show L.length + 1 ≤ 8 + c.length + tot L; omega
    omega
  rw [hw0, show w.heap.size + 1 + 1 = w.heap.size + 2 from rfl]
  refine wpIn_rangeFunc_ownH rfl (by omega) (gf := 62) (lb := #[.pointer (some ⟨w.heap.size + 2, 0, none⟩)]) rfl trivial (enters_of Tryd.func62 (by kernel_rfl) rfl)
    hst (fun h k => h.trans k) (held_put hG) (Below.refl _ _) (fun _ => rfl)
    (fun pre W => AAt w pre W) (fun _ _ _ => False) (aat_from _ (by omega)) (fun _ _ _ _ _ hs _ _ => hs) h00
    (fun x a' W => ∃ q, w0.heap.size ≤ q ∧ Blk W q [.int .i64 (x.k : Nat), x.v] 81 ∧ (∃ u, Boxed W w.heap.size 74 u ∧ u.ownBlock ≠ some q) ∧ a' = { tmps := #[.slice a b.length cap, undef, .slice none 0 0, .int .i64 0, .pointer (some ⟨w.heap.size, 0, none⟩), .pointer (some ⟨w.heap.size + 1, 0, none⟩), .pointer (some ⟨q, 0, none⟩), .int .i64 ((x.k + (8 + x.c.length) : Nat) : Int), .slice a b.length cap, .func (.func 62) #[] #[.pointer (some ⟨w.heap.size + 2, 0, none⟩)], .agg #[.int .i64 (x.k : Nat), x.v], .int .i64 ((x.k + (8 + x.c.length) : Nat) : Int), undef, undef, undef, undef, undef, undef, undef, undef], defers := [] })
    ?ax ?assign ?body ?done ?stop
  case ax =>
    rintro x a' _ W W' row ⟨q, h1, h2, ⟨u, h4, h5⟩, h3⟩ hg hr
    refine ⟨q, h1, (hg.block q h2.lt fun e => ?_).trans h2, ⟨u, h4.kept hg fun e => ?_, h5⟩, h3⟩
    · obtain ⟨_, o, ho, hc⟩ := hr q e.symm
      rw [show W.heap[q]? = _ from h2] at ho
      cases ho; cases hc
    · have := (hr _ e.symm).1; omega
  case assign =>
    rintro l' pre x W K hM hK
    obtain ⟨_, xa, xcap, hxv, _⟩ := x.bs
    dsimp only [encI] at hK ⊢
    obtain ⟨z, hz⟩ : ∃ z, x.k + (8 + x.c.length) = z := ⟨_, rfl⟩
    obtain ⟨xc, hxc⟩ : ∃ xc, x.c.length = xc := ⟨_, rfl⟩
    obtain ⟨xk, hxk⟩ : ∃ xk, x.k = xk := ⟨_, rfl⟩
    rw [hz, hxv, hxc, hxk] at hK ⊢
    clear hxv hxc hxk
    replace hz := Lib.hid hz
    have hA : Below W.heap.size W (W.alloc (.cells #[.int .i64 (xk : Nat), .slice xa xc xcap] 81)) := (Below.refl _ _).alloc (Nat.le_refl _) _
    have hA2 := aat_from (w := w) w0.heap.size (by omega) pre W _ none hM (below_grown hA) (fun r e => by cases e)
    have hG3 : ∀ k, Gs F (w.heap.size + 2) k → k < W.heap.size := fun k hk => by have := hG k hk; have := hM.siz; omega
    have hAu : ∃ u, Boxed (W.alloc (.cells #[.int .i64 (xk : Nat), .slice xa xc xcap] 81)) w.heap.size 74 u ∧ u.ownBlock ≠ some W.heap.size := by
      obtain ⟨u, zs, hl, how, _⟩ := hM.ex
      exact ⟨u, hl.alloc _, fun e => by have := (rows_lt how _ e).2; omega⟩
    have hKA := Lib.hid (hK _ _ (KeepsOthers.from (others_below hA) _) (Held.of_below hA hG3) hA2 ⟨W.heap.size, by have := hM.siz; omega, heap_alloc_new W _, hAu, rfl⟩)
    clear hK hA2 hAu
    gi_wp2
    exact hKA.out
  case body =>
    rintro l' pre x a' W _ _ hM ⟨q, hq, hqb, ⟨u1, hl1, hu1⟩, rfl⟩ hlt
    have hep := endp_snoc 0 pre x
    have hxb := x.bs
    obtain ⟨_, xa, xcap, hxv, _⟩ := x.bs
    obtain ⟨z, hz⟩ : ∃ z, x.k + (8 + x.c.length) = z := ⟨_, rfl⟩
    have hcl : x.c.length ≤ 100000000 := by have := x.le; omega
    rw [hz, hxv]
    rw [hxv] at hqb hxb
    rw [hz] at hep
    have hxs : (x.k, x.c) = (x.k, x.c) := rfl
    obtain ⟨⟨u, zs, hl, how, hzs, hmi⟩, heb, hbel, hsiz⟩ := hM
    have huq : u.ownBlock ≠ some q := by
      have h1 := (show W.heap[w.heap.size]? = _ from hl1).symm.trans (show W.heap[w.heap.size]? = _ from hl)
      have h2 : u1 = u := by simpa using h1
      rw [← h2]; exact hu1
    clear hl1 hu1
    have hzs2 : ∀ v, (zs ++ [((x.k, x.c, v) : Zz)]).map (fun z => (z.1, z.2.1)) = (pre ++ [x]).map (fun x => (x.k, x.c)) := fun v => by rw [List.map_append, List.map_append, hzs]; rfl
    have hxW : Bs W F (.slice xa x.c.length xcap) x.c := hxb.kept fun k hk => (hbel.block k (hF k hk)).trans (hb0.block k (hF k hk)).symm
    have hFW : ∀ k, F k → k < W.heap.size := fun k hk => Nat.lt_of_lt_of_le (hF k hk) hbel.size
    generalize x.k = xk at *
    have HO := Lib.hid (fun (W2 : World) (hb : Below W.heap.size W W2) => ownf_any F (.slice xa x.c.length xcap) (xk : Nat) x.c W2 (hxW.kept (Same.of_below hb hFW)) (fun k hk => Nat.lt_of_lt_of_le (hFW k hk) hb.size) hcl)
    have c0 := hl.cell
    have q0 := hqb.cell 0 _ rfl
    have q1 := hqb.cell 1 _ rfl
    have hzl : zs.length = pre.length := by have := congrArg List.length hzs; simpa using this
    have hpl : pre.length ≤ 100000000 := by omega
    replace hz := Lib.hid hz
    replace hzs := Lib.hid hzs
    replace hzl := Lib.hid hzl
    replace hep := Lib.hid hep
    clear hxv hst h00
    have hqW := hqb.lt
    have hlW := Boxed.lt hl
    have heW := Boxed.lt heb
    gi_wp2
    refine region_round (S := fun w' => w'.cell? ⟨q, 0, none⟩ = some (.int .i64 (xk : Nat)) ∧ w'.cell? ⟨q, 1, none⟩ = some (.slice xa x.c.length xcap)) (by kernel_rfl) (plainOps_no (by kernel_rfl)) (fun _ _ h => h) ?_
    have hS : W.drew.cell? ⟨q, 0, none⟩ = some (.int .i64 (xk : Nat)) ∧ W.drew.cell? ⟨q, 1, none⟩ = some (.slice xa x.c.length xcap) := ⟨q0, q1⟩
    have HSq : ∀ W2, Below W.heap.size W W2 → W2.cell? ⟨q, 0, none⟩ = some (.int .i64 (xk : Nat)) ∧ W2.cell? ⟨q, 1, none⟩ = some (.slice xa x.c.length xcap) := fun W2 hb => ⟨(hb.cell (p := ⟨q, 0, none⟩) hqW).trans q0, (hb.cell (p := ⟨q, 1, none⟩) hqW).trans q1⟩
    have HSq := fun W2 hb => (Lib.hid HSq).out W2 hb
    have HA4 : ∀ (W3 W4 : World) (a2 : Option Addr) (cap2 : Nat) (a4 : Option Addr) (cap4 : Nat), Below W.heap.size W W3 → Mine W3 W.heap.size (.slice a2 x.c.length cap2) x.c →
        W4.ownsRow (w.heap.size + 3) 81 2 (.slice a4 (pre.length + 1) cap4) (pre.length + 1) (flat zs ++ [.int .i64 (xk : Nat), .slice a2 x.c.length cap2]) → W3.grownBy W4 u.ownBlock →
        Boxed W4 w.heap.size 74 u ∧ (W4.cell? ⟨q, 0, none⟩ = some (.int .i64 (xk : Nat)) ∧ W4.cell? ⟨q, 1, none⟩ = some (.slice xa x.c.length xcap)) ∧
        ((W4.setCell ⟨w.heap.size, 0, none⟩ (.slice a4 (pre.length + 1) cap4)).cell? ⟨q, 0, none⟩ = some (.int .i64 (xk : Nat)) ∧ (W4.setCell ⟨w.heap.size, 0, none⟩ (.slice a4 (pre.length + 1) cap4)).cell? ⟨q, 1, none⟩ = some (.slice xa x.c.length xcap)) ∧
        (KeepsFrom w0.heap.size W ((W4.setCell ⟨w.heap.size, 0, none⟩ (.slice a4 (pre.length + 1) cap4)).setCell ⟨w.heap.size + 1, 0, none⟩ (.int .i64 (z : Nat))) ∧ Held (Gs F (w.heap.size + 2)) W ((W4.setCell ⟨w.heap.size, 0, none⟩ (.slice a4 (pre.length + 1) cap4)).setCell ⟨w.heap.size + 1, 0, none⟩ (.int .i64 (z : Nat))) ∧
          AAt w (pre ++ [x]) ((W4.setCell ⟨w.heap.size, 0, none⟩ (.slice a4 (pre.length + 1) cap4)).setCell ⟨w.heap.size + 1, 0, none⟩ (.int .i64 (z : Nat)))) ∧
        Boxed (W4.setCell ⟨w.heap.size, 0, none⟩ (.slice a4 (pre.length + 1) cap4)) (w.heap.size + 1) 3 (.int .i64 (endp 0 pre : Nat)) := by
      intro W3 W4 a2 cap2 a4 cap4 hb hm how4 hg
      have hub : ∀ k, u.ownBlock = some k → w.heap.size + 3 ≤ k ∧ k < W.heap.size := rows_lt how
      have hlu : ∀ k, k < w.heap.size + 3 → W4.heap[k]? = W.heap[k]? := fun k hk =>
        (hg.block k (by have := hb.size; omega) (fun e => by have := (hub k e.symm).1; omega)).trans (hb.block k (by omega))
      have hqu : W4.heap[q]? = W.heap[q]? := (hg.block q (Nat.lt_of_lt_of_le hqW hb.size) (fun e => huq e.symm)).trans (hb.block q hqW)
      have hl4 : Boxed W4 w.heap.size 74 u := (hlu _ (by omega)).trans hl
      have he4 : Boxed W4 (w.heap.size + 1) 3 (.int .i64 (endp 0 pre : Nat)) := (hlu _ (by omega)).trans heb
      have hqb4 : Blk W4 q [.int .i64 (xk : Nat), .slice xa x.c.length xcap] 81 := hqu.trans hqb
      have hne1 : ∀ k, k ≠ w.heap.size → (W4.setCell ⟨w.heap.size, 0, none⟩ (.slice a4 (pre.length + 1) cap4)).heap[k]? = W4.heap[k]? := fun k hk => Below.heap_setCell W4 _ _ k hk
      have hne2 : ∀ k, k ≠ w.heap.size → k ≠ w.heap.size + 1 → ((W4.setCell ⟨w.heap.size, 0, none⟩ (.slice a4 (pre.length + 1) cap4)).setCell ⟨w.heap.size + 1, 0, none⟩ (.int .i64 (z : Nat))).heap[k]? = W4.heap[k]? := fun k hk hk2 => (Below.heap_setCell _ _ _ k hk2).trans (hne1 k hk)
      have hqb5 : Blk (W4.setCell ⟨w.heap.size, 0, none⟩ (.slice a4 (pre.length + 1) cap4)) q [.int .i64 (xk : Nat), .slice xa x.c.length xcap] 81 := (hne1 q (by omega)).trans hqb4
      have he5 : Boxed (W4.setCell ⟨w.heap.size, 0, none⟩ (.slice a4 (pre.length + 1) cap4)) (w.heap.size + 1) 3 (.int .i64 (endp 0 pre : Nat)) := (hne1 _ (by omega)).trans he4
      have hs4 : W.heap.size ≤ W4.heap.size := Nat.le_trans hb.size hg.size
      have hs5 : ((W4.setCell ⟨w.heap.size, 0, none⟩ (.slice a4 (pre.length + 1) cap4)).setCell ⟨w.heap.size + 1, 0, none⟩ (.int .i64 (z : Nat))).heap.size = W4.heap.size := by simp [World.setCell]
      have howW3 := rows_later how hb
      have hpe : pre.length + 1 = (pre ++ [x]).length := by simp
      refine ⟨hl4, ⟨hqb4.cell 0 _ rfl, hqb4.cell 1 _ rfl⟩, ⟨hqb5.cell 0 _ rfl, hqb5.cell 1 _ rfl⟩, ⟨?_, ⟨by rw [hs5]; exact hs4, fun k hk => ?_⟩, ⟨⟨.slice a4 (pre.length + 1) cap4, zs ++ [(xk, x.c, .slice a2 x.c.length cap2)], ?_, ?_, hzs2 _, fun z' hz' => ?_⟩, ?_, ?_, by rw [hs5]; omega⟩⟩, he5⟩
      · refine KeepsOthers.from ?_ _
        exact (((others_below hb).trans (KeepsOthers.of_grownBy hg fun j o ej hj => rows_cells howW3 j o ej hj)).trans (KeepsOthers.setCell _ _ _)).trans (KeepsOthers.setCell _ _ _)
      · rcases hG2 k hk with h | rfl
        · exact (hne2 k (by omega) (by omega)).trans (hlu k (by omega))
        · exact (hne2 _ (by omega) (by omega)).trans (hlu _ (by omega))
      · exact (Below.heap_setCell _ _ _ _ (by show w.heap.size ≠ w.heap.size + 1; omega)).trans (hl4.set _)
      · rw [← hpe, flat_app]
        refine rows_kept how4 fun k hk => ?_
        have := (rows_lt how4 k hk).1
        exact hne2 k (by omega) (by omega)
      · rcases List.mem_append.1 hz' with hz' | hz'
        · have m3 := (hmi z' hz').later hb
          have m4 : Mine W4 (w.heap.size + 3) z'.2.2 z'.2.1 := ⟨own_kept m3.own fun k hk => hg.block k (own_lt m3.own k hk).2 (rows_ne m3.own howW3 (by decide) hk), m3.h8⟩
          exact (m4.setOther ⟨w.heap.size, 0, none⟩ _ (by show w.heap.size < _; omega)).setOther ⟨w.heap.size + 1, 0, none⟩ _ (by show w.heap.size + 1 < _; omega)
        · rw [List.mem_singleton] at hz'
          subst hz'
          have m4 : Mine W4 W.heap.size (.slice a2 x.c.length cap2) x.c := ⟨own_kept hm.own fun k hk => hg.block k (own_lt hm.own k hk).2 (fun e => by have h1 := (own_lt hm.own k hk).1; have h2 := (hub k e.symm).2; omega), hm.h8⟩
          exact (((m4.setOther ⟨w.heap.size, 0, none⟩ _ (by show w.heap.size < _; omega)).setOther ⟨w.heap.size + 1, 0, none⟩ _ (by show w.heap.size + 1 < _; omega)).wide hsiz)
      · rw [hep.out]
        exact he5.set _
      · exact ((((hbel.trans (hb.mono hbel.size)).grown hg (Nat.le_trans hbel.size hb.size) (fun k hk => by have := (hub k hk).1; omega)).setCell (p := ⟨w.heap.size, 0, none⟩) (Nat.le_refl _) _)).setCell (p := ⟨w.heap.size + 1, 0, none⟩) (Nat.le_succ _) _
    have HA4 := Lib.hid HA4
    refine wpAnyH_take (i := 1) (v := .agg #[.int .i64 (xk : Nat), .slice xa x.c.length xcap]) rfl (by kernel_rfl) (by kernel_rfl) (by kernel_rfl) (fun _ _ _ h => h) (Or.inl ⟨by rfl, by rintro w' ⟨s2, s3⟩; go_simp⟩) hS ?_
    simp only [Act.put, List.setIfInBounds_toArray, List.set_cons_zero, List.set_cons_succ]
    refine wpAnyH_ready (rs := [0, 2]) (by kernel_rfl) (by simp) ?_
    refine AllReadyH.cons rfl (fun K hK => ?_) (AllReadyH.cons rfl (fun K hK => ?_) AllReadyH.nil)
    · go_simp
      refine hK.out _ _ (HSq _ (Below.refl _ W).drew) (fun _ => ?_)
      clear hK K
      refine wpAnyH_ready (rs := [2]) (by kernel_rfl) (by simp) ?_
      refine AllReadyH.cons rfl (fun K hK => ?_) AllReadyH.nil
      go_simp
      refine (HO.out _ (Below.refl _ W).drew).mono ?_
      rintro e W2 ⟨v', rfl, hm, hb2⟩
      have hbW2 : Below W.heap.size W W2 := (Below.refl _ W).drew.trans hb2
      obtain ⟨a2, cap2, rfl⟩ := hm.form
      have hm : Hid (Mine W2 W.heap.size (.slice a2 x.c.length cap2) x.c) := hm
      have hcw2 := (hbW2.cell (p := ⟨w.heap.size, 0, none⟩) hlW).trans c0
      refine hK.out _ _ (HSq _ hbW2) (fun _ => ?_)
      clear hK K
      refine wpAnyH_ready (rs := [3]) (by kernel_rfl) (by simp) ?_
      refine AllReadyH.cons rfl (fun K hK => ?_) AllReadyH.nil
      go_simp
      have hb3 : Below W2.heap.size W2 (W2.alloc (.cells #[.int .i64 (xk : Nat), .slice a2 x.c.length cap2] 81)) := (Below.refl _ _).alloc (Nat.le_refl _) _
      have hbW3 := hbW2.trans (hb3.mono hbW2.size)
      have hB3 : Blk (W2.alloc (.cells #[.int .i64 (xk : Nat), .slice a2 x.c.length cap2] 81)) W2.heap.size [.int .i64 (xk : Nat), .slice a2 x.c.length cap2] 81 := heap_alloc_new W2 _
      have hm3 := Lib.hid (hm.out.later hb3)
      have hcw3 := (hbW3.cell (p := ⟨w.heap.size, 0, none⟩) hlW).trans c0
      refine hK.out _ _ (HSq _ hbW3) (fun _ => ?_)
      clear hK K
      generalize hW3 : W2.alloc (.cells #[.int .i64 (xk : Nat), .slice a2 x.c.length cap2] 81) = W3 at *
      refine wpAnyH_ready (rs := [4]) (by kernel_rfl) (by simp) ?_
      refine AllReadyH.cons rfl (fun K hK => ?_) AllReadyH.nil
      have how3 := rows_later how hbW3
      refine step_append_z 74 81 Tryd.underlying74 info_fr rfl _ _ rfl (w.heap.size + 3) u zs pre.length rfl how3 W2.heap.size 1 (xk : Nat) a2 x.c.length cap2 rfl (hB3.cell 0 _ rfl) (hB3.cell 1 _ rfl) hpl (Nat.le_trans hsiz hbW3.size) ?_
      intro v4 W4 how4 hg4 hown4
      obtain ⟨a4, cap4, rfl⟩ := rows_form how4
      obtain ⟨g1, g2, g3⟩ := HA4.out W3 W4 a2 cap2 a4 cap4 hbW3 hm3.out how4 hg4
      have c4 := g1.cell
      have f4 := g1.frozen
      have hl4W := Boxed.lt g1
      refine hK.out _ _ g2 (fun _ => ?_)
      clear hK K
      simp only [Act.put, List.setIfInBounds_toArray, List.set_cons_zero, List.set_cons_succ]
      refine wpAnyH_ready (rs := [5]) (by kernel_rfl) (by simp) ?_
      refine AllReadyH.cons rfl (fun K hK => ?_) AllReadyH.nil
      go_simp
      obtain ⟨g4, g5, g6⟩ := g3
      refine hK.out _ _ g4 (fun _ => ?_)
      clear hK K
      refine wpAnyH_done (by kernel_rfl) ?_ _
      have e5 := g6.cell
      have e6 := g6.frozen
      simp only [Exit.then]
      go_at_K
      gi_wp2
      exact g5
    · go_simp
      refine (HO.out _ (Below.refl _ W).drew).mono ?_
      rintro e W2 ⟨v', rfl, hm, hb2⟩
      have hbW2 : Below W.heap.size W W2 := (Below.refl _ W).drew.trans hb2
      obtain ⟨a2, cap2, rfl⟩ := hm.form
      have hm : Hid (Mine W2 W.heap.size (.slice a2 x.c.length cap2) x.c) := hm
      have hcw2 := (hbW2.cell (p := ⟨w.heap.size, 0, none⟩) hlW).trans c0
      refine hK.out _ _ (HSq _ hbW2) (fun _ => ?_)
      clear hK K
      refine wpAnyH_ready (rs := [0, 3]) (by kernel_rfl) (by simp) ?_
      refine AllReadyH.cons rfl (fun K hK => ?_) (AllReadyH.cons rfl (fun K hK => ?_) AllReadyH.nil)
      · go_simp
        refine hK.out _ _ (HSq _ hbW2) (fun _ => ?_)
        clear hK K
        refine wpAnyH_ready (rs := [3]) (by kernel_rfl) (by simp) ?_
        refine AllReadyH.cons rfl (fun K hK => ?_) AllReadyH.nil
        go_simp
        have hb3 : Below W2.heap.size W2 (W2.alloc (.cells #[.int .i64 (xk : Nat), .slice a2 x.c.length cap2] 81)) := (Below.refl _ _).alloc (Nat.le_refl _) _
        have hbW3 := hbW2.trans (hb3.mono hbW2.size)
        have hB3 : Blk (W2.alloc (.cells #[.int .i64 (xk : Nat), .slice a2 x.c.length cap2] 81)) W2.heap.size [.int .i64 (xk : Nat), .slice a2 x.c.length cap2] 81 := heap_alloc_new W2 _
        have hm3 := Lib.hid (hm.out.later hb3)
        have hcw3 := (hbW3.cell (p := ⟨w.heap.size, 0, none⟩) hlW).trans c0
        refine hK.out _ _ (HSq _ hbW3) (fun _ => ?_)
        clear hK K
        generalize hW3 : W2.alloc (.cells #[.int .i64 (xk : Nat), .slice a2 x.c.length cap2] 81) = W3 at *
        refine wpAnyH_ready (rs := [4]) (by kernel_rfl) (by simp) ?_
        refine AllReadyH.cons rfl (fun K hK => ?_) AllReadyH.nil
        have how3 := rows_later how hbW3
        refine step_append_z 74 81 Tryd.underlying74 info_fr rfl _ _ rfl (w.heap.size + 3) u zs pre.length rfl how3 W2.heap.size 1 (xk : Nat) a2 x.c.length cap2 rfl (hB3.cell 0 _ rfl) (hB3.cell 1 _ rfl) hpl (Nat.le_trans hsiz hbW3.size) ?_
        intro v4 W4 how4 hg4 hown4
        obtain ⟨a4, cap4, rfl⟩ := rows_form how4
        obtain ⟨g1, g2, g3⟩ := HA4.out W3 W4 a2 cap2 a4 cap4 hbW3 hm3.out how4 hg4
        have c4 := g1.cell
        have f4 := g1.frozen
        have hl4W := Boxed.lt g1
        refine hK.out _ _ g2 (fun _ => ?_)
        clear hK K
        simp only [Act.put, List.setIfInBounds_toArray, List.set_cons_zero, List.set_cons_succ]
        refine wpAnyH_ready (rs := [5]) (by kernel_rfl) (by simp) ?_
        refine AllReadyH.cons rfl (fun K hK => ?_) AllReadyH.nil
        go_simp
        obtain ⟨g4, g5, g6⟩ := g3
        refine hK.out _ _ g4 (fun _ => ?_)
        clear hK K
        refine wpAnyH_done (by kernel_rfl) ?_ _
        have e5 := g6.cell
        have e6 := g6.frozen
        simp only [Exit.then]
        go_at_K
        gi_wp2
        exact g5
      · go_simp
        have hb3 : Below W2.heap.size W2 (W2.alloc (.cells #[.int .i64 (xk : Nat), .slice a2 x.c.length cap2] 81)) := (Below.refl _ _).alloc (Nat.le_refl _) _
        have hbW3 := hbW2.trans (hb3.mono hbW2.size)
        have hB3 : Blk (W2.alloc (.cells #[.int .i64 (xk : Nat), .slice a2 x.c.length cap2] 81)) W2.heap.size [.int .i64 (xk : Nat), .slice a2 x.c.length cap2] 81 := heap_alloc_new W2 _
        have hm3 := Lib.hid (hm.out.later hb3)
        have hcw3 := (hbW3.cell (p := ⟨w.heap.size, 0, none⟩) hlW).trans c0
        refine hK.out _ _ (HSq _ hbW3) (fun _ => ?_)
        clear hK K
        refine wpAnyH_ready (rs := [0]) (by kernel_rfl) (by simp) ?_
        refine AllReadyH.cons rfl (fun K hK => ?_) AllReadyH.nil
        go_simp
        refine hK.out _ _ (HSq _ hbW3) (fun _ => ?_)
        clear hK K
        generalize hW3 : W2.alloc (.cells #[.int .i64 (xk : Nat), .slice a2 x.c.length cap2] 81) = W3 at *
        refine wpAnyH_ready (rs := [4]) (by kernel_rfl) (by simp) ?_
        refine AllReadyH.cons rfl (fun K hK => ?_) AllReadyH.nil
        have how3 := rows_later how hbW3
        refine step_append_z 74 81 Tryd.underlying74 info_fr rfl _ _ rfl (w.heap.size + 3) u zs pre.length rfl how3 W2.heap.size 1 (xk : Nat) a2 x.c.length cap2 rfl (hB3.cell 0 _ rfl) (hB3.cell 1 _ rfl) hpl (Nat.le_trans hsiz hbW3.size) ?_
        intro v4 W4 how4 hg4 hown4
        obtain ⟨a4, cap4, rfl⟩ := rows_form how4
        obtain ⟨g1, g2, g3⟩ := HA4.out W3 W4 a2 cap2 a4 cap4 hbW3 hm3.out how4 hg4
        have c4 := g1.cell
        have f4 := g1.frozen
        have hl4W := Boxed.lt g1
        refine hK.out _ _ g2 (fun _ => ?_)
        clear hK K
        simp only [Act.put, List.setIfInBounds_toArray, List.set_cons_zero, List.set_cons_succ]
        refine wpAnyH_ready (rs := [5]) (by kernel_rfl) (by simp) ?_
        refine AllReadyH.cons rfl (fun K hK => ?_) AllReadyH.nil
        go_simp
        obtain ⟨g4, g5, g6⟩ := g3
        refine hK.out _ _ g4 (fun _ => ?_)
        clear hK K
        refine wpAnyH_done (by kernel_rfl) ?_ _
        have e5 := g6.cell
        have e6 := g6.frozen
        simp only [Exit.then]
        go_at_K
        gi_wp2
        exact g5
  case done =>
    rintro D ys W hD ⟨hys, hrow⟩ hM hK
    have hep := Row.endp 0 ys hrow
    rw [hys, Nat.zero_add] at hep
    obtain ⟨⟨u, zs, hl, how, hzs, hmi⟩, heb, hbel, hsiz⟩ := hM
    rw [hep] at heb
    have c0 := hl.cell
    have c1 := heb.cell
    obtain ⟨ua, ucap, rfl⟩ := rows_form how
    have how := Lib.hid how
    have hyl : ys.length = (chain b).length := by rw [← hys, List.length_map]
    simp only [Exit.inBlock, Exit.then]
    go_at_K
    gi_wp2
    gi_region
    gi_wp2
    refine ⟨by simp, .inl ⟨_, _, rfl, run_takeDeferred (show W.drew.heap[D]? = _ from hK), ?_⟩⟩
    have hg5 := grownBy_putObj' W.drew D (.deferred none)
    have hsame : ∀ (k : Nat), k < W.heap.size → k ≠ D → (W.drew.putObj D (.deferred none)).heap[k]? = W.heap[k]? := fun k hk hD => hg5.block k hk (by intro e; injection e with e; exact hD e)
    have hz1 : zs.map (fun z => z.2.1) = chain b := by
      have := congrArg (List.map Prod.snd) hzs
      rw [List.map_map, List.map_map] at this
      rw [← hys]
      exact this
    have hz2 : ∀ (i : Nat) (h : i < zs.length), (zs[i]).1 = tot ((chain b).take i) := fun i h => by
      have hzl : zs.length = ys.length := by have := congrArg List.length hzs; simpa using this
      have h2 : i < ys.length := by omega
      have h3 := congrArg (fun l => l[i]?) hzs
      simp only [List.getElem?_map, List.getElem?_eq_getElem h, List.getElem?_eq_getElem h2, Option.map_some] at h3
      injection h3 with h3
      injection h3 with h3 _
      rw [h3, Row.at_ 0 ys hrow i h2, hys, Nat.zero_add]
    have how2 : (W.drew.putObj D (.deferred none)).ownsRow (w.heap.size + 3) 81 2 (.slice ua (chain b).length ucap) (chain b).length (flat zs) := by
      have h1 := how.out
      rw [hyl] at h1
      exact rows_kept h1 fun k hk => hsame k (rows_lt h1 k hk).2 fun e => by
        subst e
        have := rows_cells h1 k _ hk hK
        cases this
    refine ⟨.tuple #[.slice ua (chain b).length ucap, .int .i64 (tot (chain b) : Nat)], by simp [results, Tryd.results51, go_sem], _, rfl, ⟨zs, rows_base how2 (by omega), hz1, hz2, fun z hz => ?_⟩, hbel.drew.grown hg5 (by exact hbel.size) (fun k e => by cases e; omega)⟩
    have h1 := hmi z hz
    refine Mine.wide (base := w.heap.size + 3) ⟨own_kept h1.own fun k hk => hsame k (own_lt h1.own k hk).2 fun e => ?_, h1.h8⟩ (by omega)
    subst e
    have := rows_cells h1.own k _ hk hK
    cases this
  case stop =>
    rintro D c pre W _ _ h _
    exact h.elim
end Go.Proofs.YtojeccmnhgcmcaaDoor.Frame
