/- Meet. -/
import Derived.Test.YtmbkopeikldonaaDoorU09
import Derived.Deep.RegionHeld
import Derived.StillTail
namespace Go.Proofs.YtmbkopeikldonaaDoor.Quo
open Go.RowKit Go.Lib Go.Shelf
set_option linter.unusedVariables false
set_option linter.unusedSimpArgs false
set_option maxRecDepth 100000
attribute [local go_sem] Oper.semAt_some

/-! A region without a defer statement in a round, at the wide fence: as everywhere. -/
theorem oper_round {P : Program} {n l : Nat} {o : Oper} {a : Act} {w : World} {K : Act → World → Prop} {Q : Exit → Act → World → Prop} (hd : ∀ c, o.op ≠ .defer c) (h : o.wp P a w K Q) : o.wpIn (Fence.wide.inRound l) n P a w K Q := by
  unfold Oper.wpIn
  refine ⟨fun _ _ => trivial, ?_⟩
  rw [Fence.inRound_round, Oper.semAt_some _ _ _ hd]
  unfold Oper.wp at h
  generalize (execOp a.eval o).run P w = r at *
  cases r with
  | ok x w' =>
    cases x <;> simp only [Oper.upon, Oper.uponIn] at h ⊢
    case value => exact h
    case skip => exact h
    case defer => exact h
    case enter f args => exact ⟨(fun e => by simp [Fence.wide] at e), (callsIn_wide.2 h).inRound l⟩
    case row row args =>
      refine ⟨(fun e => by simp [Fence.wide] at e), fun c cs _ => ?_⟩
      obtain ⟨v, w'', hr, hs⟩ := h c cs
      exact ⟨v, w'', hr, stepsIn_wide.2 hs⟩
  | halt x w' => cases x <;> simp only [Oper.upon, Oper.uponIn] at h ⊢ <;> exact h
theorem op_round {P : Program} {n l i : Nat} {ops : Array Oper} {a : Act} {w : World} {K : Act → World → Prop} {Q : Exit → Act → World → Prop} (hd : ∀ (i : Nat) (o : Oper) c, ops[i]? = some o → o.op ≠ .defer c) (hQ : ∀ a w, ¬ Q .outgrown a w)
    (h : wpOp P ops Q i K a w) : wpOpIn (Fence.wide.inRound l) n P ops Q i K a w := by
  unfold wpOp at h
  unfold wpOpIn
  cases ho : ops[i]? with
  | none => simp only [ho] at h ⊢; exact h
  | some o =>
    simp only [ho] at h ⊢
    by_cases hw : Region.wanted o (yielded ops a.tmps) = true
    · simp only [hw, if_true] at h ⊢
      rcases h with h | ⟨_, a', w', h⟩
      · exact oper_round (hd i o · ho) h
      · exact absurd h (hQ a' w')
    · simp only [hw] at h ⊢
      exact ⟨fun _ _ => trivial, h⟩
theorem any_round {P : Program} {n l : Nat} {ops : Array Oper} {Q : Exit → Act → World → Prop} (hd : ∀ (i : Nat) (o : Oper) c, ops[i]? = some o → o.op ≠ .defer c) (hQ : ∀ a w, ¬ Q .outgrown a w) :
    ∀ (fuel : Nat) (listed : Array Bool) (a : Act) (w : World), wpAny P .any ops Q fuel listed a w → wpAnyIn (Fence.wide.inRound l) n P .any ops Q fuel listed a w
  | 0, _, _, _, h => h
  | fuel + 1, listed, a, w, h => ⟨h.1, fun i hi => op_round hd hQ (wpOp_mono (fun a' w' h' => any_round hd hQ fuel _ a' w' h') (h.2 i hi))⟩
theorem region_round {P : Program} {S : World → Prop} {n l id : Nat} {ops : Array Oper} {Q : Exit → Act → World → Prop} {a : Act} {w : World} (hm : P.follows .mixedOrders = true) (hd : ∀ (i : Nat) (o : Oper) c, ops[i]? = some o → o.op ≠ .defer c) (hQ : ∀ a w, ¬ Q .outgrown a w)
    (h : wpAnyH P .any ops Q S ops.size (Array.replicate ops.size false) a w.drew) : (Code.region id ops true).wpIn (Fence.wide.inRound l) n P Q a w :=
  wpIn_region_any hm (any_round hd hQ _ _ _ _ (wpAny_of_held _ _ _ _ h))

/-- No defer statement stands in the list. -/
def plainOps (l : List Oper) : Bool := l.all fun o => match o.op with | .defer _ => false | _ => true
theorem plainOps_no {l : List Oper} (h : plainOps l = true) (i : Nat) (o : Oper) (c : Call) (ho : l.toArray[i]? = some o) : o.op ≠ .defer c := by
  intro e
  have hm : o ∈ l := by
    have h2 : l[i]? = some o := by simpa using ho
    exact List.mem_of_getElem? h2
  have := List.all_eq_true.1 h o hm
  rw [e] at this
  cases this

abbrev TBo : TypeId := 4
abbrev TEr : TypeId := 23
/-- The boxes of Meet: its second set, and its three results. -/
structure Mb (w : World) (b : Nat) (x : Nat) (p : Bool) (e : Int) (W : World) : Prop where
  bb : Boxed W w.heap.size TU (.int .u64 b)
  b1 : Boxed W (w.heap.size + 1) TI (.int .i64 x)
  b2 : Boxed W (w.heap.size + 2) TBo (.bool p)
  b3 : Boxed W (w.heap.size + 3) TEr (.int .i64 e)
  bel : Below w.heap.size w W
theorem mb_new (w : World) (b x : Nat) (p : Bool) (e : Int) :
    Mb w b x p e ((((w.alloc (.cells #[.int .u64 b] TU)).alloc (.cells #[.int .i64 x] TI)).alloc (.cells #[.bool p] TBo)).alloc (.cells #[.int .i64 e] TEr)) := by
  have h0 := Boxed.new w TU (.int .u64 b)
  have h1 := Boxed.new (w.alloc (.cells #[.int .u64 b] TU)) TI (.int .i64 x)
  have h2 := Boxed.new ((w.alloc (.cells #[.int .u64 b] TU)).alloc (.cells #[.int .i64 x] TI)) TBo (.bool p)
  have h3 := Boxed.new (((w.alloc (.cells #[.int .u64 b] TU)).alloc (.cells #[.int .i64 x] TI)).alloc (.cells #[.bool p] TBo)) TEr (.int .i64 e)
  simp only [World.size_alloc] at h1 h2 h3
  exact ⟨((h0.alloc _).alloc _).alloc _, (h1.alloc _).alloc _, h2.alloc _, h3, below2 (below2 (below2 (alloc_b _ _) (alloc_b _ _)) (alloc_b _ _)) (alloc_b _ _)⟩
theorem Mb.grown {w W W' : World} {b x : Nat} {p : Bool} {e : Int} {row : Option Nat} (h : Mb w b x p e W) (hg : W.grownBy W' row) (hr : ∀ r, row = some r → w.heap.size + 4 ≤ r) : Mb w b x p e W' :=
  ⟨h.bb.kept hg fun e => by have := hr _ e.symm; omega, h.b1.kept hg fun e => by have := hr _ e.symm; omega, h.b2.kept hg fun e => by have := hr _ e.symm; omega, h.b3.kept hg fun e => by have := hr _ e.symm; omega,
   h.bel.grown hg h.bel.size fun r e => by have := hr _ e; omega⟩
theorem Mb.later {w W W' : World} {b x : Nat} {p : Bool} {e : Int} (h : Mb w b x p e W) (hb : Below W.heap.size W W') : Mb w b x p e W' := h.grown (below_grown hb) (fun r e => by cases e)
theorem Mb.set {w W : World} {b x : Nat} {p : Bool} {e : Int} (h : Mb w b x p e W) (x' : Nat) (p' : Bool) (e' : Int) :
    Mb w b x' p' e' (((W.setCell ⟨w.heap.size + 1, 0, none⟩ (.int .i64 x')).setCell ⟨w.heap.size + 1 + 1, 0, none⟩ (.bool p')).setCell ⟨w.heap.size + 1 + 1 + 1, 0, none⟩ (.int .i64 e')) :=
  ⟨((h.bb.other (by omega) _).other (by omega) _).other (by omega) _, ((h.b1.set _).other (by omega) _).other (by omega) _, ((h.b2.other (by omega) _).set _).other (by omega) _, ((h.b3.other (by omega) _).other (by omega) _).set _,
   ((h.bel.setCell (by simp) _).setCell (by simp; omega) _).setCell (by simp; omega) _⟩
theorem mb_res {fn : Func} {t u v : Tmp} (hfn : fn.results = #[.cell t TI, .cell u TBo, .cell v TEr]) (tmps : Array Value) {w W : World} {b x : Nat} {p : Bool} {e : Int} (hm : Mb w b x p e W)
    (h1 : tmps[t]?.getD undef = .pointer (some ⟨w.heap.size + 1, 0, none⟩)) (h2 : tmps[u]?.getD undef = .pointer (some ⟨w.heap.size + 2, 0, none⟩)) (h3 : tmps[v]?.getD undef = .pointer (some ⟨w.heap.size + 3, 0, none⟩)) :
    (results fn tmps).run Tryd.prog W = .ok (.tuple #[.int .i64 x, .bool p, .int .i64 e]) W := by
  have c1 := hm.b1.cell
  have c2 := hm.b2.cell
  have c3 := hm.b3.cell
  simp [results, hfn, go_sem, h1, h2, h3, c1, c2, c3]

/-- The nodes that two sets of a group share. -/
def mtL (n : Int) (a b : Nat) : List Nat := if ckI n [a, b] = 0 then bitsOf (a &&& b) else []
def mtV (n : Int) (a b : Nat) : Nat := (mtL n a b).headD 0
def mtB (n : Int) (a b : Nat) : Bool := !(mtL n a b).isEmpty
theorem bits_and (a b : Nat) : bitsOf (a &&& b) = (bitsOf a).filter fun i => b.testBit i := by
  unfold bitsOf
  rw [List.filter_filter]
  congr 1
  funext i
  rw [Nat.testBit_and, Bool.and_comm]
theorem meet_bad (a b : Nat) (n : Int) (hn : n < 1 ∨ 7 < n) (w : World) :
    Calls Tryd.prog 19 #[.int .u64 a, .int .u64 b, .int .i64 n] w fun e w' => e = .returned (.tuple #[.int .i64 0, .bool false, .int .i64 2]) ∧ Below w.heap.size w w' := by
  have hC := Lib.hid (fun v W => check_bad n hn v W)
  have hM := Lib.hid ((mb_new w b 0 false 2).later (alloc_b _ (.cells #[.int .u64 a, .int .u64 b] TU)))
  clear hn
  go_enter Tryd.func19, Tryd.ntmps19
  go_wp2_with (go_at_call 34; refine (hC.out _ _).mono ?_; rintro e w' ⟨rfl, rfl⟩)
  exact bodyPost_ret (mb_res Tryd.results19 _ hM.out rfl rfl rfl) rfl ⟨rfl, hM.out.bel⟩
theorem check2 (n a b : Nat) (h1 : 1 ≤ n) (h7 : n ≤ 7) (w : World) :
    Calls Tryd.prog 34 #[.int .i64 n, .slice (some ⟨w.heap.size, 0, none⟩) 2 2] (w.alloc (.cells #[.int .u64 a, .int .u64 b] TU)) fun e w' => e = .returned (.int .i64 (ckL n [a, b])) ∧ w.alloc (.cells #[.int .u64 a, .int .u64 b] TU) = w' :=
  check_in n h1 h7 _ [a, b] _ (blk_ns (heap_alloc_new w (.cells (nums .u64 [a, b]).toArray TU)) rfl) (by simp)
theorem meet_out (a b : Nat) (n : Nat) (h1 : 1 ≤ n) (h7 : n ≤ 7) (hc : ckL n [a, b] = 2) (w : World) :
    Calls Tryd.prog 19 #[.int .u64 a, .int .u64 b, .int .i64 n] w fun e w' => e = .returned (.tuple #[.int .i64 0, .bool false, .int .i64 2]) ∧ Below w.heap.size w w' := by
  have hC := check2 n a b h1 h7 ((((w.alloc (.cells #[.int .u64 b] TU)).alloc (.cells #[.int .i64 (0 : Nat)] TI)).alloc (.cells #[.bool false] TBo)).alloc (.cells #[.int .i64 0] TEr))
  rw [hc] at hC
  simp only [World.size_alloc] at hC
  have hM := Lib.hid ((mb_new w b 0 false 2).later (alloc_b _ (.cells #[.int .u64 a, .int .u64 b] TU)))
  replace hC := Lib.hid hC
  clear hc h1 h7
  go_enter Tryd.func19, Tryd.ntmps19
  go_wp2_with (go_at_call 34; refine hC.out.mono ?_; rintro e w' ⟨rfl, rfl⟩)
  exact bodyPost_ret (mb_res Tryd.results19 _ hM.out rfl rfl rfl) rfl ⟨rfl, hM.out.bel⟩
theorem test_pow (b k : Nat) : b.testBit k = true ↔ b &&& 2 ^ k ≠ 0 := by
  constructor
  · intro h e
    have : (b &&& 2 ^ k).testBit k = true := by rw [Nat.testBit_and, h, Nat.testBit_two_pow]; simp
    rw [e] at this; simp at this
  · intro h
    apply Classical.byContradiction
    intro hb
    apply h
    apply Nat.eq_of_testBit_eq
    intro i
    rw [Nat.testBit_and, Nat.testBit_two_pow, Nat.zero_testBit]
    by_cases e : k = i
    · subst e; simpa using hb
    · simp [e]
/-- What is so between two rounds, and behind a round that is left. -/
def MI (w : World) (b : Nat) (pre : List (Fin 64)) (W : World) : Prop := (∀ k ∈ pre, b.testBit k.val = false) ∧ Mb w b 0 false 0 W
def MX (w : World) (b : Nat) (c : Code) (pre : List (Fin 64)) (W : World) : Prop := c = .ret ∧ ∃ (p' : List (Fin 64)) (k : Fin 64), pre = p' ++ [k] ∧ b.testBit k.val = true ∧ (∀ j ∈ p', b.testBit j.val = false) ∧ Mb w b k.val true 0 W
theorem mi_from {w : World} {b : Nat} (B : Nat) (hB : w.heap.size + 4 ≤ B) : OwnFrom B (MI w b) := by
  rintro pre W W' row ⟨h1, h2⟩ hg hr
  exact ⟨h1, h2.grown hg fun r e => by have := (hr r e).1; omega⟩
theorem mx_from {w : World} {b : Nat} (B : Nat) (hB : w.heap.size + 4 ≤ B) (c : Code) : OwnFrom B (MX w b c) := by
  rintro pre W W' row ⟨h1, p', k, h2, h3, h4, h5⟩ hg hr
  exact ⟨h1, p', k, h2, h3, h4, h5.grown hg fun r e => by have := (hr r e).1; omega⟩
set_option maxHeartbeats 2000000 in
theorem meet_ok (a b : Nat) (n : Nat) (ha : a < 18446744073709551616) (hb64 : b < 18446744073709551616) (h1 : 1 ≤ n) (h7 : n ≤ 7) (hc : ckL n [a, b] = 0) (w : World) (hH : Hv w) :
    Calls Tryd.prog 19 #[.int .u64 a, .int .u64 b, .int .i64 n] w fun e w' => e = .returned (.tuple #[.int .i64 ((bitsOf (a &&& b)).headD 0 : Nat), .bool (!(bitsOf (a &&& b)).isEmpty), .int .i64 0]) ∧ Below w.heap.size w w' := by
  have hC := check2 n a b h1 h7 ((((w.alloc (.cells #[.int .u64 b] TU)).alloc (.cells #[.int .i64 (0 : Nat)] TI)).alloc (.cells #[.bool false] TBo)).alloc (.cells #[.int .i64 0] TEr))
  rw [hc] at hC
  simp only [World.size_alloc] at hC
  have hM0 := (mb_new w b 0 false 0).later (alloc_b _ (.cells #[.int .u64 a, .int .u64 b] TU))
  have hM := Lib.hid (hM0.later (alloc_b _ (.cells #[.int .u64 a] TU)))
  obtain ⟨v, hv⟩ : ∃ v, (!(bitsOf (a &&& b)).isEmpty) = v := ⟨_, rfl⟩
  obtain ⟨r, hr⟩ : ∃ r, (bitsOf (a &&& b)).headD 0 = r := ⟨_, rfl⟩
  rw [hv, hr]
  rw [bits_and] at hv hr
  replace hv := Lib.hid hv
  replace hr := Lib.hid hr
  replace hC := Lib.hid hC
  clear hc h1 h7 hM0
  refine (callsIn_wide (n := 4)).1 ?_
  refine callsIn_of_wp_marks Tryd.func19 rfl trivial ?_ rfl
  simp only [Tryd.ntmps19, List.size_toArray, List.length_cons, List.length_nil, Nat.reduceAdd, Nat.reduceSub, Array.replicate_succ, Array.replicate_zero, List.push_toArray, List.append_toArray, List.nil_append, List.cons_append]
  gi_wp2_with (first
    | (refine ⟨trivial, ?_⟩; gi_at_call 34; refine (callsIn_wide.2 hC.out).mono ?_; rintro e w' ⟨rfl, rfl⟩)
    | (refine ⟨trivial, ?_⟩; gi_at_call 38; refine (callsIn_wide.2 (members_any _ _)).mono ?_; rintro e w' ⟨rfl, rfl⟩))
  obtain ⟨w0, hw0⟩ : ∃ w0, (((((w.alloc (.cells #[.int .u64 b] TU)).alloc (.cells #[.int .i64 0] TI)).alloc (.cells #[.bool false] TBo)).alloc (.cells #[.int .i64 0] TEr)).alloc (.cells #[.int .u64 a, .int .u64 b] TU)).alloc (.cells #[.int .u64 a] TU) = w0 := ⟨_, rfl⟩
  have hMw : Mb w b 0 false 0 w0 := by rw [← hw0]; exact hM.out
  have hz0 : w0.heap.size = w.heap.size + 6 := by rw [← hw0]; simp
  have hH0 := hH.later hMw.bel
  have hbox : w0.cell? ⟨w.heap.size + 5, 0, none⟩ = some (.int .u64 a) := by
    rw [← hw0]
    have := (Boxed.new (((((w.alloc (.cells #[.int .u64 b] TU)).alloc (.cells #[.int .i64 0] TI)).alloc (.cells #[.bool false] TBo)).alloc (.cells #[.int .i64 0] TEr)).alloc (.cells #[.int .u64 a, .int .u64 b] TU)) TU (.int .u64 a)).cell
    simp only [World.size_alloc] at this
    exact this
  have hst := members_stops a ha w0 hH0 (w.heap.size + 5) hbox
  have h00 : MI w b [] w0 := ⟨fun k h => (by cases h), hMw⟩
  have hgl := hH.lt
  rw [hw0]
  refine wpIn_rangeFunc_ownH rfl (by omega) (gf := 41) (lb := #[.pointer (some ⟨w.heap.size + 5, 0, none⟩)]) rfl trivial (enters_of Tryd.func41 (by kernel_rfl) rfl)
    hst (fun h k => h.trans k) (held_put hH0.lt) (Below.refl _ _) (fun _ => rfl)
    (MI w b) (MX w b) (mi_from _ (by omega)) (mx_from _ (by omega)) h00
    (fun y a' W => a' = { tmps := #[.int .u64 a, .int .u64 b, .int .i64 n, undef, .pointer (some ⟨w.heap.size, 0, none⟩), undef, .pointer (some ⟨w.heap.size + 1, 0, none⟩), .pointer (some ⟨w.heap.size + 2, 0, none⟩), .pointer (some ⟨w.heap.size + 3, 0, none⟩), .int .i64 0, .int .i64 (y.val : Nat), .int .i64 n, .int .u64 a, .int .u64 b, .slice (some ⟨w.heap.size + 4, 0, none⟩) 2 2, .int .i64 0, .int .i64 0, .bool false, undef, .int .u64 a, .func (.func 41) #[] #[.pointer (some ⟨w.heap.size + 5, 0, none⟩)], .int .i64 (y.val : Nat), undef, undef, undef, undef, undef, undef], defers := [] })
    ?ax ?assign ?body ?done ?stop
  case ax =>
    rintro y a' _ W W' row h hg hr
    exact h
  case assign =>
    rintro l' pre y W K hM hK
    dsimp only [encN] at hK ⊢
    have hKA := Lib.hid (hK _ W (KeepsOthers.from ⟨Nat.le_refl _, fun _ _ h _ => h⟩ _) ⟨Nat.le_refl _, rfl⟩ hM rfl)
    clear hK
    gi_wp2
    exact hKA.out
  case body =>
    rintro l' pre y a' W _ _ ⟨hpre, hMW⟩ rfl hlt
    have c4 := hMW.bb.cell
    have f1 := hMW.b1.frozen
    have f2 := hMW.b2.frozen
    have f3 := hMW.b3.frozen
    have c1 := hMW.b1.cell
    have c2 := hMW.b2.cell
    have c3 := hMW.b3.cell
    obtain ⟨k, hk⟩ : ∃ k, y.val = k := ⟨_, rfl⟩
    have hk64 : k < 64 := by rw [← hk]; exact y.isLt
    have hO := Lib.hid (fun W => only_any k hk64 W)
    have ha2 := bits_and_u64_nat b (2 ^ k) hb64 (pow_lt k hk64)
    have hbit := test_pow b k
    rw [hk]
    replace hMW := Lib.hid hMW
    replace hpre := Lib.hid hpre
    generalize b &&& 2 ^ k = z at *
    generalize 2 ^ k = q at *
    have hbit := Lib.hid hbit
    gi_wp2
    refine region_round (S := fun w' => w'.cell? ⟨w.heap.size, 0, none⟩ = some (.int .u64 b)) (by kernel_rfl) (plainOps_no (by kernel_rfl)) (fun _ _ h => h) ?_
    have hS : W.drew.cell? ⟨w.heap.size, 0, none⟩ = some (.int .u64 b) := c4
    obtain ⟨B, hB⟩ : ∃ B, ((z : Int) != 0) = B := ⟨_, rfl⟩
    refine wpAnyH_take (i := 0) (v := .int .u64 b) rfl (by kernel_rfl) (by kernel_rfl) (by kernel_rfl) (fun _ _ _ h => h) (Or.inl ⟨by rfl, by intro w' hSw; go_simp⟩) hS ?_
    try simp only [Act.put, List.setIfInBounds_toArray, List.set_cons_zero, List.set_cons_succ]
    refine wpAnyH_take (i := 1) (v := .int .i64 k) rfl (by kernel_rfl) (by kernel_rfl) (by kernel_rfl) (fun _ _ _ h => h) (Or.inl ⟨by rfl, by intro w' hSw; go_simp⟩) hS ?_
    try simp only [Act.put, List.setIfInBounds_toArray, List.set_cons_zero, List.set_cons_succ]
    refine wpAnyH_ready (rs := [2]) (by kernel_rfl) (by simp) ?_
    refine AllReadyH.cons rfl (fun K hK => ?_) AllReadyH.nil
    go_simp
    go_at_call 37
    refine (hO.out _).mono ?_
    rintro e w' ⟨rfl, rfl⟩
    refine hK.out _ _ hS (fun hS => ?_)
    clear hK K
    try simp only [Act.put, List.setIfInBounds_toArray, List.set_cons_zero, List.set_cons_succ]
    refine wpAnyH_take (i := 3) (v := .int .u64 z) rfl (by kernel_rfl) (by kernel_rfl) (by kernel_rfl) (fun _ _ _ h => h) (Or.inl ⟨by rfl, by intro w' hSw; go_simp⟩) hS ?_
    try simp only [Act.put, List.setIfInBounds_toArray, List.set_cons_zero, List.set_cons_succ]
    refine wpAnyH_take (i := 4) (v := .bool B) rfl (by kernel_rfl) (by kernel_rfl) (by kernel_rfl) (fun _ _ _ h => h) (Or.inl ⟨by rfl, by intro w' hSw; go_simp⟩) hS ?_
    try simp only [Act.put, List.setIfInBounds_toArray, List.set_cons_zero, List.set_cons_succ]
    refine wpAnyH_done (by kernel_rfl) ?_ _
    clear hS
    by_cases hz : z = 0
    · have hB0 : B = false := by rw [← hB, hz]; rfl
      subst hB0
      have hfin : KeepsFrom (w.heap.size + 6) W W.drew ∧ Held W W.drew ∧ MI w b (pre ++ [y]) W.drew := by
        refine ⟨KeepsOthers.from (others_below (Below.refl _ W).drew) _, ⟨Nat.le_refl _, rfl⟩, fun j hj => ?_, hMW.out.later (Below.refl _ W).drew⟩
        rcases List.mem_append.1 hj with hj | hj
        · exact hpre.out j hj
        · obtain rfl : j = y := by simpa using hj
          rw [hk]
          have := hbit.out
          cases h : b.testBit k
          · rfl
          · exact absurd hz (this.1 h)
      replace hfin := Lib.hid hfin
      clear hB hz
      gi_wp2
      exact hfin.out
    · have hB0 : B = true := by rw [← hB]; simp; omega
      subst hB0
      have hfin : KeepsFrom w0.heap.size W (((W.setCell ⟨w.heap.size + 1, 0, none⟩ (.int .i64 k)).setCell ⟨w.heap.size + 2, 0, none⟩ (.bool true)).setCell ⟨w.heap.size + 3, 0, none⟩ (.int .i64 0)).drew ∧
          MX w b .ret (pre ++ [y]) (((W.setCell ⟨w.heap.size + 1, 0, none⟩ (.int .i64 k)).setCell ⟨w.heap.size + 2, 0, none⟩ (.bool true)).setCell ⟨w.heap.size + 3, 0, none⟩ (.int .i64 0)).drew := by
        refine ⟨KeepsOthers.from ((((KeepsOthers.setCell _ _ _).trans (KeepsOthers.setCell _ _ _)).trans (KeepsOthers.setCell _ _ _)).trans (others_below (Below.refl _ _).drew)) _, rfl, pre, y, rfl, ?_, hpre.out, ?_⟩
        · rw [hk]; exact hbit.out.2 hz
        · rw [hk]; exact (hMW.out.set k true 0).later (Below.refl _ _).drew
      replace hfin := Lib.hid hfin
      clear hB hz
      gi_wp2
      exact hfin.out
  case done =>
    rintro D ys W hD hys ⟨hpre, hMW⟩ hK
    have hnil : (bitsOf a).filter (fun i => b.testBit i) = [] := by
      rw [← hys, List.filter_eq_nil_iff]
      intro i hi
      obtain ⟨j, hj, rfl⟩ := List.mem_map.1 hi
      rw [hpre j hj]; simp
    have hv0 : v = false := by rw [← hv.out, hnil]; rfl
    have hr0 : r = 0 := by rw [← hr.out, hnil]; rfl
    subst hv0 hr0
    have f1 := hMW.b1.frozen
    have f2 := hMW.b2.frozen
    have f3 := hMW.b3.frozen
    have c1 := hMW.b1.cell
    have c2 := hMW.b2.cell
    have c3 := hMW.b3.cell
    have hM2 := hMW.set 0 false 0
    have hD' : w.heap.size + 6 ≤ D := by omega
    have hK2 : ((((W.setCell ⟨w.heap.size + 1, 0, none⟩ (.int .i64 (0 : Nat))).setCell ⟨w.heap.size + 1 + 1, 0, none⟩ (.bool false)).setCell ⟨w.heap.size + 1 + 1 + 1, 0, none⟩ (.int .i64 0))).heap[D]? = some (.deferred (some [])) := by
      rw [Below.heap_setCell _ _ _ D (by simp; omega), Below.heap_setCell _ _ _ D (by simp; omega), Below.heap_setCell _ _ _ D (by simp; omega)]
      exact hK
    have hfin := Lib.hid (hM2.grown (grownBy_putObj' _ D (.deferred none)) (fun r e => by cases e; omega))
    replace hK2 := Lib.hid hK2
    clear hnil hpre hM2 hMW
    simp only [Exit.inBlock, Exit.then]
    go_at_K
    gi_wp2
    refine ⟨by simp, .inl ⟨_, _, rfl, run_takeDeferred hK2.out, ?_⟩⟩
    exact ⟨_, mb_res Tryd.results19 _ hfin.out rfl rfl rfl, rfl, hfin.out.bel⟩
  case stop =>
    rintro D c pre W hD ⟨r', hr'⟩ ⟨rfl, p', k, rfl, hk, hp, hMW⟩ hK
    have hcons : (bitsOf a).filter (fun i => b.testBit i) = k.val :: r'.filter (fun i => b.testBit i) := by
      rw [hr', List.map_append, List.filter_append, List.filter_append]
      have : (p'.map Fin.val).filter (fun i => b.testBit i) = [] := by
        rw [List.filter_eq_nil_iff]
        intro i hi
        obtain ⟨j, hj, rfl⟩ := List.mem_map.1 hi
        rw [hp j hj]; simp
      rw [this]
      simp [List.filter_cons, hk]
    have hv0 : v = true := by rw [← hv.out, hcons]; rfl
    have hr0 : r = k.val := by rw [← hr.out, hcons]; rfl
    subst hv0 hr0
    have hfin := Lib.hid (hMW.grown (grownBy_putObj' _ D (.deferred none)) (fun r e => by cases e; omega))
    replace hK := Lib.hid hK
    clear hcons hMW hp hr'
    gi_wp2
    refine ⟨by simp, .inl ⟨_, _, rfl, run_takeDeferred hK.out, ?_⟩⟩
    exact ⟨_, mb_res Tryd.results19 _ hfin.out rfl rfl rfl, rfl, hfin.out.bel⟩
theorem meet_any (a b : Nat) (n : Int) (ha : a < 18446744073709551616) (hb : b < 18446744073709551616) (w : World) (hH : Hv w) :
    Calls Tryd.prog 19 #[.int .u64 a, .int .u64 b, .int .i64 n] w fun e w' => e = .returned (.tuple #[.int .i64 (mtV n a b : Nat), .bool (mtB n a b), .int .i64 (ckI n [a, b])]) ∧ Below w.heap.size w w' := by
  unfold mtV mtB mtL
  by_cases hn : 1 ≤ n ∧ n ≤ 7
  · obtain ⟨k, rfl⟩ := Int.eq_ofNat_of_zero_le (show 0 ≤ n by omega)
    rw [ckI_in (by omega) (by omega)]
    cases h : inAll k [a, b]
    · rw [ckL_f h]
      exact meet_out a b k (by omega) (by omega) (ckL_f h) w
    · rw [ckL_t h]
      exact meet_ok a b k ha hb (by omega) (by omega) (ckL_t h) w hH
  · rw [ckI_bad (by omega)]
    exact meet_bad a b n (by omega) w
end Go.Proofs.YtmbkopeikldonaaDoor.Quo
