/- greatest. -/
import Derived.Test.YtffiooclkchoiaaP09
import Derived.Stop.RegionWithIn
namespace Go.Proofs.Ytffiooclkchoiaa.Prp
open Go.RowKit Go.Lib
open Bal (TB bOk ckB ordV eqB eqB_t eqB_f eq_b alloc_b check_any order_any)
set_option linter.unusedVariables false
set_option linter.unusedSimpArgs false
set_option maxRecDepth 20000
attribute [local go_sem] Oper.semAt_some

structure Gt (w w0 : World) (q0 : Nat) (N : Nat) (B : Nat → Et) (W : World) : Prop where
  bel : Below w.heap.size w W
  kq0 : Kq q0 w0.heap.size w0 W
  row : ∃ v, W.heap[q0]? = some (.cells #[v] TEs (0, 0)) ∧ OwE w0.heap.size (lst N B) v W
theorem gt_from {β : Type} {w w0 : World} {q0 : Nat} (hq : w.heap.size ≤ q0 ∧ q0 < w0.heap.size) (hw : w.heap.size ≤ w0.heap.size) (N : β → Nat) (B : β → Nat → Et) : OwnFrom w0.heap.size (fun (pre : β) W => Gt w w0 q0 (N pre) (B pre) W) := by
  rintro pre W W' row ⟨h1, h2, v, h3, h4⟩ hg hr
  refine ⟨h1.grown hg h1.size (fun k e => by have := (hr k e).1; omega), h2.trans ⟨hg.size, fun k hk hn => hg.block k (Nat.lt_of_lt_of_le hk h2.1) (fun e => by have := (hr k e.symm).1; omega)⟩, v, (hg.block q0 (Array.getElem?_eq_some_iff.1 h3).1 (fun e => by have := (hr q0 e.symm).1; omega)).trans h3, ?_⟩
  refine rows_kept h4 fun k hk => hg.block k (World.ownsRow.lt h4 k hk).2 (fun e => ?_)
  obtain ⟨_, o, ho, hc⟩ := hr k e.symm
  rcases h4.2 with ⟨rfl, _⟩ | ⟨g, cap, cur, rfl, _, hgb, _⟩
  · cases hk
  · injection hk with hk
    subst hk
    rw [hgb] at ho
    cases ho
    cases hc
def slen : Option Value → Nat
  | some (.slice _ n _) => n
  | _ => 0
theorem info_es : (Try.prog.info? TEs).map (fun i => (i.zero, i.size, i.bytes)) = some (some (.slice none 0 0), 1, 24) := by kernel_rfl
theorem appendIn_e {F : Fence} {n : Nat} {ops : Array Oper} {rest : List Oper} {o : Oper} {a : Act} {w : World} {Q : Exit → Act → World → Prop} (hgd : o.guard = none) (s x : Operand)
    (ho : o.op = .call { callee := .builtin .append, args := #[s, x], argTypes := #[TEs, TEs] })
    (base : Nat) (v : Value) (L : List Et) (hs : a.eval s = v) (hown : OwE base L v w) (g c : Nat) (y : Et) (hx : a.eval x = .slice (some ⟨g, 0, none⟩) 1 c) (hc : w.heap[g]? = some (.cells (ec y).toArray TE (0, 0)))
    (hn : L.length ≤ 100000) (hbase : base ≤ w.heap.size)
    (h : ∀ v' w', OwE base (L ++ [y]) v' w' → w.grownBy w' v.ownBlock → (v'.ownBlock = v.ownBlock ∨ v'.ownBlock = some w.heap.size) → wpListIn F n Try.prog ops Q rest (a.put o.dst v') w') :
    wpListIn F n Try.prog ops Q (o :: rest) a w := by
  refine wpListIn_plain hgd fun K hK => ?_
  obtain ⟨i0, hi, hz0, hz1, hz2⟩ := info_p info_e
  obtain ⟨v', w', hrun, h1, h2, _, h4⟩ := run_append_own_at (P := Try.prog) w base TEs o.type TE i0 _ 4 40 Try.underlying36 hi hz0 hz1 hz2 rfl (by decide) v L.length (flat L) hown ⟨g, 0, none⟩ 1 c (ec y) rfl
    (fun j u hu => by rw [addr_add, Nat.zero_add, cell_of_row w g j _ TE _ hc]; simpa using hu) (fun u hu => by simp [ec] at hu; rcases hu with rfl | rfl | rfl | rfl <;> rfl) (by unfold maxLen; omega) (by omega) hbase
  unfold Oper.wpIn
  refine ⟨?_, ?_⟩
  · simp [Oper.about, ho, resolve, Target.leads, Sem.run_pure]
  · rw [Oper.semAt_plain F _ _ (by rw [ho]; intro c hc'; cases hc')]
    simp [execOp, ho, resolve, invoke, builtin, hs, hx, hrun, Result.andThen]
    refine hK _ _ (h v' w' ?_ h2 h4)
    show w'.ownsRow base TE 4 v' (L ++ [y]).length (flat (L ++ [y]))
    rw [flat_app, flat_one, List.length_append]
    exact h1
def vals {bb : Int} (ys : List (Em bb)) : List Et := ys.map Subtype.val
theorem vals_snoc {bb : Int} (ys : List (Em bb)) (x : Em bb) : vals (ys ++ [x]) = vals ys ++ [x.val] := List.map_append
set_option maxRecDepth 100000 in
set_option maxHeartbeats 4000000 in
theorem greatest_any {base : Nat} {b : Nat} {vs : Nat → Value} {s : St} (bb : Int) (w : World) (x : Px base w b vs s) (hb0 : 0 ≤ bb ∧ bb ≤ 4096) :
    Calls Try.prog 36 #[.pointer (some ⟨b, 0, none⟩), .int .i64 bb] w fun e w' => ∃ v, e = .returned v ∧ OwE w.heap.size (lst (topN bb (allK s.P 7)) (bestF bb (allK s.P 7))) v w' ∧ Below w.heap.size w w' := by
  have hvl : ∀ i, i < 7 → ∀ g, (vs i).ownBlock = some g → g < w.heap.size := fun i hi g hg => (World.ownsRow.lt (x.lst i hi) g hg).2
  refine (callsIn_wide (n := 4)).1 ?_
  refine callsIn_of_wp_marks Try.func36 rfl trivial ?_ rfl
  simp only [Try.ntmps36, List.size_toArray, List.length_cons, List.length_nil, Nat.reduceAdd, Nat.reduceSub, Array.replicate_succ, Array.replicate_zero, List.push_toArray, List.append_toArray, List.nil_append, List.cons_append]
  gi_wp2_with (first
    | (refine ⟨trivial, ?_⟩; gi_at_call 48; refine (callsIn_wide.2 (entries_any _ _ _)).mono ?_; rintro e w' ⟨rfl, rfl⟩))
  obtain ⟨w0, hw0⟩ : ∃ w0, ((((w.alloc (.cells #[.int .i64 bb] TI)).alloc (.cells #[.slice none 0 0] TEs)).alloc (.cells #[.pointer (some ⟨b, 0, none⟩)] 27)).alloc (.cells #[.int .i64 bb] TI)) = w0 := ⟨_, rfl⟩
  have hz0 : w0.heap.size = w.heap.size + 4 := by rw [← hw0]; simp
  have hbel0 : Below w.heap.size w w0 := by rw [← hw0]; exact ((((Below.refl _ _).alloc (Nat.le_refl _) _).alloc (by simp) _).alloc (by simp; omega) _).alloc (by simp; omega) _
  have hx0 := x.later hbel0
  have hc3 : w0.cell? ⟨w.heap.size, 0, none⟩ = some (.int .i64 bb) := by
    rw [← hw0]
    exact (((Boxed.new w TI (.int .i64 bb)).alloc _).alloc _ |>.alloc _).cell
  have hb0' : w0.heap[w.heap.size + 1]? = some (.cells #[.slice none 0 0] TEs (0, 0)) := by
    rw [← hw0]
    have := ((Boxed.new (w.alloc (.cells #[.int .i64 bb] TI)) TEs (.slice none 0 0)).alloc (.cells #[.pointer (some ⟨b, 0, none⟩)] 27)).alloc (.cells #[.int .i64 bb] TI)
    rw [World.size_alloc] at this
    exact this
  have hc1 : w0.cell? ⟨w.heap.size + 1 + 1, 0, none⟩ = some (.pointer (some ⟨b, 0, none⟩)) := by
    rw [← hw0]
    have := (Boxed.new ((w.alloc (.cells #[.int .i64 bb] TI)).alloc (.cells #[.slice none 0 0] TEs)) 27 (.pointer (some ⟨b, 0, none⟩))).alloc (.cells #[.int .i64 bb] TI)
    rw [World.size_alloc, World.size_alloc] at this
    exact this.cell
  have hc2 : w0.cell? ⟨w.heap.size + 1 + 1 + 1, 0, none⟩ = some (.int .i64 bb) := by
    rw [← hw0]
    have := (Boxed.new (((w.alloc (.cells #[.int .i64 bb] TI)).alloc (.cells #[.slice none 0 0] TEs)).alloc (.cells #[.pointer (some ⟨b, 0, none⟩)] 27)) TI (.int .i64 bb))
    rw [World.size_alloc, World.size_alloc, World.size_alloc] at this
    exact this.cell
  change Code.wpIn _ _ _ _ _ _ ((((w.alloc (.cells #[.int .i64 bb] TI)).alloc (.cells #[.slice none 0 0] TEs)).alloc (.cells #[.pointer (some ⟨b, 0, none⟩)] 27)).alloc (.cells #[.int .i64 bb] TI))
  rw [hw0]
  clear hw0
  obtain ⟨q3, hq3⟩ : ∃ q3, w.heap.size = q3 := ⟨_, rfl⟩
  obtain ⟨q0, hq0⟩ : ∃ q0, w.heap.size + 1 = q0 := ⟨_, rfl⟩
  obtain ⟨q1, hq1⟩ : ∃ q1, w.heap.size + 1 + 1 = q1 := ⟨_, rfl⟩
  obtain ⟨q2, hq2⟩ : ∃ q2, w.heap.size + 1 + 1 + 1 = q2 := ⟨_, rfl⟩
  rw [hq2, hq1, hq0, hq3]
  rw [hq3] at hc3
  rw [hq0] at hb0'
  rw [hq1] at hc1
  rw [hq2] at hc2
  have hqq : w.heap.size ≤ q0 ∧ q0 < w0.heap.size := ⟨by omega, by omega⟩
  have hst := entries_stops q0 bb w0 hx0 q1 q2 hc1 hc2 (by omega) (fun i hi e => by have := hvl i hi _ e; omega)
  have hall : ∀ e ∈ allK s.P 7, e.s < 4096 := fun e he => (all_mem x.ok 7 e he).1.2.1
  have hfin : Hid (∀ ys : List (Em bb), ys.map Subtype.val = fromB bb (allK s.P 7) → topN bb (vals ys) = topN bb (allK s.P 7) ∧ bestF bb (vals ys) = bestF bb (allK s.P 7)) := Lib.hid fun ys h => by
    have e : vals ys = fromB bb (allK s.P 7) := h
    rw [e]
    exact ⟨top_from bb _, funext fun j => best_from bb _ j⟩
  have hTop : Hid (∀ ys : List (Em bb), topN bb (vals ys) ≤ 4096) := Lib.hid fun ys => top_le hb0.1 fun e he => by
    obtain ⟨y, _, rfl⟩ := List.mem_map.1 he
    exact y.property.2
  have h00 : Gt w w0 q0 (topN bb (vals ([] : List (Em bb)))) (bestF bb (vals ([] : List (Em bb)))) w0 := ⟨hbel0, Kq.refl _ _ _, _, hb0', OwE.nil _ _⟩
  have hq3l : q3 < w0.heap.size := by omega
  have hne3 : q3 ≠ q0 := by omega
  have hH3 : Hid (∀ V, Kq q0 w0.heap.size w0 V → V.cell? ⟨q3, 0, none⟩ = some (.int .i64 bb)) := Lib.hid fun V hV => (hV.cell (p := ⟨q3, 0, none⟩) hq3l hne3).trans hc3
  have hszw := hbel0.size
  have hDq := Lib.hid (show q0 + 2 < w0.heap.size from by omega)
  clear hc3 hb0' hc1 hc2 hx0 hvl hall x hq3 hq0 hq1 hq2 hz0
  refine wpIn_rangeFunc_ownH rfl (by omega) (gf := 59) (lb := #[.pointer (some ⟨q1, 0, none⟩), .pointer (some ⟨q2, 0, none⟩)]) rfl trivial (enters_of Try.func59 (by kernel_rfl) rfl)
    hst (fun h k => h.trans k) (fun W l o o' hl ho hc _ => ⟨by simp [World.putObj], fun k hk hn => (grownBy_putObj' W l o').block k (by have := (Array.getElem?_eq_some_iff.1 ho).1; omega) (fun e => by injection e with e; omega)⟩) (Below.refl _ _) (fun _ => rfl)
    (fun (pre : List (Em bb)) W => Gt w w0 q0 (topN bb (vals pre)) (bestF bb (vals pre)) W) (fun _ _ _ => False) (gt_from hqq hszw _ _) (fun _ _ _ _ _ hs _ _ => hs) h00
    (fun x a' W => ∃ q7, w0.heap.size ≤ q7 ∧ W.heap[q7]? = some (.cells #[.int .i64 x.val.s, .int .i64 x.val.r, .int .i64 x.val.m, .string x.val.v] TE (0, 0)) ∧ (∃ v, W.heap[q0]? = some (.cells #[v] TEs (0, 0)) ∧ v.ownBlock ≠ some q7) ∧ a' = { tmps := #[.pointer (some ⟨b, 0, none⟩), .int .i64 bb, undef, .pointer (some ⟨q3, 0, none⟩), .slice none 0 0, .pointer (some ⟨q0, 0, none⟩), .pointer (some ⟨q7, 0, none⟩), undef, .pointer (some ⟨b, 0, none⟩), .int .i64 bb, .func (.func 59) #[] #[.pointer (some ⟨q1, 0, none⟩), .pointer (some ⟨q2, 0, none⟩)], .agg #[.int .i64 x.val.s, .int .i64 x.val.r, .int .i64 x.val.m, .string x.val.v], undef, undef, undef, undef, undef, undef, undef, undef, undef, undef, undef, undef, undef, undef, undef, undef, undef, undef, undef, undef, undef, undef, undef, undef, undef, undef, undef, undef, undef, undef, undef, undef, undef], defers := [] })
    ?ax ?assign ?body ?done ?stop
  case ax =>
    rintro x a' _ W W' row ⟨q7, h1, h2, ⟨u, h4, h5⟩, h3⟩ hg hr
    refine ⟨q7, h1, (hg.block q7 (Array.getElem?_eq_some_iff.1 h2).1 fun e => ?_).trans h2, ⟨u, (hg.block q0 (Array.getElem?_eq_some_iff.1 h4).1 fun e => ?_).trans h4, h5⟩, h3⟩
    · obtain ⟨_, o, ho, hc⟩ := hr q7 e.symm
      rw [h2] at ho
      cases ho; cases hc
    · have := (hr _ e.symm).1; omega
  case assign =>
    rintro l' pre x W K hM hK
    have hA := alloc_b W (.cells #[.int .i64 x.val.s, .int .i64 x.val.r, .int .i64 x.val.m, .string x.val.v] TE)
    have hsz := hM.kq0.1
    have hM2 : Gt w w0 q0 (topN bb (vals pre)) (bestF bb (vals pre)) (W.alloc (.cells #[.int .i64 x.val.s, .int .i64 x.val.r, .int .i64 x.val.m, .string x.val.v] TE)) := by
      obtain ⟨v, h1, h2⟩ := hM.row
      exact ⟨hM.bel.trans (hA.mono hM.bel.size), hM.kq0.trans (Kq.of_below hA hsz), v, (hA.block _ (Array.getElem?_eq_some_iff.1 h1).1).trans h1, rows_later h2 hA⟩
    have hbx : ∃ v, (W.alloc (.cells #[.int .i64 x.val.s, .int .i64 x.val.r, .int .i64 x.val.m, .string x.val.v] TE)).heap[q0]? = some (.cells #[v] TEs (0, 0)) ∧ v.ownBlock ≠ some W.heap.size := by
      obtain ⟨v, h1, h2⟩ := hM.row
      exact ⟨v, (hA.block _ (Array.getElem?_eq_some_iff.1 h1).1).trans h1, fun e => by have := (World.ownsRow.lt h2 _ e).2; omega⟩
    have hKA := Lib.hid (hK _ _ ((ko_later (KeepsOthers.refl W) hA).from _) (Kq.of_below hA hsz) hM2 ⟨W.heap.size, hsz, heap_alloc_new W _, hbx, rfl⟩)
    clear hK hM2 hbx hst
    gi_wp2
    exact hKA.out
  case body =>
    rintro l' pre x a' W _ _ hM ⟨q7, h7, hent, ⟨u1, hu1, hu2⟩, rfl⟩ hlt
    have hsn := Lib.hid (show topN bb (vals (pre ++ [x])) = max (topN bb (vals pre)) (x.val.s - bb + 1).toNat ∧ ∀ j, bestF bb (vals (pre ++ [x])) j = pick (bb + j) (bestF bb (vals pre) j) x.val by
      rw [vals_snoc]
      exact ⟨top_snoc bb _ _, fun j => best_snoc bb _ _ j⟩)
    have hTN := hTop.out pre
    have hBz := Lib.hid (fun j h => best_beyond bb (vals pre) j h)
    have hBd : Bd w w0 W q0 q7 x.val (topN bb (vals pre)) (bestF bb (vals pre)) W := by
      obtain ⟨v, h1, h2⟩ := hM.row
      have e0 : u1 = v := by
        rw [hu1] at h1
        injection h1 with h1
        injection h1 with h1 _
        injection h1 with h1
        injection h1 with h1 _
      exact ⟨hM.bel, hM.kq0, Kq.refl _ _ _, KeepsOthers.refl _, ⟨v, h1, h2, by rw [← e0]; exact hu2⟩, hent⟩
    generalize topN bb (vals pre) = N at *
    generalize bestF bb (vals pre) = B at *
    obtain ⟨e, he1, he2⟩ := x
    obtain ⟨k, hk⟩ : ∃ k : Nat, e.s = bb + k := ⟨(e.s - bb).toNat, by omega⟩
    have hk4 : k < 4096 := by omega
    have hw1 : IntKind.i64.wrap (e.s - bb) = (k : Nat) := by rw [IntKind.wrap_i64]; omega
    have hmx : Hid (topN bb (vals (pre ++ [(⟨e, he1, he2⟩ : Em bb)])) = max N (k + 1) ∧ ∀ j, bestF bb (vals (pre ++ [(⟨e, he1, he2⟩ : Em bb)])) j = pick (bb + j) (B j) e) := Lib.hid ⟨by rw [hsn.out.1]; show max N (e.s - bb + 1).toNat = _; congr 1; omega, hsn.out.2⟩
    have hek := Lib.hid hk
    have hOr := Lib.hid (fun a b W => order_any e.r e.m a b W)
    dsimp only at hBd hw1 hek hOr
    clear hM hu1 hu2 hent hlt hst hfin hTop h00 hsn hk
    replace hBd := Lib.hid hBd
    obtain ⟨es, er, em, ev⟩ := e
    dsimp only at hBd hw1 hek hOr ⊢
    gi_wp2
    gi_loopw [] (fun wr => ∃ N' : Nat, N ≤ N' ∧ N' ≤ max N (k + 1) ∧ Bd w w0 W q0 q7 ⟨es, er, em, ev⟩ N' B wr) (fun wr => (k + 1) - slen (wr.cell? ⟨q0, 0, none⟩))
    case atStart => exact ⟨N, Nat.le_refl _, by omega, hBd.out⟩
    case round =>
      clear hBd
      obtain ⟨N', hn1, hn2, hBd⟩ := hrel
      obtain ⟨v, hv, hO, hn7⟩ := hBd.row
      have hd3 := hH3.out _ hBd.kq0
      obtain ⟨d0, d1, d2, d3⟩ := hBd.cells
      have hll := lst_len N' B
      obtain ⟨a, cap, rfl⟩ := rows_form hO
      rw [hll] at hv hO hn7
      have dv := cell_of_row wr q0 0 _ TEs _ hv
      simp only [List.getElem?_toArray, List.getElem?_cons_zero] at dv
      simp only at d0 d1 d2 d3
      by_cases hle : N' ≤ k
      · have i1 : decide ((N' : Int) ≤ (k : Int)) = true := by simp; omega
        have i2 : (N' : Int) ≤ (k : Int) := by omega
        have hw2 : IntKind.i64.wrap (bb + (N' : Int)) = bb + N' := by rw [IntKind.wrap_i64]; omega
        have hz := hBz.out N' hn1
        have hoa := rows_later hO (alloc_b wr (.cells #[.int .i64 (bb + N'), .int .i64 0, .int .i64 0, .string ⟨#[]⟩] TE))
        have hca : (wr.alloc (.cells #[.int .i64 (bb + N'), .int .i64 0, .int .i64 0, .string ⟨#[]⟩] TE)).heap[wr.heap.size]? = some (.cells (ec ⟨bb + N', 0, 0, ⟨#[]⟩⟩).toArray TE (0, 0)) := heap_alloc_new _ _
        replace hoa := Lib.hid hoa
        replace hca := Lib.hid hca
        have hll2 := Lib.hid (show (lst N' B).length ≤ 100000 by omega)
        have hsza := Lib.hid (show w0.heap.size ≤ (wr.alloc (.cells #[.int .i64 (bb + N'), .int .i64 0, .int .i64 0, .string ⟨#[]⟩] TE)).heap.size by have := hBd.kq0.1; rw [World.size_alloc]; omega)
        have hGr := Lib.hid (fun (v4 : Value) (w4 : World) (h1 : OwE w0.heap.size (lst N' B ++ [⟨bb + N', 0, 0, ⟨#[]⟩⟩]) v4 w4) (h2 : (wr.alloc (.cells #[.int .i64 (bb + N'), .int .i64 0, .int .i64 0, .string ⟨#[]⟩] TE)).grownBy w4 (Value.slice a N' cap).ownBlock) h3 => hBd.grow hv hqq h7 (v' := v4) (w1 := w4) (.cells #[.int .i64 (bb + N'), .int .i64 0, .int .i64 0, .string ⟨#[]⟩] TE) (by rw [hz]; exact h1) h2 h3)
        have hlf : Hid (∀ v4 w4, OwE w0.heap.size (lst N' B ++ [⟨bb + N', 0, 0, ⟨#[]⟩⟩]) v4 w4 → ∃ a4 c4 m4, v4 = .slice a4 m4 c4 ∧ m4 = N' + 1) := Lib.hid fun v4 w4 h => by
          obtain ⟨a4, c4, e4⟩ := rows_form h
          exact ⟨a4, c4, _, e4, by rw [List.length_append, lst_len]; rfl⟩
        replace hv := Lib.hid hv
        replace hBd := Lib.hid hBd
        have dv0 := Lib.hid dv
        clear hO hll hz
        gi_wp2_with (gi_at_builtin; refine appendIn_e rfl _ _ rfl w0.heap.size _ (lst N' B) rfl hoa.out wr.heap.size _ ⟨bb + N', 0, 0, ⟨#[]⟩⟩ rfl hca.out hll2.out hsza.out ?_; intro v4 w4 hO4 hg4 hl4; obtain ⟨a4, c4, m4, rfl, hm4⟩ := hlf.out _ _ hO4; obtain ⟨hB4, hq4⟩ := hGr.out _ _ hO4 hg4 hl4; have dq4 := cell_of_row w4 q0 0 _ TEs _ hq4; have fq4 := frozen_of_row w4 q0 0 _ TEs hq4; have hc4 := Lib.hid ((Boxed.set (Value.slice a4 m4 c4) hq4).cell); replace hm4 := Lib.hid hm4; replace hB4 := Lib.hid hB4; clear hO4 hg4 hl4)
        refine ⟨⟨N' + 1, by omega, by omega, hB4.out⟩, ?_⟩
        rw [hc4.out, dv0.out]
        show k + 1 - m4 < k + 1 - N'
        have := hm4.out
        omega
      · have i1 : decide ((N' : Int) ≤ (k : Int)) = false := by simp; omega
        have i2 : ¬ (N' : Int) ≤ (k : Int) := by omega
        have hkN : k < N' := by omega
        have i3 : (k : Int) < (N' : Int) := by omega
        have i4 : (0 : Int) ≤ (k : Int) := by omega
        have hNN : Hid (N' = max N (k + 1)) := Lib.hid (by omega)
        obtain ⟨g, cap', hv', hg1, hg2, hcs⟩ := hO.cells (by omega)
        rw [hll] at hv'
        injection hv' with ha _ hcap
        subst ha hcap
        obtain ⟨b0, b1, b2, b3⟩ := hcs k (B k) (lst_at N' B k hkN)
        have hgt := ord_gt er em (B k).r (B k).m
        have hOk := Lib.hid (fun W => hOr.out (B k).r (B k).m W)
        have hpk : Hid (∀ j, j ≠ k → pick (bb + j) (B j) ⟨es, er, em, ev⟩ = B j) := Lib.hid fun j hj => by
          unfold pick
          rw [decide_eq_false (by have := hek.out; simp only; omega)]
          rfl
        have hpk2 : Hid (pick (bb + k) (B k) ⟨es, er, em, ev⟩ = if gtB er em (B k).r (B k).m then ⟨es, er, em, ev⟩ else B k) := Lib.hid (by
          unfold pick
          rw [decide_eq_true (by simp only; exact hek.out), Bool.true_and])
        have hmx2 := Lib.hid hmx.out
        have hBc : Hid (∀ W2, Below wr.heap.size wr W2 → Bd w w0 W q0 q7 ⟨es, er, em, ev⟩ N' B W2 ∧ OwE w0.heap.size (lst N' B) (.slice (some ⟨g, 0, none⟩) N' cap) W2 ∧ W2.heap[q0]? = some (.cells #[.slice (some ⟨g, 0, none⟩) N' cap] TEs (0, 0)) ∧
            W2.cell? ⟨q7, 0, none⟩ = some (.int .i64 es) ∧ W2.cell? ⟨q7, 1, none⟩ = some (.int .i64 er) ∧ W2.cell? ⟨q7, 2, none⟩ = some (.int .i64 em) ∧ W2.cell? ⟨q7, 3, none⟩ = some (.string ev) ∧
            W2.cell? ⟨g, k * 4, none⟩ = some (.int .i64 (B k).s) ∧ W2.cell? ⟨g, k * 4 + 1, none⟩ = some (.int .i64 (B k).r) ∧ W2.cell? ⟨g, k * 4 + 2, none⟩ = some (.int .i64 (B k).m) ∧ W2.cell? ⟨g, k * 4 + 3, none⟩ = some (.string (B k).v) ∧ (∀ i, W2.frozen? ⟨g, i, none⟩ = false)) := Lib.hid fun W2 hb => by
          have h2 := hBd.later hb
          obtain ⟨p0, p1, p2, p3⟩ := h2.cells
          refine ⟨h2, rows_later hO hb, (hb.block _ (Array.getElem?_eq_some_iff.1 hv).1).trans hv, p0, p1, p2, p3, (hb.cell (p := ⟨g, _, none⟩) hg2).trans b0, (hb.cell (p := ⟨g, _, none⟩) hg2).trans b1, (hb.cell (p := ⟨g, _, none⟩) hg2).trans b2, (hb.cell (p := ⟨g, _, none⟩) hg2).trans b3, fun i => ?_⟩
          rcases (rows_later hO hb).2 with ⟨h1, _⟩ | ⟨g', cap', cur, h1, _, hg, _⟩
          · cases h1
          · injection h1 with h1
            injection h1 with h1
            injection h1 with h1 _
            subst h1
            exact frozen_of_row W2 _ i _ TE hg
        have hWr : Hid (∀ W2 W3, Below wr.heap.size wr W2 → Keeps (fun j => j = q0 ∨ (Value.slice (some ⟨g, 0, none⟩) N' cap).ownBlock = some j) W2 W3 → OwE w0.heap.size (lst N' (fun j => if j = k then ⟨es, er, em, ev⟩ else B j)) (.slice (some ⟨g, 0, none⟩) N' cap) W3 → W3.heap[q0]? = some (.cells #[.slice (some ⟨g, 0, none⟩) N' cap] TEs (0, 0)) →
            Bd w w0 W q0 q7 ⟨es, er, em, ev⟩ N' (fun j => if j = k then ⟨es, er, em, ev⟩ else B j) W3) := Lib.hid fun W2 W3 hb hK hr hq => by
          obtain ⟨h2, _, h3, _⟩ := hBc.out W2 hb
          exact h2.wrote h3 hqq h7 hK ⟨_, hq, hr, hn7⟩
        generalize ordV er em (B k).r (B k).m = o at *
        generalize hGT : gtB er em (B k).r (B k).m = G at *
        generalize (B k).r = br at *
        generalize (B k).m = bm at *
        clear hBz hBd hO hv hcs hll hmx hek hGT
        replace hn7 := Lib.hid hn7
        gi_wp2
        gi_region_with (refine ⟨trivial, ?_⟩; gi_at_call 29; refine (((callsIn_wide.2 (hOk.out _))).inRound _).mono ?_; rintro e2 w2 ⟨rfl, hb2⟩)
        all_goals
          have hbW : Below wr.heap.size wr w2 := (Below.refl _ _).drew.trans hb2
          obtain ⟨h2, hr2, hq2, p0, p1, p2, p3, r0, r1, r2, r3, fz⟩ := hBc.out _ hbW
          replace h2 := Lib.hid h2
          replace hr2 := Lib.hid hr2
          replace hq2 := Lib.hid hq2
          replace hbW := Lib.hid hbW
          clear hb2
          cases G with
          | false =>
            gi_wp2
            refine ⟨h2.out.ko.from _, h2.out.kq, h2.out.bel, h2.out.kq0, _, hq2.out, ?_⟩
            have e1 : lst (topN bb (vals (pre ++ [(⟨⟨es, er, em, ev⟩, he1, he2⟩ : Em bb)]))) (bestF bb (vals (pre ++ [(⟨⟨es, er, em, ev⟩, he1, he2⟩ : Em bb)]))) = lst N' B := by
              rw [hmx2.out.1, ← hNN.out]
              refine lst_congr fun j hj => ?_
              rw [hmx2.out.2]
              by_cases e : j = k
              · subst e; rw [hpk2.out]; rfl
              · exact hpk.out j e
            rw [e1]
            exact hr2.out
          | true =>
            have f0 := fz (k * 4)
            have f1 := fz (k * 4 + 1)
            have f2 := fz (k * 4 + 2)
            have f3 := fz (k * 4 + 3)
            clear fz
            gi_wp2
            have h5 := hWr.out w2 ((((w2.setCell ⟨g, k * 4, none⟩ (.int .i64 es)).setCell ⟨g, k * 4 + 1, none⟩ (.int .i64 er)).setCell ⟨g, k * 4 + 2, none⟩ (.int .i64 em)).setCell ⟨g, k * 4 + 3, none⟩ (.string ev)) hbW.out
              (((((Keeps.refl _ w2).setCell (p := ⟨g, _, none⟩) (.inl (.inr rfl)) _).setCell (p := ⟨g, _, none⟩) (.inl (.inr rfl)) _).setCell (p := ⟨g, _, none⟩) (.inl (.inr rfl)) _).setCell (p := ⟨g, _, none⟩) (.inl (.inr rfl)) _)
              (by
                have := hr2.out.set4 k (by rw [lst_len]; exact hkN) ⟨es, er, em, ev⟩
                rwa [lst_set _ hkN] at this)
              (by
                have hg0 : q0 ≠ g := fun e => by have := hg1; omega
                rw [Below.heap_setCell _ _ _ _ hg0, Below.heap_setCell _ _ _ _ hg0, Below.heap_setCell _ _ _ _ hg0, Below.heap_setCell _ _ _ _ hg0]
                exact hq2.out)
            obtain ⟨v5, hv5, hr5, _⟩ := h5.row
            refine ⟨h5.ko.from _, h5.kq, h5.bel, h5.kq0, _, hv5, ?_⟩
            have e1 : lst (topN bb (vals (pre ++ [(⟨⟨es, er, em, ev⟩, he1, he2⟩ : Em bb)]))) (bestF bb (vals (pre ++ [(⟨⟨es, er, em, ev⟩, he1, he2⟩ : Em bb)]))) = lst N' (fun j => if j = k then ⟨es, er, em, ev⟩ else B j) := by
              rw [hmx2.out.1, ← hNN.out]
              refine lst_congr fun j hj => ?_
              rw [hmx2.out.2]
              by_cases e : j = k
              · subst e; rw [hpk2.out, if_pos rfl]; rfl
              · rw [if_neg e]; exact hpk.out j e
            rw [e1]
            exact hr5
  case done =>
    intro D ys W hD hys hM hK
    obtain ⟨e1, e2⟩ := hfin.out ys hys
    obtain ⟨hb, hk0, v, hv, hr⟩ := hM
    rw [e1, e2] at hr
    obtain ⟨a, m, cap, rfl⟩ : ∃ a m cap, v = .slice a m cap := by
      obtain ⟨a, c, e⟩ := rows_form hr
      exact ⟨a, _, c, e⟩
    have dv := (Boxed.cell (show Boxed W q0 TEs (.slice a m cap) from hv))
    have hfinal : Hid (OwE w.heap.size (lst (topN bb (allK s.P 7)) (bestF bb (allK s.P 7))) (.slice a m cap) (W.putObj D (.deferred none)) ∧ Below w.heap.size w (W.putObj D (.deferred none))) := Lib.hid (by
      have hg := grownBy_putObj' W D (.deferred none)
      refine ⟨rows_base (rows_kept hr fun k hk => hg.block k (World.ownsRow.lt hr k hk).2 fun e => ?_) hszw, hb.grown hg hb.size (fun k e => by cases e; omega)⟩
      cases e
      rcases hr.2 with ⟨h1, _⟩ | ⟨g, cap', cur, h1, _, hgb, _⟩
      · rw [h1] at hk; cases hk
      · rw [h1] at hk
        injection hk with hk
        have hk : g = D := hk
        subst hk
        rw [hgb] at hK
        cases hK)
    clear hfin hTop hst hr hb hk0
    simp only [Exit.inBlock, Exit.then]
    go_at_K
    gi_wp2
    refine ⟨by simp, .inl ⟨_, _, rfl, run_takeDeferred hK, ?_⟩⟩
    exact ⟨.slice a m cap, by simp [results, Try.results36, go_sem], _, rfl, hfinal.out⟩
  case stop =>
    intro D c pre W _ _ hf
    exact hf.elim
end Go.Proofs.Ytffiooclkchoiaa.Prp
