/- The sum of all values. -/
import Derived.Test.YtiahjacjpakkdaaS22
namespace Go.Proofs.Ytiahjacjpakkdaa.Sto
open Go.RowKit Go.Maps Go.Lib Go.Shelf
open Cnt (Ct cA OkC)
open Rng (tx nameOk bl bl_eq bl_irrefl bl_trans)
set_option linter.unusedVariables false
set_option linter.unusedSimpArgs false
set_option maxRecDepth 20000
attribute [local go_sem] Oper.semAt_some

abbrev ints (L : List Int) : List Value := L.map fun z => .int .i64 z
def valsM (M : List En) : List Int := M.map (·.2.v)
/-- The state between two rounds of Sum. -/
structure SmAt (w : World) (q0 : Nat) (L : List Int) (W : World) : Prop where
  box : ∃ u, Boxed W q0 69 u ∧ W.ownsRow q0 2 1 u L.length (ints L)
  bel : Below w.heap.size w W
  siz : q0 + 2 ≤ W.heap.size
theorem sm_from {w : World} {q0 : Nat} {f : List En → List Int} (B : Nat) (hB : w.heap.size ≤ B ∧ q0 < B) : OwnFrom B (fun (pre : List En) W => SmAt w q0 (f pre) W) := by
  rintro pre W W' row ⟨⟨u, h1, h2⟩, h3, h4⟩ hg hr
  refine ⟨⟨u, h1.kept hg fun e => ?_, rows_keep h2 hg fun r e => (hr r e).2⟩, h3.grown hg h3.size fun r e => by have := (hr r e).1; omega, Nat.le_trans h4 hg.size⟩
  have := (hr _ e.symm).1
  omega
theorem SmAt.later {w : World} {q0 : Nat} {L : List Int} {W W' : World} (h : SmAt w q0 L W) (hb : Below W.heap.size W W') : SmAt w q0 L W' := by
  obtain ⟨⟨u, h1, h2⟩, h3, h4⟩ := h
  exact ⟨⟨u, h1.kept (grown_b hb) (by simp), rows_later h2 hb⟩, h3.trans (hb.mono h3.size), Nat.le_trans h4 hb.size⟩
theorem info_i : (Try.prog.info? 2).map (fun i => (i.zero, i.size, i.bytes)) = some (some (.int .i64 0), 1, 8) := by kernel_rfl
def sumE (M : List En) : Int := if Num.okB (valsM M).sum then 0 else 7
def sumV (M : List En) : Int := if Num.okB (valsM M).sum then (valsM M).sum else 0
theorem nsum_any {W : World} {base : Nat} {u : Value} {L : List Int} (h : W.ownsRow base 2 1 u L.length (ints L)) (hl : L.length ≤ 64) (hok : ∀ z ∈ L, Num.Ok z) :
    Calls Try.prog 33 #[u] W fun e w' => e = .returned (.tuple #[.int .i64 (if Num.okB L.sum then L.sum else 0), .int .i64 (if Num.okB L.sum then 0 else 7)]) ∧ Below W.heap.size W w' := by
  have hs := Num.sumB_good hok
  rcases h.2 with ⟨rfl, hz⟩ | ⟨g, cap, cur, rfl, _, hg, h1, h2, h3, h4⟩
  · obtain rfl : L = [] := List.eq_nil_of_length_eq_zero hz
    have := Num.sum_none none 0 W
    simpa [Num.okB, Num.Ok] using this
  · rcases Nat.eq_zero_or_pos L.length with h0 | hp
    · obtain rfl : L = [] := List.eq_nil_of_length_eq_zero h0
      have := Num.sum_none (some ⟨g, 0, none⟩) cap W
      simpa [Num.okB, Num.Ok] using this
    · have hc : ∀ i, i < L.length → W.cell? ⟨g, 0 + i, none⟩ = some (.int .i64 (L.getD i 0)) := fun i hi => by
        rw [Nat.zero_add, cell_of_row W g i cur _ _ hg, ← Array.getElem?_toList]
        have h5 : cur.toList[i]? = (cur.toList.take (L.length * 1))[i]? := by rw [List.getElem?_take, if_pos (by omega)]
        rw [h5, h4]
        simp [ints, List.getElem?_map, List.getElem?_eq_getElem hi, List.getD_eq_getElem?_getD]
      have hz : ∀ i, i < L.length → Num.I64 (L.getD i 0) := fun i hi => by
        have := hok (L.getD i 0) (by rw [List.getD_eq_getElem?_getD, List.getElem?_eq_getElem hi]; exact List.getElem_mem hi)
        exact Num.ok_i64 this
      have := Num.sum_some g 0 cap L W hp (by omega) hc hz
      rw [hs] at this
      exact this
set_option maxRecDepth 100000 in
set_option maxHeartbeats 2000000 in
theorem sum_any {sb b : Nat} {M : List En} (w : World) (x : Sx w sb b M) :
    Calls Try.prog 15 #[.pointer (some ⟨sb, 0, none⟩)] w fun e w' => e = .returned (.tuple #[.int .i64 (sumV M), .int .i64 (sumE M)]) ∧ Below w.heap.size w w' := by
  have hV := Lib.hid (valid_any w x)
  refine (callsIn_wide (n := 7)).1 ?_
  refine callsIn_of_wp_marks Try.func15 rfl trivial ?_ rfl
  simp only [Try.ntmps15, List.size_toArray, List.length_cons, List.length_nil, Nat.reduceAdd, Nat.reduceSub, Array.replicate_succ, Array.replicate_zero, List.push_toArray, List.append_toArray, List.nil_append, List.cons_append]
  gi_wp2_with (first
    | (refine ⟨trivial, ?_⟩; gi_at_call 31; refine (callsIn_wide.2 hV.out).mono ?_; rintro e w' ⟨rfl, rfl⟩)
    | (refine ⟨trivial, ?_⟩; gi_at_call 32; refine (callsIn_wide.2 (ordered_any _ _)).mono ?_; rintro e w' ⟨rfl, rfl⟩))
  obtain ⟨q, hq⟩ : ∃ q, w.heap.size = q := ⟨_, rfl⟩
  obtain ⟨w0, hw0⟩ : ∃ w0, (w.alloc (.cells #[.slice none 0 0] 69)).alloc (.cells #[.pointer (some ⟨sb, 0, none⟩)] 31) = w0 := ⟨_, rfl⟩
  have hz0 : w0.heap.size = q + 2 := by rw [← hw0]; simp; omega
  have hx0 : Sx w0 sb b M := by rw [← hw0]; exact (x.alloc _).alloc _
  have hbl : Below w.heap.size w w0 := by rw [← hw0]; exact ((Below.refl _ _).alloc (Nat.le_refl _) _).alloc (by simp) _
  have hb0 : Boxed w0 q 69 (.slice none 0 0) := by rw [← hw0, ← hq]; exact (Boxed.new w _ _).alloc _
  have hB0 : w0.cell? ⟨q + 1, 0, none⟩ = some (.pointer (some ⟨sb, 0, none⟩)) := by
    rw [← hw0, ← hq]
    have := Boxed.new (w.alloc (.cells #[.slice none 0 0] 69)) 31 (.pointer (some ⟨sb, 0, none⟩))
    rw [World.size_alloc] at this
    exact this.cell
  have hxl := x.lt
  have hst := ordered_stops q (.slice none 0 0) w0 hx0 (q + 1) (by omega) hB0 hb0.cell rfl (by omega) ⟨by omega, by omega, by omega⟩
  have h00 : SmAt w q (valsM ([] : List En)) w0 := ⟨⟨_, hb0, ⟨rfl, .inl ⟨rfl, rfl⟩⟩⟩, hbl, by omega⟩
  have hlen := x.len
  have hok := Lib.hid x.ok
  rw [hq, hw0]
  refine wpIn_rangeFunc_ownH rfl (by omega) (gf := 48) (lb := #[.pointer (some ⟨q + 1, 0, none⟩)]) rfl trivial (enters_of Try.func48 (by kernel_rfl) rfl)
    hst (fun h k => h.trans k) (fun W l o o' hl => Kq.put (by omega) (by omega) W l o o' hl) (Below.refl _ _) (fun _ => rfl)
    (fun pre W => SmAt w q (valsM pre) W) (fun _ _ _ => False) (sm_from _ (by omega)) (fun _ _ _ _ _ hs _ _ => hs) h00
    (fun y a' W => ∃ p, q + 2 ≤ p ∧ W.heap[p]? = some (Cnt.cRow y.2.v y.2.u y.2.d y.2.l y.2.h) ∧ a' = { tmps := #[.pointer (some ⟨sb, 0, none⟩), undef, .int .i64 0, .int .i64 0, .pointer (some ⟨q, 0, none⟩), undef, .pointer (some ⟨p, 0, none⟩), .pointer (some ⟨sb, 0, none⟩), .bool true, .bool false, .pointer (some ⟨sb, 0, none⟩), .func (.func 48) #[] #[.pointer (some ⟨q + 1, 0, none⟩)], .string (tx y.1), vC y.2, undef, undef, undef, undef, undef, undef, undef, undef, undef], defers := [] })
    ?ax ?assign ?body ?done ?stop
  case ax =>
    rintro y a' _ W W' row ⟨p, h1, h2, h3⟩ hg hr
    refine ⟨p, h1, (hg.block p (Array.getElem?_eq_some_iff.1 h2).1 fun e => ?_).trans h2, h3⟩
    obtain ⟨_, o, ho, hc⟩ := hr p e.symm
    rw [h2] at ho
    cases ho
    cases hc
  case assign =>
    rintro l' pre y W K hM hK
    obtain ⟨key, v, u, d, ll, h⟩ := y
    obtain ⟨s, hs⟩ : ∃ s, tx key = s := ⟨_, rfl⟩
    dsimp only [encE] at hK ⊢
    rw [hs] at hK ⊢
    have hA : Below W.heap.size W (W.alloc (Cnt.cRow v u d ll h)) := Cnt.alloc_b _ _
    have hKA := Lib.hid (hK _ _ ((others_below hA).from _) (Kq.of_below hA (by have := hM.siz; omega)) (hM.later hA) ⟨W.heap.size, by have := hM.siz; omega, heap_alloc_new W _, rfl⟩)
    clear hK
    gi_wp2
    exact hKA.out
  case body =>
    rintro l' pre y a' W _ _ hM ⟨p, hp, hpb, rfl⟩ hlt
    obtain ⟨key, v, u, d, ll, h⟩ := y
    obtain ⟨s, hs⟩ : ∃ s, tx key = s := ⟨_, rfl⟩
    dsimp only
    rw [hs]
    have hI : valsM (pre ++ [(key, ⟨v, u, d, ll, h⟩)]) = valsM pre ++ [v] := by simp [valsM]
    replace hI := Lib.hid hI
    have hpl : (valsM pre).length ≤ 64 := by simp [valsM]; omega
    generalize valsM pre = L at *
    obtain ⟨i0, hi, hz1, hz2, hz3⟩ := info_parts info_i
    have hD := Lib.hid (fun (W3 w1 : World) (u v' : Value) (m : Nat) (ys : List Value) (tmp : Obj) (h1 : Boxed W3 q 69 u) (h2 : W3.ownsRow q 2 1 u L.length (ints L)) (h3 : q + 2 ≤ W3.heap.size) (h4 : w1.ownsRow q 2 1 v' m ys) (h5 : (W3.alloc tmp).grownBy w1 u.ownBlock) =>
      Boxed.appended (n₀ := q) h1 (show (69 : TypeId) ≠ 2 by decide) h2 (by omega) (Nat.le_refl _) h4 h5)
    obtain ⟨⟨uu, hbx, hrow⟩, hbel, hsz⟩ := hM
    have cq := hbx.cell
    have cp := cell_of_row W p 0 _ _ _ hpb
    have cp : W.cell? ⟨p, 0, none⟩ = some (.int .i64 v) := cp
    gi_wp2_with (first
      | (gi_at_builtin; refine wpListIn_append_own_at _ rfl _ _ 69 rfl q 2 i0 (.int .i64 0) 1 8 Try.underlying69 hi hz1 hz2 hz3 rfl (by decide) _ _ _ rfl (hrow.alloc _) ⟨W.heap.size, 0, none⟩ 1 1 [.int .i64 v] rfl rfl (cell_one_new _ _ _) (by simp [Value.oneCell']) (by unfold maxLen; omega) (by omega) (by simp; omega) ?_; intro v' w1 hown' hgrow hnil hloc; obtain ⟨g1, g2, g3, g4, g5⟩ := hD.out _ _ _ _ _ _ _ hbx hrow hsz hown' hgrow; obtain ⟨ga, gcap, rfl⟩ := ownsRow_succ hown'; have c4 := g1.cell; have f4 := g1.frozen))
    refine ⟨g4.from _, kq_append hbx hrow hgrow hloc g1, ?_⟩
    show SmAt w q (valsM (pre ++ [(key, ⟨v, u, d, ll, h⟩)])) _
    rw [hI.out]
    refine ⟨⟨_, g2, ?_⟩, hbel.trans (g5.mono (by omega)), Nat.le_trans hsz g5.size⟩
    have e1 : ints (L ++ [v]) = ints L ++ [.int .i64 v] := by simp [ints]
    have e2 : (L ++ [v]).length = L.length + 1 := by simp
    rw [e1, e2]
    exact g3
  case done =>
    rintro D ys W hD hys hM hK
    subst hys
    obtain ⟨⟨uu, hbx, hrow⟩, hbel, hsz⟩ := hM
    have c1 := hbx.cell
    have hNS : Calls Try.prog 33 #[uu] W fun e w' => e = .returned (.tuple #[.int .i64 (sumV ys), .int .i64 (sumE ys)]) ∧ Below W.heap.size W w' := nsum_any hrow (by simp [valsM]; omega) (fun z hz => by
      unfold valsM at hz
      obtain ⟨p, hp, rfl⟩ := List.mem_map.1 hz
      exact (hok.out p hp).2.1)
    replace hNS := Lib.hid hNS
    clear hst hrow hbx
    simp only [Exit.inBlock, Exit.then]
    go_at_K
    gi_wp2_with (refine ⟨trivial, ?_⟩; gi_at_call 33; refine (callsIn_wide.2 hNS.out).mono ?_; rintro e W3 ⟨rfl, hb3⟩)
    have hK3 : W3.heap[D]? = some (.deferred (some [])) := (hb3.block D (Array.getElem?_eq_some_iff.1 hK).1).trans hK
    refine ⟨by simp, .inl ⟨_, _, rfl, run_takeDeferred hK3, ?_⟩⟩
    have hb4 := hbel.trans (hb3.mono hbel.size)
    exact ⟨.tuple #[.int .i64 (sumV ys), .int .i64 (sumE ys)], by simp [results, Try.results15, go_sem], rfl, hb4.grown (grownBy_putObj' W3 D _) hb4.size (fun k e => by cases e; omega)⟩
  case stop =>
    rintro D c pre W _ _ h _
    exact h.elim
end Go.Proofs.Ytiahjacjpakkdaa.Sto
