/- Whether nothing is reserved. -/
import Derived.Test.YtiahjacjpakkdaaS23
namespace Go.Proofs.Ytiahjacjpakkdaa.Sto
open Go.RowKit Go.Maps Go.Lib Go.Shelf
open Cnt (Ct cA OkC quietB)
open Rng (tx nameOk bl bl_eq bl_irrefl bl_trans)
set_option linter.unusedVariables false
set_option linter.unusedSimpArgs false
set_option maxRecDepth 20000
attribute [local go_sem] Oper.semAt_some

def q1B (c : Ct) : Bool := Cnt.okC c && quietB c
theorem quiet1_any (v u d l h : Int) (w : World) :
    Calls Try.prog 35 #[cA v u d l h] w fun e w' => e = .returned (.bool (q1B ⟨v, u, d, l, h⟩)) ∧ Below w.heap.size w w' := by
  have hQ : ∀ W, ∃ z : Int, Calls Try.prog 36 #[cA v u d l h] W fun e w' => e = .returned (.tuple #[.bool (q1B ⟨v, u, d, l, h⟩), .int .i64 z]) ∧ Below W.heap.size W w' := fun W => by
    have := Cnt.quiet_any v u d l h W
    unfold Cnt.quietV at this
    unfold q1B
    cases hc : Cnt.okC ⟨v, u, d, l, h⟩ with
    | true => rw [hc] at this; exact ⟨0, this⟩
    | false => rw [hc] at this; exact ⟨2, this⟩
  replace hQ := Lib.hid hQ
  generalize q1B ⟨v, u, d, l, h⟩ = z at *
  have hy := Cnt.cx_new w v u d l h
  obtain ⟨d0, d1, d2, d3, d4⟩ := hy.cells
  obtain ⟨n, hN⟩ := hQ.out (w.alloc (Cnt.cRow v u d l h))
  replace hN := Lib.hid hN
  clear hQ
  go_enter Try.func35, Try.ntmps35
  go_wp2_with (go_at_call 36; refine hN.out.mono ?_; rintro e w1 ⟨rfl, hb⟩; have hy2 := hy.later hb)
  go_ret
  exact ⟨rfl, hy2.bel⟩
def quietM (M : List En) : Bool := M.all fun p => q1B p.2
/-- The state between two rounds of every. -/
structure QuAt (w : World) (r q : Nat) (W : World) : Prop where
  fn : Boxed W r 74 (.func (.func 35) #[] #[])
  box : Boxed W q 4 (.bool false)
  bel : Below w.heap.size w W
  siz : q + 2 ≤ W.heap.size
theorem QuAt.grown {w : World} {r q : Nat} {W W' : World} {row : Option Nat} (h : QuAt w r q W) (hg : W.grownBy W' row) (hr : ∀ k, row = some k → w.heap.size ≤ k ∧ r ≠ k ∧ q ≠ k) : QuAt w r q W' :=
  ⟨h.fn.kept hg fun e => (hr _ e.symm).2.1 rfl, h.box.kept hg fun e => (hr _ e.symm).2.2 rfl, h.bel.grown hg h.bel.size fun k e => (hr k e).1, Nat.le_trans h.siz hg.size⟩
theorem QuAt.later {w : World} {r q : Nat} {W W' : World} (h : QuAt w r q W) (hb : Below W.heap.size W W') : QuAt w r q W' := h.grown (grown_b hb) (fun k e => by cases e)
theorem qu_from {w : World} {r q : Nat} {f : List En → Prop} (B : Nat) (hB : w.heap.size ≤ B ∧ r < B ∧ q < B) : OwnFrom B (fun (pre : List En) W => f pre ∧ QuAt w r q W) := by
  rintro pre W W' row ⟨h0, h1⟩ hg hr
  exact ⟨h0, h1.grown hg fun k e => by have := (hr k e).1; omega⟩
set_option maxRecDepth 100000 in
set_option maxHeartbeats 2000000 in
theorem every_any {sb b : Nat} {M : List En} (w : World) (x : Sx w sb b M) :
    Calls Try.prog 34 #[.pointer (some ⟨sb, 0, none⟩), .func (.func 35) #[] #[]] w fun e w' => e = .returned (.bool (quietM M)) ∧ Below w.heap.size w w' := by
  refine (callsIn_wide (n := 7)).1 ?_
  refine callsIn_of_wp_marks Try.func34 rfl trivial ?_ rfl
  simp only [Try.ntmps34, List.size_toArray, List.length_cons, List.length_nil, Nat.reduceAdd, Nat.reduceSub, Array.replicate_succ, Array.replicate_zero, List.push_toArray, List.append_toArray, List.nil_append, List.cons_append]
  gi_wp2_with (refine ⟨trivial, ?_⟩; gi_at_call 32; refine (callsIn_wide.2 (ordered_any _ _)).mono ?_; rintro e w' ⟨rfl, rfl⟩)
  obtain ⟨r, hr⟩ : ∃ r, w.heap.size = r := ⟨_, rfl⟩
  obtain ⟨q, hq⟩ : ∃ q, r + 1 = q := ⟨_, rfl⟩
  rw [hr, hq]
  obtain ⟨w0, hw0⟩ : ∃ w0, ((w.alloc (.cells #[.func (.func 35) #[] #[]] 74)).alloc (.cells #[.bool false] 4)).alloc (.cells #[.pointer (some ⟨sb, 0, none⟩)] 31) = w0 := ⟨_, rfl⟩
  rw [hw0]
  have hz0 : w0.heap.size = q + 2 := by rw [← hw0]; simp; omega
  have hx0 : Sx w0 sb b M := by rw [← hw0]; exact ((x.alloc _).alloc _).alloc _
  have hbl : Below w.heap.size w w0 := by rw [← hw0]; exact (((Below.refl _ _).alloc (Nat.le_refl _) _).alloc (by simp) _).alloc (by simp; omega) _
  have hf0 : Boxed w0 r 74 (.func (.func 35) #[] #[]) := by rw [← hw0, ← hr]; exact ((Boxed.new w _ _).alloc _).alloc _
  have hb0 : Boxed w0 q 4 (.bool false) := by
    rw [← hw0, ← hq, ← hr]
    have := (Boxed.new (w.alloc (.cells #[.func (.func 35) #[] #[]] 74)) 4 (.bool false)).alloc (.cells #[.pointer (some ⟨sb, 0, none⟩)] 31)
    rwa [World.size_alloc] at this
  have hB0 : w0.cell? ⟨q + 1, 0, none⟩ = some (.pointer (some ⟨sb, 0, none⟩)) := by
    rw [← hw0, ← hq, ← hr]
    have := Boxed.new ((w.alloc (.cells #[.func (.func 35) #[] #[]] 74)).alloc (.cells #[.bool false] 4)) 31 (.pointer (some ⟨sb, 0, none⟩))
    rw [World.size_alloc, World.size_alloc] at this
    exact this.cell
  have hxl := x.lt
  have hst := ordered_stops q (.bool false) w0 hx0 (q + 1) (by omega) hB0 hb0.cell rfl (by omega) ⟨by omega, by omega, by omega⟩
  have h00 : quietM ([] : List En) = true ∧ QuAt w r q w0 := ⟨rfl, hf0, hb0, hbl, by omega⟩
  have hlen := x.len
  refine wpIn_rangeFunc_ownH rfl (by omega) (gf := 48) (lb := #[.pointer (some ⟨q + 1, 0, none⟩)]) rfl trivial (enters_of Try.func48 (by kernel_rfl) rfl)
    hst (fun h k => h.trans k) (fun W l o o' hl => Kq.put (by omega) (by omega) W l o o' hl) (Below.refl _ _) (fun _ => rfl)
    (fun pre W => quietM pre = true ∧ QuAt w r q W) (fun c pre W => (c = .ret ∧ quietM pre = false) ∧ QuAt w r q W) (qu_from _ (by omega)) (fun c => qu_from _ (by omega)) h00
    (fun y a' W => ∃ p, q + 2 ≤ p ∧ W.heap[p]? = some (Cnt.cRow y.2.v y.2.u y.2.d y.2.l y.2.h) ∧ a' = { tmps := #[.pointer (some ⟨sb, 0, none⟩), .func (.func 35) #[] #[], undef, .pointer (some ⟨r, 0, none⟩), .pointer (some ⟨q, 0, none⟩), undef, .pointer (some ⟨p, 0, none⟩), .pointer (some ⟨sb, 0, none⟩), .func (.func 48) #[] #[.pointer (some ⟨q + 1, 0, none⟩)], .string (tx y.1), vC y.2, undef, undef, undef, undef], defers := [] })
    ?ax ?assign ?body ?done ?stop
  case ax =>
    rintro y a' _ W W' row ⟨p, h1, h2, h3⟩ hg hr
    refine ⟨p, h1, (hg.block p (Array.getElem?_eq_some_iff.1 h2).1 fun e => ?_).trans h2, h3⟩
    obtain ⟨_, o, ho, hc⟩ := hr p e.symm
    rw [h2] at ho
    cases ho
    cases hc
  case assign =>
    rintro l' pre y W K hM hK
    obtain ⟨key, v, u, d, ll, h⟩ := y
    obtain ⟨s, hs⟩ : ∃ s, tx key = s := ⟨_, rfl⟩
    dsimp only [encE] at hK ⊢
    rw [hs] at hK ⊢
    have hA : Below W.heap.size W (W.alloc (Cnt.cRow v u d ll h)) := Cnt.alloc_b _ _
    have hKA := Lib.hid (hK _ _ ((others_below hA).from _) (Kq.of_below hA (by have := hM.2.siz; omega)) ⟨hM.1, hM.2.later hA⟩ ⟨W.heap.size, by have := hM.2.siz; omega, heap_alloc_new W _, rfl⟩)
    clear hK
    gi_wp2
    exact hKA.out
  case body =>
    rintro l' pre y a' W _ _ ⟨hM1, hM⟩ ⟨p, hp, hpb, rfl⟩ hlt
    obtain ⟨key, v, u, d, ll, h⟩ := y
    obtain ⟨s, hs⟩ : ∃ s, tx key = s := ⟨_, rfl⟩
    dsimp only
    rw [hs]
    have hI : quietM (pre ++ [(key, ⟨v, u, d, ll, h⟩)]) = q1B ⟨v, u, d, ll, h⟩ := by
      unfold quietM at hM1 ⊢
      rw [List.all_append, hM1]
      simp
    replace hI := Lib.hid hI
    have hQ := Lib.hid (quiet1_any v u d ll h W)
    have cf := hM.fn.cell
    have hpb : W.heap[p]? = some (Cnt.cRow v u d ll h) := hpb
    have c0 := cell_of_row W p 0 _ _ _ hpb
    have c1 := cell_of_row W p 1 _ _ _ hpb
    have c2 := cell_of_row W p 2 _ _ _ hpb
    have c3 := cell_of_row W p 3 _ _ _ hpb
    have c4 := cell_of_row W p 4 _ _ _ hpb
    have c0 : W.cell? ⟨p, 0, none⟩ = some (.int .i64 v) := c0
    have c1 : W.cell? ⟨p, 1, none⟩ = some (.int .i64 u) := c1
    have c2 : W.cell? ⟨p, 2, none⟩ = some (.int .i64 d) := c2
    have c3 : W.cell? ⟨p, 3, none⟩ = some (.int .i64 ll) := c3
    have c4 : W.cell? ⟨p, 4, none⟩ = some (.int .i64 h) := c4
    cases hz : q1B ⟨v, u, d, ll, h⟩ with
    | true =>
      rw [hz] at hQ hI
      clear hz hM1
      gi_wp2_with (refine ⟨trivial, ?_⟩; gi_at_call 35; refine (((callsIn_wide.2 hQ.out)).inRound _).mono ?_; rintro e W3 ⟨rfl, hb3⟩)
      exact ⟨(others_below hb3).from _, Kq.of_below hb3 (by have := hM.siz; omega), hI.out, hM.later hb3⟩
    | false =>
      rw [hz] at hQ hI
      clear hz hM1
      gi_wp2_with (refine ⟨trivial, ?_⟩; gi_at_call 35; refine (((callsIn_wide.2 hQ.out)).inRound _).mono ?_; rintro e W3 ⟨rfl, hb3⟩; have hM3 := hM.later hb3; have cq := hM3.box.cell; have fq := hM3.box.frozen)
      exact ⟨((others_below hb3).trans (KeepsOthers.setCell _ _ _)).from _, ⟨rfl, hI.out⟩, hM3.fn.kept (grownBy_setCell' W3 q _) (by simp; omega), hM3.box.set _, hM3.bel.setCell (p := ⟨q, 0, none⟩) (by show w.heap.size ≤ q; omega) _, by have := hM3.siz; simpa [World.setCell] using this⟩
  case done =>
    rintro D ys W hD hys ⟨hM1, hM⟩ hK
    subst hys
    have cq := hM.box.cell
    have fq := hM.box.frozen
    replace hM1 := Lib.hid hM1
    clear hst
    simp only [Exit.inBlock, Exit.then]
    go_at_K
    gi_wp2
    have hb1 : Boxed (W.setCell ⟨q, 0, none⟩ (.bool true)) q 4 (.bool true) := hM.box.set _
    have hb2 := hM.bel.setCell (p := ⟨q, 0, none⟩) (by show w.heap.size ≤ q; omega) (.bool true)
    have hK2 : (W.setCell ⟨q, 0, none⟩ (.bool true)).heap[D]? = some (.deferred (some [])) := (Below.heap_setCell _ _ _ D (by show D ≠ q; omega)).trans hK
    generalize W.setCell ⟨q, 0, none⟩ (.bool true) = W2 at *
    have hg5 := grownBy_putObj' W2 D (.deferred none)
    have cr := (hb1.kept hg5 (by simp; omega)).cell
    refine ⟨by simp, .inl ⟨_, _, rfl, run_takeDeferred hK2, ?_⟩⟩
    rw [hM1.out]
    exact ⟨.bool true, by simp [results, Try.results34, go_sem, cr], rfl, hb2.grown hg5 hb2.size (fun k e => by cases e; omega)⟩
  case stop =>
    rintro D c pre W hD ⟨k, rfl⟩ ⟨⟨rfl, hM1⟩, hM⟩ hK
    have cq := hM.box.cell
    have fq := hM.box.frozen
    gi_wp2
    have hg5 := grownBy_putObj' W D (.deferred none)
    have cr := (hM.box.kept hg5 (by simp; omega)).cell
    refine ⟨by simp, .inl ⟨_, _, rfl, run_takeDeferred hK, ?_⟩⟩
    have hM2 : quietM M = false := by
      cases h1 : quietM M with
      | false => rfl
      | true =>
        rw [← hM1]
        unfold quietM at h1 ⊢
        rw [List.all_eq_true] at h1
        exact (List.all_eq_true.2 fun p hp => h1 p (List.mem_of_mem_take hp)).symm
    rw [hM2]
    exact ⟨.bool false, by simp [results, Try.results34, go_sem, cr], rfl, hM.bel.grown hg5 hM.bel.size (fun k e => by cases e; omega)⟩
theorem quiet_any {sb b : Nat} {M : List En} (w : World) (x : Sx w sb b M) :
    Calls Try.prog 20 #[.pointer (some ⟨sb, 0, none⟩)] w fun e w' => e = .returned (.bool (quietM M)) ∧ Below w.heap.size w w' := by
  have hV := Lib.hid (valid_any w x)
  have hE := Lib.hid (every_any w x)
  clear x
  go_enter Try.func20, Try.ntmps20
  go_wp2_with (first
    | (go_at_call 31; refine hV.out.mono ?_; rintro e w' ⟨rfl, rfl⟩)
    | (go_at_call 34; refine hE.out.mono ?_; rintro e w' ⟨rfl, hb⟩))
  go_ret
  exact ⟨rfl, hb⟩
end Go.Proofs.Ytiahjacjpakkdaa.Sto
