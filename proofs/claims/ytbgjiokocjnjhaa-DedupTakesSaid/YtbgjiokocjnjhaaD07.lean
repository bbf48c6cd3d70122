/- find, Get, Key, Len, Room, isReply. -/
import Derived.Test.YtbgjiokocjnjhaaD06
import Derived.Laws.Tables
namespace Go.Proofs.Ytbgjiokocjnjhaa.Ded
open Go.RowKit Go.Lib Go.Shelf
open Rng (tx nameOk)
open Eff (TE)
set_option linter.unusedVariables false
set_option linter.unusedSimpArgs false
set_option maxRecDepth 100000
variable {base : Nat} {w : World} {b : Nat} {v : Value} {n : Int} {L : List En}

/-- A block was written whole. -/
structure StB (w1 w2 : World) (q : Nat) (o : Obj) : Prop where
  blk : w2.heap[q]? = some o
  oth : ∀ k, k ≠ q → w2.heap[k]? = w1.heap[k]?
  size : w2.heap.size = w1.heap.size
  os : w2.os = w1.os
  tape : w2.tape = w1.tape
  output : w2.output = w1.output
theorem StB.below {B : Nat} {w w1 w2 : World} {q : Nat} {o : Obj} (s : StB w1 w2 q o) (hb : Below B w w1) (hq : B ≤ q) : Below B w w2 :=
  hb.trans ⟨s.os, s.tape, s.output, by rw [s.size]; exact Nat.le_refl _, fun k hk => s.oth k (by omega)⟩
theorem store_bx {ops : Array Oper} {rest : List Oper} {o : Oper} {a : Act} {w : World} {Q : Exit → Act → World → Prop} (hgd : o.guard = none) (ty : TypeId) (x y : Operand) (ho : o.op = .store ty x y)
    (g : Nat) (cs old : Array Value) (hx : a.eval x = .pointer (some ⟨g, 0, none⟩)) (hy : a.eval y = .agg cs)
    (hg : w.heap[g]? = some (.cells old ty (0, 0))) (hi : (Try.prog.info? ty).map (·.size) = some cs.size) (hs : old.size = cs.size) (h1 : cs.all (·.oneCell') = true)
    (h : ∀ w2, StB w w2 g (.cells cs ty (0, 0)) → wpList Try.prog ops Q rest (a.put o.dst undef) w2) : wpList Try.prog ops Q (o :: rest) a w := by
  exact wpList_store_row hgd ty x y ho g _ hx hy ty _ hg hi hs h1 (h _ ⟨setRow_heap w g _ _ _ _ hg, fun k hk => setRow_other w g k _ hk, size_setRow _ _ _, rfl, rfl, rfl⟩)
theorem size_TN : (Try.prog.info? TN).map (·.size) = some 7 := by kernel_rfl
abbrev TRp : TypeId := 43
theorem size_TRp : (Try.prog.info? TRp).map (·.size) = some 3 := by kernel_rfl
theorem plc_at {L : List En} (h : SrtL L) {e : Ef} {x : En} (hx : getL L e = some x) : L[plc L e]? = some x := by
  rw [plc_get h] at hx
  cases hq : L[plc L e]? with
  | none => rw [hq] at hx; cases hx
  | some y =>
    rw [hq] at hx
    by_cases hy : y.ef = e
    · simp only [hy, if_true, Option.some.injEq] at hx
      rw [hx]
    · simp only [hy, if_false] at hx
      cases hx
abbrev zEn : En := ⟨0, 0, [], ⟨0, 0, 0⟩, []⟩
def Fnd (x : En) (h : Bool) (w : World) (r : Ending) (w' : World) : Prop := r = .returned (.tuple #[enA x, .bool h]) ∧ Below w.heap.size w w'
theorem nBx (x : En) : (.cells (ec x).toArray TN (0, 0) : Obj) = .cells #[.int .i64 x.er, .int .i64 x.nm, .string (tx x.da), .int .i64 x.ef.s, .int .i64 x.ef.t, .int .i64 x.ef.p, .string (tx x.ky)] TN (0, 0) := rfl
/-- An entry's box. -/
structure NBx (w0 : World) (q : Nat) (x : En) (W : World) : Prop where
  blk : W.heap[q]? = some (.cells (ec x).toArray TN (0, 0))
  bel : Below w0.heap.size w0 W
theorem NBx.cells {w0 W : World} {q : Nat} {x : En} (h : NBx w0 q x W) : W.cell? ⟨q, 0, none⟩ = some (.int .i64 x.er) ∧ W.cell? ⟨q, 1, none⟩ = some (.int .i64 x.nm) ∧ W.cell? ⟨q, 2, none⟩ = some (.string (tx x.da)) ∧ W.cell? ⟨q, 3, none⟩ = some (.int .i64 x.ef.s) ∧ W.cell? ⟨q, 4, none⟩ = some (.int .i64 x.ef.t) ∧ W.cell? ⟨q, 5, none⟩ = some (.int .i64 x.ef.p) ∧ W.cell? ⟨q, 6, none⟩ = some (.string (tx x.ky)) :=
  ⟨cell_of_row W _ 0 _ TN _ h.blk, cell_of_row W _ 1 _ TN _ h.blk, cell_of_row W _ 2 _ TN _ h.blk, cell_of_row W _ 3 _ TN _ h.blk, cell_of_row W _ 4 _ TN _ h.blk, cell_of_row W _ 5 _ TN _ h.blk, cell_of_row W _ 6 _ TN _ h.blk⟩
theorem tx_nil : tx [] = ⟨#[]⟩ := rfl
theorem find_nv (p : Value) (e : Ef) (w : World) (h : Nv p w) : Calls Try.prog 62 #[p, efA e] w (Fnd zEn false w) := by
  have hb : Below w.heap.size w ((w.alloc (.cells #[.int .i64 e.s, .int .i64 e.t, .int .i64 e.p] TE)).alloc (.cells #[.int .i64 0, .int .i64 0, .string ⟨#[]⟩, .int .i64 0, .int .i64 0, .int .i64 0, .string ⟨#[]⟩] TN)) := (alloc_b _ _).alloc (by simp) _
  have HV := Lib.hid (h.later hb).valid
  have HB := Lib.hid hb
  clear h hb
  go_enter Try.func62, Try.ntmps62
  go_wp2_with ((go_at_call 37; refine HV.out.mono ?_; rintro r w2 ⟨rfl, rfl⟩))
  exact bodyPost_ret (v := .tuple #[enA zEn, .bool false]) (by simp [results, Try.results62, go_sem, tx_nil]) rfl ⟨rfl, HB.out⟩
/-- The boxes of find: the effect, the result. -/
structure FAt (base : Nat) (w0 : World) (b : Nat) (v : Value) (n : Int) (L : List En) (e : Ef) (W : World) : Prop where
  dx : Dx base W b v n L
  box : W.heap[w0.heap.size]? = some (eBx e)
  res : W.heap[w0.heap.size + 1]? = some (.cells #[.int .i64 0, .int .i64 0, .string ⟨#[]⟩, .int .i64 0, .int .i64 0, .int .i64 0, .string ⟨#[]⟩] TN (0, 0))
  bel : Below w0.heap.size w0 W
theorem FAt.later {w0 W W' : World} {e : Ef} (h : FAt base w0 b v n L e W) (hb : Below W.heap.size W W') : FAt base w0 b v n L e W' :=
  ⟨h.dx.later hb, (hb.block _ (Array.getElem?_eq_some_iff.1 h.box).1).trans h.box, (hb.block _ (Array.getElem?_eq_some_iff.1 h.res).1).trans h.res, h.bel.trans (hb.mono h.bel.size)⟩
theorem FAt.new (h : Dx base w b v n L) (e : Ef) : FAt base w b v n L e ((w.alloc (.cells #[.int .i64 e.s, .int .i64 e.t, .int .i64 e.p] TE)).alloc (.cells #[.int .i64 0, .int .i64 0, .string ⟨#[]⟩, .int .i64 0, .int .i64 0, .int .i64 0, .string ⟨#[]⟩] TN)) := by
  have hb : Below w.heap.size w ((w.alloc (.cells #[.int .i64 e.s, .int .i64 e.t, .int .i64 e.p] TE)).alloc (.cells #[.int .i64 0, .int .i64 0, .string ⟨#[]⟩, .int .i64 0, .int .i64 0, .int .i64 0, .string ⟨#[]⟩] TN)) := (alloc_b _ _).alloc (by simp) _
  have h2 := heap_alloc_new (w.alloc (.cells #[.int .i64 e.s, .int .i64 e.t, .int .i64 e.p] TE)) (.cells #[.int .i64 0, .int .i64 0, .string ⟨#[]⟩, .int .i64 0, .int .i64 0, .int .i64 0, .string ⟨#[]⟩] TN)
  rw [World.size_alloc] at h2
  refine ⟨h.later hb, ?_, h2, hb⟩
  rw [Below.heap_alloc _ _ _ (by simp)]
  exact heap_alloc_new _ _
theorem FAt.cells {w0 W : World} {e : Ef} (h : FAt base w0 b v n L e W) : W.cell? ⟨b, 2, none⟩ = some v ∧ W.cell? ⟨w0.heap.size, 0, none⟩ = some (.int .i64 e.s) ∧ W.cell? ⟨w0.heap.size, 1, none⟩ = some (.int .i64 e.t) ∧ W.cell? ⟨w0.heap.size, 2, none⟩ = some (.int .i64 e.p) :=
  ⟨h.dx.cells.2.2, cell_of_row W _ 0 _ TE _ h.box, cell_of_row W _ 1 _ TE _ h.box, cell_of_row W _ 2 _ TE _ h.box⟩
theorem find_no (e : Ef) (h : Dx base w b v n L) (hg : getL L e = none) : Calls Try.prog 62 #[.pointer (some ⟨b, 0, none⟩), efA e] w (Fnd zEn false w) := by
  have F0 := FAt.new h e
  obtain ⟨c0, c1, c2, c3⟩ := F0.cells
  have HV := Lib.hid F0.dx.valid
  have HP := Lib.hid (fun e' => place_any e' F0.dx)
  have hh : hasB L e = false := by unfold hasB; rw [hg]; rfl
  have HF := Lib.hid F0
  clear h F0 hg
  have HS : Hid (∀ (W : World) (r : Ending) (W' : World), Srch L e W r W' → r = .returned (.tuple #[.int .i64 (plc L e), .bool false]) ∧ Below W.heap.size W W') := Lib.hid fun W r W' h => by unfold Srch at h; rwa [hh] at h
  clear hh
  go_enter Try.func62, Try.ntmps62
  go_wp2_with (first
    | (go_at_call 37; refine HV.out.mono ?_; rintro r w2 ⟨rfl, rfl⟩)
    | (go_at_call 53; refine (HP.out _).mono ?_; rintro r w2 hr; obtain ⟨rfl, hbel⟩ := HS.out _ _ _ hr; clear hr; have F1 := Lib.hid (HF.out.later hbel); clear hbel)
    | (refine store_bx rfl TN _ _ rfl (w.heap.size + 1) (ec zEn).toArray _ rfl rfl F1.out.res size_TN rfl (by simp [Value.oneCell']) ?_; intro w3 hs3; have hN := Lib.hid (NBx.mk hs3.blk (hs3.below F1.out.bel (by omega))); clear hs3))
  obtain ⟨d0, d1, d2, d3, d4, d5, d6⟩ := hN.out.cells
  exact bodyPost_ret (v := .tuple #[enA zEn, .bool false]) (by simp [results, Try.results62, go_sem, d0, d1, d2, d3, d4, d5, d6]) rfl ⟨rfl, hN.out.bel⟩
theorem Ow.row7 {W : World} {g m cap : Nat} {L : List En} (h : Ow base L (.slice (some ⟨g, 0, none⟩) m cap) W) {k : Nat} {x : En} (hk : L[k]? = some x) :
    W.cell? ⟨g, k * 7, none⟩ = some (.int .i64 x.er) ∧ W.cell? ⟨g, k * 7 + 1, none⟩ = some (.int .i64 x.nm) ∧ W.cell? ⟨g, k * 7 + 2, none⟩ = some (.string (tx x.da)) ∧ W.cell? ⟨g, k * 7 + 3, none⟩ = some (.int .i64 x.ef.s) ∧
    W.cell? ⟨g, k * 7 + 4, none⟩ = some (.int .i64 x.ef.t) ∧ W.cell? ⟨g, k * 7 + 5, none⟩ = some (.int .i64 x.ef.p) ∧ W.cell? ⟨g, k * 7 + 6, none⟩ = some (.string (tx x.ky)) := by
  obtain ⟨_, ⟨h1, _⟩ | ⟨g', cap', cur', h1, _, hg', _, _, hsz', ht'⟩⟩ := h
  · cases h1
  · injection h1 with e1 e2 e3
    injection e1 with e4
    injection e4 with e5
    subst e5
    exact Ded.row7 (cap := 0) hg' ht' hk
theorem find_yes (e : Ef) (x : En) (h : Dx base w b v n L) (hg : getL L e = some x) : Calls Try.prog 62 #[.pointer (some ⟨b, 0, none⟩), efA e] w (Fnd x true w) := by
  have F0 := FAt.new h e
  obtain ⟨c0, c1, c2, c3⟩ := F0.cells
  have HV := Lib.hid F0.dx.valid
  have HP := Lib.hid (fun e' => place_any e' F0.dx)
  have hh : hasB L e = true := by unfold hasB; rw [hg]; rfl
  have hx := plc_at h.srt hg
  have hlt : plc L e < L.length := (List.getElem?_eq_some_iff.1 hx).1
  have HF := Lib.hid F0
  have HS : Hid (∀ (W : World) (r : Ending) (W' : World), Srch L e W r W' → r = .returned (.tuple #[.int .i64 (plc L e), .bool true]) ∧ Below W.heap.size W W') := Lib.hid fun W r W' h => by unfold Srch at h; rwa [hh] at h
  obtain ⟨hfl, ⟨_, h0⟩ | ⟨g, cap, cur, rfl, hgb, hgg, hle, hm, hsz, ht⟩⟩ := h.row
  · omega
  clear h F0 hg hh hfl ht hsz hgg
  generalize plc L e = k at *
  have HX := Lib.hid hx
  clear hx
  have hs : L.length ≤ 2048 := HF.out.dx.small
  go_enter Try.func62, Try.ntmps62
  go_wp2_with (first
    | (go_at_call 37; refine HV.out.mono ?_; rintro r w2 ⟨rfl, rfl⟩)
    | (go_at_call 53; refine (HP.out _).mono ?_; rintro r w2 hr; obtain ⟨rfl, hbel⟩ := HS.out _ _ _ hr; clear hr; have F1 := Lib.hid (HF.out.later hbel); clear hbel; obtain ⟨d0, d1, d2, d3⟩ := F1.out.cells; obtain ⟨e0, e1, e2, e3, e4, e5, e6⟩ := F1.out.dx.row.row7 HX.out)
    | (refine store_bx rfl TN _ _ rfl (w.heap.size + 1) (ec x).toArray _ rfl rfl F1.out.res size_TN rfl (by simp [Value.oneCell']) ?_; intro w3 hs3; have hN := Lib.hid (NBx.mk hs3.blk (hs3.below F1.out.bel (by omega))); clear hs3))
  obtain ⟨d0, d1, d2, d3, d4, d5, d6⟩ := hN.out.cells
  exact bodyPost_ret (v := .tuple #[enA x, .bool true]) (by simp [results, Try.results62, go_sem, d0, d1, d2, d3, d4, d5, d6]) rfl ⟨rfl, hN.out.bel⟩
end Go.Proofs.Ytbgjiokocjnjhaa.Ded
