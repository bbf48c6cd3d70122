/- Tables in memory; valid, New, place, find. -/
import Derived.Test.YtbgjiokocjnjhaaD05
namespace Go.Proofs.Ytbgjiokocjnjhaa.Ded
open Go.RowKit Go.Lib Go.Shelf
open Rng (tx nameOk)
open Eff (TE)
set_option linter.unusedVariables false
set_option linter.unusedSimpArgs false
set_option maxRecDepth 100000

/-- A table in block b: its size n, the row v of its entries. -/
structure Dx (base : Nat) (w : World) (b : Nat) (v : Value) (n : Int) (L : List En) : Prop where
  blk : w.heap[b]? = some (.cells #[.bool true, .int .i64 n, v] TD (0, 0))
  row : Ow base L v w
  ne : v.ownBlock ≠ some b
  hb : base ≤ b
  srt : SrtL L
  ok : ∀ x ∈ L, OkN x
  len : (L.length : Int) ≤ n
  max : n ≤ 2048
variable {base : Nat} {w : World} {b : Nat} {v : Value} {n : Int} {L : List En}
theorem Dx.later {w' : World} (h : Dx base w b v n L) (hb : Below w.heap.size w w') : Dx base w' b v n L :=
  ⟨(hb.block _ (Array.getElem?_eq_some_iff.1 h.blk).1).trans h.blk, h.row.later hb, h.ne, h.hb, h.srt, h.ok, h.len, h.max⟩
/-- .. and where nothing of the table is touched. -/
theorem Dx.kept {w' : World} (h : Dx base w b v n L) (hs : ∀ k, k < w.heap.size → (k = b ∨ v.ownBlock = some k) → w'.heap[k]? = w.heap[k]?) : Dx base w' b v n L :=
  ⟨(hs b (Array.getElem?_eq_some_iff.1 h.blk).1 (.inl rfl)).trans h.blk, h.row.kept fun k hk => hs k (h.row.lt k hk).2 (.inr hk), h.ne, h.hb, h.srt, h.ok, h.len, h.max⟩
theorem Dx.cells (h : Dx base w b v n L) : w.cell? ⟨b, 0, none⟩ = some (.bool true) ∧ w.cell? ⟨b, 1, none⟩ = some (.int .i64 n) ∧ w.cell? ⟨b, 2, none⟩ = some v :=
  ⟨cell_of_row w _ 0 _ TD _ h.blk, cell_of_row w _ 1 _ TD _ h.blk, cell_of_row w _ 2 _ TD _ h.blk⟩
theorem Dx.froz (h : Dx base w b v n L) : w.frozen? ⟨b, 0, none⟩ = false ∧ w.frozen? ⟨b, 1, none⟩ = false ∧ w.frozen? ⟨b, 2, none⟩ = false := by simp [World.frozen?, h.blk]
theorem Dx.lt (h : Dx base w b v n L) : b < w.heap.size := (Array.getElem?_eq_some_iff.1 h.blk).1
theorem Dx.small (h : Dx base w b v n L) : L.length ≤ 2048 := by have := h.len; have := h.max; omega
/-- What is not a table's, and what of it was written. -/
structure But (w w' : World) (b : Nat) (v : Value) : Prop where
  os : w'.os = w.os
  tape : w'.tape = w.tape
  output : w'.output = w.output
  size : w.heap.size ≤ w'.heap.size
  block : ∀ k, k < w.heap.size → k ≠ b → v.ownBlock ≠ some k → w'.heap[k]? = w.heap[k]?
theorem But.below {B : Nat} {w0 w' : World} (h : But w w' b v) (k : Below B w0 w) (hlt : b < w.heap.size) (hb : B ≤ b) (hv : ∀ j, v.ownBlock = some j → B ≤ j) : Below B w0 w' :=
  k.trans ⟨h.os, h.tape, h.output, h.size, fun j hj => h.block j (by omega) (by omega) (fun e => by have := hv j e; omega)⟩
/-- What stands behind a pointer that is no table's: nil, or a zero one. -/
def Nv (p : Value) (w : World) : Prop := p = .pointer none ∨ ∃ b n v, p = .pointer (some ⟨b, 0, none⟩) ∧ w.heap[b]? = some (.cells #[.bool false, n, v] TD (0, 0))
theorem Nv.later {p : Value} {w w' : World} (h : Nv p w) (hb : Below w.heap.size w w') : Nv p w' := by
  rcases h with h | ⟨b, n, v, h, hc⟩
  · exact .inl h
  · exact .inr ⟨b, n, v, h, (hb.block b (Array.getElem?_eq_some_iff.1 hc).1).trans hc⟩
theorem valid_nil (w : World) : Calls Try.prog 37 #[.pointer none] w fun e w' => e = .returned (.bool false) ∧ w = w' := by
  go_enter Try.func37, Try.ntmps37
  go_wp2
  go_ret
  exact ⟨rfl, rfl⟩
theorem valid_at (b : Nat) (m : Bool) (w : World) (h : w.cell? ⟨b, 0, none⟩ = some (.bool m)) : Calls Try.prog 37 #[.pointer (some ⟨b, 0, none⟩)] w fun e w' => e = .returned (.bool m) ∧ w = w' := by
  go_enter Try.func37, Try.ntmps37
  go_wp2
  go_ret
  exact ⟨rfl, rfl⟩
theorem Nv.valid {p : Value} {w : World} (h : Nv p w) : Calls Try.prog 37 #[p] w fun e w' => e = .returned (.bool false) ∧ w = w' := by
  rcases h with rfl | ⟨b, n, v, rfl, hc⟩
  · exact valid_nil w
  · exact valid_at b false w (cell_of_row w _ 0 _ TD _ hc)
theorem Dx.valid (h : Dx base w b v n L) : Calls Try.prog 37 #[.pointer (some ⟨b, 0, none⟩)] w fun e w' => e = .returned (.bool true) ∧ w = w' := valid_at b true w h.cells.1
def NewN (n : Int) (w : World) (e : Ending) (w' : World) : Prop := ∃ b, e = .returned (.tuple #[.pointer (some ⟨b, 0, none⟩), .int .i64 0]) ∧ b = w.heap.size ∧ Dx w.heap.size w' b (.slice none 0 0) n [] ∧ Below w.heap.size w w'
theorem new_ok (n : Int) (w : World) (h0 : 0 ≤ n) (h1 : n ≤ 2048) : Calls Try.prog 12 #[.int .i64 n] w (NewN n w) := by
  have HI : Hid (NewN n w (.returned (.tuple #[.pointer (some ⟨w.heap.size, 0, none⟩), .int .i64 0])) (w.alloc (.cells #[.bool true, .int .i64 n, .slice none 0 0] TD))) :=
    Lib.hid ⟨_, rfl, rfl, ⟨heap_alloc_new _ _, Ow.nil _ _, by simp [Value.ownBlock], Nat.le_refl _, List.Pairwise.nil, (fun x hx => by cases hx), h0, h1⟩, (Below.refl _ _).alloc (Nat.le_refl _) _⟩
  go_enter Try.func12, Try.ntmps12
  go_wp2
  go_ret2
  exact HI.out
theorem new_bad (n : Int) (w : World) (h : n < 0 ∨ 2048 < n) : Calls Try.prog 12 #[.int .i64 n] w fun e w' => e = .returned (.tuple #[.pointer none, .int .i64 2]) ∧ w = w' := by
  rcases h with h | h
  · go_enter Try.func12, Try.ntmps12
    go_wp2
    go_ret2
    exact ⟨rfl, rfl⟩
  · have h' : ¬ n < 0 := by omega
    go_enter Try.func12, Try.ntmps12
    go_wp2
    go_ret2
    exact ⟨rfl, rfl⟩
abbrev eBx (e : Ef) : Obj := .cells #[.int .i64 e.s, .int .i64 e.t, .int .i64 e.p] TE (0, 0)
structure PAt (base : Nat) (w0 : World) (b : Nat) (v : Value) (n : Int) (L : List En) (e : Ef) (W : World) : Prop where
  dx : Dx base W b v n L
  box : W.heap[w0.heap.size]? = some (eBx e)
  bel : Below w0.heap.size w0 W
theorem PAt.later {w0 W W' : World} {e : Ef} (h : PAt base w0 b v n L e W) (hb : Below W.heap.size W W') : PAt base w0 b v n L e W' :=
  ⟨h.dx.later hb, (hb.block _ (Array.getElem?_eq_some_iff.1 h.box).1).trans h.box, h.bel.trans (hb.mono h.bel.size)⟩
theorem PAt.new (h : Dx base w b v n L) (e : Ef) : PAt base w b v n L e (w.alloc (.cells #[.int .i64 e.s, .int .i64 e.t, .int .i64 e.p] TE)) :=
  ⟨h.later (alloc_b _ _), heap_alloc_new _ _, alloc_b _ _⟩
abbrev S6 (base : Nat) (w0 : World) (b : Nat) (v : Value) (n : Int) (L : List En) (e : Ef) (W : World) : Prop :=
  W.cell? ⟨b, 2, none⟩ = some v ∧ W.cell? ⟨w0.heap.size, 0, none⟩ = some (.int .i64 e.s) ∧ W.cell? ⟨w0.heap.size, 1, none⟩ = some (.int .i64 e.t) ∧ W.cell? ⟨w0.heap.size, 2, none⟩ = some (.int .i64 e.p) ∧ PAt base w0 b v n L e W
theorem PAt.s6 {w0 W : World} {e : Ef} (h : PAt base w0 b v n L e W) : S6 base w0 b v n L e W :=
  ⟨h.dx.cells.2.2, cell_of_row W _ 0 _ TE _ h.box, cell_of_row W _ 1 _ TE _ h.box, cell_of_row W _ 2 _ TE _ h.box, h⟩
theorem s6_pat {w0 W : World} {e : Ef} (h : S6 base w0 b v n L e W) : PAt base w0 b v n L e W := h.2.2.2.2
theorem place_any (e : Ef) (h : Dx base w b v n L) : Calls Try.prog 53 #[.pointer (some ⟨b, 0, none⟩), efA e] w (Srch L e w) := by
  have P0 := Lib.hid (PAt.new h e)
  have HK := Lib.hid (fun (W : World) (h : PAt base w b v n L e W) => h.s6)
  have HC := Lib.hid (fun (W : World) (h : PAt base w b v n L e W) => search_any base v L e W h.dx.row h.dx.srt (by have := h.dx.small; omega))
  clear h
  go_enter Try.func53, Try.ntmps53
  go_wp2
  go_region_held3 (S6 base w b v n L e) (first | exact HK.out _ (PAt.later P0.out (Below.refl _ _).drew) | exact HK.out _ (by assumption) | assumption)
    ((go_at_call 80; refine (HC.out _ (s6_pat (by assumption))).mono ?_; rintro r w2 ⟨rfl, hbel⟩; have hn := HK.out _ (PAt.later (s6_pat (by assumption)) hbel); clear hbel))
  rename S6 base w b v n L e _ => hs6
  have S2 := Lib.hid (s6_pat hs6).bel
  go_wp2
  go_ret2
  exact ⟨rfl, S2.out⟩
end Go.Proofs.Ytbgjiokocjnjhaa.Ded
