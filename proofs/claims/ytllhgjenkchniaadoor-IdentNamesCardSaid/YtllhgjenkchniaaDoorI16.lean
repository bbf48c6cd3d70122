/- The order of effects: cmp.Or, Order. -/
import Derived.Test.YtllhgjenkchniaaDoorI15
namespace Go.Proofs.YtllhgjenkchniaaDoor.Ident
open Go.RowKit Go.Lib
set_option linter.unusedVariables false
set_option linter.unusedSimpArgs false
set_option maxRecDepth 20000

def orV (x y z : Int) : Int := if x = 0 then (if y = 0 then z else y) else x
theorem or_any (b cap : Nat) (x y z : Int) (w : World) (h0 : w.cell? ⟨b, 0, none⟩ = some (.int .i64 x)) (h1 : w.cell? ⟨b, 1, none⟩ = some (.int .i64 y)) (h2 : w.cell? ⟨b, 2, none⟩ = some (.int .i64 z)) :
    Calls Tryd.prog 49 #[.slice (some ⟨b, 0, none⟩) 3 cap] w fun e w' => e = .returned (.int .i64 (orV x y z)) ∧ w = w' := by
  by_cases hx : x = 0
  · subst hx
    by_cases hy : y = 0
    · subst hy
      by_cases hz : z = 0
      · subst hz
        go_enter Tryd.func49, Tryd.ntmps49
        go_wp2
        refine wp_loop_rounds 4 ?_
        rw [rounds_succ]
        go_wp2
        rw [rounds_succ]
        go_wp2
        rw [rounds_succ]
        go_wp2
        rw [rounds_succ]
        go_wp2
        go_ret
        exact ⟨rfl, rfl⟩
      · have d1 : (z == 0) = false := by simpa using hz
        go_enter Tryd.func49, Tryd.ntmps49
        go_wp2
        refine wp_loop_rounds 4 ?_
        rw [rounds_succ]
        go_wp2
        rw [rounds_succ]
        go_wp2
        rw [rounds_succ]
        go_wp2
        go_ret
        exact ⟨rfl, rfl⟩
    · have d1 : (y == 0) = false := by simpa using hy
      have e := Lib.hid (show orV 0 y z = y by unfold orV; rw [if_pos rfl, if_neg hy])
      go_enter Tryd.func49, Tryd.ntmps49
      go_wp2
      refine wp_loop_rounds 4 ?_
      rw [rounds_succ]
      go_wp2
      rw [rounds_succ]
      go_wp2
      go_ret
      exact ⟨by rw [e.out]; rfl, rfl⟩
  · have d1 : (x == 0) = false := by simpa using hx
    have e := Lib.hid (show orV x y z = x by unfold orV; rw [if_neg hx])
    go_enter Tryd.func49, Tryd.ntmps49
    go_wp2
    refine wp_loop_rounds 4 ?_
    rw [rounds_succ]
    go_wp2
    go_ret
    exact ⟨by rw [e.out]; rfl, rfl⟩

/-- The two effects in their boxes. -/
structure OAt (w : World) (a b p x y z : Int) (W : World) : Prop where
  b1 : W.heap[w.heap.size]? = some (eBox a b p)
  b2 : W.heap[w.heap.size + 1]? = some (eBox x y z)
  bel : Below w.heap.size w W
theorem OAt.later {w W W' : World} {a b p x y z : Int} (h : OAt w a b p x y z W) (hb : Below W.heap.size W W') : OAt w a b p x y z W' :=
  ⟨(hb.block _ (Array.getElem?_eq_some_iff.1 h.b1).1).trans h.b1, (hb.block _ (Array.getElem?_eq_some_iff.1 h.b2).1).trans h.b2, h.bel.trans (hb.mono h.bel.size)⟩
theorem OAt.drew {w W : World} {a b p x y z : Int} (h : OAt w a b p x y z W) : OAt w a b p x y z W.drew := h.later (Below.refl _ _).drew
theorem OAt.alloc {w W : World} {a b p x y z : Int} (h : OAt w a b p x y z W) (o : Obj) : OAt w a b p x y z (W.alloc o) := h.later ((Below.refl _ _).alloc (Nat.le_refl _) _)
theorem OAt.cells {w W : World} {a b p x y z : Int} (h : OAt w a b p x y z W) : W.cell? ⟨w.heap.size, 0, none⟩ = some (.int .i64 a) ∧ W.cell? ⟨w.heap.size, 1, none⟩ = some (.int .i64 b) ∧ W.cell? ⟨w.heap.size, 2, none⟩ = some (.int .i64 p) ∧
    W.cell? ⟨w.heap.size + 1, 0, none⟩ = some (.int .i64 x) ∧ W.cell? ⟨w.heap.size + 1, 1, none⟩ = some (.int .i64 y) ∧ W.cell? ⟨w.heap.size + 1, 2, none⟩ = some (.int .i64 z) ∧ OAt w a b p x y z W :=
  ⟨cell_of_row W _ 0 _ TE _ h.b1, cell_of_row W _ 1 _ TE _ h.b1, cell_of_row W _ 2 _ TE _ h.b1, cell_of_row W _ 0 _ TE _ h.b2, cell_of_row W _ 1 _ TE _ h.b2, cell_of_row W _ 2 _ TE _ h.b2, h⟩
theorem oat_new (w : World) (a b p x y z : Int) : OAt w a b p x y z ((w.alloc (.cells #[.int .i64 a, .int .i64 b, .int .i64 p] TE)).alloc (.cells #[.int .i64 x, .int .i64 y, .int .i64 z] TE)) := by
  have hb : Below w.heap.size w (w.alloc (.cells #[.int .i64 a, .int .i64 b, .int .i64 p] TE)) := (Below.refl _ _).alloc (Nat.le_refl _) _
  have hs : (w.alloc (.cells #[.int .i64 a, .int .i64 b, .int .i64 p] TE)).heap.size = w.heap.size + 1 := by show (w.heap.push _).size = _; rw [Array.size_push]
  refine ⟨?_, ?_, hb.alloc (by omega) _⟩
  · rw [Below.heap_alloc _ _ _ (by omega)]; exact heap_alloc_new _ _
  · rw [← hs]; exact heap_alloc_new _ _
theorem new3 (w : World) (oA oB : Obj) (u v t : Value) (T : TypeId) : (((w.alloc oA).alloc oB).alloc (.cells #[u, v, t] T)).drew.heap[w.heap.size + 1 + 1]? = some (.cells #[u, v, t] T (0, 0)) := by
  have hs : ((w.alloc oA).alloc oB).heap.size = w.heap.size + 1 + 1 := by
    show ((w.heap.push _).push _).size = _
    rw [Array.size_push, Array.size_push]
  rw [← hs]
  exact heap_alloc_new _ _
def ordV (a b p x y z : Int) : Int := orV (compareInt a x) (compareInt b y) (compareInt p z)
theorem order_any (a b p x y z : Int) (w : World) :
    Calls Tryd.prog 32 #[.agg #[.int .i64 a, .int .i64 b, .int .i64 p], .agg #[.int .i64 x, .int .i64 y, .int .i64 z]] w fun e w' => e = .returned (.int .i64 (ordV a b p x y z)) ∧ Below w.heap.size w w' := by
  have O0 := oat_new w a b p x y z
  have HE : Hid (∀ W, OAt w a b p x y z W → W.cell? ⟨w.heap.size, 0, none⟩ = some (.int .i64 a) ∧ W.cell? ⟨w.heap.size, 1, none⟩ = some (.int .i64 b) ∧ W.cell? ⟨w.heap.size, 2, none⟩ = some (.int .i64 p) ∧
    W.cell? ⟨w.heap.size + 1, 0, none⟩ = some (.int .i64 x) ∧ W.cell? ⟨w.heap.size + 1, 1, none⟩ = some (.int .i64 y) ∧ W.cell? ⟨w.heap.size + 1, 2, none⟩ = some (.int .i64 z) ∧ OAt w a b p x y z W) := fun W h => h.cells
  go_enter Tryd.func32, Tryd.ntmps32
  go_wp2
  have HC := Lib.hid (fun u v W => cmp_any u v W)
  go_region_held3 (fun W => W.cell? ⟨w.heap.size, 0, none⟩ = some (.int .i64 a) ∧ W.cell? ⟨w.heap.size, 1, none⟩ = some (.int .i64 b) ∧ W.cell? ⟨w.heap.size, 2, none⟩ = some (.int .i64 p) ∧
    W.cell? ⟨w.heap.size + 1, 0, none⟩ = some (.int .i64 x) ∧ W.cell? ⟨w.heap.size + 1, 1, none⟩ = some (.int .i64 y) ∧ W.cell? ⟨w.heap.size + 1, 2, none⟩ = some (.int .i64 z) ∧ OAt w a b p x y z W)
    ((first | exact HE.out _ O0.drew | exact HE.out _ (O0.drew.alloc _) | exact HE.out _ (O0.alloc _).drew | exact HE.out _ (by assumption) | assumption))
    (first
      | (go_at_call 50; refine (HC.out _ _ _).mono ?_; rintro e w2 ⟨rfl, rfl⟩)
      | (go_at_call 49; refine (or_any _ _ _ _ _ _ (cell_of_row _ _ 0 _ _ _ (new3 _ _ _ _ _ _ _)) (cell_of_row _ _ 1 _ _ _ (new3 _ _ _ _ _ _ _)) (cell_of_row _ _ 2 _ _ _ (new3 _ _ _ _ _ _ _))).mono ?_; rintro e w2 ⟨rfl, rfl⟩))
  go_wp2
  go_ret
  exact ⟨rfl, (O0.alloc _).drew.bel⟩
end Go.Proofs.YtllhgjenkchniaaDoor.Ident
