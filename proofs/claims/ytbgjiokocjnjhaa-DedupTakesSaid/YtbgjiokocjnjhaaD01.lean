/- Effects: which are valid, and their order. -/
import Derived.Test.YtbgjiokocjnjhaaS09
import Derived.Deep.RegionHeld3
import Derived.Deep.RegionWith
import Derived.BigQuiet
import Derived.Deep.QuietTactic
import Derived.OpenShut
namespace Go.Proofs.Ytbgjiokocjnjhaa.Eff
open Go.RowKit Go.Lib
set_option linter.unusedVariables false
set_option linter.unusedSimpArgs false
set_option maxRecDepth 20000

def cmp_lays_ren : Go.Shelf.Ren := ⟨fun | 122 => 61 | 215 => 84 | n => n, fun | 3 => 3 | 4 => 4 | n => n, fun | n => n⟩
theorem cmp_lays : Go.Proofs.Lays.n122 Try.prog cmp_lays_ren := {
  mixed := by kernel_rfl
  f122 := Try.func61.trans (congrArg some (by kernel_rfl))
  f215 := Try.func84.trans (congrArg some (by kernel_rfl))
  t3 := Try.underlying3
  a3 := Try.isAgg3
  z3 := Try.sizeOf3
  v3 := Try.zeroValue3
  t4 := Try.underlying4
  a4 := Try.isAgg4
  z4 := Try.sizeOf4
  v4 := Try.zeroValue4 }

theorem cmp_any (x y : Int) (w : World) :
    Calls Try.prog 61 #[.int .i64 x, .int .i64 y] w fun e w' => e = .returned (.int .i64 (compareInt x y)) ∧ w = w' := by
  refine (Any.cmp_Compare_int cmp_lays x y w).mono ?_
  rintro e w' ⟨rfl, rfl⟩
  exact ⟨rfl, rfl⟩
/-- An effect that is valid. -/
def effOk (a b p : Int) : Prop := 1 ≤ a ∧ a ≤ 9999 ∧ 0 ≤ b ∧ b ≤ 7 ∧ 1 ≤ p ∧ p ≤ 3
instance (a b p : Int) : Decidable (effOk a b p) := by unfold effOk; exact inferInstance
abbrev TE : TypeId := 23
/-- An effect as a value. -/
def effV (a b p : Int) : Value := .agg #[.int .i64 a, .int .i64 b, .int .i64 p]
def okE (a b p : Int) : Int := if effOk a b p then 0 else 2
theorem check_any (a b p : Int) (w : World) :
    Calls Try.prog 50 #[.agg #[.int .i64 a, .int .i64 b, .int .i64 p]] w fun e w' => e = .returned (.int .i64 (okE a b p)) ∧ Below w.heap.size w w' := by
  have hb : Below w.heap.size w (w.alloc (.cells #[.int .i64 a, .int .i64 b, .int .i64 p] TE)) := (Below.refl _ _).alloc (Nat.le_refl _) _
  by_cases h1 : 1 ≤ a ∧ a ≤ 9999
  · have b1 : decide (1 ≤ a ∧ a ≤ 9999) = true := by simpa using h1
    by_cases h2 : 0 ≤ b ∧ b ≤ 7
    · have b2 : decide (0 ≤ b ∧ b ≤ 7) = true := by simpa using h2
      by_cases h3 : 1 ≤ p ∧ p ≤ 3
      · have b3 : decide (1 ≤ p ∧ p ≤ 3) = true := by simpa using h3
        have e : okE a b p = 0 := if_pos (by unfold effOk; omega)
        rw [e]
        go_enter Try.func50, Try.ntmps50
        go_wp2_with (go_at_call 77; refine (Rng.within_any _ _ _ _).mono ?_; rintro e w' ⟨rfl, rfl⟩)
        go_ret
        exact ⟨rfl, hb⟩
      · have b3 : decide (1 ≤ p ∧ p ≤ 3) = false := by simp; omega
        have e : okE a b p = 2 := if_neg (by unfold effOk; omega)
        rw [e]
        go_enter Try.func50, Try.ntmps50
        go_wp2_with (go_at_call 77; refine (Rng.within_any _ _ _ _).mono ?_; rintro e w' ⟨rfl, rfl⟩)
        go_ret
        exact ⟨rfl, hb⟩
    · have b2 : decide (0 ≤ b ∧ b ≤ 7) = false := by simp; omega
      have e : okE a b p = 2 := if_neg (by unfold effOk; omega)
      rw [e]
      go_enter Try.func50, Try.ntmps50
      go_wp2_with (go_at_call 77; refine (Rng.within_any _ _ _ _).mono ?_; rintro e w' ⟨rfl, rfl⟩)
      go_ret
      exact ⟨rfl, hb⟩
  · have b1 : decide (1 ≤ a ∧ a ≤ 9999) = false := by simp; omega
    have e : okE a b p = 2 := if_neg (by unfold effOk; omega)
    rw [e]
    go_enter Try.func50, Try.ntmps50
    go_wp2_with (go_at_call 77; refine (Rng.within_any _ _ _ _).mono ?_; rintro e w' ⟨rfl, rfl⟩)
    go_ret
    exact ⟨rfl, hb⟩

def orV (x y z : Int) : Int := if x = 0 then (if y = 0 then z else y) else x
theorem or_any (b cap : Nat) (x y z : Int) (w : World) (h0 : w.cell? ⟨b, 0, none⟩ = some (.int .i64 x)) (h1 : w.cell? ⟨b, 1, none⟩ = some (.int .i64 y)) (h2 : w.cell? ⟨b, 2, none⟩ = some (.int .i64 z)) :
    Calls Try.prog 60 #[.slice (some ⟨b, 0, none⟩) 3 cap] w fun e w' => e = .returned (.int .i64 (orV x y z)) ∧ w = w' := by
  by_cases hx : x = 0
  · subst hx
    by_cases hy : y = 0
    · subst hy
      by_cases hz : z = 0
      · subst hz
        go_enter Try.func60, Try.ntmps60
        go_wp2
        refine wp_loop_rounds 4 ?_
        rw [rounds_succ]
        go_wp2
        rw [rounds_succ]
        go_wp2
        rw [rounds_succ]
        go_wp2
        rw [rounds_succ]
        go_wp2
        go_ret
        exact ⟨rfl, rfl⟩
      · have d1 : (z == 0) = false := by simpa using hz
        go_enter Try.func60, Try.ntmps60
        go_wp2
        refine wp_loop_rounds 4 ?_
        rw [rounds_succ]
        go_wp2
        rw [rounds_succ]
        go_wp2
        rw [rounds_succ]
        go_wp2
        go_ret
        exact ⟨rfl, rfl⟩
    · have d1 : (y == 0) = false := by simpa using hy
      have e := Lib.hid (show orV 0 y z = y by unfold orV; rw [if_pos rfl, if_neg hy])
      go_enter Try.func60, Try.ntmps60
      go_wp2
      refine wp_loop_rounds 4 ?_
      rw [rounds_succ]
      go_wp2
      rw [rounds_succ]
      go_wp2
      go_ret
      exact ⟨by rw [e.out]; rfl, rfl⟩
  · have d1 : (x == 0) = false := by simpa using hx
    have e := Lib.hid (show orV x y z = x by unfold orV; rw [if_neg hx])
    go_enter Try.func60, Try.ntmps60
    go_wp2
    refine wp_loop_rounds 4 ?_
    rw [rounds_succ]
    go_wp2
    go_ret
    exact ⟨by rw [e.out]; rfl, rfl⟩

abbrev eBox (a b p : Int) : Obj := .cells #[.int .i64 a, .int .i64 b, .int .i64 p] TE (0, 0)
/-- The two effects in their boxes. -/
structure OAt (w : World) (a b p x y z : Int) (W : World) : Prop where
  b1 : W.heap[w.heap.size]? = some (eBox a b p)
  b2 : W.heap[w.heap.size + 1]? = some (eBox x y z)
  bel : Below w.heap.size w W
theorem OAt.later {w W W' : World} {a b p x y z : Int} (h : OAt w a b p x y z W) (hb : Below W.heap.size W W') : OAt w a b p x y z W' :=
  ⟨(hb.block _ (Array.getElem?_eq_some_iff.1 h.b1).1).trans h.b1, (hb.block _ (Array.getElem?_eq_some_iff.1 h.b2).1).trans h.b2, h.bel.trans (hb.mono h.bel.size)⟩
theorem OAt.drew {w W : World} {a b p x y z : Int} (h : OAt w a b p x y z W) : OAt w a b p x y z W.drew := h.later (Below.refl _ _).drew
theorem OAt.alloc {w W : World} {a b p x y z : Int} (h : OAt w a b p x y z W) (o : Obj) : OAt w a b p x y z (W.alloc o) := h.later ((Below.refl _ _).alloc (Nat.le_refl _) _)
theorem OAt.cells {w W : World} {a b p x y z : Int} (h : OAt w a b p x y z W) : W.cell? ⟨w.heap.size, 0, none⟩ = some (.int .i64 a) ∧ W.cell? ⟨w.heap.size, 1, none⟩ = some (.int .i64 b) ∧ W.cell? ⟨w.heap.size, 2, none⟩ = some (.int .i64 p) ∧
    W.cell? ⟨w.heap.size + 1, 0, none⟩ = some (.int .i64 x) ∧ W.cell? ⟨w.heap.size + 1, 1, none⟩ = some (.int .i64 y) ∧ W.cell? ⟨w.heap.size + 1, 2, none⟩ = some (.int .i64 z) ∧ OAt w a b p x y z W :=
  ⟨cell_of_row W _ 0 _ TE _ h.b1, cell_of_row W _ 1 _ TE _ h.b1, cell_of_row W _ 2 _ TE _ h.b1, cell_of_row W _ 0 _ TE _ h.b2, cell_of_row W _ 1 _ TE _ h.b2, cell_of_row W _ 2 _ TE _ h.b2, h⟩
theorem oat_new (w : World) (a b p x y z : Int) : OAt w a b p x y z ((w.alloc (.cells #[.int .i64 a, .int .i64 b, .int .i64 p] TE)).alloc (.cells #[.int .i64 x, .int .i64 y, .int .i64 z] TE)) := by
  have hb : Below w.heap.size w (w.alloc (.cells #[.int .i64 a, .int .i64 b, .int .i64 p] TE)) := (Below.refl _ _).alloc (Nat.le_refl _) _
  have hs : (w.alloc (.cells #[.int .i64 a, .int .i64 b, .int .i64 p] TE)).heap.size = w.heap.size + 1 := by show (w.heap.push _).size = _; rw [Array.size_push]
  refine ⟨?_, ?_, hb.alloc (by omega) _⟩
  · rw [Below.heap_alloc _ _ _ (by omega)]; exact heap_alloc_new _ _
  · rw [← hs]; exact heap_alloc_new _ _
theorem new3 (w : World) (oA oB : Obj) (u v t : Value) (T : TypeId) : (((w.alloc oA).alloc oB).alloc (.cells #[u, v, t] T)).drew.heap[w.heap.size + 1 + 1]? = some (.cells #[u, v, t] T (0, 0)) := by
  have hs : ((w.alloc oA).alloc oB).heap.size = w.heap.size + 1 + 1 := by
    show ((w.heap.push _).push _).size = _
    rw [Array.size_push, Array.size_push]
  rw [← hs]
  exact heap_alloc_new _ _
def ordV (a b p x y z : Int) : Int := orV (compareInt a x) (compareInt b y) (compareInt p z)
theorem order_any (a b p x y z : Int) (w : World) :
    Calls Try.prog 25 #[.agg #[.int .i64 a, .int .i64 b, .int .i64 p], .agg #[.int .i64 x, .int .i64 y, .int .i64 z]] w fun e w' => e = .returned (.int .i64 (ordV a b p x y z)) ∧ Below w.heap.size w w' := by
  have O0 := oat_new w a b p x y z
  have HE : Hid (∀ W, OAt w a b p x y z W → W.cell? ⟨w.heap.size, 0, none⟩ = some (.int .i64 a) ∧ W.cell? ⟨w.heap.size, 1, none⟩ = some (.int .i64 b) ∧ W.cell? ⟨w.heap.size, 2, none⟩ = some (.int .i64 p) ∧
    W.cell? ⟨w.heap.size + 1, 0, none⟩ = some (.int .i64 x) ∧ W.cell? ⟨w.heap.size + 1, 1, none⟩ = some (.int .i64 y) ∧ W.cell? ⟨w.heap.size + 1, 2, none⟩ = some (.int .i64 z) ∧ OAt w a b p x y z W) := fun W h => h.cells
  go_enter Try.func25, Try.ntmps25
  go_wp2
  have HC := Lib.hid (fun u v W => cmp_any u v W)
  go_region_held3 (fun W => W.cell? ⟨w.heap.size, 0, none⟩ = some (.int .i64 a) ∧ W.cell? ⟨w.heap.size, 1, none⟩ = some (.int .i64 b) ∧ W.cell? ⟨w.heap.size, 2, none⟩ = some (.int .i64 p) ∧
    W.cell? ⟨w.heap.size + 1, 0, none⟩ = some (.int .i64 x) ∧ W.cell? ⟨w.heap.size + 1, 1, none⟩ = some (.int .i64 y) ∧ W.cell? ⟨w.heap.size + 1, 2, none⟩ = some (.int .i64 z) ∧ OAt w a b p x y z W)
    ((first | exact HE.out _ O0.drew | exact HE.out _ (O0.drew.alloc _) | exact HE.out _ (O0.alloc _).drew | exact HE.out _ (by assumption) | assumption))
    (first
      | (go_at_call 61; refine (HC.out _ _ _).mono ?_; rintro e w2 ⟨rfl, rfl⟩)
      | (go_at_call 60; refine (or_any _ _ _ _ _ _ (cell_of_row _ _ 0 _ _ _ (new3 _ _ _ _ _ _ _)) (cell_of_row _ _ 1 _ _ _ (new3 _ _ _ _ _ _ _)) (cell_of_row _ _ 2 _ _ _ (new3 _ _ _ _ _ _ _))).mono ?_; rintro e w2 ⟨rfl, rfl⟩))
  go_wp2
  go_ret
  exact ⟨rfl, (O0.alloc _).drew.bel⟩
end Go.Proofs.Ytbgjiokocjnjhaa.Eff
