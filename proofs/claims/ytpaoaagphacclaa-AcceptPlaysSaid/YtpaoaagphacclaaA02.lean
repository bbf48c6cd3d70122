/- Ballots at this program: cmp.Compare, ballot.Check, ballot.Order (out of stage 10's texts). -/
import Derived.Test.YtpaoaagphacclaaA01
import Derived.Shelf.Small.Wraps
import Derived.Shelf.GgClosure.Gives
import Derived.Laws.Concat
import Derived.RegionTactic
import Derived.WalkKit
import Derived.Lib.Hide
import Derived.BigCall
import Derived.BigGuard
import Derived.BigQuiet
import Derived.Deep.QuietTactic
import Derived.Deep.RegionHeld3
import Derived.Deep.RegionWith
import Derived.Below
namespace Go.Proofs.Ytpaoaagphacclaa.Bal
open Go.RowKit Go.Lib
set_option linter.unusedVariables false
set_option linter.unusedSimpArgs false
set_option maxRecDepth 100000
theorem alloc_b (W : World) (o : Obj) : Below W.heap.size W (W.alloc o) := (Below.refl _ _).alloc (Nat.le_refl _) _
def cmp_lays_ren : Go.Shelf.Ren := ⟨fun | 122 => 53 | 215 => 60 | n => n, fun | 3 => 3 | 4 => 4 | n => n, fun | n => n⟩
theorem cmp_lays : Go.Proofs.Lays.n122 Try.prog cmp_lays_ren := {
  mixed := by kernel_rfl
  f122 := Try.func53.trans (congrArg some (by kernel_rfl))
  f215 := Try.func60.trans (congrArg some (by kernel_rfl))
  t3 := Try.underlying3
  a3 := Try.isAgg3
  z3 := Try.sizeOf3
  v3 := Try.zeroValue3
  t4 := Try.underlying4
  a4 := Try.isAgg4
  z4 := Try.sizeOf4
  v4 := Try.zeroValue4 }

theorem cmp_any (x y : Int) (w : World) :
    Calls Try.prog 53 #[.int .i64 x, .int .i64 y] w fun e w' => e = .returned (.int .i64 (compareInt x y)) ∧ w = w' := by
  refine (Any.cmp_Compare_int cmp_lays x y w).mono ?_
  rintro e w' ⟨rfl, rfl⟩
  exact ⟨rfl, rfl⟩
abbrev TB : TypeId := 33
def bOk (n r m : Int) : Prop := (r = 0 ∧ m = 0) ∨ (1 ≤ r ∧ r ≤ 1073741824 ∧ 0 ≤ m ∧ m < n)
instance (n r m : Int) : Decidable (bOk n r m) := by unfold bOk; exact inferInstance
def ckB (r m n : Int) : Int := if (1 ≤ n ∧ n ≤ 7) ∧ bOk n r m then 0 else 2
theorem wr {x : Int} (h0 : -9223372036854775808 ≤ x) (h1 : x ≤ 9223372036854775807) : IntKind.i64.wrap x = x := by rw [IntKind.wrap_i64]; omega

/-- A ballot in a box of the call's own. -/
structure Bx (w : World) (q : Nat) (r m : Int) (w' : World) : Prop where
  blk : w'.heap[q]? = some (.cells #[.int .i64 r, .int .i64 m] TB (0, 0))
  bel : Below w.heap.size w w'
theorem Bx.lt {w w' : World} {q : Nat} {r m : Int} (h : Bx w q r m w') : q < w'.heap.size := (Array.getElem?_eq_some_iff.1 h.blk).1
theorem Bx.later {w w' w2 : World} {q : Nat} {r m : Int} (h : Bx w q r m w') (hb : Below w'.heap.size w' w2) : Bx w q r m w2 :=
  ⟨(hb.block _ h.lt).trans h.blk, h.bel.trans (hb.mono h.bel.size)⟩
theorem Bx.drew {w w' : World} {q : Nat} {r m : Int} (h : Bx w q r m w') : Bx w q r m w'.drew := h.later (Below.refl _ _).drew
theorem Bx.alloc {w w' : World} {q : Nat} {r m : Int} (h : Bx w q r m w') (o : Obj) : Bx w q r m (w'.alloc o) := h.later (alloc_b _ _)
theorem Bx.cells {w w' : World} {q : Nat} {r m : Int} (h : Bx w q r m w') :
    w'.cell? ⟨q, 0, none⟩ = some (.int .i64 r) ∧ w'.cell? ⟨q, 1, none⟩ = some (.int .i64 m) ∧ w'.frozen? ⟨q, 0, none⟩ = false ∧ w'.frozen? ⟨q, 1, none⟩ = false :=
  ⟨cell_of_row _ _ 0 _ _ _ h.blk, cell_of_row _ _ 1 _ _ _ h.blk, frozen_of_row _ _ 0 _ _ h.blk, frozen_of_row _ _ 1 _ _ h.blk⟩
theorem bx_new (w : World) (r m : Int) : Bx w w.heap.size r m (w.alloc (.cells #[.int .i64 r, .int .i64 m] TB)) := ⟨heap_alloc_new _ _, alloc_b _ _⟩
theorem bx_at {w w1 : World} (h : Below w.heap.size w w1) (r m : Int) : Bx w w1.heap.size r m (w1.alloc (.cells #[.int .i64 r, .int .i64 m] TB)) := ⟨heap_alloc_new _ _, h.trans ((alloc_b _ _).mono h.size)⟩
theorem bx_new2 (w : World) (o : Obj) (r m : Int) : Bx w (w.heap.size + 1) r m ((w.alloc o).alloc (.cells #[.int .i64 r, .int .i64 m] TB)) := by
  have h := bx_at (alloc_b w o) r m
  have hs : (w.alloc o).heap.size = w.heap.size + 1 := by show (w.heap.push _).size = _; rw [Array.size_push]
  rwa [hs] at h
theorem box_set {w : World} {B : Nat} {x0 y0 : Int} (h : w.heap[B]? = some (.cells #[.int .i64 x0, .int .i64 y0] TB (0, 0))) (x y : Int) :
    ((w.setCell ⟨B, 0, none⟩ (.int .i64 x)).setCell ⟨B, 1, none⟩ (.int .i64 y)).heap[B]? = some (.cells #[.int .i64 x, .int .i64 y] TB (0, 0)) :=
  heap_setCell_same (w.setCell ⟨B, 0, none⟩ (.int .i64 x)) B 1 _ _ _ (heap_setCell_same w B 0 _ _ _ h)
theorem Bx.set {w w' : World} {q : Nat} {r m : Int} (h : Bx w q r m w') (hq : w.heap.size ≤ q) (x y : Int) :
    Bx w q x y ((w'.setCell ⟨q, 0, none⟩ (.int .i64 x)).setCell ⟨q, 1, none⟩ (.int .i64 y)) :=
  ⟨box_set h.blk x y, (h.bel.setCell hq _).setCell hq _⟩
theorem Bx.set1 {w w' : World} {q : Nat} {r m : Int} (h : Bx w q r m w') (hq : w.heap.size ≤ q) (x : Int) :
    Bx w q x m (w'.setCell ⟨q, 0, none⟩ (.int .i64 x)) :=
  ⟨heap_setCell_same w' q 0 _ _ _ h.blk, h.bel.setCell hq _⟩
theorem Bx.other {w w' : World} {q b i : Nat} {r m : Int} (h : Bx w q r m w') (hq : w.heap.size ≤ b) (hn : q ≠ b) (v : Value) :
    Bx w q r m (w'.setCell ⟨b, i, none⟩ v) :=
  ⟨(Below.heap_setCell _ _ _ _ hn).trans h.blk, h.bel.setCell hq _⟩
theorem res2 {fn : Func} {t : Tmp} (hfn : fn.results = #[.cell t TB]) (tmps : Array Value) {w W : World} {q : Nat} {r m : Int} (h : tmps[t]?.getD undef = .pointer (some ⟨q, 0, none⟩)) (hb : Bx w q r m W) :
    (results fn tmps).run Try.prog W = .ok (.agg #[.int .i64 r, .int .i64 m]) W := by
  obtain ⟨c0, c1, _, _⟩ := hb.cells
  simp [results, hfn, go_sem, h, c0, c1]
theorem res2e {fn : Func} {t u : Tmp} (hfn : fn.results = #[.cell t TB, .tmp u]) (tmps : Array Value) {w W : World} {q : Nat} {r m : Int} (h : tmps[t]?.getD undef = .pointer (some ⟨q, 0, none⟩)) (hb : Bx w q r m W) :
    (results fn tmps).run Try.prog W = .ok (.tuple #[.agg #[.int .i64 r, .int .i64 m], tmps.getD u undef]) W := by
  obtain ⟨c0, c1, _, _⟩ := hb.cells
  simp [results, hfn, go_sem, h, c0, c1]

def eqB (r m r' m' : Int) : Bool := decide (r = r' ∧ m = m')
theorem eqB_t {r m r' m' : Int} (h : r = r' ∧ m = m') : eqB r m r' m' = true := decide_eq_true h
theorem eqB_f {r m r' m' : Int} (h : ¬ (r = r' ∧ m = m')) : eqB r m r' m' = false := decide_eq_false h
theorem eq_b (r m r' m' : Int) (w : World) : (Op.equalIn 10000 TB (.agg #[.int .i64 r, .int .i64 m]) (.agg #[.int .i64 r', .int .i64 m'])).run Try.prog w = .ok (eqB r m r' m') w := by
  have e : eqB r m r' m' = (r == r' && m == m') := by
    unfold eqB
    rw [Bool.decide_and]
    rfl
  rw [e]
  simp [go_sem]
  by_cases h1 : r = r' <;> by_cases h2 : m = m' <;> simp [*]

theorem within_any (n lo hi : Int) (w : World) :
    Calls Try.prog 62 #[.int .i64 n, .int .i64 lo, .int .i64 hi] w fun e w' => e = .returned (.bool (decide (lo ≤ n ∧ n ≤ hi))) ∧ w = w' := by
  by_cases h1 : lo ≤ n
  · have b1 : decide (lo ≤ n) = true := by simpa using h1
    go_enter Try.func62, Try.ntmps62
    go_wp2
    go_ret
    exact ⟨by simp [h1], rfl⟩
  · have b1 : decide (lo ≤ n) = false := by simpa using h1
    go_enter Try.func62, Try.ntmps62
    go_wp2
    go_ret
    exact ⟨by simp [h1], rfl⟩
theorem count_any (n : Int) (w : World) :
    Calls Try.prog 61 #[.int .i64 n] w fun e w' => e = .returned (.bool (decide (1 ≤ n ∧ n ≤ 7))) ∧ w = w' := by
  go_enter Try.func61, Try.ntmps61
  go_wp2_with (go_at_call 62; refine (within_any _ _ _ _).mono ?_; rintro e w' ⟨rfl, rfl⟩)
  go_ret
  exact ⟨by rw [Bool.decide_and]; rfl, rfl⟩
theorem node_any (m n : Int) (h1 : 1 ≤ n) (h2 : n ≤ 7) (w : World) :
    Calls Try.prog 63 #[.int .i64 m, .int .i64 n] w fun e w' => e = .returned (.bool (decide (0 ≤ m ∧ m ≤ n - 1))) ∧ w = w' := by
  have r1 : IntKind.i64.wrap (n - 1) = n - 1 := wr (by omega) (by omega)
  go_enter Try.func63, Try.ntmps63
  go_wp2_with (go_at_call 62; refine (within_any _ _ _ _).mono ?_; rintro e w' ⟨rfl, rfl⟩)
  go_ret
  exact ⟨by rw [Bool.decide_and]; rfl, rfl⟩
theorem node7 (m : Int) (w : World) :
    Calls Try.prog 63 #[.int .i64 m, .int .i64 7] w fun e w' => e = .returned (.bool (decide (0 ≤ m ∧ m ≤ 6))) ∧ w = w' := node_any m 7 (by omega) (by omega) w

theorem check_any (r m n : Int) (w : World) :
    Calls Try.prog 54 #[.agg #[.int .i64 r, .int .i64 m], .int .i64 n] w fun e w' => e = .returned (.int .i64 (ckB r m n)) ∧ Below w.heap.size w w' := by
  have hx := bx_new w r m
  obtain ⟨c0, c1, _, _⟩ := hx.cells
  replace hx := Lib.hid hx.bel
  by_cases hn : 1 ≤ n ∧ n ≤ 7
  · have b0 : decide (1 ≤ n ∧ n ≤ 7) = true := by simpa using hn
    have HN := Lib.hid (fun W => node_any m n hn.1 hn.2 W)
    by_cases hz : r = 0 ∧ m = 0
    · have e := Lib.hid (show ckB r m n = 0 from if_pos ⟨hn, .inl hz⟩)
      have hq := fun W => eq_b r m 0 0 W
      rw [eqB_t hz] at hq
      clear hn hz
      go_enter Try.func54, Try.ntmps54
      go_wp2_with (go_at_call 61; refine (count_any _ _).mono ?_; rintro e w' ⟨rfl, rfl⟩)
      go_ret
      exact ⟨by rw [e.out]; rfl, hx.out⟩
    · have hq := fun W => eq_b r m 0 0 W
      rw [eqB_f hz] at hq
      by_cases h1 : 1 ≤ r ∧ r ≤ 1073741824
      · have b1 : decide (1 ≤ r ∧ r ≤ 1073741824) = true := by simpa using h1
        by_cases h2 : 0 ≤ m ∧ m ≤ n - 1
        · have b2 : decide (0 ≤ m ∧ m ≤ n - 1) = true := by simpa using h2
          have e := Lib.hid (show ckB r m n = 0 from if_pos ⟨hn, .inr (by omega)⟩)
          clear hn hz h1 h2
          go_enter Try.func54, Try.ntmps54
          go_wp2_with (first
            | (go_at_call 61; refine (count_any _ _).mono ?_; rintro e w' ⟨rfl, rfl⟩)
            | (go_at_call 62; refine (within_any _ _ _ _).mono ?_; rintro e w' ⟨rfl, rfl⟩)
            | (go_at_call 63; refine (HN.out _).mono ?_; rintro e w' ⟨rfl, rfl⟩))
          go_ret
          exact ⟨by rw [e.out]; rfl, hx.out⟩
        · have b2 : decide (0 ≤ m ∧ m ≤ n - 1) = false := by simp; omega
          have e := Lib.hid (show ckB r m n = 2 from if_neg (by rintro ⟨_, h | h⟩; exact hz h; omega))
          clear hn hz h1 h2
          go_enter Try.func54, Try.ntmps54
          go_wp2_with (first
            | (go_at_call 61; refine (count_any _ _).mono ?_; rintro e w' ⟨rfl, rfl⟩)
            | (go_at_call 62; refine (within_any _ _ _ _).mono ?_; rintro e w' ⟨rfl, rfl⟩)
            | (go_at_call 63; refine (HN.out _).mono ?_; rintro e w' ⟨rfl, rfl⟩))
          go_ret
          exact ⟨by rw [e.out]; rfl, hx.out⟩
      · have b1 : decide (1 ≤ r ∧ r ≤ 1073741824) = false := by simp; omega
        have e := Lib.hid (show ckB r m n = 2 from if_neg (by rintro ⟨_, h | h⟩; exact hz h; omega))
        clear hn hz h1
        go_enter Try.func54, Try.ntmps54
        go_wp2_with (first
          | (go_at_call 61; refine (count_any _ _).mono ?_; rintro e w' ⟨rfl, rfl⟩)
          | (go_at_call 62; refine (within_any _ _ _ _).mono ?_; rintro e w' ⟨rfl, rfl⟩)
          | (go_at_call 63; refine (HN.out _).mono ?_; rintro e w' ⟨rfl, rfl⟩))
        go_ret
        exact ⟨by rw [e.out]; rfl, hx.out⟩
  · have b0 : decide (1 ≤ n ∧ n ≤ 7) = false := by simp; omega
    have e := Lib.hid (show ckB r m n = 2 from if_neg (fun h => hn h.1))
    clear hn
    go_enter Try.func54, Try.ntmps54
    go_wp2_with (go_at_call 61; refine (count_any _ _).mono ?_; rintro e w' ⟨rfl, rfl⟩)
    go_ret
    exact ⟨by rw [e.out]; rfl, hx.out⟩

/-! The order. -/
def fdV (x y : Int) : Int := if x = 0 then y else x
theorem fd_any (b cap : Nat) (x y : Int) (w : World) (h0 : w.cell? ⟨b, 0, none⟩ = some (.int .i64 x)) (h1 : w.cell? ⟨b, 1, none⟩ = some (.int .i64 y)) :
    Calls Try.prog 52 #[.slice (some ⟨b, 0, none⟩) 2 cap] w fun e w' => e = .returned (.int .i64 (fdV x y)) ∧ w = w' := by
  by_cases hx : x = 0
  · subst hx
    by_cases hy : y = 0
    · subst hy
      go_enter Try.func52, Try.ntmps52
      go_wp2
      refine wp_loop_rounds 3 ?_
      rw [rounds_succ]
      go_wp2
      rw [rounds_succ]
      go_wp2
      rw [rounds_succ]
      go_wp2
      go_ret
      exact ⟨rfl, rfl⟩
    · have d1 : (y == 0) = false := by simpa using hy
      go_enter Try.func52, Try.ntmps52
      go_wp2
      refine wp_loop_rounds 3 ?_
      rw [rounds_succ]
      go_wp2
      rw [rounds_succ]
      go_wp2
      go_ret
      exact ⟨rfl, rfl⟩
  · have d1 : (x == 0) = false := by simpa using hx
    have e := Lib.hid (show fdV x y = x from if_neg hx)
    go_enter Try.func52, Try.ntmps52
    go_wp2
    refine wp_loop_rounds 3 ?_
    rw [rounds_succ]
    go_wp2
    go_ret
    exact ⟨by rw [e.out]; rfl, rfl⟩

/-- The two ballots in their boxes. -/
structure OAt (w : World) (a b x y : Int) (W : World) : Prop where
  b1 : W.heap[w.heap.size]? = some (.cells #[.int .i64 a, .int .i64 b] TB (0, 0))
  b2 : W.heap[w.heap.size + 1]? = some (.cells #[.int .i64 x, .int .i64 y] TB (0, 0))
  bel : Below w.heap.size w W
theorem OAt.later {w W W' : World} {a b x y : Int} (h : OAt w a b x y W) (hb : Below W.heap.size W W') : OAt w a b x y W' :=
  ⟨(hb.block _ (Array.getElem?_eq_some_iff.1 h.b1).1).trans h.b1, (hb.block _ (Array.getElem?_eq_some_iff.1 h.b2).1).trans h.b2, h.bel.trans (hb.mono h.bel.size)⟩
theorem OAt.drew {w W : World} {a b x y : Int} (h : OAt w a b x y W) : OAt w a b x y W.drew := h.later (Below.refl _ _).drew
theorem OAt.alloc {w W : World} {a b x y : Int} (h : OAt w a b x y W) (o : Obj) : OAt w a b x y (W.alloc o) := h.later (alloc_b _ _)
theorem OAt.cells {w W : World} {a b x y : Int} (h : OAt w a b x y W) : W.cell? ⟨w.heap.size, 0, none⟩ = some (.int .i64 a) ∧ W.cell? ⟨w.heap.size, 1, none⟩ = some (.int .i64 b) ∧
    W.cell? ⟨w.heap.size + 1, 0, none⟩ = some (.int .i64 x) ∧ W.cell? ⟨w.heap.size + 1, 1, none⟩ = some (.int .i64 y) ∧ OAt w a b x y W :=
  ⟨cell_of_row W _ 0 _ TB _ h.b1, cell_of_row W _ 1 _ TB _ h.b1, cell_of_row W _ 0 _ TB _ h.b2, cell_of_row W _ 1 _ TB _ h.b2, h⟩
theorem oat_new (w : World) (a b x y : Int) : OAt w a b x y ((w.alloc (.cells #[.int .i64 a, .int .i64 b] TB)).alloc (.cells #[.int .i64 x, .int .i64 y] TB)) := by
  have hb : Below w.heap.size w (w.alloc (.cells #[.int .i64 a, .int .i64 b] TB)) := (Below.refl _ _).alloc (Nat.le_refl _) _
  have hs : (w.alloc (.cells #[.int .i64 a, .int .i64 b] TB)).heap.size = w.heap.size + 1 := by show (w.heap.push _).size = _; rw [Array.size_push]
  refine ⟨?_, ?_, hb.alloc (by omega) _⟩
  · rw [Below.heap_alloc _ _ _ (by omega)]; exact heap_alloc_new _ _
  · rw [← hs]; exact heap_alloc_new _ _
theorem new2 (w : World) (oA oB : Obj) (u v : Value) (T : TypeId) : (((w.alloc oA).alloc oB).alloc (.cells #[u, v] T)).drew.heap[w.heap.size + 1 + 1]? = some (.cells #[u, v] T (0, 0)) := by
  have hs : ((w.alloc oA).alloc oB).heap.size = w.heap.size + 1 + 1 := by
    show ((w.heap.push _).push _).size = _
    rw [Array.size_push, Array.size_push]
  rw [← hs]
  exact heap_alloc_new _ _
def ordV (a b x y : Int) : Int := fdV (compareInt a x) (compareInt b y)
theorem order_any (a b x y : Int) (w : World) :
    Calls Try.prog 34 #[.agg #[.int .i64 a, .int .i64 b], .agg #[.int .i64 x, .int .i64 y]] w fun e w' => e = .returned (.int .i64 (ordV a b x y)) ∧ Below w.heap.size w w' := by
  have O0 := oat_new w a b x y
  have HE : Hid (∀ W, OAt w a b x y W → W.cell? ⟨w.heap.size, 0, none⟩ = some (.int .i64 a) ∧ W.cell? ⟨w.heap.size, 1, none⟩ = some (.int .i64 b) ∧
    W.cell? ⟨w.heap.size + 1, 0, none⟩ = some (.int .i64 x) ∧ W.cell? ⟨w.heap.size + 1, 1, none⟩ = some (.int .i64 y) ∧ OAt w a b x y W) := fun W h => h.cells
  go_enter Try.func34, Try.ntmps34
  go_wp2
  have HC := Lib.hid (fun u v W => cmp_any u v W)
  go_region_held3 (fun W => W.cell? ⟨w.heap.size, 0, none⟩ = some (.int .i64 a) ∧ W.cell? ⟨w.heap.size, 1, none⟩ = some (.int .i64 b) ∧
    W.cell? ⟨w.heap.size + 1, 0, none⟩ = some (.int .i64 x) ∧ W.cell? ⟨w.heap.size + 1, 1, none⟩ = some (.int .i64 y) ∧ OAt w a b x y W)
    ((first | exact HE.out _ O0.drew | exact HE.out _ (O0.drew.alloc _) | exact HE.out _ (O0.alloc _).drew | exact HE.out _ (by assumption) | assumption))
    (first
      | (go_at_call 53; refine (HC.out _ _ _).mono ?_; rintro e w2 ⟨rfl, rfl⟩)
      | (go_at_call 52; refine (fd_any _ _ _ _ _ (cell_of_row _ _ 0 _ _ _ (new2 _ _ _ _ _ _)) (cell_of_row _ _ 1 _ _ _ (new2 _ _ _ _ _ _))).mono ?_; rintro e w2 ⟨rfl, rfl⟩))
  go_wp2
  go_ret
  exact ⟨rfl, (O0.alloc _).drew.bel⟩
end Go.Proofs.Ytpaoaagphacclaa.Bal
