/- The walks of the laws over integers. -/
import Derived.Test.YtkphkjcpbnnpfaaC06
import Derived.OpenShut
namespace Go.Proofs.Ytkphkjcpbnnpfaa.Num
open Go.RowKit Go.ChangeShapes
set_option linter.unusedVariables false

theorem wf_i64 {a : Int} (h : (Lit.int .i64 a).wf = true) : I64 a := bounds_i64 h
theorem wf_u64 {a : Int} (h : (Lit.int .u64 a).wf = true) : U64 a := bounds_u64 h
theorem check_any (a : Int) (w : World) :
    Calls Try.prog 15 #[.int .i64 a] w fun e w' => e = .returned (.int .i64 (er (okB a))) ∧ w = w' := by
  by_cases h : Ok a
  · simpa [er, okB_t h] using check_ok a w h
  · simpa [er, okB_f h] using check_no a w h
theorem rcheck_any (a : Int) (w : World) :
    Calls Try.prog 16 #[.int .i64 a] w fun e w' => e = .returned (.int .i64 (er (okB a))) ∧ w = w' := by
  by_cases h : Ok a
  · simpa [er, okB_t h] using rcheck_ok a w h
  · simpa [er, okB_f h] using rcheck_no a w h
theorem within_any' (a l h : Int) (w : World) :
    Calls Try.prog 29 #[.int .i64 a, .int .i64 l, .int .i64 h] w fun e w' => e = .returned (.bool (decide (l ≤ a) && decide (a ≤ h))) ∧ w = w' := within_any a l h w

set_option maxRecDepth 100000 in
set_option maxHeartbeats 2000000 in
theorem w_numSums (a0 : Int) (a1 : Int) (w0 : (Lit.int .i64 a0).wf = true) (w1 : (Lit.int .i64 a1).wf = true) (w : World) :
    Calls Try.prog 3 #[.int .i64 a0, .int .i64 a1] w fun e w' => e = .returned (.bool true) ∧ Below w.heap.size w w' := by
  clear w0 w1
  have G := Below.refl w.heap.size w
  go_enter Try.func3, Try.ntmps3
  go_wp2_with (first
    | (go_at_call 13; refine (add_any _ _ _).mono ?_; rintro e w' ⟨rfl, hb⟩; have G := Below.more G hb; clear hb)
    | (go_at_call 17; refine (sub_any _ _ _).mono ?_; rintro e w' ⟨rfl, hb⟩; have G := Below.more G hb; clear hb)
    | (go_at_call 19; refine (mul_any _ _ _).mono ?_; rintro e w' ⟨rfl, hb⟩; have G := Below.more G hb; clear hb)
    | (go_at_call 14; refine (radd_any _ _ _).mono ?_; rintro e w' ⟨rfl, rfl⟩)
    | (go_at_call 18; refine (rsub_any _ _ _).mono ?_; rintro e w' ⟨rfl, rfl⟩)
    | (go_at_call 20; refine (rmul_any _ _ _).mono ?_; rintro e w' ⟨rfl, rfl⟩)
    | (go_at_call 15; refine (check_any _ _).mono ?_; rintro e w' ⟨rfl, rfl⟩)
    | (go_at_call 16; refine (rcheck_any _ _).mono ?_; rintro e w' ⟨rfl, rfl⟩)
    | (go_at_call 21; refine (works_any _).mono ?_; rintro e w' ⟨rfl, hb⟩; have G := Below.more G hb; clear hb))
  go_ret
  exact ⟨rfl, G⟩

set_option maxRecDepth 100000 in
theorem w_numRanges (a0 : Int) (a1 : Int) (a2 : Int) (w0 : (Lit.int .i64 a0).wf = true) (w1 : (Lit.int .i64 a1).wf = true) (w2 : (Lit.int .i64 a2).wf = true) (w : World) :
    Calls Try.prog 5 #[.int .i64 a0, .int .i64 a1, .int .i64 a2] w fun e w' => e = .returned (.bool true) ∧ Below w.heap.size w w' := by
  clear w0 w1 w2
  go_enter Try.func5, Try.ntmps5
  go_wp2_with (first
    | (go_at_call 27; refine (clamp_any _ _ _ _).mono ?_; rintro e w' ⟨rfl, rfl⟩)
    | (go_at_call 28; refine (rclamp_any _ _ _ _).mono ?_; rintro e w' ⟨rfl, rfl⟩)
    | (go_at_call 29; refine (within_any _ _ _ _).mono ?_; rintro e w' ⟨rfl, rfl⟩)
    | (go_at_call 30; refine (rwithin_any _ _ _ _).mono ?_; rintro e w' ⟨rfl, rfl⟩)
    | (go_at_call 21; refine (works_any _).mono ?_; rintro e w' ⟨rfl, hb⟩))
  go_ret
  exact ⟨rfl, hb⟩

set_option maxRecDepth 100000 in
theorem w_numZigs (a0 : Int) (a1 : Int) (w0 : (Lit.int .i64 a0).wf = true) (w1 : (Lit.int .u64 a1).wf = true) (w : World) :
    Calls Try.prog 6 #[.int .i64 a0, .int .u64 a1] w fun e w' => e = .returned (.bool true) ∧ Below w.heap.size w w' := by
  have i0 := Lib.hid (wf_i64 w0)
  have i1 := Lib.hid (wf_u64 w1)
  clear w0 w1
  go_enter Try.func6, Try.ntmps6
  go_wp2_with (first
    | (go_at_call 31; refine (zig_any _ _ i0.out).mono ?_; rintro e w' ⟨rfl, rfl⟩)
    | (go_at_call 32; refine (rzig_any _ _ i0.out).mono ?_; rintro e w' ⟨rfl, rfl⟩)
    | (go_at_call 33; refine (zag_any _ _ i1.out).mono ?_; rintro e w' ⟨rfl, rfl⟩)
    | (go_at_call 34; refine (rzag_any _ _ i1.out).mono ?_; rintro e w' ⟨rfl, rfl⟩)
    | (go_at_call 21; refine (works_any _).mono ?_; rintro e w' ⟨rfl, hb⟩))
  go_ret
  exact ⟨rfl, hb⟩

end Go.Proofs.Ytkphkjcpbnnpfaa.Num
