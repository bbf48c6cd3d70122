/- The walks of the further laws over integers. -/
import Derived.Test.YthippkbaehcfeaaC07
namespace Go.Proofs.Ythippkbaehcfeaa.Num
open Go.RowKit Go.ChangeShapes
set_option linter.unusedVariables false

/-! NumZags -/
theorem zig_u64 (a : Int) (h : I64 a) : U64 (zigV a) := by unfold I64 at h; unfold U64 zigV; split <;> omega
theorem zag_i64 (u : Int) (h : U64 u) : I64 (zagV u) := by unfold U64 at h; unfold I64 zagV; split <;> omega
theorem zag_zig (a : Int) : zagV (zigV a) = a := by unfold zagV zigV; split <;> split <;> omega
theorem zig_zag (u : Int) (h : U64 u) : zigV (zagV u) = u := by unfold U64 at h; unfold zagV zigV; split <;> split <;> omega
theorem zig_sign (a : Int) : (zigV a % 2 == 1) = decide (a < 0) := by
  unfold zigV; rw [Bool.eq_iff_iff]; simp; split <;> omega
theorem zig_inj (a b : Int) : (zigV a == zigV b) = (a == b) := by
  unfold zigV; rw [Bool.eq_iff_iff]; simp; split <;> split <;> omega
/-- The number from 0 on that a is compared as. -/
def ab (a : Int) : Int := if a < 0 then -1 - a else a
theorem zig_grow (a b : Int) (h : ab a < ab b) : zigV a < zigV b := by
  unfold ab at h; unfold zigV
  by_cases c1 : a < 0 <;> by_cases c2 : b < 0 <;> simp [c1, c2] at h ⊢ <;> omega

theorem not_any (a : Int) (h : I64 a) : bits .xor .i64 (-1) a = -1 - a := by
  unfold I64 at h
  show IntKind.i64.wrap ((BitVec.ofInt 64 (-1) ^^^ BitVec.ofInt 64 a).toNat : Int) = _
  have h1 : BitVec.ofInt 64 (-1) = BitVec.allOnes 64 := by decide
  rw [h1, BitVec.allOnes_xor, BitVec.toNat_not, BitVec.toNat_ofInt, IntKind.wrap_i64]
  omega

set_option maxRecDepth 100000 in
set_option maxHeartbeats 4000000 in
theorem w_numZags (a0 : Int) (a1 : Int) (a2 : Int) (w0 : (Lit.int .i64 a0).wf = true) (w1 : (Lit.int .u64 a1).wf = true) (w2 : (Lit.int .i64 a2).wf = true) (w : World) :
    Calls Try.prog 11 #[.int .i64 a0, .int .u64 a1, .int .i64 a2] w fun e w' => e = .returned (.bool true) ∧ Below w.heap.size w w' := by
  have i0 := Lib.hid (wf_i64 w0)
  have i1 := Lib.hid (wf_u64 w1)
  have i2 := Lib.hid (wf_i64 w2)
  clear w0 w1 w2
  have b0 := i0.out
  have b2 := i2.out
  unfold I64 at b0 b2
  have z0 : 0 ≤ zigV a0 ∧ zigV a0 ≤ 18446744073709551615 := zig_u64 a0 i0.out
  have z2 : 0 ≤ zigV a2 ∧ zigV a2 ≤ 18446744073709551615 := zig_u64 a2 i2.out
  have r1 := zag_zig a0
  have r2 := zig_zag a1 i1.out
  have r3 := zig_sign a0
  have r4 := zig_inj a0 a2
  have n0 := not_any a0 i0.out
  have n2 := not_any a2 i2.out
  have s1 := sg_i64
  have tr : (ab a0 < ab a2 ∧ zigV a0 < zigV a2) ∨ (ab a0 = ab a2 ∧ True) ∨ (ab a2 < ab a0 ∧ zigV a2 < zigV a0) := by
    rcases (by omega : ab a0 < ab a2 ∨ ab a0 = ab a2 ∨ ab a2 < ab a0) with h | h | h
    · exact .inl ⟨h, zig_grow a0 a2 h⟩
    · exact .inr (.inl ⟨h, trivial⟩)
    · exact .inr (.inr ⟨h, zig_grow a2 a0 h⟩)
  rcases (by omega : a0 < 0 ∨ 0 ≤ a0) with c0 | c0 <;> rcases (by omega : a2 < 0 ∨ 0 ≤ a2) with c2 | c2 <;> rcases tr with ⟨tr, kk⟩ | ⟨tr, kk⟩ | ⟨tr, kk⟩
  all_goals
    have k1 : ab a0 = if a0 < 0 then -1 - a0 else a0 := rfl
    have k2 : ab a2 = if a2 < 0 then -1 - a2 else a2 := rfl
    first | rw [if_pos c0] at k1 | rw [if_neg (by omega)] at k1
    first | rw [if_pos c2] at k2 | rw [if_neg (by omega)] at k2
    rw [k1, k2] at tr
    clear k1 k2
    first | (have tr2 := Int.le_of_eq tr; have tr3 := Int.le_of_eq tr.symm; clear tr) | skip
    go_enter Try.func11, Try.ntmps11
    go_wp2_with (first
      | (go_at_call_of 33 (zigV a0); refine (zag_any _ _ (zig_u64 a0 i0.out)).mono ?_; rintro e w' ⟨rfl, rfl⟩)
      | (go_at_call_of 33 (a1); refine (zag_any _ _ i1.out).mono ?_; rintro e w' ⟨rfl, rfl⟩)
      | (go_at_call_of 31 (zagV a1); refine (zig_any _ _ (zag_i64 a1 i1.out)).mono ?_; rintro e w' ⟨rfl, rfl⟩)
      | (go_at_call 31; refine (zig_any _ _ (by first | exact i0.out | exact i2.out)).mono ?_; rintro e w' ⟨rfl, rfl⟩)
      | (go_at_call 21; refine (works_any _).mono ?_; rintro e w' ⟨rfl, hb⟩))
    go_ret
    exact ⟨rfl, hb⟩

end Go.Proofs.Ythippkbaehcfeaa.Num
