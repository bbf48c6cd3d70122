/- Contracts of the document's own answers for package num. -/
import Derived.Test.YtkphkjcpbnnpfaaC03
namespace Go.Proofs.Ytkphkjcpbnnpfaa.Num
open Go.RowKit

theorem rcheck_ok (a : Int) (w : World) (h : Ok a) :
    Calls Try.prog 16 #[.int .i64 a] w fun e w' => e = .returned (.int .i64 0) ∧ w = w' := by
  unfold Ok at h
  go_enter Try.func16, Try.ntmps16
  go_wp2
  go_ret
  exact ⟨rfl, rfl⟩
theorem rcheck_no (a : Int) (w : World) (h : ¬ Ok a) :
    Calls Try.prog 16 #[.int .i64 a] w fun e w' => e = .returned (.int .i64 7) ∧ w = w' := by
  unfold Ok at h
  by_cases g : a < -1152921504606846976
  · clear h
    go_enter Try.func16, Try.ntmps16
    go_wp2
    go_ret
    exact ⟨rfl, rfl⟩
  · have g2 : 1152921504606846976 < a := by omega
    clear h
    go_enter Try.func16, Try.ntmps16
    go_wp2
    go_ret
    exact ⟨rfl, rfl⟩
theorem rboth_yes (a b : Int) (w : World) (ha : Ok a) (hb : Ok b) :
    Calls Try.prog 42 #[.int .i64 a, .int .i64 b] w fun e w' => e = .returned (.bool true) ∧ w = w' := by
  have ia := Lib.hid ha
  have ib := Lib.hid hb
  clear ha hb
  go_enter Try.func42, Try.ntmps42
  go_wp2_with (go_at_call 16; refine (rcheck_ok _ _ (by first | exact ia.out | exact ib.out)).mono ?_; rintro e w' ⟨rfl, rfl⟩)
  go_ret
  exact ⟨rfl, rfl⟩
theorem rboth_no2 (a b : Int) (w : World) (ha : Ok a) (hb : ¬ Ok b) :
    Calls Try.prog 42 #[.int .i64 a, .int .i64 b] w fun e w' => e = .returned (.bool false) ∧ w = w' := by
  have ia := Lib.hid ha
  have ib := Lib.hid hb
  clear ha hb
  go_enter Try.func42, Try.ntmps42
  go_wp2_with (first
    | (go_at_call_of 16 (a); refine (rcheck_ok a _ ia.out).mono ?_; rintro e w' ⟨rfl, rfl⟩)
    | (go_at_call_of 16 (b); refine (rcheck_no b _ ib.out).mono ?_; rintro e w' ⟨rfl, rfl⟩))
  go_ret
  exact ⟨rfl, rfl⟩
theorem rboth_no1 (a b : Int) (w : World) (ha : ¬ Ok a) :
    Calls Try.prog 42 #[.int .i64 a, .int .i64 b] w fun e w' => e = .returned (.bool false) ∧ w = w' := by
  have ia := Lib.hid ha
  clear ha
  go_enter Try.func42, Try.ntmps42
  go_wp2_with (go_at_call 16; refine (rcheck_no a _ ia.out).mono ?_; rintro e w' ⟨rfl, rfl⟩)
  go_ret
  exact ⟨rfl, rfl⟩
theorem rboth_any (a b : Int) (w : World) :
    Calls Try.prog 42 #[.int .i64 a, .int .i64 b] w fun e w' => e = .returned (.bool (okB a && okB b)) ∧ w = w' := by
  by_cases ha : Ok a
  · by_cases hb : Ok b
    · simpa [okB_t ha, okB_t hb] using rboth_yes a b w ha hb
    · simpa [okB_f hb] using rboth_no2 a b w ha hb
  · simpa [okB_f ha] using rboth_no1 a b w ha


theorem radd_yes (a b : Int) (w : World) (ha : Ok a) (hb : Ok b) (h : Ok (a + b)) :
    Calls Try.prog 14 #[.int .i64 a, .int .i64 b] w fun e w' => e = .returned (.tuple #[.int .i64 (a + b), .int .i64 0]) ∧ w = w' := by
  have nw : IntKind.i64.wrap (a + b) = a + b := IntWalk.i64_in _ (by unfold Ok at h; omega)
  have ia := Lib.hid ha
  have ib := Lib.hid hb
  have ih := Lib.hid h
  clear ha hb h
  go_enter Try.func14, Try.ntmps14
  go_wp2_with (first
    | (go_at_call 42; refine (rboth_yes a b _ ia.out ib.out).mono ?_; rintro e w' ⟨rfl, rfl⟩)
    | (go_at_call 16; refine (rcheck_ok _ _ ih.out).mono ?_; rintro e w' ⟨rfl, rfl⟩))
  go_ret2
  exact ⟨rfl, rfl⟩
theorem radd_no3 (a b : Int) (w : World) (ha : Ok a) (hb : Ok b) (h : ¬ Ok (a + b)) :
    Calls Try.prog 14 #[.int .i64 a, .int .i64 b] w fun e w' => e = .returned (.tuple #[.int .i64 0, .int .i64 7]) ∧ w = w' := by
  have nw : IntKind.i64.wrap (a + b) = a + b := IntWalk.i64_in _ (by unfold Ok at ha hb; omega)
  have ia := Lib.hid ha
  have ib := Lib.hid hb
  have ih := Lib.hid h
  clear ha hb h
  go_enter Try.func14, Try.ntmps14
  go_wp2_with (first
    | (go_at_call 42; refine (rboth_yes a b _ ia.out ib.out).mono ?_; rintro e w' ⟨rfl, rfl⟩)
    | (go_at_call 16; refine (rcheck_no _ _ ih.out).mono ?_; rintro e w' ⟨rfl, rfl⟩))
  go_ret2
  exact ⟨rfl, rfl⟩
theorem radd_no (a b : Int) (w : World) (h : (okB a && okB b) = false) :
    Calls Try.prog 14 #[.int .i64 a, .int .i64 b] w fun e w' => e = .returned (.tuple #[.int .i64 0, .int .i64 7]) ∧ w = w' := by
  go_enter Try.func14, Try.ntmps14
  go_wp2_with (first
    | (go_at_call 42; refine (rboth_any a b _).mono ?_; rintro e w' ⟨rfl, rfl⟩))
  go_ret2
  exact ⟨rfl, rfl⟩
theorem radd_any (a b : Int) (w : World) :
    Calls Try.prog 14 #[.int .i64 a, .int .i64 b] w fun e w' => e = .returned (.tuple #[.int .i64 (vl (addB a b) (a + b)), .int .i64 (er (addB a b))]) ∧ w = w' := by
  by_cases ha : Ok a
  · by_cases hb : Ok b
    · by_cases h : Ok (a + b)
      · simpa [addB, vl, er, okB_t ha, okB_t hb, okB_t h] using radd_yes a b w ha hb h
      · simpa [addB, vl, er, okB_f h] using radd_no3 a b w ha hb h
    · simpa [addB, vl, er, okB_f hb] using radd_no a b w (by simp [okB_f hb])
  · simpa [addB, vl, er, okB_f ha] using radd_no a b w (by simp [okB_f ha])

theorem rsub_yes (a b : Int) (w : World) (ha : Ok a) (hb : Ok b) (h : Ok (a - b)) :
    Calls Try.prog 18 #[.int .i64 a, .int .i64 b] w fun e w' => e = .returned (.tuple #[.int .i64 (a - b), .int .i64 0]) ∧ w = w' := by
  have nw : IntKind.i64.wrap (a - b) = a - b := IntWalk.i64_in _ (by unfold Ok at h; omega)
  have ia := Lib.hid ha
  have ib := Lib.hid hb
  have ih := Lib.hid h
  clear ha hb h
  go_enter Try.func18, Try.ntmps18
  go_wp2_with (first
    | (go_at_call 42; refine (rboth_yes a b _ ia.out ib.out).mono ?_; rintro e w' ⟨rfl, rfl⟩)
    | (go_at_call 16; refine (rcheck_ok _ _ ih.out).mono ?_; rintro e w' ⟨rfl, rfl⟩))
  go_ret2
  exact ⟨rfl, rfl⟩
theorem rsub_no3 (a b : Int) (w : World) (ha : Ok a) (hb : Ok b) (h : ¬ Ok (a - b)) :
    Calls Try.prog 18 #[.int .i64 a, .int .i64 b] w fun e w' => e = .returned (.tuple #[.int .i64 0, .int .i64 7]) ∧ w = w' := by
  have nw : IntKind.i64.wrap (a - b) = a - b := IntWalk.i64_in _ (by unfold Ok at ha hb; omega)
  have ia := Lib.hid ha
  have ib := Lib.hid hb
  have ih := Lib.hid h
  clear ha hb h
  go_enter Try.func18, Try.ntmps18
  go_wp2_with (first
    | (go_at_call 42; refine (rboth_yes a b _ ia.out ib.out).mono ?_; rintro e w' ⟨rfl, rfl⟩)
    | (go_at_call 16; refine (rcheck_no _ _ ih.out).mono ?_; rintro e w' ⟨rfl, rfl⟩))
  go_ret2
  exact ⟨rfl, rfl⟩
theorem rsub_no (a b : Int) (w : World) (h : (okB a && okB b) = false) :
    Calls Try.prog 18 #[.int .i64 a, .int .i64 b] w fun e w' => e = .returned (.tuple #[.int .i64 0, .int .i64 7]) ∧ w = w' := by
  go_enter Try.func18, Try.ntmps18
  go_wp2_with (first
    | (go_at_call 42; refine (rboth_any a b _).mono ?_; rintro e w' ⟨rfl, rfl⟩))
  go_ret2
  exact ⟨rfl, rfl⟩
theorem rsub_any (a b : Int) (w : World) :
    Calls Try.prog 18 #[.int .i64 a, .int .i64 b] w fun e w' => e = .returned (.tuple #[.int .i64 (vl (subB a b) (a - b)), .int .i64 (er (subB a b))]) ∧ w = w' := by
  by_cases ha : Ok a
  · by_cases hb : Ok b
    · by_cases h : Ok (a - b)
      · simpa [subB, vl, er, okB_t ha, okB_t hb, okB_t h] using rsub_yes a b w ha hb h
      · simpa [subB, vl, er, okB_f h] using rsub_no3 a b w ha hb h
    · simpa [subB, vl, er, okB_f hb] using rsub_no a b w (by simp [okB_f hb])
  · simpa [subB, vl, er, okB_f ha] using rsub_no a b w (by simp [okB_f ha])

theorem rmul_no (a b : Int) (w : World) (h : (okB a && okB b) = false) :
    Calls Try.prog 20 #[.int .i64 a, .int .i64 b] w fun e w' => e = .returned (.tuple #[.int .i64 0, .int .i64 7]) ∧ w = w' := by
  go_enter Try.func20, Try.ntmps20
  go_wp2_with (first
    | (go_at_call 42; refine (rboth_any a b _).mono ?_; rintro e w' ⟨rfl, rfl⟩))
  go_ret2
  exact ⟨rfl, rfl⟩

/-- The greatest number that may be multiplied by b, by size. -/
def qd (b : Int) : Int := 1152921504606846976 / b.natAbs
theorem qd_pos (b : Int) (h : 0 < b) : (1152921504606846976 : Int) / b = qd b := by unfold qd; rw [show ((b.natAbs : Nat) : Int) = b by omega]
theorem qd_neg (b : Int) (h : b < 0) (hb : Ok b) : wrap64 (-Int.tdiv 1152921504606846976 b) = qd b := by
  unfold qd Ok at *
  rw [show ((b.natAbs : Nat) : Int) = -b by omega, ← Int.tdiv_neg, Int.tdiv_eq_ediv_of_nonneg (by omega)]
  have h1 : (1152921504606846976 : Int) / -b ≤ 1152921504606846976 := Int.ediv_le_self _ (by omega)
  have h2 : 0 ≤ (1152921504606846976 : Int) / -b := Int.ediv_nonneg (by omega) (by omega)
  unfold wrap64
  omega
theorem qd_lt (a b : Int) (h : b ≠ 0) : qd b < a.natAbs ↔ ¬ Ok (a * b) := by
  unfold qd Ok
  rw [Int.ediv_lt_iff_lt_mul (by omega)]
  have e : (a.natAbs : Int) * (b.natAbs : Int) = ((a * b).natAbs : Int) := by rw [Int.natAbs_mul]; simp
  rw [e]
  generalize a * b = P
  omega

theorem rmul_pp_y (a b : Int) (w : World) (ha : Ok a) (hb : Ok b) (ca : 0 ≤ a) (cb : 0 < b) (h : Ok (a * b)) :
    Calls Try.prog 20 #[.int .i64 a, .int .i64 b] w fun e w' => e = .returned (.tuple #[.int .i64 (a * b), .int .i64 0]) ∧ w = w' := by
  have nw : IntKind.i64.wrap (a * b) = a * b := IntWalk.i64_in _ (by unfold Ok at h; omega)
  have na : IntKind.i64.wrap (-a) = -a := IntWalk.i64_in _ (by unfold Ok at ha; omega)
  have nb : IntKind.i64.wrap (-b) = -b := IntWalk.i64_in _ (by unfold Ok at hb; omega)
  have q1 := qd_pos b cb
  have q2 : a ≤ qd b := by
    have := qd_lt a b (by omega)
    have e : (a.natAbs : Int) = a := by omega
    rw [e] at this
    exact Int.not_lt.1 fun g => this.1 g h
  have ia := Lib.hid ha
  have ib := Lib.hid hb
  clear ha hb h
  go_enter Try.func20, Try.ntmps20
  go_wp2_with (first
    | (go_at_call 42; refine (rboth_yes a b _ ia.out ib.out).mono ?_; rintro e w' ⟨rfl, rfl⟩))
  go_ret2
  exact ⟨rfl, rfl⟩

theorem rmul_pp_n (a b : Int) (w : World) (ha : Ok a) (hb : Ok b) (ca : 0 ≤ a) (cb : 0 < b) (h : ¬ Ok (a * b)) :
    Calls Try.prog 20 #[.int .i64 a, .int .i64 b] w fun e w' => e = .returned (.tuple #[.int .i64 0, .int .i64 7]) ∧ w = w' := by
  have na : IntKind.i64.wrap (-a) = -a := IntWalk.i64_in _ (by unfold Ok at ha; omega)
  have nb : IntKind.i64.wrap (-b) = -b := IntWalk.i64_in _ (by unfold Ok at hb; omega)
  have q1 := qd_pos b cb
  have q2 : qd b < a := by
    have := qd_lt a b (by omega)
    have e : (a.natAbs : Int) = a := by omega
    rw [e] at this
    exact this.2 h
  have ia := Lib.hid ha
  have ib := Lib.hid hb
  clear ha hb h
  go_enter Try.func20, Try.ntmps20
  go_wp2_with (first
    | (go_at_call 42; refine (rboth_yes a b _ ia.out ib.out).mono ?_; rintro e w' ⟨rfl, rfl⟩))
  go_ret2
  exact ⟨rfl, rfl⟩

theorem rmul_pn_y (a b : Int) (w : World) (ha : Ok a) (hb : Ok b) (ca : 0 ≤ a) (cb : b < 0) (h : Ok (a * b)) :
    Calls Try.prog 20 #[.int .i64 a, .int .i64 b] w fun e w' => e = .returned (.tuple #[.int .i64 (a * b), .int .i64 0]) ∧ w = w' := by
  have nw : IntKind.i64.wrap (a * b) = a * b := IntWalk.i64_in _ (by unfold Ok at h; omega)
  have na : IntKind.i64.wrap (-a) = -a := IntWalk.i64_in _ (by unfold Ok at ha; omega)
  have nb : IntKind.i64.wrap (-b) = -b := IntWalk.i64_in _ (by unfold Ok at hb; omega)
  have q1 := qd_neg b cb hb
  have q2 : a ≤ qd b := by
    have := qd_lt a b (by omega)
    have e : (a.natAbs : Int) = a := by omega
    rw [e] at this
    exact Int.not_lt.1 fun g => this.1 g h
  have ia := Lib.hid ha
  have ib := Lib.hid hb
  clear ha hb h
  go_enter Try.func20, Try.ntmps20
  go_wp2_with (first
    | (go_at_call 42; refine (rboth_yes a b _ ia.out ib.out).mono ?_; rintro e w' ⟨rfl, rfl⟩))
  go_ret2
  exact ⟨rfl, rfl⟩

theorem rmul_pn_n (a b : Int) (w : World) (ha : Ok a) (hb : Ok b) (ca : 0 ≤ a) (cb : b < 0) (h : ¬ Ok (a * b)) :
    Calls Try.prog 20 #[.int .i64 a, .int .i64 b] w fun e w' => e = .returned (.tuple #[.int .i64 0, .int .i64 7]) ∧ w = w' := by
  have na : IntKind.i64.wrap (-a) = -a := IntWalk.i64_in _ (by unfold Ok at ha; omega)
  have nb : IntKind.i64.wrap (-b) = -b := IntWalk.i64_in _ (by unfold Ok at hb; omega)
  have q1 := qd_neg b cb hb
  have q2 : qd b < a := by
    have := qd_lt a b (by omega)
    have e : (a.natAbs : Int) = a := by omega
    rw [e] at this
    exact this.2 h
  have ia := Lib.hid ha
  have ib := Lib.hid hb
  clear ha hb h
  go_enter Try.func20, Try.ntmps20
  go_wp2_with (first
    | (go_at_call 42; refine (rboth_yes a b _ ia.out ib.out).mono ?_; rintro e w' ⟨rfl, rfl⟩))
  go_ret2
  exact ⟨rfl, rfl⟩

theorem rmul_pz_y (a : Int) (w : World) (ha : Ok a) (ca : 0 ≤ a) :
    Calls Try.prog 20 #[.int .i64 a, .int .i64 0] w fun e w' => e = .returned (.tuple #[.int .i64 0, .int .i64 0]) ∧ w = w' := by
  have na : IntKind.i64.wrap (-a) = -a := IntWalk.i64_in _ (by unfold Ok at ha; omega)
  have ia := Lib.hid ha
  have ib := Lib.hid (show Ok 0 by unfold Ok; omega)
  clear ha
  go_enter Try.func20, Try.ntmps20
  go_wp2_with (first
    | (go_at_call 42; refine (rboth_yes a 0 _ ia.out ib.out).mono ?_; rintro e w' ⟨rfl, rfl⟩))
  go_ret2
  exact ⟨rfl, rfl⟩

theorem rmul_np_y (a b : Int) (w : World) (ha : Ok a) (hb : Ok b) (ca : a < 0) (cb : 0 < b) (h : Ok (a * b)) :
    Calls Try.prog 20 #[.int .i64 a, .int .i64 b] w fun e w' => e = .returned (.tuple #[.int .i64 (a * b), .int .i64 0]) ∧ w = w' := by
  have nw : IntKind.i64.wrap (a * b) = a * b := IntWalk.i64_in _ (by unfold Ok at h; omega)
  have na : IntKind.i64.wrap (-a) = -a := IntWalk.i64_in _ (by unfold Ok at ha; omega)
  have nb : IntKind.i64.wrap (-b) = -b := IntWalk.i64_in _ (by unfold Ok at hb; omega)
  have q1 := qd_pos b cb
  have q2 : -a ≤ qd b := by
    have := qd_lt a b (by omega)
    have e : (a.natAbs : Int) = -a := by omega
    rw [e] at this
    exact Int.not_lt.1 fun g => this.1 g h
  have ia := Lib.hid ha
  have ib := Lib.hid hb
  clear ha hb h
  go_enter Try.func20, Try.ntmps20
  go_wp2_with (first
    | (go_at_call 42; refine (rboth_yes a b _ ia.out ib.out).mono ?_; rintro e w' ⟨rfl, rfl⟩))
  go_ret2
  exact ⟨rfl, rfl⟩

theorem rmul_np_n (a b : Int) (w : World) (ha : Ok a) (hb : Ok b) (ca : a < 0) (cb : 0 < b) (h : ¬ Ok (a * b)) :
    Calls Try.prog 20 #[.int .i64 a, .int .i64 b] w fun e w' => e = .returned (.tuple #[.int .i64 0, .int .i64 7]) ∧ w = w' := by
  have na : IntKind.i64.wrap (-a) = -a := IntWalk.i64_in _ (by unfold Ok at ha; omega)
  have nb : IntKind.i64.wrap (-b) = -b := IntWalk.i64_in _ (by unfold Ok at hb; omega)
  have q1 := qd_pos b cb
  have q2 : qd b < -a := by
    have := qd_lt a b (by omega)
    have e : (a.natAbs : Int) = -a := by omega
    rw [e] at this
    exact this.2 h
  have ia := Lib.hid ha
  have ib := Lib.hid hb
  clear ha hb h
  go_enter Try.func20, Try.ntmps20
  go_wp2_with (first
    | (go_at_call 42; refine (rboth_yes a b _ ia.out ib.out).mono ?_; rintro e w' ⟨rfl, rfl⟩))
  go_ret2
  exact ⟨rfl, rfl⟩

theorem rmul_nn_y (a b : Int) (w : World) (ha : Ok a) (hb : Ok b) (ca : a < 0) (cb : b < 0) (h : Ok (a * b)) :
    Calls Try.prog 20 #[.int .i64 a, .int .i64 b] w fun e w' => e = .returned (.tuple #[.int .i64 (a * b), .int .i64 0]) ∧ w = w' := by
  have nw : IntKind.i64.wrap (a * b) = a * b := IntWalk.i64_in _ (by unfold Ok at h; omega)
  have na : IntKind.i64.wrap (-a) = -a := IntWalk.i64_in _ (by unfold Ok at ha; omega)
  have nb : IntKind.i64.wrap (-b) = -b := IntWalk.i64_in _ (by unfold Ok at hb; omega)
  have q1 := qd_neg b cb hb
  have q2 : -a ≤ qd b := by
    have := qd_lt a b (by omega)
    have e : (a.natAbs : Int) = -a := by omega
    rw [e] at this
    exact Int.not_lt.1 fun g => this.1 g h
  have ia := Lib.hid ha
  have ib := Lib.hid hb
  clear ha hb h
  go_enter Try.func20, Try.ntmps20
  go_wp2_with (first
    | (go_at_call 42; refine (rboth_yes a b _ ia.out ib.out).mono ?_; rintro e w' ⟨rfl, rfl⟩))
  go_ret2
  exact ⟨rfl, rfl⟩

theorem rmul_nn_n (a b : Int) (w : World) (ha : Ok a) (hb : Ok b) (ca : a < 0) (cb : b < 0) (h : ¬ Ok (a * b)) :
    Calls Try.prog 20 #[.int .i64 a, .int .i64 b] w fun e w' => e = .returned (.tuple #[.int .i64 0, .int .i64 7]) ∧ w = w' := by
  have na : IntKind.i64.wrap (-a) = -a := IntWalk.i64_in _ (by unfold Ok at ha; omega)
  have nb : IntKind.i64.wrap (-b) = -b := IntWalk.i64_in _ (by unfold Ok at hb; omega)
  have q1 := qd_neg b cb hb
  have q2 : qd b < -a := by
    have := qd_lt a b (by omega)
    have e : (a.natAbs : Int) = -a := by omega
    rw [e] at this
    exact this.2 h
  have ia := Lib.hid ha
  have ib := Lib.hid hb
  clear ha hb h
  go_enter Try.func20, Try.ntmps20
  go_wp2_with (first
    | (go_at_call 42; refine (rboth_yes a b _ ia.out ib.out).mono ?_; rintro e w' ⟨rfl, rfl⟩))
  go_ret2
  exact ⟨rfl, rfl⟩

theorem rmul_nz_y (a : Int) (w : World) (ha : Ok a) (ca : a < 0) :
    Calls Try.prog 20 #[.int .i64 a, .int .i64 0] w fun e w' => e = .returned (.tuple #[.int .i64 0, .int .i64 0]) ∧ w = w' := by
  have na : IntKind.i64.wrap (-a) = -a := IntWalk.i64_in _ (by unfold Ok at ha; omega)
  have ia := Lib.hid ha
  have ib := Lib.hid (show Ok 0 by unfold Ok; omega)
  clear ha
  go_enter Try.func20, Try.ntmps20
  go_wp2_with (first
    | (go_at_call 42; refine (rboth_yes a 0 _ ia.out ib.out).mono ?_; rintro e w' ⟨rfl, rfl⟩))
  go_ret2
  exact ⟨rfl, rfl⟩

theorem rmul_any (a b : Int) (w : World) :
    Calls Try.prog 20 #[.int .i64 a, .int .i64 b] w fun e w' => e = .returned (.tuple #[.int .i64 (vl (mulB a b) (a * b)), .int .i64 (er (mulB a b))]) ∧ w = w' := by
  by_cases ha : Ok a
  · by_cases hb : Ok b
    · by_cases h0 : b = 0
      · subst h0
        have hok : okB 0 = true := okB_t hb
        by_cases ca : 0 ≤ a
        · simpa [mulB, vl, er, okB_t ha, hok] using rmul_pz_y a w ha ca
        · simpa [mulB, vl, er, okB_t ha, hok] using rmul_nz_y a w ha (by omega)
      · by_cases h : Ok (a * b)
        · have : (mulB a b) = true := by simp [mulB, okB_t ha, okB_t hb, okB_t h]
          rw [this]
          by_cases ca : 0 ≤ a <;> by_cases cb : 0 < b
          · exact rmul_pp_y a b w ha hb ca cb h
          · exact rmul_pn_y a b w ha hb ca (by omega) h
          · exact rmul_np_y a b w ha hb (by omega) cb h
          · exact rmul_nn_y a b w ha hb (by omega) (by omega) h
        · have : (mulB a b) = false := by simp [mulB, okB_f h]
          rw [this]
          by_cases ca : 0 ≤ a <;> by_cases cb : 0 < b
          · exact rmul_pp_n a b w ha hb ca cb h
          · exact rmul_pn_n a b w ha hb ca (by omega) h
          · exact rmul_np_n a b w ha hb (by omega) cb h
          · exact rmul_nn_n a b w ha hb (by omega) (by omega) h
    · simpa [mulB, vl, er, okB_f hb] using rmul_no a b w (by simp [okB_f hb])
  · simpa [mulB, vl, er, okB_f ha] using rmul_no a b w (by simp [okB_f ha])

end Go.Proofs.Ytkphkjcpbnnpfaa.Num
