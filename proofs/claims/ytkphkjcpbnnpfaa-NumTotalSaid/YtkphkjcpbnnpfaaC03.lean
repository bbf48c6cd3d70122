/- Contracts of num.Add, Sub, Mul. -/
import Derived.Test.YtkphkjcpbnnpfaaC02
namespace Go.Proofs.Ytkphkjcpbnnpfaa.Num
open Go.RowKit

theorem Below.more {w a b : World} (h : Below w.heap.size w a) (hb : Below a.heap.size a b) : Below w.heap.size w b := h.trans (hb.mono h.size)

set_option maxHeartbeats 2000000 in
theorem sub1_any (p q : Addr) (a b : Int) (w : World) (ha : I64 a) (hb : Ok b) (hp : w.cell? p = some (.int .i64 a)) (hq : w.cell? q = some (.int .i64 b)) :
    Calls Try.prog 43 #[.pointer (some p), .pointer (some q)] w fun e w' => e = .returned (.agg #[.int .u64 (lo (a - b)), .int .u64 (hi (a - b))]) ∧ Below w.heap.size w w' := by
  have ia := Lib.hid ha
  have ib := Lib.hid (show I64 (-b) by unfold Ok at hb; unfold I64; omega)
  unfold Ok at hb
  clear ha
  have f1 := Four.first w p q _ _ (.int .u64 0) (.int .u64 0) 49 hp hq
  have g1 : (w.alloc (.cells #[.int .u64 0, .int .u64 0] 49)).cell? p = some (.int .i64 a) := f1.1
  have g2 : (w.alloc (.cells #[.int .u64 0, .int .u64 0] 49)).cell? q = some (.int .i64 b) := f1.2.1
  rw [show a - b = a + -b by omega]
  have nb : IntKind.i64.wrap (-b) = -b := IntWalk.i64_in _ (by omega)
  clear hb
  go_enter Try.func43, Try.ntmps43
  go_wp2
  all_goals
    (go_region_with (first
        | (go_at_call 40; refine (widen_any _ _ (by first | exact ia.out | exact ib.out)).mono ?_; rintro e w' ⟨rfl, hb⟩; have f1 := Four.later f1 hb; have x1 := f1.1; have x2 := f1.2.1)
        | (go_at_call 41; refine (plus_any _ _ _).mono ?_; rintro e w' ⟨rfl, hb⟩; have f1 := Four.later f1 hb; obtain ⟨x1, x2, x3, x4, x5, x6, x7, x8, x9, x10⟩ := f1)))
  all_goals
    obtain ⟨y0, y1⟩ := two_stores (.int .u64 (lo (a + -b))) (.int .u64 (hi (a + -b))) x3 x4
    go_wp2
    refine bodyPost_ret (v := .agg #[.int .u64 (lo (a + -b)), .int .u64 (hi (a + -b))]) (by simp [results, Try.results43, go_sem, y0, y1]) rfl ⟨rfl, ?_⟩
    go_grown

theorem mul1_any (p q : Addr) (a b : Int) (w : World) (ha : I64 a) (hb : I64 b) (hp : w.cell? p = some (.int .i64 a)) (hq : w.cell? q = some (.int .i64 b)) :
    Calls Try.prog 44 #[.pointer (some p), .pointer (some q)] w fun e w' => e = .returned (.agg #[.int .u64 (lo (a * b)), .int .u64 (hi (a * b))]) ∧ Below w.heap.size w w' := by
  have ia := Lib.hid ha
  have ib := Lib.hid hb
  clear ha hb
  have f1 := Four.first w p q _ _ (.int .u64 0) (.int .u64 0) 49 hp hq
  have g1 : (w.alloc (.cells #[.int .u64 0, .int .u64 0] 49)).cell? p = some (.int .i64 a) := f1.1
  have g2 : (w.alloc (.cells #[.int .u64 0, .int .u64 0] 49)).cell? q = some (.int .i64 b) := f1.2.1
  have f2 : Four w p q w.heap.size (.int .i64 a) (.int .i64 b) (.int .u64 0) (.int .u64 0) (w.alloc (.cells #[.int .u64 0, .int .u64 0] 49)) := by
    obtain ⟨x1, x2, x3, x4, x5, x6, x7, x8, x9, x10⟩ := f1
    exact ⟨x1, x2, x3, x4, x5, x6, (Below.refl _ _).alloc (Nat.le_refl _) _, x8, x9, x10⟩
  clear f1
  go_enter Try.func44, Try.ntmps44
  go_wp2_with (first
        | (go_at_call 45; refine (product_any _ _ _ (by first | exact ia.out | exact ib.out) (by first | exact ib.out | exact ia.out)).mono ?_; rintro e w' ⟨rfl, hb⟩; have f1 := Four.later f2 hb; obtain ⟨x1, x2, x3, x4, x5, x6, x7, x8, x9, x10⟩ := f1))
  obtain ⟨y0, y1⟩ := two_stores (.int .u64 (lo (a * b))) (.int .u64 (hi (a * b))) x3 x4
  refine bodyPost_ret (v := .agg #[.int .u64 (lo (a * b)), .int .u64 (hi (a * b))]) (by simp [results, Try.results44, go_sem, y0, y1]) rfl ⟨rfl, ?_⟩
  go_grown

theorem small_dif {a b : Int} (ha : Ok a) (hb : Ok b) : -170141183460469231731687303715884105728 ≤ a - b ∧ a - b < 170141183460469231731687303715884105728 := by unfold Ok at *; omega

theorem mul_bd {a b : Int} (ha : Ok a) (hb : Ok b) : -170141183460469231731687303715884105728 ≤ a * b ∧ a * b < 170141183460469231731687303715884105728 := by
  unfold Ok at ha hb
  have h1 : a.natAbs ≤ 1152921504606846976 := by omega
  have h2 : b.natAbs ≤ 1152921504606846976 := by omega
  have h3 := Nat.mul_le_mul h1 h2
  rw [← Int.natAbs_mul] at h3
  generalize a * b = P at *
  omega

/-- The error of a call that is well, or beyond. -/
def er (c : Bool) : Int := if c then 0 else 7
/-- Its number. -/
def vl (c : Bool) (n : Int) : Int := if c then n else 0
def okB (a : Int) : Bool := decide (Ok a)
theorem okB_t {a : Int} (h : Ok a) : okB a = true := decide_eq_true h
theorem okB_f {a : Int} (h : ¬ Ok a) : okB a = false := decide_eq_false h

set_option maxHeartbeats 1000000 in
theorem add_ok (a b : Int) (w : World) (ha : Ok a) (hb : Ok b) (h : Ok (a + b)) :
    Calls Try.prog 13 #[.int .i64 a, .int .i64 b] w fun e w' => e = .returned (.tuple #[.int .i64 (a + b), .int .i64 0]) ∧ Below w.heap.size w w' := by
  have ia := Lib.hid ha
  have ib := Lib.hid hb
  have ih := Lib.hid h
  clear ha hb h
  go_enter Try.func13, Try.ntmps13
  go_wp2_with (first
    | (go_at_call 15; refine (check_ok _ _ (by first | exact ia.out | exact ib.out)).mono ?_; rintro e w' ⟨rfl, rfl⟩)
    | (go_at_call 39; refine (add1_any _ _ a b _ (ok_i64 ia.out) (ok_i64 ib.out) (by simp [go_sem]) (by simp [go_sem])).mono ?_; rintro e w1 ⟨rfl, hb1⟩)
    | (go_at_call 47; refine (narrow_ok _ _ ih.out).mono ?_; rintro e w2 ⟨rfl, hb2⟩)
    | go_in)
  go_ret2
  exact ⟨rfl, Below.more (Below.more (by go_grown) hb1) hb2⟩

set_option maxHeartbeats 1000000 in
theorem add_no3 (a b : Int) (w : World) (ha : Ok a) (hb : Ok b) (h : ¬ Ok (a + b)) :
    Calls Try.prog 13 #[.int .i64 a, .int .i64 b] w fun e w' => e = .returned (.tuple #[.int .i64 0, .int .i64 7]) ∧ Below w.heap.size w w' := by
  have ia := Lib.hid ha
  have ib := Lib.hid hb
  have ih := Lib.hid h
  clear ha hb h
  go_enter Try.func13, Try.ntmps13
  go_wp2_with (first
    | (go_at_call 15; refine (check_ok _ _ (by first | exact ia.out | exact ib.out)).mono ?_; rintro e w' ⟨rfl, rfl⟩)
    | (go_at_call 39; refine (add1_any _ _ a b _ (ok_i64 ia.out) (ok_i64 ib.out) (by simp [go_sem]) (by simp [go_sem])).mono ?_; rintro e w1 ⟨rfl, hb1⟩)
    | (go_at_call 47; refine (narrow_no _ _ (small_sum ia.out ib.out) ih.out).mono ?_; rintro e w2 ⟨rfl, hb2⟩)
    | go_in)
  go_ret2
  exact ⟨rfl, Below.more (Below.more (by go_grown) hb1) hb2⟩

theorem add_no2 (a b : Int) (w : World) (ha : Ok a) (hb : ¬ Ok b) :
    Calls Try.prog 13 #[.int .i64 a, .int .i64 b] w fun e w' => e = .returned (.tuple #[.int .i64 0, .int .i64 7]) ∧ Below w.heap.size w w' := by
  have ia := Lib.hid ha
  have ib := Lib.hid hb
  clear ha hb
  go_enter Try.func13, Try.ntmps13
  go_wp2_with (first
    | (go_at_call_of 15 (a); refine (check_ok a _ ia.out).mono ?_; rintro e w' ⟨rfl, rfl⟩)
    | (go_at_call_of 15 (b); refine (check_no b _ ib.out).mono ?_; rintro e w' ⟨rfl, rfl⟩)
    | go_in)
  go_ret2
  exact ⟨rfl, by go_grown⟩

theorem add_no1 (a b : Int) (w : World) (ha : ¬ Ok a) :
    Calls Try.prog 13 #[.int .i64 a, .int .i64 b] w fun e w' => e = .returned (.tuple #[.int .i64 0, .int .i64 7]) ∧ Below w.heap.size w w' := by
  have ia := Lib.hid ha
  clear ha
  go_enter Try.func13, Try.ntmps13
  go_wp2_with (first
    | (go_at_call 15; refine (check_no a _ ia.out).mono ?_; rintro e w' ⟨rfl, rfl⟩)
    | go_in)
  go_ret2
  exact ⟨rfl, by go_grown⟩

/-- What Add says: a sum, difference or product of which nothing is beyond. -/
def addB (a b : Int) : Bool := okB a && okB b && okB (a + b)
theorem add_any (a b : Int) (w : World) :
    Calls Try.prog 13 #[.int .i64 a, .int .i64 b] w fun e w' => e = .returned (.tuple #[.int .i64 (vl (addB a b) (a + b)), .int .i64 (er (addB a b))]) ∧ Below w.heap.size w w' := by
  by_cases ha : Ok a
  · by_cases hb : Ok b
    · by_cases h : Ok (a + b)
      · have := add_ok a b w ha hb h
        simpa [addB, vl, er, okB_t ha, okB_t hb, okB_t h] using this
      · have := add_no3 a b w ha hb h
        simpa [addB, vl, er, okB_f h] using this
    · have := add_no2 a b w ha hb
      simpa [addB, vl, er, okB_f hb] using this
  · have := add_no1 a b w ha
    simpa [addB, vl, er, okB_f ha] using this

set_option maxHeartbeats 1000000 in
theorem sub_ok (a b : Int) (w : World) (ha : Ok a) (hb : Ok b) (h : Ok (a - b)) :
    Calls Try.prog 17 #[.int .i64 a, .int .i64 b] w fun e w' => e = .returned (.tuple #[.int .i64 (a - b), .int .i64 0]) ∧ Below w.heap.size w w' := by
  have ia := Lib.hid ha
  have ib := Lib.hid hb
  have ih := Lib.hid h
  clear ha hb h
  go_enter Try.func17, Try.ntmps17
  go_wp2_with (first
    | (go_at_call 15; refine (check_ok _ _ (by first | exact ia.out | exact ib.out)).mono ?_; rintro e w' ⟨rfl, rfl⟩)
    | (go_at_call 43; refine (sub1_any _ _ a b _ (ok_i64 ia.out) ib.out (by simp [go_sem]) (by simp [go_sem])).mono ?_; rintro e w1 ⟨rfl, hb1⟩)
    | (go_at_call 47; refine (narrow_ok _ _ ih.out).mono ?_; rintro e w2 ⟨rfl, hb2⟩)
    | go_in)
  go_ret2
  exact ⟨rfl, Below.more (Below.more (by go_grown) hb1) hb2⟩

set_option maxHeartbeats 1000000 in
theorem sub_no3 (a b : Int) (w : World) (ha : Ok a) (hb : Ok b) (h : ¬ Ok (a - b)) :
    Calls Try.prog 17 #[.int .i64 a, .int .i64 b] w fun e w' => e = .returned (.tuple #[.int .i64 0, .int .i64 7]) ∧ Below w.heap.size w w' := by
  have ia := Lib.hid ha
  have ib := Lib.hid hb
  have ih := Lib.hid h
  clear ha hb h
  go_enter Try.func17, Try.ntmps17
  go_wp2_with (first
    | (go_at_call 15; refine (check_ok _ _ (by first | exact ia.out | exact ib.out)).mono ?_; rintro e w' ⟨rfl, rfl⟩)
    | (go_at_call 43; refine (sub1_any _ _ a b _ (ok_i64 ia.out) ib.out (by simp [go_sem]) (by simp [go_sem])).mono ?_; rintro e w1 ⟨rfl, hb1⟩)
    | (go_at_call 47; refine (narrow_no _ _ (small_dif ia.out ib.out) ih.out).mono ?_; rintro e w2 ⟨rfl, hb2⟩)
    | go_in)
  go_ret2
  exact ⟨rfl, Below.more (Below.more (by go_grown) hb1) hb2⟩

theorem sub_no2 (a b : Int) (w : World) (ha : Ok a) (hb : ¬ Ok b) :
    Calls Try.prog 17 #[.int .i64 a, .int .i64 b] w fun e w' => e = .returned (.tuple #[.int .i64 0, .int .i64 7]) ∧ Below w.heap.size w w' := by
  have ia := Lib.hid ha
  have ib := Lib.hid hb
  clear ha hb
  go_enter Try.func17, Try.ntmps17
  go_wp2_with (first
    | (go_at_call_of 15 (a); refine (check_ok a _ ia.out).mono ?_; rintro e w' ⟨rfl, rfl⟩)
    | (go_at_call_of 15 (b); refine (check_no b _ ib.out).mono ?_; rintro e w' ⟨rfl, rfl⟩)
    | go_in)
  go_ret2
  exact ⟨rfl, by go_grown⟩

theorem sub_no1 (a b : Int) (w : World) (ha : ¬ Ok a) :
    Calls Try.prog 17 #[.int .i64 a, .int .i64 b] w fun e w' => e = .returned (.tuple #[.int .i64 0, .int .i64 7]) ∧ Below w.heap.size w w' := by
  have ia := Lib.hid ha
  clear ha
  go_enter Try.func17, Try.ntmps17
  go_wp2_with (first
    | (go_at_call 15; refine (check_no a _ ia.out).mono ?_; rintro e w' ⟨rfl, rfl⟩)
    | go_in)
  go_ret2
  exact ⟨rfl, by go_grown⟩

/-- What Sub says: a sum, difference or product of which nothing is beyond. -/
def subB (a b : Int) : Bool := okB a && okB b && okB (a - b)
theorem sub_any (a b : Int) (w : World) :
    Calls Try.prog 17 #[.int .i64 a, .int .i64 b] w fun e w' => e = .returned (.tuple #[.int .i64 (vl (subB a b) (a - b)), .int .i64 (er (subB a b))]) ∧ Below w.heap.size w w' := by
  by_cases ha : Ok a
  · by_cases hb : Ok b
    · by_cases h : Ok (a - b)
      · have := sub_ok a b w ha hb h
        simpa [subB, vl, er, okB_t ha, okB_t hb, okB_t h] using this
      · have := sub_no3 a b w ha hb h
        simpa [subB, vl, er, okB_f h] using this
    · have := sub_no2 a b w ha hb
      simpa [subB, vl, er, okB_f hb] using this
  · have := sub_no1 a b w ha
    simpa [subB, vl, er, okB_f ha] using this

set_option maxHeartbeats 1000000 in
theorem mul_ok (a b : Int) (w : World) (ha : Ok a) (hb : Ok b) (h : Ok (a * b)) :
    Calls Try.prog 19 #[.int .i64 a, .int .i64 b] w fun e w' => e = .returned (.tuple #[.int .i64 (a * b), .int .i64 0]) ∧ Below w.heap.size w w' := by
  have ia := Lib.hid ha
  have ib := Lib.hid hb
  have ih := Lib.hid h
  clear ha hb h
  go_enter Try.func19, Try.ntmps19
  go_wp2_with (first
    | (go_at_call 15; refine (check_ok _ _ (by first | exact ia.out | exact ib.out)).mono ?_; rintro e w' ⟨rfl, rfl⟩)
    | (go_at_call 44; refine (mul1_any _ _ a b _ (ok_i64 ia.out) (ok_i64 ib.out) (by simp [go_sem]) (by simp [go_sem])).mono ?_; rintro e w1 ⟨rfl, hb1⟩)
    | (go_at_call 47; refine (narrow_ok _ _ ih.out).mono ?_; rintro e w2 ⟨rfl, hb2⟩)
    | go_in)
  go_ret2
  exact ⟨rfl, Below.more (Below.more (by go_grown) hb1) hb2⟩

set_option maxHeartbeats 1000000 in
theorem mul_no3 (a b : Int) (w : World) (ha : Ok a) (hb : Ok b) (h : ¬ Ok (a * b)) :
    Calls Try.prog 19 #[.int .i64 a, .int .i64 b] w fun e w' => e = .returned (.tuple #[.int .i64 0, .int .i64 7]) ∧ Below w.heap.size w w' := by
  have ia := Lib.hid ha
  have ib := Lib.hid hb
  have ih := Lib.hid h
  clear ha hb h
  go_enter Try.func19, Try.ntmps19
  go_wp2_with (first
    | (go_at_call 15; refine (check_ok _ _ (by first | exact ia.out | exact ib.out)).mono ?_; rintro e w' ⟨rfl, rfl⟩)
    | (go_at_call 44; refine (mul1_any _ _ a b _ (ok_i64 ia.out) (ok_i64 ib.out) (by simp [go_sem]) (by simp [go_sem])).mono ?_; rintro e w1 ⟨rfl, hb1⟩)
    | (go_at_call 47; refine (narrow_no _ _ (mul_bd ia.out ib.out) ih.out).mono ?_; rintro e w2 ⟨rfl, hb2⟩)
    | go_in)
  go_ret2
  exact ⟨rfl, Below.more (Below.more (by go_grown) hb1) hb2⟩

theorem mul_no2 (a b : Int) (w : World) (ha : Ok a) (hb : ¬ Ok b) :
    Calls Try.prog 19 #[.int .i64 a, .int .i64 b] w fun e w' => e = .returned (.tuple #[.int .i64 0, .int .i64 7]) ∧ Below w.heap.size w w' := by
  have ia := Lib.hid ha
  have ib := Lib.hid hb
  clear ha hb
  go_enter Try.func19, Try.ntmps19
  go_wp2_with (first
    | (go_at_call_of 15 (a); refine (check_ok a _ ia.out).mono ?_; rintro e w' ⟨rfl, rfl⟩)
    | (go_at_call_of 15 (b); refine (check_no b _ ib.out).mono ?_; rintro e w' ⟨rfl, rfl⟩)
    | go_in)
  go_ret2
  exact ⟨rfl, by go_grown⟩

theorem mul_no1 (a b : Int) (w : World) (ha : ¬ Ok a) :
    Calls Try.prog 19 #[.int .i64 a, .int .i64 b] w fun e w' => e = .returned (.tuple #[.int .i64 0, .int .i64 7]) ∧ Below w.heap.size w w' := by
  have ia := Lib.hid ha
  clear ha
  go_enter Try.func19, Try.ntmps19
  go_wp2_with (first
    | (go_at_call 15; refine (check_no a _ ia.out).mono ?_; rintro e w' ⟨rfl, rfl⟩)
    | go_in)
  go_ret2
  exact ⟨rfl, by go_grown⟩

/-- What Mul says: a sum, difference or product of which nothing is beyond. -/
def mulB (a b : Int) : Bool := okB a && okB b && okB (a * b)
theorem mul_any (a b : Int) (w : World) :
    Calls Try.prog 19 #[.int .i64 a, .int .i64 b] w fun e w' => e = .returned (.tuple #[.int .i64 (vl (mulB a b) (a * b)), .int .i64 (er (mulB a b))]) ∧ Below w.heap.size w w' := by
  by_cases ha : Ok a
  · by_cases hb : Ok b
    · by_cases h : Ok (a * b)
      · have := mul_ok a b w ha hb h
        simpa [mulB, vl, er, okB_t ha, okB_t hb, okB_t h] using this
      · have := mul_no3 a b w ha hb h
        simpa [mulB, vl, er, okB_f h] using this
    · have := mul_no2 a b w ha hb
      simpa [mulB, vl, er, okB_f hb] using this
  · have := mul_no1 a b w ha
    simpa [mulB, vl, er, okB_f ha] using this

end Go.Proofs.Ytkphkjcpbnnpfaa.Num
