/- Contracts of package num's functions: what each call returns, in the integers. -/
import Derived.Test.YtiahjacjpakkdaaRows
import Derived.WalkKit
import Derived.WalkSpells
import Derived.WalkLawsBesides
import Derived.Handy
import Derived.Lib.Hide
import Derived.Deep.RegionHeld3
import Derived.ChangeKeysEq
namespace Go.Proofs.Ytiahjacjpakkdaa.Num
open Go.RowKit

/-- A number that is allowed. -/
def Ok (a : Int) : Prop := -1152921504606846976 ≤ a ∧ a ≤ 1152921504606846976
instance (a : Int) : Decidable (Ok a) := by unfold Ok; exact inferInstance
/-- An int64. -/
def I64 (a : Int) : Prop := -9223372036854775808 ≤ a ∧ a ≤ 9223372036854775807
/-- The two words of an integer of 128 bits. -/
def lo (n : Int) : Int := n % 18446744073709551616
def hi (n : Int) : Int := n / 18446744073709551616 % 18446744073709551616

theorem within_yes (a l h : Int) (w : World) (h1 : l ≤ a) (h2 : a ≤ h) :
    Calls Try.prog 60 #[.int .i64 a, .int .i64 l, .int .i64 h] w fun e w' => e = .returned (.bool true) ∧ w = w' := by
  go_enter Try.func60, Try.ntmps60
  go_wp2
  go_ret
  exact ⟨by simp, rfl⟩

theorem within_no (a l h : Int) (w : World) (h1 : ¬ (l ≤ a ∧ a ≤ h)) :
    Calls Try.prog 60 #[.int .i64 a, .int .i64 l, .int .i64 h] w fun e w' => e = .returned (.bool false) ∧ w = w' := by
  by_cases g : l ≤ a
  · have g2 : h < a := by omega
    clear h1
    go_enter Try.func60, Try.ntmps60
    go_wp2
    go_ret
    exact ⟨by simp; omega, rfl⟩
  · clear h1
    go_enter Try.func60, Try.ntmps60
    go_wp2
    go_ret
    exact ⟨by simp, rfl⟩

theorem check_ok (a : Int) (w : World) (h : Ok a) :
    Calls Try.prog 44 #[.int .i64 a] w fun e w' => e = .returned (.int .i64 0) ∧ w = w' := by
  unfold Ok at h
  go_enter Try.func44, Try.ntmps44
  go_wp2_with (go_at_call 60; refine (within_yes _ _ _ _ h.1 h.2).mono ?_; rintro e w' ⟨rfl, rfl⟩)
  go_ret
  exact ⟨rfl, rfl⟩

theorem check_no (a : Int) (w : World) (h : ¬ Ok a) :
    Calls Try.prog 44 #[.int .i64 a] w fun e w' => e = .returned (.int .i64 7) ∧ w = w' := by
  unfold Ok at h
  go_enter Try.func44, Try.ntmps44
  go_wp2_with (go_at_call 60; refine (within_no _ _ _ _ h).mono ?_; rintro e w' ⟨rfl, rfl⟩)
  go_ret
  exact ⟨rfl, rfl⟩


theorem sign_eq (a : Int) (h : I64 a) : IntKind.u64.wrap (a / 9223372036854775808) = hi a := by
  unfold I64 at h
  rw [IntKind.wrap_u64]
  unfold hi
  omega

theorem sign_any (a : Int) (w : World) (h : I64 a) :
    Calls Try.prog 67 #[.int .i64 a] w fun e w' => e = .returned (.int .u64 (hi a)) ∧ w = w' := by
  have H := sign_eq a h
  unfold I64 at h
  go_enter Try.func67, Try.ntmps67
  go_wp2
  go_ret
  exact ⟨rfl, rfl⟩

theorem widen_any (a : Int) (w : World) (h : I64 a) :
    Calls Try.prog 52 #[.int .i64 a] w fun e w' => e = .returned (.agg #[.int .u64 (lo a), .int .u64 (hi a)]) ∧ Below w.heap.size w w' := by
  have H1 : IntKind.u64.wrap a = lo a := by rw [IntKind.wrap_u64]; unfold lo; omega
  go_enter Try.func52, Try.ntmps52
  go_wp2_with (go_at_call 67; refine (sign_any _ _ h).mono ?_; rintro e w' ⟨rfl, rfl⟩)
  go_returns
  exact ⟨rfl, by go_grown⟩

theorem add64_run (x y c : Int) (hx : 0 ≤ x) (hy : 0 ≤ y) (hc0 : 0 ≤ c) (hc : c ≤ 1) (w : World) :
    (callFunc 66 #[.int .u64 x, .int .u64 y, .int .u64 c]).run Try.prog w =
      .ok (.value (.tuple #[.int .u64 ((x + y + c) % 18446744073709551616), .int .u64 ((x + y + c) / 18446744073709551616)])) w := by
  rw [run_callFunc_extern Try.func66 (by kernel_rfl) (by kernel_rfl) (by kernel_rfl) (e := add64Entry) (by kernel_rfl), run_add64 x y c hx hy hc0 hc]
  rfl


/-- The carry of the low words. -/
def cy (m n : Int) : Int := (lo m + lo n) / 18446744073709551616
theorem cy_bd (m n : Int) : 0 ≤ cy m n ∧ cy m n ≤ 1 := by unfold cy lo; omega
theorem lo_nn (n : Int) : 0 ≤ lo n ∧ lo n ≤ 18446744073709551615 := by unfold lo; omega
theorem hi_nn (n : Int) : 0 ≤ hi n ∧ hi n ≤ 18446744073709551615 := by unfold hi; omega
theorem add_low (m n : Int) (w : World) :
    (callFunc 66 #[.int .u64 (lo m), .int .u64 (lo n), .int .u64 0]).run Try.prog w =
      .ok (.value (.tuple #[.int .u64 (lo (m + n)), .int .u64 (cy m n)])) w := by
  rw [add64_run _ _ _ (lo_nn m).1 (lo_nn n).1 (by omega) (by omega)]
  have e1 : (lo m + lo n + 0) % 18446744073709551616 = lo (m + n) := by unfold lo; omega
  have e2 : (lo m + lo n + 0) / 18446744073709551616 = cy m n := by unfold cy; omega
  rw [e1, e2]
/-- The carry out of the high words. -/
def cz (m n : Int) : Int := (hi m + hi n + cy m n) / 18446744073709551616
theorem add_high (m n : Int) (w : World) :
    (callFunc 66 #[.int .u64 (hi m), .int .u64 (hi n), .int .u64 (cy m n)]).run Try.prog w =
      .ok (.value (.tuple #[.int .u64 (hi (m + n)), .int .u64 (cz m n)])) w := by
  rw [add64_run _ _ _ (hi_nn m).1 (hi_nn n).1 (cy_bd m n).1 (cy_bd m n).2]
  have e1 : (hi m + hi n + cy m n) % 18446744073709551616 = hi (m + n) := by unfold cy hi lo; omega
  rw [e1]
  rfl

theorem plus_any (m n : Int) (w : World) :
    Calls Try.prog 51 #[.agg #[.int .u64 (lo m), .int .u64 (hi m)], .agg #[.int .u64 (lo n), .int .u64 (hi n)]] w fun e w' => e = .returned (.agg #[.int .u64 (lo (m + n)), .int .u64 (hi (m + n))]) ∧ Below w.heap.size w w' := by
  have r1 := add_low m n
  have r2 := add_high m n
  go_enter Try.func51, Try.ntmps51
  go_wp2
  go_returns
  exact ⟨rfl, by go_grown⟩

/-- The number that two words are, if it is allowed. -/
theorem words_eq (n a : Int) (h : -170141183460469231731687303715884105728 ≤ n ∧ n < 170141183460469231731687303715884105728) (ha : I64 a) (h1 : lo n = lo a) (h2 : hi n = hi a) : n = a := by
  unfold I64 at ha; unfold lo at h1; unfold hi at h2; omega
/-- The low word as an int64. -/
def sgn (n : Int) : Int := IntKind.i64.wrap (lo n)
theorem sgn_i64 (n : Int) : I64 (sgn n) := by unfold sgn I64; rw [IntKind.wrap_i64]; omega
theorem sgn_of (n : Int) (h : I64 n) : sgn n = n := by unfold I64 at h; unfold sgn lo; rw [IntKind.wrap_i64]; omega
theorem sgn_lo (n : Int) : lo (sgn n) = lo n := by unfold sgn lo; rw [IntKind.wrap_i64]; omega
theorem ok_i64 {a : Int} (h : Ok a) : I64 a := by unfold Ok at h; unfold I64; omega

/-- Two pairs of words are compared. -/
theorem eq_words (a b c d : Int) (w : World) : (Op.equalIn 10000 94 (.agg #[.int .u64 a, .int .u64 b]) (.agg #[.int .u64 c, .int .u64 d])).run Try.prog w = .ok (a == c && b == d) w := by
  obtain ⟨i, hi⟩ := Option.isSome_iff_exists.1 (show (Try.prog.info? 92).isSome = true by kernel_rfl)
  rw [run_equalIn_array w 9999 _ _ Try.underlying94 hi]
  have hc : Try.prog.cellsOf 92 = 1 := by kernel_rfl
  rw [hc]
  simp [Op.eqItems, go_sem, List.range, List.range.loop]
  by_cases h1 : a = c <;> by_cases h2 : b = d <;> simp [*]

/-- Below B nothing has turned, and the two words lie where they lay. -/
def Words (w0 : World) (B : Nat) (x y : Int) (w' : World) : Prop :=
  w'.cell? ⟨B, 0, none⟩ = some (.int .u64 x) ∧ w'.cell? ⟨B, 1, none⟩ = some (.int .u64 y) ∧ Below B w0 w' ∧ B < w'.heap.size
theorem Words.later {w0 : World} {B : Nat} {x y : Int} {w1 w2 : World} (h : Words w0 B x y w1) (hb : Below w1.heap.size w1 w2) : Words w0 B x y w2 := by
  obtain ⟨h1, h2, h3, h4⟩ := h
  refine ⟨by rw [hb.cell (p := ⟨B, 0, none⟩) h4]; exact h1, by rw [hb.cell (p := ⟨B, 1, none⟩) h4]; exact h2, h3.trans (hb.mono (by omega)), Nat.lt_of_lt_of_le h4 hb.size⟩
theorem Words.drew {w0 : World} {B : Nat} {x y : Int} {w1 : World} (h : Words w0 B x y w1) : Words w0 B x y w1.drew := ⟨h.1, h.2.1, h.2.2.1.drew, h.2.2.2⟩
theorem Words.first (w : World) (x y : Int) (T : TypeId) : Words w w.heap.size x y (w.alloc (.cells #[.int .u64 x, .int .u64 y] T)) := by
  refine ⟨?_, ?_, (Below.refl _ _).alloc (Nat.le_refl _) _, by simp⟩ <;> simp [go_sem]

theorem narrow_ok (n : Int) (w : World) (h : Ok n) :
    Calls Try.prog 53 #[.agg #[.int .u64 (lo n), .int .u64 (hi n)]] w fun e w' => e = .returned (.tuple #[.int .i64 n, .int .i64 0]) ∧ Below w.heap.size w w' := by
  have e1 : IntKind.i64.wrap (lo n) = n := sgn_of n (ok_i64 h)
  have hi64 := Lib.hid (ok_i64 h)
  have hok := Lib.hid h
  have heq := eq_words (lo n) (hi n) (lo n) (hi n)
  simp only [beq_self_eq_true, Bool.and_self] at heq
  clear h
  go_enter Try.func53, Try.ntmps53
  go_wp2
  have hw := Words.first w (lo n) (hi n) 94
  go_region_held3 (fun w' => w'.cell? ⟨w.heap.size, 0, none⟩ = some (.int .u64 (lo n)) ∧ w'.cell? ⟨w.heap.size, 1, none⟩ = some (.int .u64 (hi n)) ∧ Below w.heap.size w w' ∧ w.heap.size < w'.heap.size) ((first | exact hw.drew | exact Words.later (by assumption) (by assumption) | assumption))
    (first | (go_at_call 52; refine (widen_any n _ hi64.out).mono ?_; rintro e w' ⟨rfl, hb⟩) | (go_at_call 44; refine (check_ok n _ hok.out).mono ?_; rintro e w' ⟨rfl, rfl⟩))
  go_wp2
  go_ret2
  rename_i hh
  exact ⟨rfl, hh.2.2.1⟩

theorem narrow_no1 (n : Int) (w : World) (hi64 : I64 n) (h : ¬ Ok n) :
    Calls Try.prog 53 #[.agg #[.int .u64 (lo n), .int .u64 (hi n)]] w fun e w' => e = .returned (.tuple #[.int .i64 0, .int .i64 7]) ∧ Below w.heap.size w w' := by
  have e1 : IntKind.i64.wrap (lo n) = n := sgn_of n hi64
  have hi64 := Lib.hid hi64
  have hok := Lib.hid h
  have heq := eq_words (lo n) (hi n) (lo n) (hi n)
  simp only [beq_self_eq_true, Bool.and_self] at heq
  clear h
  go_enter Try.func53, Try.ntmps53
  go_wp2
  have hw := Words.first w (lo n) (hi n) 94
  go_region_held3 (fun w' => w'.cell? ⟨w.heap.size, 0, none⟩ = some (.int .u64 (lo n)) ∧ w'.cell? ⟨w.heap.size, 1, none⟩ = some (.int .u64 (hi n)) ∧ Below w.heap.size w w' ∧ w.heap.size < w'.heap.size) ((first | exact hw.drew | exact Words.later (by assumption) (by assumption) | assumption))
    (first | (go_at_call 52; refine (widen_any n _ hi64.out).mono ?_; rintro e w' ⟨rfl, hb⟩) | (go_at_call 44; refine (check_no n _ hok.out).mono ?_; rintro e w' ⟨rfl, rfl⟩))
  go_wp2
  go_ret2
  rename_i hh
  exact ⟨rfl, hh.2.2.1⟩

theorem narrow_no2 (n : Int) (w : World) (hn : -170141183460469231731687303715884105728 ≤ n ∧ n < 170141183460469231731687303715884105728) (h : ¬ I64 n) :
    Calls Try.prog 53 #[.agg #[.int .u64 (lo n), .int .u64 (hi n)]] w fun e w' => e = .returned (.tuple #[.int .i64 0, .int .i64 7]) ∧ Below w.heap.size w w' := by
  have e1 : IntKind.i64.wrap (lo n) = sgn n := rfl
  have hi64 := Lib.hid (sgn_i64 n)
  have heq := eq_words (lo n) (hi n) (lo (sgn n)) (hi (sgn n))
  have hne : (lo n == lo (sgn n) && hi n == hi (sgn n)) = false := by
    rw [Bool.eq_false_iff]
    intro hh
    simp only [Bool.and_eq_true, beq_iff_eq] at hh
    have := words_eq n (sgn n) hn (sgn_i64 n) hh.1 hh.2
    rw [this] at h
    exact h (sgn_i64 n)
  rw [hne] at heq
  clear h hn hne
  generalize sgn n = s at *
  go_enter Try.func53, Try.ntmps53
  go_wp2
  have hw := Words.first w (lo n) (hi n) 94
  first
    | (go_region_with (first | (go_at_call 52; refine (widen_any s _ hi64.out).mono ?_; rintro e w' ⟨rfl, hb⟩; obtain ⟨x1, x2, x3, x4⟩ := Words.later hw.drew hb)))
    | fail
  all_goals
    go_wp2
    go_ret2
    exact ⟨rfl, by assumption⟩

theorem narrow_no (n : Int) (w : World) (hn : -170141183460469231731687303715884105728 ≤ n ∧ n < 170141183460469231731687303715884105728) (h : ¬ Ok n) :
    Calls Try.prog 53 #[.agg #[.int .u64 (lo n), .int .u64 (hi n)]] w fun e w' => e = .returned (.tuple #[.int .i64 0, .int .i64 7]) ∧ Below w.heap.size w w' := by
  by_cases g : I64 n
  · exact narrow_no1 n w g h
  · exact narrow_no2 n w hn g

end Go.Proofs.Ytiahjacjpakkdaa.Num
