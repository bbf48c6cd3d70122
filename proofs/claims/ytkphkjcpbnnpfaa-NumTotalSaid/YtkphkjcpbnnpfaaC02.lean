/- Contracts of num.Add, Sub, Mul: the closures, and what is combined. -/
import Derived.Test.YtkphkjcpbnnpfaaC01
import Derived.Laws.Bits64b
import Derived.Laws.MathBits
import Derived.Shelf.Bits.Mul64
namespace Go.Proofs.Ytkphkjcpbnnpfaa.Num
open Go.RowKit

/-- Sums of allowed numbers fit 128 bits. -/
theorem small_sum {a b : Int} (ha : Ok a) (hb : Ok b) : -170141183460469231731687303715884105728 ≤ a + b ∧ a + b < 170141183460469231731687303715884105728 := by unfold Ok at *; omega

/-- Two captured variables and the two cells of a result, in a world that has grown. -/
def Four (w0 : World) (p q : Addr) (B : Nat) (x y u v : Value) (w' : World) : Prop :=
  w'.cell? p = some x ∧ w'.cell? q = some y ∧ w'.cell? ⟨B, 0, none⟩ = some u ∧ w'.cell? ⟨B, 1, none⟩ = some v ∧ w'.frozen? ⟨B, 0, none⟩ = false ∧ w'.frozen? ⟨B, 1, none⟩ = false ∧ Below B w0 w' ∧ B < w'.heap.size ∧ p.block < B ∧ q.block < B
theorem Four.later {w0 : World} {p q : Addr} {B : Nat} {x y u v : Value} {w1 w2 : World} (h : Four w0 p q B x y u v w1) (hb : Below w1.heap.size w1 w2) : Four w0 p q B x y u v w2 := by
  obtain ⟨h1, h2, h3, h4, h5, h6, h7, h8, h9, h10⟩ := h
  refine ⟨?_, ?_, ?_, ?_, ?_, ?_, h7.trans (hb.mono (by omega)), Nat.lt_of_lt_of_le h8 hb.size, h9, h10⟩
  · rw [hb.cell (p := p) (by omega)]; exact h1
  · rw [hb.cell (p := q) (by omega)]; exact h2
  · rw [hb.cell (p := ⟨B, 0, none⟩) h8]; exact h3
  · rw [hb.cell (p := ⟨B, 1, none⟩) h8]; exact h4
  · rw [hb.frozen (p := ⟨B, 0, none⟩) h8]; exact h5
  · rw [hb.frozen (p := ⟨B, 1, none⟩) h8]; exact h6
theorem Four.first (w : World) (p q : Addr) (x y u v : Value) (T : TypeId) (hp : w.cell? p = some x) (hq : w.cell? q = some y) :
    Four w p q w.heap.size x y u v (w.alloc (.cells #[u, v] T)).drew := by
  have b1 := World.block_lt_of_cell? w p hp
  have b2 := World.block_lt_of_cell? w q hq
  have hb : Below w.heap.size w (w.alloc (.cells #[u, v] T)).drew := ((Below.refl _ _).alloc (Nat.le_refl _) _).drew
  refine ⟨(hb.cell b1).trans hp, (hb.cell b2).trans hq, ?_, ?_, ?_, ?_, hb, by simp, b1, b2⟩ <;> simp [go_sem]

/-- A result's two cells behind the stores. -/
theorem two_stores {w : World} {n : Nat} {u v : Value} (x y : Value) (h0 : w.cell? ⟨n, 0, none⟩ = some u) (h1 : w.cell? ⟨n, 1, none⟩ = some v) :
    ((w.setCell ⟨n, 0, none⟩ x).setCell ⟨n, 1, none⟩ y).cell? ⟨n, 0, none⟩ = some x ∧ ((w.setCell ⟨n, 0, none⟩ x).setCell ⟨n, 1, none⟩ y).cell? ⟨n, 1, none⟩ = some y := by
  constructor <;> simp [go_sem, World.cell?_setCell_other, h0, h1]

set_option maxHeartbeats 2000000 in
theorem add1_any (p q : Addr) (a b : Int) (w : World) (ha : I64 a) (hb : I64 b) (hp : w.cell? p = some (.int .i64 a)) (hq : w.cell? q = some (.int .i64 b)) :
    Calls Try.prog 39 #[.pointer (some p), .pointer (some q)] w fun e w' => e = .returned (.agg #[.int .u64 (lo (a + b)), .int .u64 (hi (a + b))]) ∧ Below w.heap.size w w' := by
  have ia := Lib.hid ha
  have ib := Lib.hid hb
  clear ha hb
  have f1 := Four.first w p q _ _ (.int .u64 0) (.int .u64 0) 49 hp hq
  have g1 : (w.alloc (.cells #[.int .u64 0, .int .u64 0] 49)).cell? p = some (.int .i64 a) := f1.1
  have g2 : (w.alloc (.cells #[.int .u64 0, .int .u64 0] 49)).cell? q = some (.int .i64 b) := f1.2.1
  go_enter Try.func39, Try.ntmps39
  go_wp2
  all_goals
    (go_region_with (first
        | (go_at_call 40; refine (widen_any _ _ (by first | exact ia.out | exact ib.out)).mono ?_; rintro e w' ⟨rfl, hb⟩; have f1 := Four.later f1 hb; have x1 := f1.1; have x2 := f1.2.1)
        | (go_at_call 41; refine (plus_any _ _ _).mono ?_; rintro e w' ⟨rfl, hb⟩; have f1 := Four.later f1 hb; obtain ⟨x1, x2, x3, x4, x5, x6, x7, x8, x9, x10⟩ := f1)))
  all_goals
    obtain ⟨y0, y1⟩ := two_stores (.int .u64 (lo (a + b))) (.int .u64 (hi (a + b))) x3 x4
    go_wp2
    refine bodyPost_ret (v := .agg #[.int .u64 (lo (a + b)), .int .u64 (hi (a + b))]) (by simp [results, Try.results39, go_sem, y0, y1]) rfl ⟨rfl, ?_⟩
    go_grown


/-! Products: the library's contract of bits.Mul64 at this program. -/
def mul64_ren : Go.Shelf.Ren := ⟨fun | 264 => 51 | n => n, fun | 53 => 37 | 46 => 42 | n => n, fun | n => n⟩
theorem mul64_lays : Go.Proofs.Lays.n264 Try.prog mul64_ren := {
  mixed := by kernel_rfl
  f264 := Try.func51.trans (congrArg some (by kernel_rfl))
  t46 := Try.underlying42
  a46 := Try.isAgg42
  z46 := Try.sizeOf42
  v46 := Try.zeroValue42
  t53 := Try.underlying37
  a53 := Try.isAgg37
  z53 := Try.sizeOf37
  v53 := Try.zeroValue37 }

/-- The upper word of a product of words. -/
def mh (a b : Int) : Int := lo a * lo b / 18446744073709551616
theorem mul64_any (a b : Int) (w : World) :
    Calls Try.prog 51 #[.int .u64 (lo a), .int .u64 (lo b)] w fun e w' => e = .returned (.tuple #[.int .u64 (mh a b), .int .u64 (lo (a * b))]) ∧ w = w' := by
  have ha := lo_nn a
  have hb := lo_nn b
  obtain ⟨x, hx⟩ := Int.eq_ofNat_of_zero_le ha.1
  obtain ⟨y, hy⟩ := Int.eq_ofNat_of_zero_le hb.1
  have e1 : mh a b = ((x * y / 18446744073709551616 : Nat) : Int) := by unfold mh; rw [hx, hy]; simp
  have e2 : lo (a * b) = ((x * y % 18446744073709551616 : Nat) : Int) := by
    have : lo (a * b) = (lo a * lo b) % 18446744073709551616 := by unfold lo; exact Int.mul_emod a b _
    rw [this, hx, hy]; simp
  rw [e1, e2, hx, hy]
  exact (Any.bits_Mul64 mul64_lays x y (by omega) (by omega) w).mono fun e w' ⟨h1, h2⟩ => ⟨h1, h2.symm⟩

/-- The word of b if a is negative, else 0. -/
def sg (a b : Int) : Int := if a < 0 then lo b else 0
theorem sg_nn (a b : Int) : 0 ≤ sg a b ∧ sg a b ≤ 18446744073709551615 := by unfold sg; have := lo_nn b; split <;> omega
theorem and_sign (a b : Int) (ha : I64 a) : bits .and .u64 (hi a) (lo b) = sg a b := by
  have hb := lo_nn b
  obtain ⟨y, hy⟩ := Int.eq_ofNat_of_zero_le hb.1
  unfold I64 at ha
  rw [hy]
  by_cases h : a < 0
  · have e : hi a = ((18446744073709551615 : Nat) : Int) := by unfold hi; omega
    rw [e, bits_and_u64_nat _ _ (by omega) (by omega)]
    have e2 : 18446744073709551615 &&& y = y := by
      rw [Nat.and_comm, Nat.and_two_pow_sub_one_eq_mod y 64]; omega
    rw [e2]; simp [sg, h, hy]
  · have e : hi a = ((0 : Nat) : Int) := by unfold hi; omega
    rw [e, bits_and_u64_nat _ _ (by omega) (by omega)]
    simp [sg, h]
theorem prod_hi (a b : Int) (ha : I64 a) (hb : I64 b) : IntKind.u64.wrap (mh a b - IntKind.u64.wrap (sg a b + sg b a)) = hi (a * b) := by
  unfold I64 at ha hb
  rw [IntKind.wrap_u64, IntKind.wrap_u64]
  unfold mh sg hi
  by_cases h1 : a < 0 <;> by_cases h2 : b < 0
  · have e1 : lo a = a + 18446744073709551616 := by unfold lo; omega
    have e2 : lo b = b + 18446744073709551616 := by unfold lo; omega
    rw [if_pos h1, if_pos h2, e1, e2, Int.add_mul, Int.mul_add, Int.mul_add]
    generalize a * b = P at *
    omega
  · have e1 : lo a = a + 18446744073709551616 := by unfold lo; omega
    have e2 : lo b = b := by unfold lo; omega
    rw [if_pos h1, if_neg h2, e1, e2, Int.add_mul]
    generalize a * b = P at *
    omega
  · have e1 : lo a = a := by unfold lo; omega
    have e2 : lo b = b + 18446744073709551616 := by unfold lo; omega
    rw [if_neg h1, if_pos h2, e1, e2, Int.mul_add]
    generalize a * b = P at *
    omega
  · have e1 : lo a = a := by unfold lo; omega
    have e2 : lo b = b := by unfold lo; omega
    rw [if_neg h1, if_neg h2, e1, e2]
    generalize a * b = P at *
    omega

theorem product_any (a b : Int) (w : World) (ha : I64 a) (hb : I64 b) :
    Calls Try.prog 45 #[.int .i64 a, .int .i64 b] w fun e w' => e = .returned (.agg #[.int .u64 (lo (a * b)), .int .u64 (hi (a * b))]) ∧ Below w.heap.size w w' := by
  have p1 := prod_hi a b ha hb
  have s1 := and_sign a b ha
  have s2 := and_sign b a hb
  have l1 : IntKind.u64.wrap a = lo a := by rw [IntKind.wrap_u64]; unfold lo; omega
  have l2 : IntKind.u64.wrap b = lo b := by rw [IntKind.wrap_u64]; unfold lo; omega
  have ia := Lib.hid ha
  have ib := Lib.hid hb
  clear ha hb
  go_enter Try.func45, Try.ntmps45
  go_wp2_with (first
    | (go_at_call 51; refine (mul64_any _ _ _).mono ?_; rintro e w' ⟨rfl, rfl⟩)
    | (go_at_call 49; refine (sign_any _ _ (by first | exact ia.out | exact ib.out)).mono ?_; rintro e w' ⟨rfl, rfl⟩))
  go_outline
  go_returns
  exact ⟨rfl, by go_grown⟩

end Go.Proofs.Ytkphkjcpbnnpfaa.Num
