/- Contracts of num.Add, Sub, Mul: the closures, and what is combined. -/
import Derived.Test.YtiahjacjpakkdaaS01
import Derived.Laws.Bits64b
import Derived.Laws.MathBits
namespace Go.Proofs.Ytiahjacjpakkdaa.Num
open Go.RowKit

/-- Sums of allowed numbers fit 128 bits. -/
theorem small_sum {a b : Int} (ha : Ok a) (hb : Ok b) : -170141183460469231731687303715884105728 ≤ a + b ∧ a + b < 170141183460469231731687303715884105728 := by unfold Ok at *; omega

/-- Two captured variables and the two cells of a result, in a world that has grown. -/
def Four (w0 : World) (p q : Addr) (B : Nat) (x y u v : Value) (w' : World) : Prop :=
  w'.cell? p = some x ∧ w'.cell? q = some y ∧ w'.cell? ⟨B, 0, none⟩ = some u ∧ w'.cell? ⟨B, 1, none⟩ = some v ∧ w'.frozen? ⟨B, 0, none⟩ = false ∧ w'.frozen? ⟨B, 1, none⟩ = false ∧ Below B w0 w' ∧ B < w'.heap.size ∧ p.block < B ∧ q.block < B
theorem Four.later {w0 : World} {p q : Addr} {B : Nat} {x y u v : Value} {w1 w2 : World} (h : Four w0 p q B x y u v w1) (hb : Below w1.heap.size w1 w2) : Four w0 p q B x y u v w2 := by
  obtain ⟨h1, h2, h3, h4, h5, h6, h7, h8, h9, h10⟩ := h
  refine ⟨?_, ?_, ?_, ?_, ?_, ?_, h7.trans (hb.mono (by omega)), Nat.lt_of_lt_of_le h8 hb.size, h9, h10⟩
  · rw [hb.cell (p := p) (by omega)]; exact h1
  · rw [hb.cell (p := q) (by omega)]; exact h2
  · rw [hb.cell (p := ⟨B, 0, none⟩) h8]; exact h3
  · rw [hb.cell (p := ⟨B, 1, none⟩) h8]; exact h4
  · rw [hb.frozen (p := ⟨B, 0, none⟩) h8]; exact h5
  · rw [hb.frozen (p := ⟨B, 1, none⟩) h8]; exact h6
theorem Four.first (w : World) (p q : Addr) (x y u v : Value) (T : TypeId) (hp : w.cell? p = some x) (hq : w.cell? q = some y) :
    Four w p q w.heap.size x y u v (w.alloc (.cells #[u, v] T)).drew := by
  have b1 := World.block_lt_of_cell? w p hp
  have b2 := World.block_lt_of_cell? w q hq
  have hb : Below w.heap.size w (w.alloc (.cells #[u, v] T)).drew := ((Below.refl _ _).alloc (Nat.le_refl _) _).drew
  refine ⟨(hb.cell b1).trans hp, (hb.cell b2).trans hq, ?_, ?_, ?_, ?_, hb, by simp, b1, b2⟩ <;> simp [go_sem]

/-- A result's two cells behind the stores. -/
theorem two_stores {w : World} {n : Nat} {u v : Value} (x y : Value) (h0 : w.cell? ⟨n, 0, none⟩ = some u) (h1 : w.cell? ⟨n, 1, none⟩ = some v) :
    ((w.setCell ⟨n, 0, none⟩ x).setCell ⟨n, 1, none⟩ y).cell? ⟨n, 0, none⟩ = some x ∧ ((w.setCell ⟨n, 0, none⟩ x).setCell ⟨n, 1, none⟩ y).cell? ⟨n, 1, none⟩ = some y := by
  constructor <;> simp [go_sem, World.cell?_setCell_other, h0, h1]

/-! Products: the library's contract of bits.Mul64 at this program. -/
end Go.Proofs.Ytiahjacjpakkdaa.Num
