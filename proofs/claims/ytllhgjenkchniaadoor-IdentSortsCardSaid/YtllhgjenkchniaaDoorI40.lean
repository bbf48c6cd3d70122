/- The walk of IdentSorts. -/
import Derived.Test.YtllhgjenkchniaaDoorI19
import Derived.Test.YtllhgjenkchniaaDoorI24
namespace Go.Proofs.YtllhgjenkchniaaDoor.Ident
open Go.RowKit Go.Lib
set_option linter.unusedVariables false
set_option linter.unusedSimpArgs false
set_option maxRecDepth 20000

theorem ord3_lt {a b p x y z : Int} : ordV a b p x y z < 0 ↔ (a < x ∨ (a = x ∧ (b < y ∨ (b = y ∧ p < z)))) := by
  unfold ordV orV compareInt
  by_cases h1 : a < x
  · simp [h1]
  · by_cases h2 : x < a
    · simp [h1, h2]; omega
    · have h3 : a = x := by omega
      subst h3
      by_cases h4 : b < y
      · simp [h4]
      · by_cases h5 : y < b
        · simp [h4, h5]; omega
        · have h6 : b = y := by omega
          subst h6
          by_cases h7 : p < z
          · simp [h7]
          · by_cases h8 : z < p
            · simp [h7, h8]
            · simp [h7, h8]
theorem ord3_zero {a b p x y z : Int} : ordV a b p x y z = 0 ↔ (a = x ∧ b = y ∧ p = z) := by
  unfold ordV orV compareInt
  by_cases h1 : a < x
  · simp [h1]; omega
  · by_cases h2 : x < a
    · simp [h1, h2]; omega
    · have h3 : a = x := by omega
      subst h3
      by_cases h4 : b < y
      · simp [h4]; omega
      · by_cases h5 : y < b
        · simp [h4, h5]; omega
        · have h6 : b = y := by omega
          subst h6
          by_cases h7 : p < z
          · simp [h7]; omega
          · by_cases h8 : z < p
            · simp [h7, h8]; omega
            · simp [h7, h8]; omega
theorem ord3_rng (a b p x y z : Int) : ordV a b p x y z = -1 ∨ ordV a b p x y z = 0 ∨ ordV a b p x y z = 1 := by
  unfold ordV orV compareInt
  by_cases h1 : a < x
  · simp [h1]
  · by_cases h2 : x < a
    · simp [h1, h2]
    · by_cases h4 : b < y
      · simp [h1, h2, h4]
      · by_cases h5 : y < b
        · simp [h1, h2, h4, h5]
        · by_cases h7 : p < z
          · simp [h1, h2, h4, h5, h7]
          · by_cases h8 : z < p
            · simp [h1, h2, h4, h5, h7, h8]
            · simp [h1, h2, h4, h5, h7, h8]
theorem ord3_anti (a b p x y z : Int) : ordV x y z a b p = -ordV a b p x y z := by
  have l1 := ord3_lt (a := a) (b := b) (p := p) (x := x) (y := y) (z := z)
  have l2 := ord3_lt (a := x) (b := y) (p := z) (x := a) (y := b) (z := p)
  have z1 := ord3_zero (a := a) (b := b) (p := p) (x := x) (y := y) (z := z)
  have z2 := ord3_zero (a := x) (b := y) (p := z) (x := a) (y := b) (z := p)
  have r1 := ord3_rng a b p x y z
  have r2 := ord3_rng x y z a b p
  generalize ordV a b p x y z = u at *
  generalize ordV x y z a b p = v at *
  rcases r1 with rfl | rfl | rfl <;> rcases r2 with rfl | rfl | rfl <;> first | rfl | (exfalso; omega)
def nmE (a b p : Int) : Int := nmI ⟨a, b, p, 0, false, 3⟩
theorem nmE_lt {a b p x y z : Int} (h1 : effOk a b p) (h2 : effOk x y z) : nmE a b p < nmE x y z ↔ ordV a b p x y z < 0 := by
  have e : ∀ {a b p : Int}, effOk a b p → nmE a b p = 1 + (((a - 1) * 8 + b) * 3 + p - 1) * 7 + 3 - 1 := by
    intro a b p h
    unfold nmE
    rw [show nmI ⟨a, b, p, 0, false, 3⟩ = nmT ⟨a, b, p, 0, false, 3⟩ from if_pos ⟨(show (1 : Int) ≤ 3 by decide), (show (3 : Int) ≤ 7 by decide), .inl ⟨rfl, rfl, h⟩⟩]
    exact if_pos rfl
  rw [e h1, e h2, ord3_lt]
  unfold effOk at h1 h2
  omega
/-- The signs of three orders. -/
theorem ord3_tr {a b p x y z u v t : Int} (h1 : ordV a b p x y z ≤ 0) (h2 : ordV x y z u v t ≤ 0) : ordV a b p u v t ≤ 0 := by
  have l1 := ord3_lt (a := a) (b := b) (p := p) (x := x) (y := y) (z := z)
  have l2 := ord3_lt (a := x) (b := y) (p := z) (x := u) (y := v) (z := t)
  have l3 := ord3_lt (a := a) (b := b) (p := p) (x := u) (y := v) (z := t)
  have z1 := ord3_zero (a := a) (b := b) (p := p) (x := x) (y := y) (z := z)
  have z2 := ord3_zero (a := x) (b := y) (p := z) (x := u) (y := v) (z := t)
  have z3 := ord3_zero (a := a) (b := b) (p := p) (x := u) (y := v) (z := t)
  have r3 := ord3_rng a b p u v t
  generalize ordV a b p x y z = e1 at *
  generalize ordV x y z u v t = e2 at *
  generalize ordV a b p u v t = e3 at *
  rcases Int.lt_or_eq_of_le h1 with k1 | k1
  · have m1 := l1.1 k1
    rcases Int.lt_or_eq_of_le h2 with k2 | k2
    · have m2 := l2.1 k2
      have m3 : e3 < 0 := l3.2 (by omega)
      omega
    · have m2 := z2.1 k2
      have m3 : e3 < 0 := l3.2 (by omega)
      omega
  · have m1 := z1.1 k1
    rcases Int.lt_or_eq_of_le h2 with k2 | k2
    · have m2 := l2.1 k2
      have m3 : e3 < 0 := l3.2 (by omega)
      omega
    · have m2 := z2.1 k2
      have m3 : e3 = 0 := z3.2 (by omega)
      omega

abbrev T3E : TypeId := 54
abbrev T3I : TypeId := 55
/-- The two arrays and the three numbers. -/
structure Sx (w : World) (q : Nat) (a0 b0 p0 a1 b1 p1 a2 b2 p2 n0 n1 n2 : Int) (x y z : Nat) (W : World) : Prop where
  e : W.heap[q]? = some (.cells #[.int .i64 a0, .int .i64 b0, .int .i64 p0, .int .i64 a1, .int .i64 b1, .int .i64 p1, .int .i64 a2, .int .i64 b2, .int .i64 p2] T3E (0, 0))
  n : W.heap[q + 1]? = some (.cells #[.int .i64 n0, .int .i64 n1, .int .i64 n2] T3I (0, 0))
  u : W.heap[q + 1 + 1]? = some (.cells #[.int .u32 x, .int .u32 y, .int .u32 z] 50 (0, 0))
  bel : Below w.heap.size w W
  lo : w.heap.size ≤ q
section
variable {w W W' : World} {q : Nat} {a0 b0 p0 a1 b1 p1 a2 b2 p2 n0 n1 n2 : Int} {x y z : Nat}
theorem Sx.later (h : Sx w q a0 b0 p0 a1 b1 p1 a2 b2 p2 n0 n1 n2 x y z W) (hb : Below W.heap.size W W') : Sx w q a0 b0 p0 a1 b1 p1 a2 b2 p2 n0 n1 n2 x y z W' :=
  ⟨(hb.block _ (Array.getElem?_eq_some_iff.1 h.e).1).trans h.e, (hb.block _ (Array.getElem?_eq_some_iff.1 h.n).1).trans h.n, (hb.block _ (Array.getElem?_eq_some_iff.1 h.u).1).trans h.u, below2 h.bel hb, h.lo⟩
theorem Sx.drew (h : Sx w q a0 b0 p0 a1 b1 p1 a2 b2 p2 n0 n1 n2 x y z W) : Sx w q a0 b0 p0 a1 b1 p1 a2 b2 p2 n0 n1 n2 x y z W.drew := h.later (Below.refl _ _).drew
theorem Sx.ec (h : Sx w q a0 b0 p0 a1 b1 p1 a2 b2 p2 n0 n1 n2 x y z W) : W.cell? ⟨q, 0, none⟩ = some (.int .i64 a0) ∧ W.cell? ⟨q, 1, none⟩ = some (.int .i64 b0) ∧ W.cell? ⟨q, 2, none⟩ = some (.int .i64 p0) ∧ W.cell? ⟨q, 3, none⟩ = some (.int .i64 a1) ∧ W.cell? ⟨q, 4, none⟩ = some (.int .i64 b1) ∧
    W.cell? ⟨q, 5, none⟩ = some (.int .i64 p1) ∧ W.cell? ⟨q, 6, none⟩ = some (.int .i64 a2) ∧ W.cell? ⟨q, 7, none⟩ = some (.int .i64 b2) ∧ W.cell? ⟨q, 8, none⟩ = some (.int .i64 p2) ∧ (∀ i, W.frozen? ⟨q, i, none⟩ = false) :=
  ⟨cell_of_row _ _ 0 _ _ _ h.e, cell_of_row _ _ 1 _ _ _ h.e, cell_of_row _ _ 2 _ _ _ h.e, cell_of_row _ _ 3 _ _ _ h.e, cell_of_row _ _ 4 _ _ _ h.e, cell_of_row _ _ 5 _ _ _ h.e, cell_of_row _ _ 6 _ _ _ h.e, cell_of_row _ _ 7 _ _ _ h.e, cell_of_row _ _ 8 _ _ _ h.e, fun i => frozen_of_row _ _ i _ _ h.e⟩
theorem Sx.nc (h : Sx w q a0 b0 p0 a1 b1 p1 a2 b2 p2 n0 n1 n2 x y z W) : W.cell? ⟨q + 1, 0, none⟩ = some (.int .i64 n0) ∧ W.cell? ⟨q + 1, 1, none⟩ = some (.int .i64 n1) ∧ W.cell? ⟨q + 1, 2, none⟩ = some (.int .i64 n2) ∧ (∀ i, W.frozen? ⟨q + 1, i, none⟩ = false) :=
  ⟨cell_of_row _ _ 0 _ _ _ h.n, cell_of_row _ _ 1 _ _ _ h.n, cell_of_row _ _ 2 _ _ _ h.n, fun i => frozen_of_row _ _ i _ _ h.n⟩
theorem Sx.uc (h : Sx w q a0 b0 p0 a1 b1 p1 a2 b2 p2 n0 n1 n2 x y z W) : W.cell? ⟨q + 1 + 1, 0, none⟩ = some (.int .u32 x) ∧ W.cell? ⟨q + 1 + 1, 1, none⟩ = some (.int .u32 y) ∧ W.cell? ⟨q + 1 + 1, 2, none⟩ = some (.int .u32 z) :=
  ⟨cell_of_row _ _ 0 _ _ _ h.u, cell_of_row _ _ 1 _ _ _ h.u, cell_of_row _ _ 2 _ _ _ h.u⟩
theorem oth {W : World} {q k i : Nat} {v : Value} (h : k ≠ q) : (W.setCell ⟨q, i, none⟩ v).heap[k]? = W.heap[k]? := Below.heap_setCell _ _ _ _ h
def put3 (W : World) (q i : Nat) (a b p : Int) : World := ((W.setCell ⟨q, i, none⟩ (.int .i64 a)).setCell ⟨q, i + 1, none⟩ (.int .i64 b)).setCell ⟨q, i + 2, none⟩ (.int .i64 p)
theorem put3_oth {W : World} {q k i : Nat} {a b p : Int} (h : k ≠ q) : (put3 W q i a b p).heap[k]? = W.heap[k]? := ((oth h).trans (oth h)).trans (oth h)
theorem put3_bel {W : World} {q i : Nat} {a b p : Int} (h : Below w.heap.size w W) (hq : w.heap.size ≤ q) : Below w.heap.size w (put3 W q i a b p) := ((h.setCell (p := ⟨q, i, none⟩) hq _).setCell (p := ⟨q, i + 1, none⟩) hq _).setCell (p := ⟨q, i + 2, none⟩) hq _
theorem Sx.e0 (h : Sx w q a0 b0 p0 a1 b1 p1 a2 b2 p2 n0 n1 n2 x y z W) (a b p : Int) : Sx w q a b p a1 b1 p1 a2 b2 p2 n0 n1 n2 x y z (put3 W q 0 a b p) :=
  ⟨heap_setCell_same _ q 2 _ _ _ (heap_setCell_same _ q 1 _ _ _ (heap_setCell_same W q 0 _ _ _ h.e)), (put3_oth (by omega)).trans h.n, (put3_oth (by omega)).trans h.u, put3_bel h.bel h.lo, h.lo⟩
theorem Sx.e1 (h : Sx w q a0 b0 p0 a1 b1 p1 a2 b2 p2 n0 n1 n2 x y z W) (a b p : Int) : Sx w q a0 b0 p0 a b p a2 b2 p2 n0 n1 n2 x y z (put3 W q 3 a b p) :=
  ⟨heap_setCell_same _ q 5 _ _ _ (heap_setCell_same _ q 4 _ _ _ (heap_setCell_same W q 3 _ _ _ h.e)), (put3_oth (by omega)).trans h.n, (put3_oth (by omega)).trans h.u, put3_bel h.bel h.lo, h.lo⟩
theorem Sx.e2 (h : Sx w q a0 b0 p0 a1 b1 p1 a2 b2 p2 n0 n1 n2 x y z W) (a b p : Int) : Sx w q a0 b0 p0 a1 b1 p1 a b p n0 n1 n2 x y z (put3 W q 6 a b p) :=
  ⟨heap_setCell_same _ q 8 _ _ _ (heap_setCell_same _ q 7 _ _ _ (heap_setCell_same W q 6 _ _ _ h.e)), (put3_oth (by omega)).trans h.n, (put3_oth (by omega)).trans h.u, put3_bel h.bel h.lo, h.lo⟩
theorem Sx.m0 (h : Sx w q a0 b0 p0 a1 b1 p1 a2 b2 p2 n0 n1 n2 x y z W) (v : Int) : Sx w q a0 b0 p0 a1 b1 p1 a2 b2 p2 v n1 n2 x y z (W.setCell ⟨q + 1, 0, none⟩ (.int .i64 v)) :=
  ⟨(oth (by omega)).trans h.e, heap_setCell_same W _ 0 _ _ _ h.n, (oth (by omega)).trans h.u, h.bel.setCell (p := ⟨q + 1, 0, none⟩) (by have := h.lo; show _ ≤ q + 1; omega) _, h.lo⟩
theorem Sx.m1 (h : Sx w q a0 b0 p0 a1 b1 p1 a2 b2 p2 n0 n1 n2 x y z W) (v : Int) : Sx w q a0 b0 p0 a1 b1 p1 a2 b2 p2 n0 v n2 x y z (W.setCell ⟨q + 1, 1, none⟩ (.int .i64 v)) :=
  ⟨(oth (by omega)).trans h.e, heap_setCell_same W _ 1 _ _ _ h.n, (oth (by omega)).trans h.u, h.bel.setCell (p := ⟨q + 1, 1, none⟩) (by have := h.lo; show _ ≤ q + 1; omega) _, h.lo⟩
theorem Sx.m2 (h : Sx w q a0 b0 p0 a1 b1 p1 a2 b2 p2 n0 n1 n2 x y z W) (v : Int) : Sx w q a0 b0 p0 a1 b1 p1 a2 b2 p2 n0 n1 v x y z (W.setCell ⟨q + 1, 2, none⟩ (.int .i64 v)) :=
  ⟨(oth (by omega)).trans h.e, heap_setCell_same W _ 2 _ _ _ h.n, (oth (by omega)).trans h.u, h.bel.setCell (p := ⟨q + 1, 2, none⟩) (by have := h.lo; show _ ≤ q + 1; omega) _, h.lo⟩
end
theorem eq_e (a b p x y z : Int) (w : World) : (Op.equalIn 10000 TE (.agg #[.int .i64 a, .int .i64 b, .int .i64 p]) (.agg #[.int .i64 x, .int .i64 y, .int .i64 z])).run Tryd.prog w = .ok (decide (a = x ∧ b = y ∧ p = z)) w := by
  have e : decide (a = x ∧ b = y ∧ p = z) = (a == x && (b == y && p == z)) := by
    simp only [Bool.decide_and]
    rfl
  rw [e]
  simp [go_sem]
  by_cases h1 : a = x <;> by_cases h2 : b = y <;> by_cases h3 : p = z <;> simp [*]
end Go.Proofs.YtllhgjenkchniaaDoor.Ident
