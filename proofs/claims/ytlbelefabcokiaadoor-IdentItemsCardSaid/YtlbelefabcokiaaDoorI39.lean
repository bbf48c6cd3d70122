/- The walk of IdentItems. -/
import Derived.Test.YtlbelefabcokiaaDoorI38
import Derived.Test.YtlbelefabcokiaaDoorI25
namespace Go.Proofs.YtlbelefabcokiaaDoor.Ident
open Go.RowKit Go.Lib
set_option linter.unusedVariables false
set_option linter.unusedSimpArgs false
set_option maxRecDepth 20000

/-- Three boxes of items, and what lay before. -/
structure G3 (w : World) (q0 q1 q2 : Nat) (u v : It) (W : World) : Prop where
  b0 : Kp q0 (itB u) W
  b1 : Kp q1 (itB v) W
  b2 : Kp q2 (itB v) W
  bel : Below w.heap.size w W
theorem G3.later {w W W' : World} {q0 q1 q2 : Nat} {u v : It} (h : G3 w q0 q1 q2 u v W) (hb : Below W.heap.size W W') : G3 w q0 q1 q2 u v W' :=
  ⟨h.b0.later hb, h.b1.later hb, h.b2.later hb, below2 h.bel hb⟩
theorem G3.drew {w W : World} {q0 q1 q2 : Nat} {u v : It} (h : G3 w q0 q1 q2 u v W) : G3 w q0 q1 q2 u v W.drew := h.later (Below.refl _ _).drew
theorem G3.cells {w W : World} {q0 q1 q2 : Nat} {a b p m : Int} {i : Bool} {g : Int} {xa xb xp xm : Int} {xi : Bool} {xg : Int} (h : G3 w q0 q1 q2 ⟨a, b, p, m, i, g⟩ ⟨xa, xb, xp, xm, xi, xg⟩ W) :
    W.cell? ⟨q0, 0, none⟩ = some (.int .i64 a) ∧ W.cell? ⟨q0, 1, none⟩ = some (.int .i64 b) ∧ W.cell? ⟨q0, 2, none⟩ = some (.int .i64 p) ∧ W.cell? ⟨q0, 3, none⟩ = some (.int .i64 m) ∧ W.cell? ⟨q0, 4, none⟩ = some (.bool i) ∧ W.cell? ⟨q0, 5, none⟩ = some (.int .i64 g) ∧ W.cell? ⟨q1, 0, none⟩ = some (.int .i64 xa) ∧ W.cell? ⟨q1, 1, none⟩ = some (.int .i64 xb) ∧ W.cell? ⟨q1, 2, none⟩ = some (.int .i64 xp) ∧ W.cell? ⟨q1, 3, none⟩ = some (.int .i64 xm) ∧ W.cell? ⟨q1, 4, none⟩ = some (.bool xi) ∧ W.cell? ⟨q1, 5, none⟩ = some (.int .i64 xg) ∧ W.cell? ⟨q2, 0, none⟩ = some (.int .i64 xa) ∧ W.cell? ⟨q2, 1, none⟩ = some (.int .i64 xb) ∧ W.cell? ⟨q2, 2, none⟩ = some (.int .i64 xp) ∧ W.cell? ⟨q2, 3, none⟩ = some (.int .i64 xm) ∧ W.cell? ⟨q2, 4, none⟩ = some (.bool xi) ∧ W.cell? ⟨q2, 5, none⟩ = some (.int .i64 xg) ∧ G3 w q0 q1 q2 ⟨a, b, p, m, i, g⟩ ⟨xa, xb, xp, xm, xi, xg⟩ W :=
  ⟨cell_of_row W _ 0 _ TI _ h.b0, cell_of_row W _ 1 _ TI _ h.b0, cell_of_row W _ 2 _ TI _ h.b0, cell_of_row W _ 3 _ TI _ h.b0, cell_of_row W _ 4 _ TI _ h.b0, cell_of_row W _ 5 _ TI _ h.b0,
   cell_of_row W _ 0 _ TI _ h.b1, cell_of_row W _ 1 _ TI _ h.b1, cell_of_row W _ 2 _ TI _ h.b1, cell_of_row W _ 3 _ TI _ h.b1, cell_of_row W _ 4 _ TI _ h.b1, cell_of_row W _ 5 _ TI _ h.b1,
   cell_of_row W _ 0 _ TI _ h.b2, cell_of_row W _ 1 _ TI _ h.b2, cell_of_row W _ 2 _ TI _ h.b2, cell_of_row W _ 3 _ TI _ h.b2, cell_of_row W _ 4 _ TI _ h.b2, cell_of_row W _ 5 _ TI _ h.b2, h⟩
theorem items_go (l : List UInt8) (hl : ¬ 300 < l.length) (a b p m : Int) (i : Bool) (g : Int) (w : World) (hH : Hv w) :
    Calls Tryd.prog 4 #[.agg #[.int .i64 a, .int .i64 b, .int .i64 p, .int .i64 m, .bool i, .int .i64 g], .string (tx l)] w fun e w' => e = .returned (.bool true) ∧ Below w.heap.size w w' := by
  have hz := tx_size l
  have hE : ∀ W, Hv W → Calls Tryd.prog 22 #[.agg #[.int .i64 a, .int .i64 b, .int .i64 p, .int .i64 m, .bool i, .int .i64 g]] W fun e w' => e = .returned (.tuple #[.string (tx (itS ⟨a, b, p, m, i, g⟩)), .int .i64 (ckI ⟨a, b, p, m, i, g⟩)]) ∧ Below W.heap.size W w' := fun W hW => item_any ⟨a, b, p, m, i, g⟩ W hW
  have hR : ∀ W, Hv W → Calls Tryd.prog 23 #[.agg #[.int .i64 a, .int .i64 b, .int .i64 p, .int .i64 m, .bool i, .int .i64 g]] W fun e w' => e = .returned (.tuple #[.string (tx (itS ⟨a, b, p, m, i, g⟩)), .int .i64 (ckI ⟨a, b, p, m, i, g⟩)]) ∧ Below W.heap.size W w' := fun W hW => ref_item ⟨a, b, p, m, i, g⟩ W hW
  have hC := fun W => checkI_any a b p m i g W
  have hD := fun W => ref_checkI a b p m i g W
  have hP := fun W hW => parseI_any l (by omega) W hW
  have hQ := fun W hW => ref_parseI l (by omega) W hW
  have d1 : decide (300 < (l.length : Int)) = false := by simp; omega
  have b0 := Lib.hid (alloc_b w (.cells #[.int .i64 a, .int .i64 b, .int .i64 p, .int .i64 m, .bool i, .int .i64 g] TI))
  have X0 := Lib.hid (kp_new w #[.int .i64 a, .int .i64 b, .int .i64 p, .int .i64 m, .bool i, .int .i64 g] TI)
  obtain ⟨x, hx⟩ : ∃ x, piX (pI l) = x := ⟨_, rfl⟩
  rw [hx] at hP hQ
  clear hx
  obtain ⟨xa, xb, xp, xm, xi, xg⟩ := x
  unfold itV at hP hQ
  dsimp only at hP hQ
  obtain ⟨pe, hpe⟩ : ∃ pe, piE (pI l) = pe := ⟨_, rfl⟩
  rw [hpe] at hP hQ
  clear hpe
  obtain ⟨T, hT⟩ : ∃ T, tx (itS ⟨a, b, p, m, i, g⟩) = T := ⟨_, rfl⟩
  rw [hT] at hE hR
  clear hT
  obtain ⟨ok, hok⟩ : ∃ ok, ckI ⟨a, b, p, m, i, g⟩ = ok := ⟨_, rfl⟩
  rw [hok] at hE hR hC hD
  clear hok
  generalize l.length = ll at *
  generalize tx l = s at *
  clear hl
  replace hP := Lib.hid hP
  replace hQ := Lib.hid hQ
  replace hE := Lib.hid hE
  replace hR := Lib.hid hR
  replace hC := Lib.hid hC
  replace hD := Lib.hid hD
  have hq3 : (T.toList == T.toList) = true := by simp
  have hq2 : (ok == ok) = true := by simp
  have hq4 : (pe == pe) = true := by simp
  have hq5 : (xi == xi) = true := by simp
  go_enter Tryd.func4, Tryd.ntmps4
  go_wp2_with fail
  refine (hE.out _ (hH.later b0.out)).mono ?_
  rintro e w1 ⟨rfl, hb1⟩
  have B1 := Lib.hid (below2 b0.out hb1)
  have X1 := X0.out.later hb1
  obtain ⟨z0, z1, z2, z3, z4, z5, _⟩ := ib_cells (x := ⟨a, b, p, m, i, g⟩) X1
  replace X1 := Lib.hid X1
  clear hb1 X0 b0
  go_wp2_with fail
  refine (hR.out _ (hH.later B1.out)).mono ?_
  rintro e w2 ⟨rfl, hb2⟩
  have B2 := Lib.hid (below2 B1.out hb2)
  have X2 := Lib.hid (X1.out.later hb2)
  clear B1 hb2 z0 z1 z2 z3 z4 z5 X1
  go_wp2_with fail
  refine (hP.out _ (hH.later B2.out)).mono ?_
  rintro e w3 ⟨rfl, hb3⟩
  have b3 := alloc_b w3 (.cells #[.int .i64 xa, .int .i64 xb, .int .i64 xp, .int .i64 xm, .bool xi, .int .i64 xg] TI)
  have B3 := Lib.hid (below2 (below2 B2.out hb3) b3)
  have X3 := Lib.hid ((X2.out.later hb3).later b3)
  have Y3 := Lib.hid (kp_new w3 #[.int .i64 xa, .int .i64 xb, .int .i64 xp, .int .i64 xm, .bool xi, .int .i64 xg] TI)
  clear B2 hb3 b3 X2
  go_wp2_with fail
  refine (hQ.out _ (hH.later B3.out)).mono ?_
  rintro e w4 ⟨rfl, hb4⟩
  have b4 := alloc_b w4 (.cells #[.int .i64 xa, .int .i64 xb, .int .i64 xp, .int .i64 xm, .bool xi, .int .i64 xg] TI)
  have O0 : G3 w w.heap.size w3.heap.size w4.heap.size ⟨a, b, p, m, i, g⟩ ⟨xa, xb, xp, xm, xi, xg⟩ (w4.alloc (.cells #[.int .i64 xa, .int .i64 xb, .int .i64 xp, .int .i64 xm, .bool xi, .int .i64 xg] TI)) := ⟨(X3.out.later hb4).later b4, (Y3.out.later hb4).later b4, kp_new _ _ _, below2 (below2 B3.out hb4) b4⟩
  clear B3 hb4 b4 X3 Y3
  have HE : Hid (∀ W, G3 w w.heap.size w3.heap.size w4.heap.size ⟨a, b, p, m, i, g⟩ ⟨xa, xb, xp, xm, xi, xg⟩ W → W.cell? ⟨w.heap.size, 0, none⟩ = some (.int .i64 a) ∧ W.cell? ⟨w.heap.size, 1, none⟩ = some (.int .i64 b) ∧ W.cell? ⟨w.heap.size, 2, none⟩ = some (.int .i64 p) ∧ W.cell? ⟨w.heap.size, 3, none⟩ = some (.int .i64 m) ∧ W.cell? ⟨w.heap.size, 4, none⟩ = some (.bool i) ∧ W.cell? ⟨w.heap.size, 5, none⟩ = some (.int .i64 g) ∧ W.cell? ⟨w3.heap.size, 0, none⟩ = some (.int .i64 xa) ∧ W.cell? ⟨w3.heap.size, 1, none⟩ = some (.int .i64 xb) ∧ W.cell? ⟨w3.heap.size, 2, none⟩ = some (.int .i64 xp) ∧ W.cell? ⟨w3.heap.size, 3, none⟩ = some (.int .i64 xm) ∧ W.cell? ⟨w3.heap.size, 4, none⟩ = some (.bool xi) ∧ W.cell? ⟨w3.heap.size, 5, none⟩ = some (.int .i64 xg) ∧ W.cell? ⟨w4.heap.size, 0, none⟩ = some (.int .i64 xa) ∧ W.cell? ⟨w4.heap.size, 1, none⟩ = some (.int .i64 xb) ∧ W.cell? ⟨w4.heap.size, 2, none⟩ = some (.int .i64 xp) ∧ W.cell? ⟨w4.heap.size, 3, none⟩ = some (.int .i64 xm) ∧ W.cell? ⟨w4.heap.size, 4, none⟩ = some (.bool xi) ∧ W.cell? ⟨w4.heap.size, 5, none⟩ = some (.int .i64 xg) ∧ G3 w w.heap.size w3.heap.size w4.heap.size ⟨a, b, p, m, i, g⟩ ⟨xa, xb, xp, xm, xi, xg⟩ W) := fun W h => h.cells
  have HW : Hid (∀ W, G3 w w.heap.size w3.heap.size w4.heap.size ⟨a, b, p, m, i, g⟩ ⟨xa, xb, xp, xm, xi, xg⟩ W → Hv W) := fun W h => hH.later h.bel
  go_wp2_with fail
  go_region_held3 (fun W => W.cell? ⟨w.heap.size, 0, none⟩ = some (.int .i64 a) ∧ W.cell? ⟨w.heap.size, 1, none⟩ = some (.int .i64 b) ∧ W.cell? ⟨w.heap.size, 2, none⟩ = some (.int .i64 p) ∧ W.cell? ⟨w.heap.size, 3, none⟩ = some (.int .i64 m) ∧ W.cell? ⟨w.heap.size, 4, none⟩ = some (.bool i) ∧ W.cell? ⟨w.heap.size, 5, none⟩ = some (.int .i64 g) ∧ W.cell? ⟨w3.heap.size, 0, none⟩ = some (.int .i64 xa) ∧ W.cell? ⟨w3.heap.size, 1, none⟩ = some (.int .i64 xb) ∧ W.cell? ⟨w3.heap.size, 2, none⟩ = some (.int .i64 xp) ∧ W.cell? ⟨w3.heap.size, 3, none⟩ = some (.int .i64 xm) ∧ W.cell? ⟨w3.heap.size, 4, none⟩ = some (.bool xi) ∧ W.cell? ⟨w3.heap.size, 5, none⟩ = some (.int .i64 xg) ∧ W.cell? ⟨w4.heap.size, 0, none⟩ = some (.int .i64 xa) ∧ W.cell? ⟨w4.heap.size, 1, none⟩ = some (.int .i64 xb) ∧ W.cell? ⟨w4.heap.size, 2, none⟩ = some (.int .i64 xp) ∧ W.cell? ⟨w4.heap.size, 3, none⟩ = some (.int .i64 xm) ∧ W.cell? ⟨w4.heap.size, 4, none⟩ = some (.bool xi) ∧ W.cell? ⟨w4.heap.size, 5, none⟩ = some (.int .i64 xg) ∧ G3 w w.heap.size w3.heap.size w4.heap.size ⟨a, b, p, m, i, g⟩ ⟨xa, xb, xp, xm, xi, xg⟩ W)
    ((first | exact HE.out _ O0.drew | exact HE.out _ (by assumption) | assumption))
    (first
      | (go_at_call 26; refine (hC.out _).mono ?_; rintro e w5 ⟨rfl, hb5⟩; have O1 := O0.drew.later hb5)
      | (go_at_call 27; refine (hD.out _).mono ?_; rintro e w6 ⟨rfl, hb6⟩; have O2 := O1.later hb6)
      | (go_at_call 15; refine (works_any _ (HW.out _ O2)).mono ?_; rintro e w7 ⟨rfl, hb7⟩; have O3 := O2.later hb7))
  go_wp2
  go_ret
  exact ⟨rfl, G3.bel (by assumption)⟩
theorem items_long (l : List UInt8) (hl : 300 < l.length) (a b p m : Int) (i : Bool) (g : Int) (w : World) (hH : Hv w) :
    Calls Tryd.prog 4 #[.agg #[.int .i64 a, .int .i64 b, .int .i64 p, .int .i64 m, .bool i, .int .i64 g], .string (tx l)] w fun e w' => e = .returned (.bool true) ∧ Below w.heap.size w w' := by
  have hz := tx_size l
  have b0 := Lib.hid (alloc_b w (.cells #[.int .i64 a, .int .i64 b, .int .i64 p, .int .i64 m, .bool i, .int .i64 g] TI))
  have d1 : decide (300 < (l.length : Int)) = true := by simp; omega
  have HW := Lib.hid (hH.later b0.out)
  generalize l.length = ll at *
  generalize tx l = s at *
  clear hl
  go_enter Tryd.func4, Tryd.ntmps4
  go_wp2_with fail
  refine (works_any _ HW.out).mono ?_
  rintro e w1 ⟨rfl, hb1⟩
  have B1 := below2 b0.out hb1
  go_wp2
  go_ret
  exact ⟨rfl, B1⟩
theorem w_identItems (a b p m : Int) (i : Bool) (g : Int) (s : ByteArray) (w : World) (w0 : True) (w1 : s.size ≤ maxLen) (hH : Hv w) :
    Calls Tryd.prog 4 #[.agg #[.int .i64 a, .int .i64 b, .int .i64 p, .int .i64 m, .bool i, .int .i64 g], .string s] w fun e w' => e = .returned (.bool true) ∧ Below w.heap.size w w' := by
  rw [← tx_of s]
  generalize s.data.toList = l
  by_cases h : 300 < l.length
  · exact items_long l h a b p m i g w hH
  · exact items_go l h a b p m i g w hH
end Go.Proofs.YtlbelefabcokiaaDoor.Ident
