/- The walk of IdentEffects. -/
import Derived.Test.YtlbelefabcokiaaDoorI33
import Derived.Test.YtlbelefabcokiaaDoorI25
namespace Go.Proofs.YtlbelefabcokiaaDoor.Ident
open Go.RowKit Go.Lib
set_option linter.unusedVariables false
set_option linter.unusedSimpArgs false
set_option maxRecDepth 20000

/-- Three boxes of effects, and what lay before. -/
structure E3 (w : World) (q0 q1 q2 : Nat) (a b p x y z : Int) (W : World) : Prop where
  b0 : Kp q0 (.cells #[.int .i64 a, .int .i64 b, .int .i64 p] TE (0, 0)) W
  b1 : Kp q1 (.cells #[.int .i64 x, .int .i64 y, .int .i64 z] TE (0, 0)) W
  b2 : Kp q2 (.cells #[.int .i64 x, .int .i64 y, .int .i64 z] TE (0, 0)) W
  bel : Below w.heap.size w W
theorem E3.later {w W W' : World} {q0 q1 q2 : Nat} {a b p x y z : Int} (h : E3 w q0 q1 q2 a b p x y z W) (hb : Below W.heap.size W W') : E3 w q0 q1 q2 a b p x y z W' :=
  ⟨h.b0.later hb, h.b1.later hb, h.b2.later hb, below2 h.bel hb⟩
theorem E3.drew {w W : World} {q0 q1 q2 : Nat} {a b p x y z : Int} (h : E3 w q0 q1 q2 a b p x y z W) : E3 w q0 q1 q2 a b p x y z W.drew := h.later (Below.refl _ _).drew
theorem E3.cells {w W : World} {q0 q1 q2 : Nat} {a b p x y z : Int} (h : E3 w q0 q1 q2 a b p x y z W) :
    W.cell? ⟨q0, 0, none⟩ = some (.int .i64 a) ∧ W.cell? ⟨q0, 1, none⟩ = some (.int .i64 b) ∧ W.cell? ⟨q0, 2, none⟩ = some (.int .i64 p) ∧
    W.cell? ⟨q1, 0, none⟩ = some (.int .i64 x) ∧ W.cell? ⟨q1, 1, none⟩ = some (.int .i64 y) ∧ W.cell? ⟨q1, 2, none⟩ = some (.int .i64 z) ∧
    W.cell? ⟨q2, 0, none⟩ = some (.int .i64 x) ∧ W.cell? ⟨q2, 1, none⟩ = some (.int .i64 y) ∧ W.cell? ⟨q2, 2, none⟩ = some (.int .i64 z) ∧ E3 w q0 q1 q2 a b p x y z W :=
  ⟨cell_of_row W _ 0 _ TE _ h.b0, cell_of_row W _ 1 _ TE _ h.b0, cell_of_row W _ 2 _ TE _ h.b0,
   cell_of_row W _ 0 _ TE _ h.b1, cell_of_row W _ 1 _ TE _ h.b1, cell_of_row W _ 2 _ TE _ h.b1,
   cell_of_row W _ 0 _ TE _ h.b2, cell_of_row W _ 1 _ TE _ h.b2, cell_of_row W _ 2 _ TE _ h.b2, h⟩
theorem peV_open (o : Option (Int × Int × Int)) : ∃ x y z, peV o = .agg #[.int .i64 x, .int .i64 y, .int .i64 z] := by
  rcases o with _ | ⟨x, y, z⟩
  · exact ⟨0, 0, 0, rfl⟩
  · exact ⟨x, y, z, rfl⟩
theorem effects_go (l : List UInt8) (hl : ¬ 300 < l.length) (a b p : Int) (w : World) (hH : Hv w) :
    Calls Tryd.prog 3 #[.agg #[.int .i64 a, .int .i64 b, .int .i64 p], .string (tx l)] w fun e w' => e = .returned (.bool true) ∧ Below w.heap.size w w' := by
  have hz := tx_size l
  have hE := Lib.hid (fun W hW => effect_any a b p W hW)
  have hR := Lib.hid (fun W hW => ref_effect a b p W hW)
  have hC := Lib.hid (fun W => check_any a b p W)
  have hD := Lib.hid (fun W => ref_check a b p W)
  have hP := fun W hW => parse_any l (by omega) W hW
  have hQ := fun W hW => ref_parse l (by omega) W hW
  have d1 : decide (300 < (l.length : Int)) = false := by simp; omega
  have b0 := Lib.hid (alloc_b w (.cells #[.int .i64 a, .int .i64 b, .int .i64 p] TE))
  have X0 := Lib.hid (kp_new w #[.int .i64 a, .int .i64 b, .int .i64 p] TE)
  obtain ⟨x, y, z, hx⟩ := peV_open (pE l)
  rw [hx] at hP hQ
  clear hx
  generalize peE (pE l) = pe at *
  generalize effS a b p = es at *
  generalize okE a b p = ok at *
  generalize tx es = T at *
  generalize l.length = ll at *
  generalize tx l = s at *
  clear hl
  replace hP := Lib.hid hP
  replace hQ := Lib.hid hQ
  have hq3 : (T.toList == T.toList) = true := by simp
  have hq2 : (ok == ok) = true := by simp
  have hq4 : (pe == pe) = true := by simp
  go_enter Tryd.func3, Tryd.ntmps3
  go_wp2_with fail
  refine (hE.out _ (hH.later b0.out)).mono ?_
  rintro e w1 ⟨rfl, hb1⟩
  have B1 := Lib.hid (below2 b0.out hb1)
  have X1 := X0.out.later hb1
  have z0 := cell_of_row _ _ 0 _ _ _ X1
  have z1 := cell_of_row _ _ 1 _ _ _ X1
  have z2 := cell_of_row _ _ 2 _ _ _ X1
  replace X1 := Lib.hid X1
  clear hb1 X0 b0
  go_wp2_with fail
  refine (hR.out _ (hH.later B1.out)).mono ?_
  rintro e w2 ⟨rfl, hb2⟩
  have B2 := Lib.hid (below2 B1.out hb2)
  have X2 := Lib.hid (X1.out.later hb2)
  clear B1 hb2 z0 z1 z2 X1
  go_wp2_with fail
  refine (hP.out _ (hH.later B2.out)).mono ?_
  rintro e w3 ⟨rfl, hb3⟩
  have b3 := alloc_b w3 (.cells #[.int .i64 x, .int .i64 y, .int .i64 z] TE)
  have B3 := Lib.hid (below2 (below2 B2.out hb3) b3)
  have X3 := Lib.hid ((X2.out.later hb3).later b3)
  have Y3 := Lib.hid (kp_new w3 #[.int .i64 x, .int .i64 y, .int .i64 z] TE)
  clear B2 hb3 b3 X2
  go_wp2_with fail
  refine (hQ.out _ (hH.later B3.out)).mono ?_
  rintro e w4 ⟨rfl, hb4⟩
  have b4 := alloc_b w4 (.cells #[.int .i64 x, .int .i64 y, .int .i64 z] TE)
  have O0 : E3 w w.heap.size w3.heap.size w4.heap.size a b p x y z (w4.alloc (.cells #[.int .i64 x, .int .i64 y, .int .i64 z] TE)) := ⟨(X3.out.later hb4).later b4, (Y3.out.later hb4).later b4, kp_new _ _ _, below2 (below2 B3.out hb4) b4⟩
  clear B3 hb4 b4 X3 Y3
  have HE : Hid (∀ W, E3 w w.heap.size w3.heap.size w4.heap.size a b p x y z W → 
    W.cell? ⟨w.heap.size, 0, none⟩ = some (.int .i64 a) ∧ W.cell? ⟨w.heap.size, 1, none⟩ = some (.int .i64 b) ∧ W.cell? ⟨w.heap.size, 2, none⟩ = some (.int .i64 p) ∧
    W.cell? ⟨w3.heap.size, 0, none⟩ = some (.int .i64 x) ∧ W.cell? ⟨w3.heap.size, 1, none⟩ = some (.int .i64 y) ∧ W.cell? ⟨w3.heap.size, 2, none⟩ = some (.int .i64 z) ∧
    W.cell? ⟨w4.heap.size, 0, none⟩ = some (.int .i64 x) ∧ W.cell? ⟨w4.heap.size, 1, none⟩ = some (.int .i64 y) ∧ W.cell? ⟨w4.heap.size, 2, none⟩ = some (.int .i64 z) ∧ E3 w w.heap.size w3.heap.size w4.heap.size a b p x y z W) := fun W h => h.cells
  have HW : Hid (∀ W, E3 w w.heap.size w3.heap.size w4.heap.size a b p x y z W → Hv W) := fun W h => hH.later h.bel
  go_wp2_with fail
  go_region_held3 (fun W => W.cell? ⟨w.heap.size, 0, none⟩ = some (.int .i64 a) ∧ W.cell? ⟨w.heap.size, 1, none⟩ = some (.int .i64 b) ∧ W.cell? ⟨w.heap.size, 2, none⟩ = some (.int .i64 p) ∧
    W.cell? ⟨w3.heap.size, 0, none⟩ = some (.int .i64 x) ∧ W.cell? ⟨w3.heap.size, 1, none⟩ = some (.int .i64 y) ∧ W.cell? ⟨w3.heap.size, 2, none⟩ = some (.int .i64 z) ∧
    W.cell? ⟨w4.heap.size, 0, none⟩ = some (.int .i64 x) ∧ W.cell? ⟨w4.heap.size, 1, none⟩ = some (.int .i64 y) ∧ W.cell? ⟨w4.heap.size, 2, none⟩ = some (.int .i64 z) ∧ E3 w w.heap.size w3.heap.size w4.heap.size a b p x y z W)
    ((first | exact HE.out _ O0.drew | exact HE.out _ (by assumption) | assumption))
    (first
      | (go_at_call 20; refine (hC.out _).mono ?_; rintro e w5 ⟨rfl, hb5⟩; have O1 := O0.drew.later hb5)
      | (go_at_call 21; refine (hD.out _).mono ?_; rintro e w6 ⟨rfl, hb6⟩; have O2 := O1.later hb6)
      | (go_at_call 15; refine (works_any _ (HW.out _ O2)).mono ?_; rintro e w7 ⟨rfl, hb7⟩; have O3 := O2.later hb7))
  go_wp2
  go_ret
  exact ⟨rfl, E3.bel (by assumption)⟩
theorem effects_long (l : List UInt8) (hl : 300 < l.length) (a b p : Int) (w : World) (hH : Hv w) :
    Calls Tryd.prog 3 #[.agg #[.int .i64 a, .int .i64 b, .int .i64 p], .string (tx l)] w fun e w' => e = .returned (.bool true) ∧ Below w.heap.size w w' := by
  have hz := tx_size l
  have b0 := Lib.hid (alloc_b w (.cells #[.int .i64 a, .int .i64 b, .int .i64 p] TE))
  have d1 : decide (300 < (l.length : Int)) = true := by simp; omega
  have HW := Lib.hid (hH.later b0.out)
  generalize l.length = ll at *
  generalize tx l = s at *
  clear hl
  go_enter Tryd.func3, Tryd.ntmps3
  go_wp2_with fail
  refine (works_any _ HW.out).mono ?_
  rintro e w1 ⟨rfl, hb1⟩
  have B1 := below2 b0.out hb1
  go_wp2
  go_ret
  exact ⟨rfl, B1⟩
theorem w_identEffects (a b p : Int) (s : ByteArray) (w : World) (w0 : True) (w1 : s.size ≤ maxLen) (hH : Hv w) :
    Calls Tryd.prog 3 #[.agg #[.int .i64 a, .int .i64 b, .int .i64 p], .string s] w fun e w' => e = .returned (.bool true) ∧ Below w.heap.size w w' := by
  rw [← tx_of s]
  generalize s.data.toList = l
  by_cases h : 300 < l.length
  · exact effects_long l h a b p w hH
  · exact effects_go l h a b p w hH
end Go.Proofs.YtlbelefabcokiaaDoor.Ident
