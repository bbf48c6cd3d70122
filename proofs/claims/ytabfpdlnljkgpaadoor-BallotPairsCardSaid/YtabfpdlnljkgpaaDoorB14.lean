/- The walks of BallotNumbers and BallotPairs. -/
import Derived.Test.YtabfpdlnljkgpaaDoorB13
namespace Go.Proofs.YtabfpdlnljkgpaaDoor.Bal
open Go.RowKit Go.Lib
set_option linter.unusedVariables false
set_option linter.unusedSimpArgs false
set_option maxRecDepth 20000

theorem w_ballotNumbers (r m k n : Int) (w : World) (w0 : True) (w1 : (Lit.int .i64 k).wf = true) (w2 : (Lit.int .i64 n).wf = true) (hH : Hv w) :
    Calls Tryd.prog 6 #[.agg #[.int .i64 r, .int .i64 m], .int .i64 k, .int .i64 n] w fun e w' => e = .returned (.bool true) ∧ Below w.heap.size w w' := by
  have hN := fun W => number_any r m n W
  have hR := fun W => rnumber_any r m n W
  have hF := fun W => from_any k n W
  have hG := fun W => rfrom_any k n W
  generalize nmV r m n = u at *
  generalize ckB r m n = c at *
  generalize fnA k n = x at *
  generalize fnB k n = y at *
  generalize fnE k n = f at *
  have q1 := fun W => eq_b x y x y W
  rw [eqB_t ⟨rfl, rfl⟩] at q1
  have hx := bx_new w r m
  obtain ⟨c0, c1, _, _⟩ := hx.cells
  replace hN := Lib.hid hN
  replace hR := Lib.hid hR
  replace hF := Lib.hid hF
  replace hG := Lib.hid hG
  replace hx := Lib.hid hx
  clear w1 w2
  go_enter Tryd.func6, Tryd.ntmps6
  go_wp2_with fail
  refine (hN.out _).mono ?_
  rintro e w1 ⟨rfl, hb1⟩
  have hx1 := hx.out.later hb1
  obtain ⟨d0, d1, _, _⟩ := hx1.cells
  clear c0 c1 hx hb1
  replace hx1 := Lib.hid hx1
  go_wp2_with fail
  refine (hR.out _).mono ?_
  rintro e w2 ⟨rfl, hb2⟩
  have hx2 := (hx1.out.later hb2).bel
  clear d0 d1 hx1 hb2
  go_wp2_with fail
  refine (hF.out _).mono ?_
  rintro e w3 ⟨rfl, hb3⟩
  have hx3 := below2 hx2 hb3
  have hy3 := bx_at hx3 x y
  clear hx2 hb3 hx3
  replace hy3 := Lib.hid hy3
  go_wp2_with fail
  refine (hG.out _).mono ?_
  rintro e w4 ⟨rfl, hb4⟩
  have hy4' := hy3.out.later hb4
  have hy4 := hy4'.alloc (.cells #[.int .i64 x, .int .i64 y] TB)
  have hz4 := bx_at hy4'.bel x y
  obtain ⟨d0, d1, _, _⟩ := hy4.cells
  obtain ⟨d2, d3, _, _⟩ := hz4.cells
  clear hy3 hb4 hy4' hz4
  replace hy4 := Lib.hid hy4
  go_wp2_with fail
  refine (works_any _ (hH.later hy4.out.bel)).mono ?_
  rintro e w5 ⟨rfl, hb5⟩
  have hz := below2 hy4.out.bel hb5
  go_wp2
  go_ret
  exact ⟨rfl, hz⟩

/-- The four ballots in their boxes. -/
structure Px (w : World) (a b c d x y : Int) (q3 q4 : Nat) (W : World) : Prop where
  b1 : Bx w w.heap.size a b W
  b2 : Bx w (w.heap.size + 1) c d W
  b3 : Bx w q3 x y W
  b4 : Bx w q4 x y W
theorem Px.later {w W W' : World} {a b c d x y : Int} {q3 q4 : Nat} (h : Px w a b c d x y q3 q4 W) (hb : Below W.heap.size W W') : Px w a b c d x y q3 q4 W' := ⟨h.b1.later hb, h.b2.later hb, h.b3.later hb, h.b4.later hb⟩
theorem Px.drew {w W : World} {a b c d x y : Int} {q3 q4 : Nat} (h : Px w a b c d x y q3 q4 W) : Px w a b c d x y q3 q4 W.drew := h.later (Below.refl _ _).drew
theorem Px.cells {w W : World} {a b c d x y : Int} {q3 q4 : Nat} (h : Px w a b c d x y q3 q4 W) :
    W.cell? ⟨w.heap.size, 0, none⟩ = some (.int .i64 a) ∧ W.cell? ⟨w.heap.size, 1, none⟩ = some (.int .i64 b) ∧ W.cell? ⟨w.heap.size + 1, 0, none⟩ = some (.int .i64 c) ∧ W.cell? ⟨w.heap.size + 1, 1, none⟩ = some (.int .i64 d) ∧
    W.cell? ⟨q3, 0, none⟩ = some (.int .i64 x) ∧ W.cell? ⟨q3, 1, none⟩ = some (.int .i64 y) ∧ W.cell? ⟨q4, 0, none⟩ = some (.int .i64 x) ∧ W.cell? ⟨q4, 1, none⟩ = some (.int .i64 y) ∧ Px w a b c d x y q3 q4 W :=
  ⟨h.b1.cells.1, h.b1.cells.2.1, h.b2.cells.1, h.b2.cells.2.1, h.b3.cells.1, h.b3.cells.2.1, h.b4.cells.1, h.b4.cells.2.1, h⟩
set_option maxHeartbeats 4000000 in
theorem w_ballotPairs (a b c d k : Int) (w : World) (w0 : True) (w1 : True) (w2 : (Lit.int .i64 k).wf = true) (hH : Hv w) :
    Calls Tryd.prog 3 #[.agg #[.int .i64 a, .int .i64 b], .agg #[.int .i64 c, .int .i64 d], .int .i64 k] w fun e w' => e = .returned (.bool true) ∧ Below w.heap.size w w' := by
  have hN := fun W => next_any a b k W
  have hR := fun W => rnext_any a b k W
  have hC := fun W => check_any a b k W
  have hD := fun W => rcheck_any a b k W
  have hO := fun W => order_any a b c d W
  have hP := fun W => rorder_any a b c d W
  generalize nxA a b k = x at *
  generalize nxB a b k = y at *
  generalize nxE a b k = f at *
  generalize ckB a b k = g at *
  generalize ordV a b c d = o at *
  have q1 := fun W => eq_b x y x y W
  rw [eqB_t ⟨rfl, rfl⟩] at q1
  have hx := bx_new w a b
  replace hx := hx.alloc (.cells #[.int .i64 c, .int .i64 d] TB)
  have hy := bx_new2 w (.cells #[.int .i64 a, .int .i64 b] TB) c d
  obtain ⟨c0, c1, _, _⟩ := hx.cells
  replace hN := Lib.hid hN
  replace hR := Lib.hid hR
  replace hC := Lib.hid hC
  replace hD := Lib.hid hD
  replace hO := Lib.hid hO
  replace hP := Lib.hid hP
  replace hx := Lib.hid hx
  replace hy := Lib.hid hy
  clear w2
  go_enter Tryd.func3, Tryd.ntmps3
  go_wp2_with fail
  refine (hN.out _).mono ?_
  rintro e w1 ⟨rfl, hb1⟩
  have hx1' := hx.out.later hb1
  have hy1' := hy.out.later hb1
  have hx1 := hx1'.alloc (.cells #[.int .i64 x, .int .i64 y] TB)
  have hy1 := hy1'.alloc (.cells #[.int .i64 x, .int .i64 y] TB)
  have hz1 := bx_at hx1'.bel x y
  obtain ⟨d0, d1, _, _⟩ := hx1.cells
  clear c0 c1 hx hy hb1 hx1' hy1'
  replace hx1 := Lib.hid hx1
  replace hy1 := Lib.hid hy1
  replace hz1 := Lib.hid hz1
  go_wp2_with fail
  refine (hR.out _).mono ?_
  rintro e w2 ⟨rfl, hb2⟩
  have hx2' := hx1.out.later hb2
  have hL : Px w a b c d x y w1.heap.size w2.heap.size (w2.alloc (.cells #[.int .i64 x, .int .i64 y] TB)) :=
    ⟨hx2'.alloc _, (hy1.out.later hb2).alloc _, (hz1.out.later hb2).alloc _, bx_at hx2'.bel x y⟩
  clear d0 d1 hx1 hy1 hz1 hb2 hx2'
  replace hL := Lib.hid hL
  have HE : Hid (∀ W, Px w a b c d x y w1.heap.size w2.heap.size W → W.cell? ⟨w.heap.size, 0, none⟩ = some (.int .i64 a) ∧ W.cell? ⟨w.heap.size, 1, none⟩ = some (.int .i64 b) ∧ W.cell? ⟨w.heap.size + 1, 0, none⟩ = some (.int .i64 c) ∧ W.cell? ⟨w.heap.size + 1, 1, none⟩ = some (.int .i64 d) ∧
    W.cell? ⟨w1.heap.size, 0, none⟩ = some (.int .i64 x) ∧ W.cell? ⟨w1.heap.size, 1, none⟩ = some (.int .i64 y) ∧ W.cell? ⟨w2.heap.size, 0, none⟩ = some (.int .i64 x) ∧ W.cell? ⟨w2.heap.size, 1, none⟩ = some (.int .i64 y) ∧ Px w a b c d x y w1.heap.size w2.heap.size W) := fun W h => h.cells
  go_wp2
  go_region_held3 (fun W => W.cell? ⟨w.heap.size, 0, none⟩ = some (.int .i64 a) ∧ W.cell? ⟨w.heap.size, 1, none⟩ = some (.int .i64 b) ∧ W.cell? ⟨w.heap.size + 1, 0, none⟩ = some (.int .i64 c) ∧ W.cell? ⟨w.heap.size + 1, 1, none⟩ = some (.int .i64 d) ∧
    W.cell? ⟨w1.heap.size, 0, none⟩ = some (.int .i64 x) ∧ W.cell? ⟨w1.heap.size, 1, none⟩ = some (.int .i64 y) ∧ W.cell? ⟨w2.heap.size, 0, none⟩ = some (.int .i64 x) ∧ W.cell? ⟨w2.heap.size, 1, none⟩ = some (.int .i64 y) ∧ Px w a b c d x y w1.heap.size w2.heap.size W)
    ((first | exact HE.out _ hL.out.drew | exact HE.out _ (by assumption) | assumption))
    (first
      | (go_at_call 14; refine (hC.out _).mono ?_; rintro e w3 ⟨rfl, hb3⟩; have hL3 := hL.out.drew.later hb3)
      | (go_at_call 15; refine (hD.out _).mono ?_; rintro e w4 ⟨rfl, hb4⟩; have hL4 := hL3.later hb4)
      | (go_at_call 16; refine (hO.out _).mono ?_; rintro e w5 ⟨rfl, hb5⟩; have hL5 := hL4.later hb5)
      | (go_at_call 17; refine (hP.out _).mono ?_; rintro e w6 ⟨rfl, hb6⟩; have hL6 := hL5.later hb6)
      | (go_at_call 18; refine (works_any _ (hH.later hL6.b1.bel)).mono ?_; rintro e w7 ⟨rfl, hb7⟩; have hL7 := hL6.later hb7))
  go_wp2
  go_ret
  exact ⟨rfl, (Px.b1 (by assumption)).bel⟩
end Go.Proofs.YtabfpdlnljkgpaaDoor.Bal
