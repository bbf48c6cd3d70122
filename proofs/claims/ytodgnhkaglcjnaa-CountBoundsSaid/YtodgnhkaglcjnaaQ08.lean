/- The walks of CountNews, CountShows, CountChanges. -/
import Derived.Test.YtodgnhkaglcjnaaQ07
import Derived.Deep.RegionHeld3
namespace Go.Proofs.Ytodgnhkaglcjnaa.Cnt
open Go.RowKit
set_option linter.unusedVariables false
set_option linter.unusedSimpArgs false
set_option maxRecDepth 20000

theorem eq_self (v u d l h : Int) (w : World) : (Op.equalIn 10000 TC (cA v u d l h) (cA v u d l h)).run Try.prog w = .ok true w := by
  rw [eq_c, eqC_t rfl]
set_option maxHeartbeats 1000000 in
theorem w_countNews (v l g : Int) (w : World) {P0 P1 P2 : Prop} (w0 : P0) (w1 : P1) (w2 : P2) :
    Calls Try.prog 5 #[.int .i64 v, .int .i64 l, .int .i64 g] w fun e w' => e = .returned (.bool true) ∧ Below w.heap.size w w' := by
  have hN := fun W => new_any v l g W
  have hR := fun W => rnew_any v l g W
  have hw := Lib.hid (fun W => works_any W)
  generalize newC v l g = r at *
  obtain ⟨⟨x0, x1, x2, x3, x4⟩, x5⟩ := r
  have hq := eq_self x0 x1 x2 x3 x4
  replace hN := Lib.hid hN
  replace hR := Lib.hid hR
  clear w0 w1 w2
  go_enter Try.func5, Try.ntmps5
  go_wp2_with fail
  refine (hN.out _).mono ?_
  rintro e w1 ⟨rfl, hb1⟩
  have xa := Cx.new hb1 x0 x1 x2 x3 x4
  go_wp2_with fail
  refine (hR.out _).mono ?_
  rintro e w2 ⟨rfl, hb2⟩
  have xb := Cx.new (xa.later hb2).bel x0 x1 x2 x3 x4
  replace xa := (xa.later hb2).alloc (cRow x0 x1 x2 x3 x4)
  obtain ⟨c0, c1, c2, c3, c4⟩ := xa.cells
  go_wp2_with (go_at_call 20; refine (hw.out _).mono ?_; rintro e w3 ⟨rfl, hb3⟩; have xb3 := xb.later hb3)
  go_ret
  exact ⟨rfl, xb3.bel⟩
/-- The cells of a box, and the box. -/
def Cell5 (q : Nat) (v u d l h : Int) (W : World) : Prop := W.cell? ⟨q, 0, none⟩ = some (.int .i64 v) ∧ W.cell? ⟨q, 1, none⟩ = some (.int .i64 u) ∧ W.cell? ⟨q, 2, none⟩ = some (.int .i64 d) ∧ W.cell? ⟨q, 3, none⟩ = some (.int .i64 l) ∧ W.cell? ⟨q, 4, none⟩ = some (.int .i64 h)
theorem Cx.with {w w' : World} {q : Nat} {v u d l h : Int} (x : Cx w q v u d l h w') :
    w'.cell? ⟨q, 0, none⟩ = some (.int .i64 v) ∧ w'.cell? ⟨q, 1, none⟩ = some (.int .i64 u) ∧ w'.cell? ⟨q, 2, none⟩ = some (.int .i64 d) ∧ w'.cell? ⟨q, 3, none⟩ = some (.int .i64 l) ∧ w'.cell? ⟨q, 4, none⟩ = some (.int .i64 h) ∧ Cx w q v u d l h w' :=
  ⟨x.cells.1, x.cells.2.1, x.cells.2.2.1, x.cells.2.2.2.1, x.cells.2.2.2.2, x⟩
theorem Cx.drew {w w' : World} {q : Nat} {v u d l h : Int} (x : Cx w q v u d l h w') : Cx w q v u d l h w'.drew := x.later (Below.refl _ _).drew
set_option maxHeartbeats 4000000 in
theorem w_countShows (v u d l g : Int) (w : World) {P0 : Prop} (w0 : P0) :
    Calls Try.prog 4 #[cA v u d l g] w fun e w' => e = .returned (.bool true) ∧ Below w.heap.size w w' := by
  have hx := cx_new w v u d l g
  have hw := Lib.hid (fun W => works_any W)
  have hR := fun W => room3_any v u d l g W
  have hR2 := fun W => rroom3_any v u d l g W
  have hQ := fun W => quiet_any v u d l g W
  have hQ2 := fun W => rquiet_any v u d l g W
  have hL := fun W => least3_any v u d l g W
  have hL2 := fun W => rleast3_any v u d l g W
  have hC := fun W => check_any v u d l g W
  have hC2 := fun W => rcheck_any v u d l g W
  obtain ⟨a1, a2, a3, ha⟩ : ∃ a b c, roomV ⟨v, u, d, l, g⟩ = .tuple #[.int .i64 a, .int .i64 b, .int .i64 c] := by unfold roomV; split <;> exact ⟨_, _, _, rfl⟩
  obtain ⟨b1, b2, hb⟩ : ∃ a b, quietV ⟨v, u, d, l, g⟩ = .tuple #[.bool a, .int .i64 b] := by unfold quietV; split <;> exact ⟨_, _, rfl⟩
  obtain ⟨c1, c2, c3, hc⟩ : ∃ a b c, leastV ⟨v, u, d, l, g⟩ = .tuple #[.int .i64 a, .int .i64 b, .int .i64 c] := by unfold leastV; split <;> exact ⟨_, _, _, rfl⟩
  rw [ha] at hR hR2
  rw [hb] at hQ hQ2
  rw [hc] at hL hL2
  generalize ckE ⟨v, u, d, l, g⟩ = z at *
  clear ha hb hc w0
  replace hR := Lib.hid hR
  replace hR2 := Lib.hid hR2
  replace hQ := Lib.hid hQ
  replace hQ2 := Lib.hid hQ2
  replace hL := Lib.hid hL
  replace hL2 := Lib.hid hL2
  replace hC := Lib.hid hC
  replace hC2 := Lib.hid hC2
  go_enter Try.func4, Try.ntmps4
  go_wp2_with (first
    | (go_at_call 21; refine (hR.out _).mono ?_; rintro e w1 ⟨rfl, hb1⟩; replace hx := hx.later hb1; obtain ⟨e0, e1, e2, e3, e4⟩ := hx.cells)
    | (go_at_call 22; refine (hR2.out _).mono ?_; rintro e w2 ⟨rfl, hb2⟩; replace hx := hx.later hb2; obtain ⟨e0, e1, e2, e3, e4⟩ := hx.cells)
    | (go_at_call 23; refine (hQ.out _).mono ?_; rintro e w3 ⟨rfl, hb3⟩; replace hx := hx.later hb3; obtain ⟨e0, e1, e2, e3, e4⟩ := hx.cells)
    | (go_at_call 24; refine (hQ2.out _).mono ?_; rintro e w4 ⟨rfl, hb4⟩; replace hx := hx.later hb4; obtain ⟨e0, e1, e2, e3, e4⟩ := hx.cells)
    | (go_at_call 25; refine (hL.out _).mono ?_; rintro e w5 ⟨rfl, hb5⟩; replace hx := hx.later hb5; obtain ⟨e0, e1, e2, e3, e4⟩ := hx.cells)
    | (go_at_call 26; refine (hL2.out _).mono ?_; rintro e w6 ⟨rfl, hb6⟩; replace hx := hx.later hb6; obtain ⟨e0, e1, e2, e3, e4⟩ := hx.cells))
  clear e0 e1 e2 e3 e4 hb1 hb2 hb3 hb4 hb5 hb6 hR hR2 hQ hQ2 hL hL2
  have hd := hx.drew
  have HE : Hid (∀ W, Cx w w.heap.size v u d l g W → W.cell? ⟨w.heap.size, 0, none⟩ = some (.int .i64 v) ∧ W.cell? ⟨w.heap.size, 1, none⟩ = some (.int .i64 u) ∧ W.cell? ⟨w.heap.size, 2, none⟩ = some (.int .i64 d) ∧ W.cell? ⟨w.heap.size, 3, none⟩ = some (.int .i64 l) ∧ W.cell? ⟨w.heap.size, 4, none⟩ = some (.int .i64 g) ∧ Cx w w.heap.size v u d l g W) := fun W x => x.with
  go_region_held3 (fun W => W.cell? ⟨w.heap.size, 0, none⟩ = some (.int .i64 v) ∧ W.cell? ⟨w.heap.size, 1, none⟩ = some (.int .i64 u) ∧ W.cell? ⟨w.heap.size, 2, none⟩ = some (.int .i64 d) ∧ W.cell? ⟨w.heap.size, 3, none⟩ = some (.int .i64 l) ∧ W.cell? ⟨w.heap.size, 4, none⟩ = some (.int .i64 g) ∧ Cx w w.heap.size v u d l g W)
    ((first | exact hd.with | exact HE.out _ (by assumption) | assumption))
    ((first
      | (go_at_call 27; refine (hC.out _).mono ?_; rintro e w7 ⟨rfl, hb7⟩; have hd7 := hd.later hb7)
      | (go_at_call 28; refine (hC2.out _).mono ?_; rintro e w8 ⟨rfl, hb8⟩; have hd8 := hd7.later hb8)
      | (go_at_call 20; refine (hw.out _).mono ?_; rintro e w9 ⟨rfl, hb9⟩; have hd9 := hd8.later hb9)))
  go_wp2
  go_ret
  exact ⟨rfl, hd9.bel⟩
end Go.Proofs.Ytodgnhkaglcjnaa.Cnt
