/- The walk of IdentCounts. -/
import Derived.Test.YtlbelefabcokiaaDoorI18
namespace Go.Proofs.YtlbelefabcokiaaDoor.Ident
open Go.RowKit Go.Lib
set_option linter.unusedVariables false
set_option linter.unusedSimpArgs false
set_option maxRecDepth 20000

theorem fr_eff {k : Nat} (h : k ≤ 1679831) : okIt (frE k) ∧ nmT (frE k) = (k : Int) + 1 ∧ (frE k).m = 0 ∧ (frE k).i = false := by
  refine ⟨⟨?_, ?_, .inl ⟨rfl, rfl, ?_⟩⟩, ?_, rfl, rfl⟩
  · show (1 : Int) ≤ ((k % 7 : Nat) : Int) + 1; omega
  · show ((k % 7 : Nat) : Int) + 1 ≤ 7; omega
  · show effOk (((k / 7 / 3 / 8 : Nat) : Int) + 1) ((k / 7 / 3 % 8 : Nat) : Int) (((k / 7 % 3 : Nat) : Int) + 1)
    unfold effOk; omega
  · unfold nmT frE
    rw [if_pos rfl]
    show 1 + (((((k / 7 / 3 / 8 : Nat) : Int) + 1 - 1) * 8 + ((k / 7 / 3 % 8 : Nat) : Int)) * 3 + (((k / 7 % 3 : Nat) : Int) + 1) - 1) * 7 + (((k % 7 : Nat) : Int) + 1) - 1 = (k : Int) + 1
    omega
theorem fr_move {k : Nat} (h : k ≤ 895) : okIt (frM k) ∧ nmT (frM k) = (k : Int) + 1679833 ∧ 1 ≤ (frM k).m := by
  refine ⟨⟨?_, ?_, .inr ⟨?_, ?_, rfl, rfl, rfl⟩⟩, ?_, ?_⟩
  · show (1 : Int) ≤ ((k % 7 : Nat) : Int) + 1; omega
  · show ((k % 7 : Nat) : Int) + 1 ≤ 7; omega
  · show (1 : Int) ≤ ((k / 7 / 2 : Nat) : Int) + 1; omega
  · show ((k / 7 / 2 : Nat) : Int) + 1 ≤ 64; omega
  · unfold nmT frM b01
    rw [if_neg (by show ¬ ((k / 7 / 2 : Nat) : Int) + 1 = 0; omega)]
    show 1679833 + ((((k / 7 / 2 : Nat) : Int) + 1 - 1) * 2 + (if decide (k / 7 % 2 = 1) = true then 1 else 0)) * 7 + (((k % 7 : Nat) : Int) + 1) - 1 = (k : Int) + 1679833
    by_cases hd : k / 7 % 2 = 1
    · rw [decide_eq_true hd, if_pos rfl]; omega
    · rw [decide_eq_false hd, if_neg (by simp)]; omega
  · show (1 : Int) ≤ ((k / 7 / 2 : Nat) : Int) + 1; omega
/-- The item of a number: it is valid, and has this number. -/
theorem fr_all {n : Int} (h1 : 1 ≤ n) (h2 : n ≤ 1680728) : okIt (frX n) ∧ nmT (frX n) = n ∧ (n ≤ 1679832 → (frX n).m = 0) ∧ (1679832 < n → 1 ≤ (frX n).m) ∧ frC n = 0 := by
  have hc : frC n = 0 := if_pos ⟨h1, h2⟩
  unfold frX
  rw [if_pos ⟨h1, h2⟩]
  by_cases h : 1679832 < n
  · rw [if_pos h]
    obtain ⟨a, b, c⟩ := fr_move (k := n.toNat - 1679833) (by omega)
    exact ⟨a, by rw [b]; omega, fun h => by omega, fun _ => c, hc⟩
  · rw [if_neg h]
    obtain ⟨a, b, c, _⟩ := fr_eff (k := n.toNat - 1) (by omega)
    exact ⟨a, by rw [b]; omega, fun _ => c, fun h => by omega, hc⟩
theorem fr_out {n : Int} (h : ¬ (1 ≤ n ∧ n ≤ 1680728)) : frX n = it0 ∧ frC n = 3 := ⟨if_neg h, if_neg h⟩
theorem counts_go (n b k : Nat) (hn : n < 4294967296) (hb : b < 4294967296) (hk : n % 1680728 + 1 = k) (w : World) (hH : Hv w) :
    Calls Tryd.prog 8 #[.int .u32 n, .int .u32 b] w fun e w' => e = .returned (.bool true) ∧ Below w.heap.size w w' := by
  obtain ⟨o1, o2, o3, o4, o5⟩ := fr_all (n := (k : Int)) (by omega) (by omega)
  have hF := fun W => from_any (k : Int) (by omega) (by omega) W
  have hU := fun W => from_any (1680729 + (b : Int)) (by omega) (by omega) W
  have hV := fun W => from_any (-(b : Int)) (by omega) (by omega) W
  rw [(fr_out (n := 1680729 + (b : Int)) (by omega)).1, (fr_out (n := 1680729 + (b : Int)) (by omega)).2] at hU
  rw [(fr_out (n := -(b : Int)) (by omega)).1, (fr_out (n := -(b : Int)) (by omega)).2] at hV
  rw [o5] at hF
  have hN := fun W hW => number_it (frX k) W hW
  have hC : ∀ W, Calls Tryd.prog 26 #[itV (frX k)] W fun e w' => e = .returned (.int .i64 (ckI (frX k))) ∧ Below W.heap.size W w' := fun W => checkI_any _ _ _ _ _ _ W
  rw [show ckI (frX k) = 0 from if_pos o1] at hN hC
  rw [show nmI (frX k) = nmT (frX k) from if_pos o1, o2] at hN
  have hm : (decide (0 < (frX k).m) = true ∧ decide (1679832 < (k : Int)) = true) ∨ (decide (0 < (frX k).m) = false ∧ decide (1679832 < (k : Int)) = false) := by
    by_cases h : 1679832 < (k : Int)
    · have := o4 h; exact .inl ⟨decide_eq_true (by omega), decide_eq_true h⟩
    · have := o3 (by omega); exact .inr ⟨decide_eq_false (by omega), decide_eq_false h⟩
  have e1 : IntKind.i64.wrap ((n : Int) % 1680728) = (n : Int) % 1680728 := wr (by omega) (by omega)
  have e2 : IntKind.i64.wrap (1 + (n : Int) % 1680728) = (k : Int) := by rw [wr (by omega) (by omega)]; omega
  have e2b : IntKind.i64.wrap (1 + IntKind.i64.wrap ((n : Int) % 1680728)) = (k : Int) := by rw [e1]; exact e2
  have e3 : IntKind.i64.wrap (b : Int) = b := wr (by omega) (by omega)
  have e4 : IntKind.i64.wrap (1680729 + (b : Int)) = 1680729 + (b : Int) := wr (by omega) (by omega)
  have e5 : IntKind.i64.wrap (-(b : Int)) = -(b : Int) := wr (by omega) (by omega)
  clear o1 o2 o3 o4 o5
  obtain ⟨x, hx⟩ : ∃ x, frX k = x := ⟨_, rfl⟩
  rw [hx] at hF hN hC hm
  clear hx
  obtain ⟨xa, xb, xp, xm, xi, xg⟩ := x
  unfold itV at hF hU hV hN hC
  dsimp only [it0] at hF hU hV hN hC hm
  replace hF := Lib.hid hF
  replace hU := Lib.hid hU
  replace hV := Lib.hid hV
  replace hN := Lib.hid hN
  replace hC := Lib.hid hC
  replace hk := Lib.hid hk
  rcases hm with ⟨m1, m2⟩ | ⟨m1, m2⟩
  all_goals
    go_enter Tryd.func8, Tryd.ntmps8
    go_wp2_with fail
    refine (hF.out _).mono ?_
    rintro e w1 ⟨rfl, hb1⟩
    have b1 := alloc_b w1 (.cells #[.int .i64 xa, .int .i64 xb, .int .i64 xp, .int .i64 xm, .bool xi, .int .i64 xg] TI)
    have B1 := Lib.hid (below2 hb1 b1)
    have X1 := Lib.hid (kp_new w1 #[.int .i64 xa, .int .i64 xb, .int .i64 xp, .int .i64 xm, .bool xi, .int .i64 xg] TI)
    clear hb1 b1
    go_wp2_with fail
    refine (hN.out _ (hH.later B1.out)).mono ?_
    rintro e w2 ⟨rfl, hb2⟩
    have B2 := Lib.hid (below2 B1.out hb2)
    have X2 := X1.out.later hb2
    obtain ⟨z0, z1, z2, z3, z4, z5, _⟩ := ib_cells (x := ⟨xa, xb, xp, xm, xi, xg⟩) X2
    replace X2 := Lib.hid X2
    clear B1 X1 hb2
    go_wp2_with fail
    refine (hC.out _).mono ?_
    rintro e w3 ⟨rfl, hb3⟩
    have B3 := Lib.hid (below2 B2.out hb3)
    have X3 := X2.out.later hb3
    clear z0 z1 z2 z3 z4 z5
    obtain ⟨z0, z1, z2, z3, z4, z5, _⟩ := ib_cells (x := ⟨xa, xb, xp, xm, xi, xg⟩) X3
    clear B2 X2 hb3 X3
    go_wp2_with fail
    refine (hU.out _).mono ?_
    rintro e w4 ⟨rfl, hb4⟩
    have b4 := alloc_b w4 (.cells #[.int .i64 0, .int .i64 0, .int .i64 0, .int .i64 0, .bool false, .int .i64 0] TI)
    have B4 := Lib.hid (below2 (below2 B3.out hb4) b4)
    have Y4 := Lib.hid (kp_new w4 #[.int .i64 0, .int .i64 0, .int .i64 0, .int .i64 0, .bool false, .int .i64 0] TI)
    clear B3 hb4 b4 z0 z1 z2 z3 z4 z5
    go_wp2_with fail
    refine (hV.out _).mono ?_
    rintro e w5 ⟨rfl, hb5⟩
    have b5 := alloc_b w5 (.cells #[.int .i64 0, .int .i64 0, .int .i64 0, .int .i64 0, .bool false, .int .i64 0] TI)
    have B5 := Lib.hid (below2 (below2 B4.out hb5) b5)
    have Y5 := (Y4.out.later hb5).later b5
    obtain ⟨z0, z1, z2, z3, z4, z5, _⟩ := ib_cells (x := it0) Y5
    dsimp only [it0] at z0 z1 z2 z3 z4 z5
    clear B4 hb5 b5 Y4 Y5
    go_wp2_with fail
    refine (works_any _ (hH.later B5.out)).mono ?_
    rintro e w6 ⟨rfl, hb6⟩
    have B6 := below2 B5.out hb6
    go_wp2
    go_ret
    exact ⟨rfl, B6⟩
theorem w_identCounts (a0 : Int) (a1 : Int) (w0 : (Lit.int .u32 a0).wf = true) (w1 : (Lit.int .u32 a1).wf = true) (w : World) (hH : Hv w) :
    Calls Tryd.prog 8 #[.int .u32 a0, .int .u32 a1] w fun e w' => e = .returned (.bool true) ∧ Below w.heap.size w w' := by
  have b0 := bounds_u32 w0
  have b1 := bounds_u32 w1
  obtain ⟨n, rfl⟩ := Int.eq_ofNat_of_zero_le b0.1
  obtain ⟨m, rfl⟩ := Int.eq_ofNat_of_zero_le b1.1
  exact counts_go n m _ (by omega) (by omega) rfl w hH
end Go.Proofs.YtlbelefabcokiaaDoor.Ident
