/- The walk of IdentRefuses: the last case, and all. -/
import Derived.Test.YtlbelefabcokiaaDoorI28
import Derived.Test.YtlbelefabcokiaaDoorI19
namespace Go.Proofs.YtlbelefabcokiaaDoor.Ident
open Go.RowKit Go.Lib
set_option linter.unusedVariables false
set_option linter.unusedSimpArgs false
set_option maxRecDepth 20000

set_option maxHeartbeats 4000000 in
theorem case_2 (n v f k : Nat) (hn : n < 4294967296) (hf : f < 65536) (hk : n % 1680728 + 1 = k) (w : World) (hH : Hv w)
    (hv : v < 256) (h8 : v % 8 = 7) (hk9 : 1679832 < k) :
    Calls Tryd.prog 11 #[.int .u32 n, .int .u8 v, .int .u16 f] w fun e w' => e = .returned (.bool true) ∧ Below w.heap.size w w' := by
  obtain ⟨o1, o2, o3, o4, o5⟩ := fr_all (n := (k : Int)) (by omega) (by omega)
  have hF := fun W => from_any (k : Int) (by omega) (by omega) W
  rw [o5] at hF
  have e1 : IntKind.i64.wrap ((n : Int) % 1680728) = (n : Int) % 1680728 := wr (by omega) (by omega)
  have e2 : IntKind.i64.wrap (1 + (n : Int) % 1680728) = (k : Int) := by rw [wr (by omega) (by omega)]; omega
  have e3 : IntKind.i64.wrap (f : Int) = f := wr (by omega) (by omega)
  have e4 : IntKind.i64.wrap (8 + (f : Int)) = 8 + (f : Int) := wr (by omega) (by omega)
  have e5 : IntKind.i64.wrap (-(f : Int)) = -(f : Int) := wr (by omega) (by omega)
  have e7 : IntKind.i64.wrap (65 + (f : Int)) = 65 + (f : Int) := wr (by omega) (by omega)
  have e8 : IntKind.i64.wrap (-1 - (f : Int)) = -1 - (f : Int) := wr (by omega) (by omega)
  have e9 : IntKind.i64.wrap (10000 + (f : Int)) = 10000 + (f : Int) := wr (by omega) (by omega)
  have e10 : IntKind.i64.wrap (4 + (f : Int)) = 4 + (f : Int) := wr (by omega) (by omega)
  obtain ⟨x, hx⟩ : ∃ x, frX k = x := ⟨_, rfl⟩
  rw [hx] at hF o1
  obtain ⟨xa, xb, xp, xm, xi, xg⟩ := x
  unfold itV at hF
  dsimp only at hF
  have hr : (v : Int) % 8 = 7 := by omega
  have hm1 : 1 ≤ xm := by have := o4 (by omega); rw [hx] at this; exact this
  have dm : (xm == 0) = false := by simp; omega
  have hL := fun W => law_effect f v v hf hv hv W
  obtain ⟨A, hA⟩ : ∃ A : Nat, 1 + f % 9999 = A := ⟨_, rfl⟩
  obtain ⟨B, hBB⟩ : ∃ B : Nat, v % 8 = B := ⟨_, rfl⟩
  obtain ⟨P, hP⟩ : ∃ P : Nat, 1 + v % 3 = P := ⟨_, rfl⟩
  rw [hA, hBB, hP] at hL
  have hB : Bad A B P xm xi xg := bad_of (by
    rintro ⟨_, _, h | h⟩
    · have := h.1; simp only at this; omega
    · have := h.2.2.1; simp only at this; omega)
  replace hL := Lib.hid hL
  clear hA hBB hP hm1
  have hE : Hid (∀ k, k < 7 → BadE (badE f k).1 (badE f k).2.1 (badE f k).2.2) := fun k hk => badE_of (badE_no f (by omega) k hk)
  clear hx o1 o2 o3 o4 o5 h8 hv hk9
  replace hF := Lib.hid hF
  replace hB := Lib.hid hB
  go_enter Tryd.func11, Tryd.ntmps11
  go_wp2_with fail
  refine (hF.out _).mono ?_
  rintro e w1 ⟨rfl, hb1⟩
  replace hb1 := Lib.hid hb1
  go_wp2_with fail
  refine (hL.out _).mono ?_
  rintro e w1b ⟨rfl, hbe⟩
  have Be := Lib.hid (below2 (below2 hb1.out (alloc_b w1 (.cells #[.int .i64 xa, .int .i64 xb, .int .i64 xp, .int .i64 xm, .bool xi, .int .i64 xg] TI))) hbe)
  have Xe := Kp.later (kp_new w1 #[.int .i64 xa, .int .i64 xb, .int .i64 xp, .int .i64 xm, .bool xi, .int .i64 xg] TI) hbe
  obtain ⟨z0, z1, z2, z3, z4, z5, fz⟩ := ib_cells (x := ⟨xa, xb, xp, xm, xi, xg⟩) Xe
  have s1 := heap_setCell_same w1b w1.heap.size 0 _ _ (.int .i64 (A : Int)) Xe
  have s2 := heap_setCell_same _ w1.heap.size 1 _ _ (.int .i64 (B : Int)) s1
  have s3 := heap_setCell_same _ w1.heap.size 2 _ _ (.int .i64 (P : Int)) s2
  have Bs := Lib.hid (((Be.out.setCell (p := ⟨w1.heap.size, 0, none⟩) hb1.out.size (.int .i64 (A : Int))).setCell (p := ⟨w1.heap.size, 1, none⟩) hb1.out.size (.int .i64 (B : Int))).setCell (p := ⟨w1.heap.size, 2, none⟩) hb1.out.size (.int .i64 (P : Int)))
  have Xs := Lib.hid (show Kp w1.heap.size (.cells #[.int .i64 A, .int .i64 B, .int .i64 P, .int .i64 xm, .bool xi, .int .i64 xg] TI (0, 0)) _ from s3)
  clear Xe s1 s2 s3 Be hbe
  go_wp2_with fail
  refine (hB.out.it _ (hH.later Bs.out)).mono ?_
  rintro e w2 ⟨rfl, hb2⟩
  clear z0 z1 z2 z3 z4 z5 fz
  have B2 := Lib.hid (below2 Bs.out hb2)
  have X2 := Lib.hid (Xs.out.later hb2)
  have z0 := cell_of_row _ _ 0 _ _ _ X2.out
  have z1 := cell_of_row _ _ 1 _ _ _ X2.out
  have z2 := cell_of_row _ _ 2 _ _ _ X2.out
  have z3 := cell_of_row _ _ 3 _ _ _ X2.out
  have z4 := cell_of_row _ _ 4 _ _ _ X2.out
  have z5 := cell_of_row _ _ 5 _ _ _ X2.out
  clear hb2 hb1 Bs Xs
  go_wp2_with fail
  refine (hB.out.nm _ (hH.later B2.out)).mono ?_
  rintro e w3 ⟨rfl, hb3⟩
  have B3 := Lib.hid (below2 B2.out hb3)
  have X3 := Lib.hid (X2.out.later hb3)
  clear hb3 X2 B2 z0 z1 z2 z3 z4 z5
  have z0 := cell_of_row _ _ 0 _ _ _ X3.out
  have z1 := cell_of_row _ _ 1 _ _ _ X3.out
  have z2 := cell_of_row _ _ 2 _ _ _ X3.out
  have z3 := cell_of_row _ _ 3 _ _ _ X3.out
  have z4 := cell_of_row _ _ 4 _ _ _ X3.out
  have z5 := cell_of_row _ _ 5 _ _ _ X3.out
  go_wp2_with fail
  refine (hB.out.ck _).mono ?_
  rintro e w4 ⟨rfl, hb4⟩
  have B4 := Lib.hid (below2 B3.out hb4)
  have R4 := Lib.hid (show RAt w w4.heap.size f (w4.alloc (.cells (badCells f) TE)) from ⟨heap_alloc_new _ _, below2 B4.out (alloc_b _ _)⟩)
  clear hb4 X3 B3 z0 z1 z2 z3 z4 z5 B4 hB hF hL
  go_wp2_with fail
  clear e1 e2 e3 e4 e5 e7 e8 e9 e10 hr
  generalize w4.heap.size = q at *
  go_loopw [144] (fun i wr => ∃ j : Nat, j ≤ 7 ∧ i = .int .i64 j ∧ RAt w q f wr) (fun i _ => 7 - (intOf i).toNat)
  case atStart => exact ⟨0, by omega, rfl, R4.out⟩
  case round =>
    obtain ⟨j, hj, rfl, hR⟩ := hrel
    replace hR := Lib.hid hR
    by_cases hlt : j < 7
    · obtain ⟨c0, c1, c2⟩ := badCells_at f j hlt
      have x0 := (cell_of_row _ q (j * 3) _ _ _ hR.out.blk).trans c0
      have x1 := (cell_of_row _ q (j * 3 + 1) _ _ _ hR.out.blk).trans c1
      have x2 := (cell_of_row _ q (j * 3 + 2) _ _ _ hR.out.blk).trans c2
      have hb := hE.out j hlt
      clear c0 c1 c2
      generalize (badE f j).1 = ba at *
      generalize (badE f j).2.1 = bb at *
      generalize (badE f j).2.2 = bp at *
      replace hb := Lib.hid hb
      go_wp2_with fail
      refine (hb.out.ef _).mono ?_
      rintro e w5 ⟨rfl, hb5⟩
      have E5 := (kp_new wr #[.int .i64 ba, .int .i64 bb, .int .i64 bp] TE).later hb5
      have R5 := Lib.hid ((hR.out.later (alloc_b wr (.cells #[.int .i64 ba, .int .i64 bb, .int .i64 bp] TE))).later hb5)
      clear x0 x1 x2 hR hb5
      have y0 := cell_of_row _ _ 0 _ _ _ E5
      have y1 := cell_of_row _ _ 1 _ _ _ E5
      have y2 := cell_of_row _ _ 2 _ _ _ E5
      clear E5
      go_wp2_with fail
      refine (hb.out.ck _).mono ?_
      rintro e w6 ⟨rfl, hb6⟩
      have R6 := Lib.hid (R5.out.later hb6)
      clear y0 y1 y2 hb6 R5
      go_wp2_with fail
      go_roundw
      case rel => exact ⟨j + 1, by omega, by go_num, R6.out⟩
      case measure => simp [intOf]; omega
    · obtain rfl : j = 7 := by omega
      have hW := Lib.hid (hH.later hR.out.bel)
      go_wp2_with fail
      refine (works_any _ hW.out).mono ?_
      rintro e w5 ⟨rfl, hb5⟩
      have B5 := below2 hR.out.bel hb5
      go_wp2
      go_ret
      exact ⟨rfl, B5⟩
theorem w_identRefuses (a0 : Int) (a1 : Int) (a2 : Int) (w0 : (Lit.int .u32 a0).wf = true) (w1 : (Lit.int .u8 a1).wf = true) (w2 : (Lit.int .u16 a2).wf = true) (w : World) (hH : Hv w) :
    Calls Tryd.prog 11 #[.int .u32 a0, .int .u8 a1, .int .u16 a2] w fun e w' => e = .returned (.bool true) ∧ Below w.heap.size w w' := by
  have b0 := bounds_u32 w0
  have b1 := bounds_u8 w1
  have b2 := bounds_u16 w2
  obtain ⟨n, rfl⟩ := Int.eq_ofNat_of_zero_le b0.1
  obtain ⟨v, rfl⟩ := Int.eq_ofNat_of_zero_le b1.1
  obtain ⟨f, rfl⟩ := Int.eq_ofNat_of_zero_le b2.1
  obtain ⟨k, hk⟩ : ∃ k, n % 1680728 + 1 = k := ⟨_, rfl⟩
  have h8 : (v % 8 = 0 ∨ v % 8 = 1 ∨ v % 8 = 2 ∨ v % 8 = 3) ∨ (v % 8 = 4 ∨ v % 8 = 5 ∨ v % 8 = 6 ∨ (v % 8 = 7 ∧ k ≤ 1679832)) ∨ (v % 8 = 7 ∧ 1679832 < k) := by omega
  rcases h8 with h | h | ⟨h, h9⟩
  · exact case_0 n v f k (by omega) (by omega) (by omega) hk w hH h
  · exact case_1 n v f k (by omega) (by omega) (by omega) hk w hH h
  · exact case_2 n v f k (by omega) (by omega) hk w hH (by omega) h h9
end Go.Proofs.YtlbelefabcokiaaDoor.Ident
