/- The walk of IdentRefuses: the fields of the effect, and the way. -/
import Derived.Test.YtlbelefabcokiaaDoorI27
namespace Go.Proofs.YtlbelefabcokiaaDoor.Ident
open Go.RowKit Go.Lib
set_option linter.unusedVariables false
set_option linter.unusedSimpArgs false
set_option maxRecDepth 20000

set_option maxHeartbeats 8000000 in
theorem case_1 (n v f k : Nat) (hn : n < 4294967296) (hv : v < 256) (hf : f < 65536) (hk : n % 1680728 + 1 = k) (w : World) (hH : Hv w)
    (h8 : v % 8 = 4 ∨ v % 8 = 5 ∨ v % 8 = 6 ∨ (v % 8 = 7 ∧ k ≤ 1679832)) :
    Calls Tryd.prog 11 #[.int .u32 n, .int .u8 v, .int .u16 f] w fun e w' => e = .returned (.bool true) ∧ Below w.heap.size w w' := by
  obtain ⟨o1, o2, o3, o4, o5⟩ := fr_all (n := (k : Int)) (by omega) (by omega)
  have hF := fun W => from_any (k : Int) (by omega) (by omega) W
  rw [o5] at hF
  have e1 : IntKind.i64.wrap ((n : Int) % 1680728) = (n : Int) % 1680728 := wr (by omega) (by omega)
  have e2 : IntKind.i64.wrap (1 + (n : Int) % 1680728) = (k : Int) := by rw [wr (by omega) (by omega)]; omega
  have e3 : IntKind.i64.wrap (f : Int) = f := wr (by omega) (by omega)
  have e4 : IntKind.i64.wrap (8 + (f : Int)) = 8 + (f : Int) := wr (by omega) (by omega)
  have e5 : IntKind.i64.wrap (-(f : Int)) = -(f : Int) := wr (by omega) (by omega)
  have e7 : IntKind.i64.wrap (65 + (f : Int)) = 65 + (f : Int) := wr (by omega) (by omega)
  have e8 : IntKind.i64.wrap (-1 - (f : Int)) = -1 - (f : Int) := wr (by omega) (by omega)
  have e9 : IntKind.i64.wrap (10000 + (f : Int)) = 10000 + (f : Int) := wr (by omega) (by omega)
  have e10 : IntKind.i64.wrap (4 + (f : Int)) = 4 + (f : Int) := wr (by omega) (by omega)
  obtain ⟨x, hx⟩ : ∃ x, frX k = x := ⟨_, rfl⟩
  rw [hx] at hF o1
  obtain ⟨xa, xb, xp, xm, xi, xg⟩ := x
  unfold itV at hF
  dsimp only at hF
  have e11 : IntKind.i64.wrap (1 + (f : Int)) = 1 + (f : Int) := wr (by omega) (by omega)
  have hm : (xm = 0 ∧ xi = false) ∨ (1 ≤ xm ∧ xa = 0 ∧ xb = 0 ∧ xp = 0) := by
    obtain ⟨_, _, h | h⟩ := o1
    · exact .inl ⟨h.1, h.2.1⟩
    · exact .inr ⟨h.1, h.2.2⟩
  have hk0 : k ≤ 1679832 → xm = 0 := fun h => by have := o3 (by omega); rw [hx] at this; exact this
  have no0 : ∀ {a b p m : Int} {i : Bool} {g : Int}, m = 0 → (i = true ∨ ¬ effOk a b p) → Bad a b p m i g := by
    intro a b p m i g h1 h2
    refine bad_of ?_
    rintro ⟨_, _, h | h⟩
    · rcases h2 with h2 | h2
      · have := h.2.1; simp only at this; rw [h2] at this; cases this
      · exact h2 h.2.2
    · have := h.1; simp only at this; omega
  have no1 : ∀ {a b p m : Int} {i : Bool} {g : Int}, m ≠ 0 → (a ≠ 0 ∨ b ≠ 0 ∨ p ≠ 0) → Bad a b p m i g := by
    intro a b p m i g h1 h2
    refine bad_of ?_
    rintro ⟨_, _, h | h⟩
    · exact h1 h.1
    · have h3 := h.2.2; simp only at h3; omega
  obtain ⟨r, hr, hB⟩ : ∃ r : Nat, (v : Int) % 8 = r ∧ ((r = 4 ∧ xm = 0 ∧ Bad xa xb xp 0 true xg) ∨ (r = 5 ∧ xm = 0 ∧ Bad xa (8 + (f : Int)) xp 0 xi xg) ∨ (r = 6 ∧ xm = 0 ∧ Bad xa xb (4 + (f : Int)) 0 xi xg) ∨ (r = 7 ∧ xm = 0 ∧ Bad (10000 + (f : Int)) xb xp 0 xi xg) ∨
      (r = 4 ∧ (xm == 0) = false ∧ Bad 1 xb xp xm xi xg) ∨ (r = 5 ∧ (xm == 0) = false ∧ Bad xa (1 + (f : Int)) xp xm xi xg) ∨ (r = 6 ∧ (xm == 0) = false ∧ Bad xa xb 1 xm xi xg)) := by
    refine ⟨v % 8, by omega, ?_⟩
    rcases hm with ⟨h0, hi⟩ | ⟨h0, ha, hb, hp⟩
    · rcases h8 with h | h | h | ⟨h, _⟩
      · exact .inl ⟨h, h0, no0 rfl (.inl rfl)⟩
      · exact .inr (.inl ⟨h, h0, no0 rfl (.inr (by unfold effOk; omega))⟩)
      · exact .inr (.inr (.inl ⟨h, h0, no0 rfl (.inr (by unfold effOk; omega))⟩))
      · exact .inr (.inr (.inr (.inl ⟨h, h0, no0 rfl (.inr (by unfold effOk; omega))⟩)))
    · have hd : (xm == 0) = false := by simp; omega
      rcases h8 with h | h | h | ⟨h, h9⟩
      · exact .inr (.inr (.inr (.inr (.inl ⟨h, hd, no1 (by omega) (.inl (by omega))⟩))))
      · exact .inr (.inr (.inr (.inr (.inr (.inl ⟨h, hd, no1 (by omega) (.inr (.inl (by omega)))⟩)))))
      · exact .inr (.inr (.inr (.inr (.inr (.inr ⟨h, hd, no1 (by omega) (.inr (.inr (by omega)))⟩)))))
      · have := hk0 h9; omega
  clear hm hk0 no0 no1
  have hE : Hid (∀ k, k < 7 → BadE (badE f k).1 (badE f k).2.1 (badE f k).2.2) := fun k hk => badE_of (badE_no f (by omega) k hk)
  clear hx o1 o2 o3 o4 o5 h8 hv
  replace hF := Lib.hid hF
  rcases hB with ⟨rfl, rfl, hB⟩ | ⟨rfl, rfl, hB⟩ | ⟨rfl, rfl, hB⟩ | ⟨rfl, rfl, hB⟩ | ⟨rfl, dm, hB⟩ | ⟨rfl, dm, hB⟩ | ⟨rfl, dm, hB⟩
  all_goals
    replace hB := Lib.hid hB
    go_enter Tryd.func11, Tryd.ntmps11
    go_wp2_with fail
    refine (hF.out _).mono ?_
    rintro e w1 ⟨rfl, hb1⟩
    replace hb1 := Lib.hid hb1
    go_wp2_with fail
    refine (hB.out.it _ (hH.later (below2 hb1.out (alloc_b w1 _)))).mono ?_
    rintro e w2 ⟨rfl, hb2⟩
    have B2 := Lib.hid (below2 (below2 hb1.out (alloc_b w1 _)) hb2)
    have X2 := Lib.hid (Kp.later (kp_new w1 _ _) hb2)
    have z0 := cell_of_row _ _ 0 _ _ _ X2.out
    have z1 := cell_of_row _ _ 1 _ _ _ X2.out
    have z2 := cell_of_row _ _ 2 _ _ _ X2.out
    have z3 := cell_of_row _ _ 3 _ _ _ X2.out
    have z4 := cell_of_row _ _ 4 _ _ _ X2.out
    have z5 := cell_of_row _ _ 5 _ _ _ X2.out
    clear hb2 hb1
    go_wp2_with fail
    refine (hB.out.nm _ (hH.later B2.out)).mono ?_
    rintro e w3 ⟨rfl, hb3⟩
    have B3 := Lib.hid (below2 B2.out hb3)
    have X3 := Lib.hid (X2.out.later hb3)
    clear hb3 X2 B2 z0 z1 z2 z3 z4 z5
    have z0 := cell_of_row _ _ 0 _ _ _ X3.out
    have z1 := cell_of_row _ _ 1 _ _ _ X3.out
    have z2 := cell_of_row _ _ 2 _ _ _ X3.out
    have z3 := cell_of_row _ _ 3 _ _ _ X3.out
    have z4 := cell_of_row _ _ 4 _ _ _ X3.out
    have z5 := cell_of_row _ _ 5 _ _ _ X3.out
    go_wp2_with fail
    refine (hB.out.ck _).mono ?_
    rintro e w4 ⟨rfl, hb4⟩
    have B4 := Lib.hid (below2 B3.out hb4)
    have R4 := Lib.hid (show RAt w w4.heap.size f (w4.alloc (.cells (badCells f) TE)) from ⟨heap_alloc_new _ _, below2 B4.out (alloc_b _ _)⟩)
    clear hb4 X3 B3 z0 z1 z2 z3 z4 z5 B4 hB hF
    go_wp2_with fail
    clear e1 e2 e3 e4 e5 e7 e8 e9 e10 e11 hr
    generalize w4.heap.size = q at *
    go_loopw [144] (fun i wr => ∃ j : Nat, j ≤ 7 ∧ i = .int .i64 j ∧ RAt w q f wr) (fun i _ => 7 - (intOf i).toNat)
    case atStart => exact ⟨0, by omega, rfl, R4.out⟩
    case round =>
      obtain ⟨j, hj, rfl, hR⟩ := hrel
      replace hR := Lib.hid hR
      by_cases hlt : j < 7
      · obtain ⟨c0, c1, c2⟩ := badCells_at f j hlt
        have x0 := (cell_of_row _ q (j * 3) _ _ _ hR.out.blk).trans c0
        have x1 := (cell_of_row _ q (j * 3 + 1) _ _ _ hR.out.blk).trans c1
        have x2 := (cell_of_row _ q (j * 3 + 2) _ _ _ hR.out.blk).trans c2
        have hb := hE.out j hlt
        clear c0 c1 c2
        generalize (badE f j).1 = ba at *
        generalize (badE f j).2.1 = bb at *
        generalize (badE f j).2.2 = bp at *
        replace hb := Lib.hid hb
        go_wp2_with fail
        refine (hb.out.ef _).mono ?_
        rintro e w5 ⟨rfl, hb5⟩
        have E5 := (kp_new wr #[.int .i64 ba, .int .i64 bb, .int .i64 bp] TE).later hb5
        have R5 := Lib.hid ((hR.out.later (alloc_b wr (.cells #[.int .i64 ba, .int .i64 bb, .int .i64 bp] TE))).later hb5)
        clear x0 x1 x2 hR hb5
        have y0 := cell_of_row _ _ 0 _ _ _ E5
        have y1 := cell_of_row _ _ 1 _ _ _ E5
        have y2 := cell_of_row _ _ 2 _ _ _ E5
        clear E5
        go_wp2_with fail
        refine (hb.out.ck _).mono ?_
        rintro e w6 ⟨rfl, hb6⟩
        have R6 := Lib.hid (R5.out.later hb6)
        clear y0 y1 y2 hb6 R5
        go_wp2_with fail
        go_roundw
        case rel => exact ⟨j + 1, by omega, by go_num, R6.out⟩
        case measure => simp [intOf]; omega
      · obtain rfl : j = 7 := by omega
        have hW := Lib.hid (hH.later hR.out.bel)
        go_wp2_with fail
        refine (works_any _ hW.out).mono ?_
        rintro e w5 ⟨rfl, hb5⟩
        have B5 := below2 hR.out.bel hb5
        go_wp2
        go_ret
        exact ⟨rfl, B5⟩
end Go.Proofs.YtlbelefabcokiaaDoor.Ident
