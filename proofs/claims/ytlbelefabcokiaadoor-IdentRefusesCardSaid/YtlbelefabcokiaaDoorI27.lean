/- The walk of IdentRefuses. -/
import Derived.Test.YtlbelefabcokiaaDoorI20
namespace Go.Proofs.YtlbelefabcokiaaDoor.Ident
open Go.RowKit Go.Lib
set_option linter.unusedVariables false
set_option linter.unusedSimpArgs false
set_option maxRecDepth 20000

/-- The program's functions refuse what is not valid. -/
structure Bad (a b p m : Int) (i : Bool) (g : Int) : Prop where
  it : ∀ W, Hv W → Calls Tryd.prog 22 #[.agg #[.int .i64 a, .int .i64 b, .int .i64 p, .int .i64 m, .bool i, .int .i64 g]] W fun e w' => e = .returned (.tuple #[.string ⟨#[]⟩, .int .i64 2]) ∧ Below W.heap.size W w'
  nm : ∀ W, Hv W → Calls Tryd.prog 28 #[.agg #[.int .i64 a, .int .i64 b, .int .i64 p, .int .i64 m, .bool i, .int .i64 g]] W fun e w' => e = .returned (.tuple #[.int .i64 0, .int .i64 2]) ∧ Below W.heap.size W w'
  ck : ∀ W, Calls Tryd.prog 26 #[.agg #[.int .i64 a, .int .i64 b, .int .i64 p, .int .i64 m, .bool i, .int .i64 g]] W fun e w' => e = .returned (.int .i64 2) ∧ Below W.heap.size W w'
theorem bad_of {a b p m : Int} {i : Bool} {g : Int} (h : ¬ okIt ⟨a, b, p, m, i, g⟩) : Bad a b p m i g := by
  refine ⟨fun W hW => ?_, fun W hW => ?_, fun W => ?_⟩
  · exact item_bad a b p m i g h W
  · have := number_it ⟨a, b, p, m, i, g⟩ W hW
    rw [show nmI ⟨a, b, p, m, i, g⟩ = 0 from if_neg h, show ckI ⟨a, b, p, m, i, g⟩ = 2 from if_neg h] at this
    exact this
  · have := checkI_any a b p m i g W
    rw [show ckI ⟨a, b, p, m, i, g⟩ = 2 from if_neg h] at this
    exact this
/-- The seven effects that are refused. -/
def badE (f : Int) (k : Nat) : Int × Int × Int := match k with
  | 0 => (0, 0, 1) | 1 => (-f, 0, 1) | 2 => (10000 + f, 0, 1) | 3 => (1, 8 + f, 1) | 4 => (1, -1 - f, 1) | 5 => (1, 0, 0) | _ => (1, 0, 4 + f)
theorem badE_no (f : Int) (h : 0 ≤ f) (k : Nat) (hk : k < 7) : ¬ effOk (badE f k).1 (badE f k).2.1 (badE f k).2.2 := by
  obtain rfl | rfl | rfl | rfl | rfl | rfl | rfl : k = 0 ∨ k = 1 ∨ k = 2 ∨ k = 3 ∨ k = 4 ∨ k = 5 ∨ k = 6 := by omega
  all_goals (unfold badE effOk; simp only; omega)
def badCells (f : Int) : Array Value := #[.int .i64 0, .int .i64 0, .int .i64 1, .int .i64 (-f), .int .i64 0, .int .i64 1, .int .i64 (10000 + f), .int .i64 0, .int .i64 1, .int .i64 1, .int .i64 (8 + f), .int .i64 1, .int .i64 1, .int .i64 (-1 - f), .int .i64 1, .int .i64 1, .int .i64 0, .int .i64 0, .int .i64 1, .int .i64 0, .int .i64 (4 + f)]
theorem badCells_at (f : Int) (k : Nat) (hk : k < 7) : (badCells f)[k * 3]? = some (.int .i64 (badE f k).1) ∧ (badCells f)[k * 3 + 1]? = some (.int .i64 (badE f k).2.1) ∧ (badCells f)[k * 3 + 2]? = some (.int .i64 (badE f k).2.2) := by
  obtain rfl | rfl | rfl | rfl | rfl | rfl | rfl : k = 0 ∨ k = 1 ∨ k = 2 ∨ k = 3 ∨ k = 4 ∨ k = 5 ∨ k = 6 := by omega
  all_goals exact ⟨rfl, rfl, rfl⟩
structure BadE (a b p : Int) : Prop where
  ef : ∀ W, Calls Tryd.prog 16 #[.agg #[.int .i64 a, .int .i64 b, .int .i64 p]] W fun e w' => e = .returned (.tuple #[.string ⟨#[]⟩, .int .i64 2]) ∧ Below W.heap.size W w'
  ck : ∀ W, Calls Tryd.prog 20 #[.agg #[.int .i64 a, .int .i64 b, .int .i64 p]] W fun e w' => e = .returned (.int .i64 2) ∧ Below W.heap.size W w'
theorem badE_of {a b p : Int} (h : ¬ effOk a b p) : BadE a b p := by
  refine ⟨fun W => effect_bad a b p h W, fun W => ?_⟩
  have := check_any a b p W
  rw [show okE a b p = 2 from if_neg h] at this
  exact this
/-- What is known of the memory while the seven are gone through. -/
structure RAt (w : World) (q : Nat) (f : Int) (W : World) : Prop where
  blk : Kp q (.cells (badCells f) TE (0, 0)) W
  bel : Below w.heap.size w W
theorem RAt.later {w W W' : World} {q : Nat} {f : Int} (h : RAt w q f W) (hb : Below W.heap.size W W') : RAt w q f W' := ⟨h.blk.later hb, below2 h.bel hb⟩
set_option maxHeartbeats 4000000 in
theorem case_0 (n v f k : Nat) (hn : n < 4294967296) (hv : v < 256) (hf : f < 65536) (hk : n % 1680728 + 1 = k) (w : World) (hH : Hv w)
    (h8 : v % 8 = 0 ∨ v % 8 = 1 ∨ v % 8 = 2 ∨ v % 8 = 3) :
    Calls Tryd.prog 11 #[.int .u32 n, .int .u8 v, .int .u16 f] w fun e w' => e = .returned (.bool true) ∧ Below w.heap.size w w' := by
  obtain ⟨o1, o2, o3, o4, o5⟩ := fr_all (n := (k : Int)) (by omega) (by omega)
  have hF := fun W => from_any (k : Int) (by omega) (by omega) W
  rw [o5] at hF
  have e1 : IntKind.i64.wrap ((n : Int) % 1680728) = (n : Int) % 1680728 := wr (by omega) (by omega)
  have e2 : IntKind.i64.wrap (1 + (n : Int) % 1680728) = (k : Int) := by rw [wr (by omega) (by omega)]; omega
  have e3 : IntKind.i64.wrap (f : Int) = f := wr (by omega) (by omega)
  have e4 : IntKind.i64.wrap (8 + (f : Int)) = 8 + (f : Int) := wr (by omega) (by omega)
  have e5 : IntKind.i64.wrap (-(f : Int)) = -(f : Int) := wr (by omega) (by omega)
  have e7 : IntKind.i64.wrap (65 + (f : Int)) = 65 + (f : Int) := wr (by omega) (by omega)
  have e8 : IntKind.i64.wrap (-1 - (f : Int)) = -1 - (f : Int) := wr (by omega) (by omega)
  have e9 : IntKind.i64.wrap (10000 + (f : Int)) = 10000 + (f : Int) := wr (by omega) (by omega)
  have e10 : IntKind.i64.wrap (4 + (f : Int)) = 4 + (f : Int) := wr (by omega) (by omega)
  obtain ⟨x, hx⟩ : ∃ x, frX k = x := ⟨_, rfl⟩
  rw [hx] at hF o1
  obtain ⟨xa, xb, xp, xm, xi, xg⟩ := x
  unfold itV at hF
  dsimp only at hF
  obtain ⟨r, hr, hB⟩ : ∃ r : Nat, (v : Int) % 8 = r ∧ ((r = 0 ∧ Bad xa xb xp xm xi (8 + (f : Int))) ∨ (r = 1 ∧ Bad xa xb xp xm xi (-(f : Int))) ∨ (r = 2 ∧ Bad xa xb xp (65 + (f : Int)) xi xg) ∨ (r = 3 ∧ Bad xa xb xp (-1 - (f : Int)) xi xg)) := by
    refine ⟨v % 8, by omega, ?_⟩
    rcases h8 with h | h | h | h
    · exact .inl ⟨h, bad_of (by rintro ⟨_, h, _⟩; simp only at h; omega)⟩
    · exact .inr (.inl ⟨h, bad_of (by rintro ⟨h, _, _⟩; simp only at h; omega)⟩)
    · exact .inr (.inr (.inl ⟨h, bad_of (by rintro ⟨_, _, h | h⟩ <;> (have h1 := h.1; have h2 := h.2.1; simp only at h1 h2; omega))⟩))
    · exact .inr (.inr (.inr ⟨h, bad_of (by rintro ⟨_, _, h | h⟩ <;> (have h1 := h.1; simp only at h1; omega))⟩))
  have hE : Hid (∀ k, k < 7 → BadE (badE f k).1 (badE f k).2.1 (badE f k).2.2) := fun k hk => badE_of (badE_no f (by omega) k hk)
  clear hx o1 o2 o3 o4 o5 h8 hv
  replace hF := Lib.hid hF
  rcases hB with ⟨rfl, hB⟩ | ⟨rfl, hB⟩ | ⟨rfl, hB⟩ | ⟨rfl, hB⟩
  all_goals
    replace hB := Lib.hid hB
    go_enter Tryd.func11, Tryd.ntmps11
    go_wp2_with fail
    refine (hF.out _).mono ?_
    rintro e w1 ⟨rfl, hb1⟩
    replace hb1 := Lib.hid hb1
    go_wp2_with fail
    refine (hB.out.it _ (hH.later (below2 hb1.out (alloc_b w1 _)))).mono ?_
    rintro e w2 ⟨rfl, hb2⟩
    have B2 := Lib.hid (below2 (below2 hb1.out (alloc_b w1 _)) hb2)
    have X2 := Lib.hid (Kp.later (kp_new w1 _ _) hb2)
    have z0 := cell_of_row _ _ 0 _ _ _ X2.out
    have z1 := cell_of_row _ _ 1 _ _ _ X2.out
    have z2 := cell_of_row _ _ 2 _ _ _ X2.out
    have z3 := cell_of_row _ _ 3 _ _ _ X2.out
    have z4 := cell_of_row _ _ 4 _ _ _ X2.out
    have z5 := cell_of_row _ _ 5 _ _ _ X2.out
    clear hb2 hb1
    go_wp2_with fail
    refine (hB.out.nm _ (hH.later B2.out)).mono ?_
    rintro e w3 ⟨rfl, hb3⟩
    have B3 := Lib.hid (below2 B2.out hb3)
    have X3 := Lib.hid (X2.out.later hb3)
    clear hb3 X2 B2 z0 z1 z2 z3 z4 z5
    have z0 := cell_of_row _ _ 0 _ _ _ X3.out
    have z1 := cell_of_row _ _ 1 _ _ _ X3.out
    have z2 := cell_of_row _ _ 2 _ _ _ X3.out
    have z3 := cell_of_row _ _ 3 _ _ _ X3.out
    have z4 := cell_of_row _ _ 4 _ _ _ X3.out
    have z5 := cell_of_row _ _ 5 _ _ _ X3.out
    go_wp2_with fail
    refine (hB.out.ck _).mono ?_
    rintro e w4 ⟨rfl, hb4⟩
    have B4 := Lib.hid (below2 B3.out hb4)
    have R4 := Lib.hid (show RAt w w4.heap.size f (w4.alloc (.cells (badCells f) TE)) from ⟨heap_alloc_new _ _, below2 B4.out (alloc_b _ _)⟩)
    clear hb4 X3 B3 z0 z1 z2 z3 z4 z5 B4 hB hF
    go_wp2_with fail
    clear e1 e2 e3 e4 e5 e7 e8 e9 e10 hr
    generalize w4.heap.size = q at *
    go_loopw [144] (fun i wr => ∃ j : Nat, j ≤ 7 ∧ i = .int .i64 j ∧ RAt w q f wr) (fun i _ => 7 - (intOf i).toNat)
    case atStart => exact ⟨0, by omega, rfl, R4.out⟩
    case round =>
      obtain ⟨j, hj, rfl, hR⟩ := hrel
      replace hR := Lib.hid hR
      by_cases hlt : j < 7
      · obtain ⟨c0, c1, c2⟩ := badCells_at f j hlt
        have x0 := (cell_of_row _ q (j * 3) _ _ _ hR.out.blk).trans c0
        have x1 := (cell_of_row _ q (j * 3 + 1) _ _ _ hR.out.blk).trans c1
        have x2 := (cell_of_row _ q (j * 3 + 2) _ _ _ hR.out.blk).trans c2
        have hb := hE.out j hlt
        clear c0 c1 c2
        generalize (badE f j).1 = ba at *
        generalize (badE f j).2.1 = bb at *
        generalize (badE f j).2.2 = bp at *
        replace hb := Lib.hid hb
        go_wp2_with fail
        refine (hb.out.ef _).mono ?_
        rintro e w5 ⟨rfl, hb5⟩
        have E5 := (kp_new wr #[.int .i64 ba, .int .i64 bb, .int .i64 bp] TE).later hb5
        have R5 := Lib.hid ((hR.out.later (alloc_b wr (.cells #[.int .i64 ba, .int .i64 bb, .int .i64 bp] TE))).later hb5)
        clear x0 x1 x2 hR hb5
        have y0 := cell_of_row _ _ 0 _ _ _ E5
        have y1 := cell_of_row _ _ 1 _ _ _ E5
        have y2 := cell_of_row _ _ 2 _ _ _ E5
        clear E5
        go_wp2_with fail
        refine (hb.out.ck _).mono ?_
        rintro e w6 ⟨rfl, hb6⟩
        have R6 := Lib.hid (R5.out.later hb6)
        clear y0 y1 y2 hb6 R5
        go_wp2_with fail
        go_roundw
        case rel => exact ⟨j + 1, by omega, by go_num, R6.out⟩
        case measure => simp [intOf]; omega
      · obtain rfl : j = 7 := by omega
        have hW := Lib.hid (hH.later hR.out.bel)
        go_wp2_with fail
        refine (works_any _ hW.out).mono ?_
        rintro e w5 ⟨rfl, hb5⟩
        have B5 := below2 hR.out.bel hb5
        go_wp2
        go_ret
        exact ⟨rfl, B5⟩
end Go.Proofs.YtlbelefabcokiaaDoor.Ident
