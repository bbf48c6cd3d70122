/- The numbers of items: Number, FromNumber. -/
import Derived.Test.YtllhgjenkchniaaDoorI13
namespace Go.Proofs.YtllhgjenkchniaaDoor.Ident
open Go.RowKit Go.Lib
set_option linter.unusedVariables false
set_option linter.unusedSimpArgs false
set_option maxRecDepth 20000

def b01 (i : Bool) : Int := if i then 1 else 0
def nmT (x : It) : Int := if x.m = 0 then 1 + (((x.a - 1) * 8 + x.b) * 3 + x.p - 1) * 7 + x.g - 1 else 1679833 + ((x.m - 1) * 2 + b01 x.i) * 7 + x.g - 1
def nmI (x : It) : Int := if okIt x then nmT x else 0
theorem wr {x : Int} (h0 : -9223372036854775808 ≤ x) (h1 : x ≤ 9223372036854775807) : IntKind.i64.wrap x = x := by rw [IntKind.wrap_i64]; omega
theorem number_it (x : It) (w : World) (hH : Hv w) :
    Calls Tryd.prog 26 #[itV x] w fun e w' => e = .returned (.tuple #[.int .i64 (nmI x), .int .i64 (ckI x)]) ∧ Below w.heap.size w w' := by
  obtain ⟨a, b, p, m, i, g⟩ := x
  show Calls _ _ #[.agg #[.int .i64 a, .int .i64 b, .int .i64 p, .int .i64 m, .bool i, .int .i64 g]] w _
  have hc := fun W => checkI_any a b p m i g W
  have X0 := Lib.hid (box6_new hH ⟨a, b, p, m, i, g⟩)
  by_cases h : okIt ⟨a, b, p, m, i, g⟩
  · rw [show ckI ⟨a, b, p, m, i, g⟩ = 0 from if_pos h] at hc ⊢
    rw [show nmI ⟨a, b, p, m, i, g⟩ = nmT ⟨a, b, p, m, i, g⟩ from if_pos h]
    replace hc := Lib.hid hc
    obtain ⟨g1, g7, ⟨hm, hi, ho⟩ | ⟨h1, h2, h3, h4, h5⟩⟩ := h
    · simp only at g1 g7 hm hi ho
      subst hm hi
      obtain ⟨h1, h2, h3, h4, h5, h6⟩ := ho
      rw [show nmT ⟨a, b, p, 0, false, g⟩ = 1 + (((a - 1) * 8 + b) * 3 + p - 1) * 7 + g - 1 from if_pos rfl]
      have r1 : IntKind.i64.wrap (a - 1) = a - 1 := wr (by omega) (by omega)
      have r2 : IntKind.i64.wrap ((a - 1) * 8) = (a - 1) * 8 := wr (by omega) (by omega)
      have r3 : IntKind.i64.wrap ((a - 1) * 8 + b) = (a - 1) * 8 + b := wr (by omega) (by omega)
      have r4 : IntKind.i64.wrap (((a - 1) * 8 + b) * 3) = ((a - 1) * 8 + b) * 3 := wr (by omega) (by omega)
      have r5 : IntKind.i64.wrap (((a - 1) * 8 + b) * 3 + p) = ((a - 1) * 8 + b) * 3 + p := wr (by omega) (by omega)
      have r6 : IntKind.i64.wrap (((a - 1) * 8 + b) * 3 + p - 1) = ((a - 1) * 8 + b) * 3 + p - 1 := wr (by omega) (by omega)
      have r7 : IntKind.i64.wrap ((((a - 1) * 8 + b) * 3 + p - 1) * 7) = (((a - 1) * 8 + b) * 3 + p - 1) * 7 := wr (by omega) (by omega)
      have r8 : IntKind.i64.wrap (1 + (((a - 1) * 8 + b) * 3 + p - 1) * 7) = 1 + (((a - 1) * 8 + b) * 3 + p - 1) * 7 := wr (by omega) (by omega)
      have r9 : IntKind.i64.wrap (1 + (((a - 1) * 8 + b) * 3 + p - 1) * 7 + g) = 1 + (((a - 1) * 8 + b) * 3 + p - 1) * 7 + g := wr (by omega) (by omega)
      have r10 : IntKind.i64.wrap (1 + (((a - 1) * 8 + b) * 3 + p - 1) * 7 + g - 1) = 1 + (((a - 1) * 8 + b) * 3 + p - 1) * 7 + g - 1 := wr (by omega) (by omega)
      clear h1 h2 h3 h4 h5 h6 g1 g7
      go_enter Tryd.func26, Tryd.ntmps26
      go_wp2_with fail
      refine (hc.out _).mono ?_
      rintro e w1 ⟨rfl, hb1⟩
      have X1 := Lib.hid (X0.out.later hb1)
      obtain ⟨x0, x1, x2, x3, x4, x5⟩ := X1.out.cells
      clear X0 hb1
      go_wp2
      go_ret2
      exact ⟨rfl, X1.out.bel⟩
    · simp only at g1 g7 h1 h2 h3 h4 h5
      subst h3 h4 h5
      rw [show nmT ⟨0, 0, 0, m, i, g⟩ = 1679833 + ((m - 1) * 2 + b01 i) * 7 + g - 1 from if_neg (by show ¬ m = 0; omega)]
      have hd : (m == 0) = false := by simp; omega
      have r1 : IntKind.i64.wrap (m - 1) = m - 1 := wr (by omega) (by omega)
      have r2 : IntKind.i64.wrap ((m - 1) * 2) = (m - 1) * 2 := wr (by omega) (by omega)
      have r3 : IntKind.i64.wrap ((m - 1) * 2 + 1) = (m - 1) * 2 + 1 := wr (by omega) (by omega)
      cases i
      · have q1 : IntKind.i64.wrap ((m - 1) * 2 * 7) = (m - 1) * 2 * 7 := wr (by omega) (by omega)
        have q2 : IntKind.i64.wrap (1679833 + (m - 1) * 2 * 7) = 1679833 + (m - 1) * 2 * 7 := wr (by omega) (by omega)
        have q3 : IntKind.i64.wrap (1679833 + (m - 1) * 2 * 7 + g) = 1679833 + (m - 1) * 2 * 7 + g := wr (by omega) (by omega)
        have q4 : IntKind.i64.wrap (1679833 + (m - 1) * 2 * 7 + g - 1) = 1679833 + (m - 1) * 2 * 7 + g - 1 := wr (by omega) (by omega)
        clear h1 h2 g1 g7
        go_enter Tryd.func26, Tryd.ntmps26
        go_wp2_with fail
        refine (hc.out _).mono ?_
        rintro e w1 ⟨rfl, hb1⟩
        have X1 := Lib.hid (X0.out.later hb1)
        obtain ⟨x0, x1, x2, x3, x4, x5⟩ := X1.out.cells
        clear X0 hb1
        go_wp2
        go_ret2
        exact ⟨by simp [b01], X1.out.bel⟩
      · have q1 : IntKind.i64.wrap (((m - 1) * 2 + 1) * 7) = ((m - 1) * 2 + 1) * 7 := wr (by omega) (by omega)
        have q2 : IntKind.i64.wrap (1679833 + ((m - 1) * 2 + 1) * 7) = 1679833 + ((m - 1) * 2 + 1) * 7 := wr (by omega) (by omega)
        have q3 : IntKind.i64.wrap (1679833 + ((m - 1) * 2 + 1) * 7 + g) = 1679833 + ((m - 1) * 2 + 1) * 7 + g := wr (by omega) (by omega)
        have q4 : IntKind.i64.wrap (1679833 + ((m - 1) * 2 + 1) * 7 + g - 1) = 1679833 + ((m - 1) * 2 + 1) * 7 + g - 1 := wr (by omega) (by omega)
        clear h1 h2 g1 g7
        go_enter Tryd.func26, Tryd.ntmps26
        go_wp2_with fail
        refine (hc.out _).mono ?_
        rintro e w1 ⟨rfl, hb1⟩
        have X1 := Lib.hid (X0.out.later hb1)
        obtain ⟨x0, x1, x2, x3, x4, x5⟩ := X1.out.cells
        clear X0 hb1
        go_wp2
        go_ret2
        exact ⟨by simp [b01], X1.out.bel⟩
  · rw [show ckI ⟨a, b, p, m, i, g⟩ = 2 from if_neg h] at hc ⊢
    rw [show nmI ⟨a, b, p, m, i, g⟩ = 0 from if_neg h]
    replace hc := Lib.hid hc
    go_enter Tryd.func26, Tryd.ntmps26
    go_wp2_with fail
    refine (hc.out _).mono ?_
    rintro e w1 ⟨rfl, hb1⟩
    have X1 := Lib.hid (X0.out.later hb1)
    clear X0 hb1
    go_wp2
    go_ret2
    exact ⟨rfl, X1.out.bel⟩

theorem divide_any (n d : Nat) (hd : 0 < d) (hn : n ≤ 9223372036854775807) (w : World) :
    Calls Tryd.prog 46 #[.int .i64 n, .int .i64 d] w fun e w' => e = .returned (.tuple #[.int .i64 (n / d : Nat), .int .i64 (n % d : Nat)]) ∧ Below w.heap.size w w' := by
  have h0 : ¬ (d : Int) = 0 := by omega
  have hw : wrap64 ((n : Int) / (d : Int)) = ((n / d : Nat) : Int) := by
    rw [← Int.natCast_ediv]
    have := Nat.div_le_self n d
    generalize n / d = q at *
    unfold wrap64; omega
  have hm : (n : Int) % (d : Int) = ((n % d : Nat) : Int) := (Int.natCast_emod n d).symm
  replace hm := Lib.hid hm
  go_enter Tryd.func46, Tryd.ntmps46
  go_wp2
  go_quiet (fail)
  go_wp2
  go_ret2
  exact ⟨congrArg (fun x : Int => Ending.returned (.tuple #[.int .i64 x, .int .i64 (n % d : Nat)])) hw, ⟨rfl, rfl, rfl, Nat.le_refl _, fun _ _ => rfl⟩⟩
theorem divide_is {x : Int} {n d q r : Nat} (hx : x = n) (hq : n / d = q) (hr : n % d = r) (hd : 0 < d) (hn : n ≤ 9223372036854775807) (w : World) :
    Calls Tryd.prog 46 #[.int .i64 x, .int .i64 d] w fun e w' => e = .returned (.tuple #[.int .i64 (q : Nat), .int .i64 (r : Nat)]) ∧ Below w.heap.size w w' := by
  subst hx hq hr; exact divide_any n d hd hn w

def frE (k : Nat) : It := ⟨((k / 7 / 3 / 8 : Nat) : Int) + 1, (k / 7 / 3 % 8 : Nat), ((k / 7 % 3 : Nat) : Int) + 1, 0, false, ((k % 7 : Nat) : Int) + 1⟩
def frM (k : Nat) : It := ⟨0, 0, 0, ((k / 7 / 2 : Nat) : Int) + 1, decide (k / 7 % 2 = 1), ((k % 7 : Nat) : Int) + 1⟩
/-- The item of a number. -/
def frX (n : Int) : It := if 1 ≤ n ∧ n ≤ 1680728 then (if 1679832 < n then frM (n.toNat - 1679833) else frE (n.toNat - 1)) else it0
def frC (n : Int) : Int := if 1 ≤ n ∧ n ≤ 1680728 then 0 else 3
/-- The result's box of FromNumber. -/
structure FAt (w : World) (W : World) : Prop where
  rb : W.heap[w.heap.size]? = some (itB it0)
  bel : Below w.heap.size w W
theorem FAt.later {w W W' : World} (h : FAt w W) (hb : Below W.heap.size W W') : FAt w W' :=
  ⟨(hb.block _ (Array.getElem?_eq_some_iff.1 h.rb).1).trans h.rb, h.bel.trans (hb.mono h.bel.size)⟩
theorem fat_new (w : World) : FAt w (w.alloc (.cells #[.int .i64 0, .int .i64 0, .int .i64 0, .int .i64 0, .bool false, .int .i64 0] TI)) := ⟨heap_alloc_new _ _, (Below.refl _ _).alloc (Nat.le_refl _) _⟩
theorem from_move (n : Int) (hlo : -9223372036854775808 ≤ n) (hhi : n ≤ 9223372036854775807) (h : 1 ≤ n ∧ n ≤ 1680728) (h2 : 1679832 < n) (w : World) :
    Calls Tryd.prog 28 #[.int .i64 n] w fun e w' => e = .returned (.tuple #[itV (frX n), .int .i64 0]) ∧ Below w.heap.size w w' := by
  have F0 := Lib.hid (fat_new w)
  have b1 : decide (1 ≤ n ∧ n ≤ 1680728) = true := by simpa using h
  have hX := Lib.hid (show frX n = frM (n.toNat - 1679833) by unfold frX; rw [if_pos h, if_pos h2])
  have b2 : decide (1679832 < n) = true := by simpa using h2
  have r1 : IntKind.i64.wrap (n - 1679832) = n - 1679832 := wr (by omega) (by omega)
  have r2 : IntKind.i64.wrap (n - 1679832 - 1) = n - 1679832 - 1 := wr (by omega) (by omega)
  obtain ⟨k, hk⟩ : ∃ k : Nat, n.toNat - 1679833 = k := ⟨_, rfl⟩
  have hnk : n - 1679832 - 1 = k := by omega
  have hk9 : k ≤ 1000 := by omega
  rw [hk] at hX
  obtain ⟨q1, hq1⟩ : ∃ q : Nat, k / 7 = q := ⟨_, rfl⟩
  obtain ⟨g1, hg1⟩ : ∃ q : Nat, k % 7 = q := ⟨_, rfl⟩
  obtain ⟨q2, hq2⟩ : ∃ q : Nat, q1 / 2 = q := ⟨_, rfl⟩
  obtain ⟨g2, hg2⟩ : ∃ q : Nat, q1 % 2 = q := ⟨_, rfl⟩
  have hX2 : frX n = ⟨0, 0, 0, (q2 : Int) + 1, ((g2 : Int) == 1), (g1 : Int) + 1⟩ := by
    rw [hX.out]; unfold frM; rw [hq1, hg1, hq2, hg2, show decide (g2 = 1) = ((g2 : Int) == 1) by rw [Bool.eq_iff_iff, beq_iff_eq, decide_eq_true_iff]; omega]
  have r3 : IntKind.i64.wrap ((q2 : Int) + 1) = (q2 : Int) + 1 := wr (by omega) (by omega)
  have r4 : IntKind.i64.wrap ((g1 : Int) + 1) = (g1 : Int) + 1 := wr (by omega) (by omega)
  have D1 := Lib.hid (fun W => divide_is hnk hq1 hg1 (by omega) (by omega) W)
  have D2 := Lib.hid (fun W => divide_is (x := (q1 : Int)) rfl hq2 hg2 (by omega) (by omega) W)
  clear hk h h2 hlo hhi hnk hq1 hg1 hq2 hg2 hX
  go_enter Tryd.func28, Tryd.ntmps28
  go_wp2_with (go_at_call 44; refine (within_any _ _ _ _).mono ?_; rintro e w' ⟨rfl, rfl⟩)
  refine (D1.out _).mono ?_
  rintro e w1 ⟨rfl, hb1⟩
  have F1 := Lib.hid (F0.out.later hb1)
  clear F0 hb1
  go_wp2_with fail
  refine (D2.out _).mono ?_
  rintro e w2 ⟨rfl, hb2⟩
  have F2 := Lib.hid (F1.out.later hb2)
  clear F1 hb2
  obtain ⟨y0, y1, y2, y3, y4, y5, fz⟩ := ib_cells F2.out.rb
  have hby := set6_blk F2.out.rb (frX n)
  have hbt := set6_below F2.out.bel (Nat.le_refl _) (frX n)
  rw [hX2] at hby hbt
  replace hX2 := Lib.hid hX2
  go_wp2
  exact bodyPost_ret (res6e Tryd.results28 _ _ w.heap.size rfl hby) rfl ⟨by rw [hX2.out]; rfl, hbt⟩
theorem from_eff (n : Int) (hlo : -9223372036854775808 ≤ n) (hhi : n ≤ 9223372036854775807) (h : 1 ≤ n ∧ n ≤ 1680728) (h2 : ¬ 1679832 < n) (w : World) :
    Calls Tryd.prog 28 #[.int .i64 n] w fun e w' => e = .returned (.tuple #[itV (frX n), .int .i64 0]) ∧ Below w.heap.size w w' := by
  have F0 := Lib.hid (fat_new w)
  have b1 : decide (1 ≤ n ∧ n ≤ 1680728) = true := by simpa using h
  have hX := Lib.hid (show frX n = frE (n.toNat - 1) by unfold frX; rw [if_pos h, if_neg h2])
  have b2 : decide (1679832 < n) = false := by simpa using h2
  have r1 : IntKind.i64.wrap (n - 1) = n - 1 := wr (by omega) (by omega)
  obtain ⟨k, hk⟩ : ∃ k : Nat, n.toNat - 1 = k := ⟨_, rfl⟩
  have hnk : n - 1 = k := by omega
  have hk9 : k ≤ 2000000 := by omega
  rw [hk] at hX
  obtain ⟨q1, hq1⟩ : ∃ q : Nat, k / 7 = q := ⟨_, rfl⟩
  obtain ⟨g1, hg1⟩ : ∃ q : Nat, k % 7 = q := ⟨_, rfl⟩
  obtain ⟨q2, hq2⟩ : ∃ q : Nat, q1 / 3 = q := ⟨_, rfl⟩
  obtain ⟨g2, hg2⟩ : ∃ q : Nat, q1 % 3 = q := ⟨_, rfl⟩
  obtain ⟨q3, hq3⟩ : ∃ q : Nat, q2 / 8 = q := ⟨_, rfl⟩
  obtain ⟨g3, hg3⟩ : ∃ q : Nat, q2 % 8 = q := ⟨_, rfl⟩
  have hX2 : frX n = ⟨(q3 : Int) + 1, (g3 : Int), (g2 : Int) + 1, 0, false, (g1 : Int) + 1⟩ := by rw [hX.out]; unfold frE; rw [hq1, hg1, hq2, hg2, hq3, hg3]
  have r3 : IntKind.i64.wrap ((q3 : Int) + 1) = (q3 : Int) + 1 := wr (by omega) (by omega)
  have r4 : IntKind.i64.wrap ((g1 : Int) + 1) = (g1 : Int) + 1 := wr (by omega) (by omega)
  have r5 : IntKind.i64.wrap ((g2 : Int) + 1) = (g2 : Int) + 1 := wr (by omega) (by omega)
  have D1 := Lib.hid (fun W => divide_is hnk hq1 hg1 (by omega) (by omega) W)
  have D2 := Lib.hid (fun W => divide_is (x := (q1 : Int)) rfl hq2 hg2 (by omega) (by omega) W)
  have D3 := Lib.hid (fun W => divide_is (x := (q2 : Int)) rfl hq3 hg3 (by omega) (by omega) W)
  clear hk h h2 hlo hhi hnk hq1 hg1 hq2 hg2 hX hq3 hg3
  go_enter Tryd.func28, Tryd.ntmps28
  go_wp2_with (go_at_call 44; refine (within_any _ _ _ _).mono ?_; rintro e w' ⟨rfl, rfl⟩)
  refine (D1.out _).mono ?_
  rintro e w1 ⟨rfl, hb1⟩
  have F1 := Lib.hid (F0.out.later hb1)
  clear F0 hb1
  go_wp2_with fail
  refine (D2.out _).mono ?_
  rintro e w2 ⟨rfl, hb2⟩
  have F2 := Lib.hid (F1.out.later hb2)
  clear F1 hb2
  go_wp2_with fail
  refine (D3.out _).mono ?_
  rintro e w3 ⟨rfl, hb3⟩
  have F3 := Lib.hid (F2.out.later hb3)
  clear F2 hb3
  obtain ⟨y0, y1, y2, y3, y4, y5, fz⟩ := ib_cells F3.out.rb
  have hby := set6_blk F3.out.rb (frX n)
  have hbt := set6_below F3.out.bel (Nat.le_refl _) (frX n)
  rw [hX2] at hby hbt
  replace hX2 := Lib.hid hX2
  go_wp2
  exact bodyPost_ret (res6e Tryd.results28 _ _ w.heap.size rfl hby) rfl ⟨by rw [hX2.out]; rfl, hbt⟩
theorem from_bad (n : Int) (hlo : -9223372036854775808 ≤ n) (hhi : n ≤ 9223372036854775807) (h : ¬ (1 ≤ n ∧ n ≤ 1680728)) (w : World) :
    Calls Tryd.prog 28 #[.int .i64 n] w fun e w' => e = .returned (.tuple #[itV (frX n), .int .i64 3]) ∧ Below w.heap.size w w' := by
  have F0 := Lib.hid (fat_new w)
  have b1 : decide (1 ≤ n ∧ n ≤ 1680728) = false := by simp; omega
  have hX := Lib.hid (show frX n = it0 from if_neg h)
  obtain ⟨y0, y1, y2, y3, y4, y5, fz⟩ := ib_cells F0.out.rb
  have hby := F0.out.rb
  have hbt := F0.out.bel
  clear h
  go_enter Tryd.func28, Tryd.ntmps28
  go_wp2_with (go_at_call 44; refine (within_any _ _ _ _).mono ?_; rintro e w' ⟨rfl, rfl⟩)
  exact bodyPost_ret (res6e Tryd.results28 _ _ w.heap.size rfl hby) rfl ⟨by rw [hX.out]; rfl, hbt⟩
theorem from_any (n : Int) (hlo : -9223372036854775808 ≤ n) (hhi : n ≤ 9223372036854775807) (w : World) :
    Calls Tryd.prog 28 #[.int .i64 n] w fun e w' => e = .returned (.tuple #[itV (frX n), .int .i64 (frC n)]) ∧ Below w.heap.size w w' := by
  by_cases h : 1 ≤ n ∧ n ≤ 1680728
  · rw [show frC n = 0 from if_pos h]
    by_cases h2 : 1679832 < n
    · exact from_move n hlo hhi h h2 w
    · exact from_eff n hlo hhi h h2 w
  · rw [show frC n = 3 from if_neg h]
    exact from_bad n hlo hhi h w
end Go.Proofs.YtllhgjenkchniaaDoor.Ident
