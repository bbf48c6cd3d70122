/- The document's Number, FromNumber. -/
import Derived.Test.YtllhgjenkchniaaDoorI21
namespace Go.Proofs.YtllhgjenkchniaaDoor.Ident
open Go.RowKit Go.Lib
set_option linter.unusedVariables false
set_option linter.unusedSimpArgs false
set_option maxRecDepth 20000

theorem frE_int (k : Nat) : frE k = ⟨(k : Int) / 7 / 3 / 8 + 1, (k : Int) / 7 / 3 % 8, (k : Int) / 7 % 3 + 1, 0, false, (k : Int) % 7 + 1⟩ := rfl
theorem frM_int (k : Nat) : frM k = ⟨0, 0, 0, (k : Int) / 7 / 2 + 1, ((k : Int) / 7 % 2 == 1), (k : Int) % 7 + 1⟩ := by
  unfold frM
  rw [show decide (k / 7 % 2 = 1) = ((k : Int) / 7 % 2 == 1) by rw [Bool.eq_iff_iff, beq_iff_eq, decide_eq_true_iff]; omega]
  rfl
theorem ref_from_eff (k : Nat) (hk : k ≤ 1679831) (w : World) :
    Calls Tryd.prog 29 #[.int .i64 ((k : Int) + 1)] w fun e w' => e = .returned (.tuple #[itV (frE k), .int .i64 0]) ∧ Below w.heap.size w w' := by
  have d1 : decide ((k : Int) + 1 < 1) = false := by simp; omega
  have d2 : decide (1680728 < (k : Int) + 1) = false := by simp; omega
  have d3 : decide ((k : Int) + 1 ≤ 1679832) = true := by simp; omega
  have r1 : IntKind.i64.wrap ((k : Int) + 1 - 1) = (k : Int) := by rw [wr (by omega) (by omega)]; omega
  rw [frE_int]
  go_enter Tryd.func29, Tryd.ntmps29
  go_wp2
  have h1 := (kp_new w #[.int .i64 ((k : Int) / 7 / 3 / 8 + 1), .int .i64 ((k : Int) / 7 / 3 % 8), .int .i64 ((k : Int) / 7 % 3 + 1), .int .i64 0, .bool false, .int .i64 ((k : Int) % 7 + 1)] TI).later (alloc_b _ (.cells #[.int .i64 ((k : Int) / 7 / 3 / 8 + 1), .int .i64 ((k : Int) / 7 / 3 % 8), .int .i64 ((k : Int) / 7 % 3 + 1)] TE))
  exact bodyPost_ret (res6e Tryd.results29 _ _ w.heap.size rfl (x := ⟨(k : Int) / 7 / 3 / 8 + 1, (k : Int) / 7 / 3 % 8, (k : Int) / 7 % 3 + 1, 0, false, (k : Int) % 7 + 1⟩) h1) rfl ⟨rfl, below2 (alloc_b _ _) (alloc_b _ _)⟩
theorem ref_from_move (k : Nat) (hk : k ≤ 895) (w : World) :
    Calls Tryd.prog 29 #[.int .i64 ((k : Int) + 1679833)] w fun e w' => e = .returned (.tuple #[itV (frM k), .int .i64 0]) ∧ Below w.heap.size w w' := by
  have d1 : decide ((k : Int) + 1679833 < 1) = false := by simp; omega
  have d2 : decide (1680728 < (k : Int) + 1679833) = false := by simp; omega
  have d3 : decide ((k : Int) + 1679833 ≤ 1679832) = false := by simp; omega
  have r1 : IntKind.i64.wrap ((k : Int) + 1679833 - 1679833) = (k : Int) := by rw [wr (by omega) (by omega)]; omega
  rw [frM_int]
  go_enter Tryd.func29, Tryd.ntmps29
  go_wp2
  have h1 := kp_new w #[.int .i64 0, .int .i64 0, .int .i64 0, .int .i64 ((k : Int) / 7 / 2 + 1), .bool ((k : Int) / 7 % 2 == 1), .int .i64 ((k : Int) % 7 + 1)] TI
  exact bodyPost_ret (res6e Tryd.results29 _ _ w.heap.size rfl (x := ⟨0, 0, 0, (k : Int) / 7 / 2 + 1, ((k : Int) / 7 % 2 == 1), (k : Int) % 7 + 1⟩) h1) rfl ⟨rfl, alloc_b _ _⟩
theorem ref_from_bad (n : Int) (h : ¬ (1 ≤ n ∧ n ≤ 1680728)) (w : World) :
    Calls Tryd.prog 29 #[.int .i64 n] w fun e w' => e = .returned (.tuple #[itV it0, .int .i64 3]) ∧ Below w.heap.size w w' := by
  have h1 := kp_new w #[.int .i64 0, .int .i64 0, .int .i64 0, .int .i64 0, .bool false, .int .i64 0] TI
  go_enter Tryd.func29, Tryd.ntmps29
  go_wp2
  all_goals first
    | (exact bodyPost_ret (res6e Tryd.results29 _ _ w.heap.size rfl (x := it0) h1) rfl ⟨rfl, alloc_b _ _⟩)
    | (exfalso; simp_all; omega)
theorem fr_out' {n : Int} (h : ¬ (1 ≤ n ∧ n ≤ 1680728)) : frX n = it0 ∧ frC n = 3 := ⟨if_neg h, if_neg h⟩
theorem ref_from (n : Int) (w : World) :
    Calls Tryd.prog 29 #[.int .i64 n] w fun e w' => e = .returned (.tuple #[itV (frX n), .int .i64 (frC n)]) ∧ Below w.heap.size w w' := by
  by_cases h : 1 ≤ n ∧ n ≤ 1680728
  · rw [show frC n = 0 from if_pos h]
    by_cases h2 : 1679832 < n
    · rw [show frX n = frM (n.toNat - 1679833) by unfold frX; rw [if_pos h, if_pos h2]]
      have := ref_from_move (n.toNat - 1679833) (by omega) w
      rw [show (((n.toNat - 1679833 : Nat) : Int) + 1679833) = n by omega] at this
      exact this
    · rw [show frX n = frE (n.toNat - 1) by unfold frX; rw [if_pos h, if_neg h2]]
      have := ref_from_eff (n.toNat - 1) (by omega) w
      rw [show (((n.toNat - 1 : Nat) : Int) + 1) = n by omega] at this
      exact this
  · rw [(fr_out' h).1, (fr_out' h).2]
    exact ref_from_bad n h w
theorem ref_number_it (x : It) (w : World) (hH : Hv w) :
    Calls Tryd.prog 27 #[itV x] w fun e w' => e = .returned (.tuple #[.int .i64 (nmI x), .int .i64 (ckI x)]) ∧ Below w.heap.size w w' := by
  obtain ⟨a, b, p, m, i, g⟩ := x
  show Calls _ _ #[.agg #[.int .i64 a, .int .i64 b, .int .i64 p, .int .i64 m, .bool i, .int .i64 g]] w _
  have hc := fun W => ref_checkI a b p m i g W
  have X0 := Lib.hid (box6_new hH ⟨a, b, p, m, i, g⟩)
  by_cases h : okIt ⟨a, b, p, m, i, g⟩
  · rw [show ckI ⟨a, b, p, m, i, g⟩ = 0 from if_pos h] at hc ⊢
    rw [show nmI ⟨a, b, p, m, i, g⟩ = nmT ⟨a, b, p, m, i, g⟩ from if_pos h]
    replace hc := Lib.hid hc
    obtain ⟨g1, g7, ⟨hm, hi, ho⟩ | ⟨h1, h2, h3, h4, h5⟩⟩ := h
    · simp only at g1 g7 hm hi ho
      subst hm hi
      obtain ⟨h1, h2, h3, h4, h5, h6⟩ := ho
      rw [show nmT ⟨a, b, p, 0, false, g⟩ = 1 + (((a - 1) * 8 + b) * 3 + p - 1) * 7 + g - 1 from if_pos rfl]
      have r1 : IntKind.i64.wrap (a - 1) = a - 1 := wr (by omega) (by omega)
      have r2 : IntKind.i64.wrap ((a - 1) * 8) = (a - 1) * 8 := wr (by omega) (by omega)
      have r3 : IntKind.i64.wrap ((a - 1) * 8 + b) = (a - 1) * 8 + b := wr (by omega) (by omega)
      have r4 : IntKind.i64.wrap (((a - 1) * 8 + b) * 3) = ((a - 1) * 8 + b) * 3 := wr (by omega) (by omega)
      have r5 : IntKind.i64.wrap (((a - 1) * 8 + b) * 3 + p) = ((a - 1) * 8 + b) * 3 + p := wr (by omega) (by omega)
      have r6 : IntKind.i64.wrap (((a - 1) * 8 + b) * 3 + p - 1) = ((a - 1) * 8 + b) * 3 + p - 1 := wr (by omega) (by omega)
      have r7 : IntKind.i64.wrap ((((a - 1) * 8 + b) * 3 + p - 1) * 7) = (((a - 1) * 8 + b) * 3 + p - 1) * 7 := wr (by omega) (by omega)
      have r8 : IntKind.i64.wrap (1 + (((a - 1) * 8 + b) * 3 + p - 1) * 7) = 1 + (((a - 1) * 8 + b) * 3 + p - 1) * 7 := wr (by omega) (by omega)
      have r9 : IntKind.i64.wrap (1 + (((a - 1) * 8 + b) * 3 + p - 1) * 7 + g) = 1 + (((a - 1) * 8 + b) * 3 + p - 1) * 7 + g := wr (by omega) (by omega)
      have r10 : IntKind.i64.wrap (1 + (((a - 1) * 8 + b) * 3 + p - 1) * 7 + g - 1) = 1 + (((a - 1) * 8 + b) * 3 + p - 1) * 7 + g - 1 := wr (by omega) (by omega)
      clear h1 h2 h3 h4 h5 h6 g1 g7
      go_enter Tryd.func27, Tryd.ntmps27
      go_wp2_with fail
      refine (hc.out _).mono ?_
      rintro e w1 ⟨rfl, hb1⟩
      have X1 := Lib.hid (X0.out.later hb1)
      obtain ⟨x0, x1, x2, x3, x4, x5⟩ := X1.out.cells
      clear X0 hb1
      go_wp2
      go_ret2
      exact ⟨rfl, X1.out.bel⟩
    · simp only at g1 g7 h1 h2 h3 h4 h5
      subst h3 h4 h5
      rw [show nmT ⟨0, 0, 0, m, i, g⟩ = 1679833 + ((m - 1) * 2 + b01 i) * 7 + g - 1 from if_neg (by show ¬ m = 0; omega)]
      have hd : (m == 0) = false := by simp; omega
      have r1 : IntKind.i64.wrap (m - 1) = m - 1 := wr (by omega) (by omega)
      have r2 : IntKind.i64.wrap ((m - 1) * 2) = (m - 1) * 2 := wr (by omega) (by omega)
      have r3 : IntKind.i64.wrap ((m - 1) * 2 + 1) = (m - 1) * 2 + 1 := wr (by omega) (by omega)
      cases i
      · have q1 : IntKind.i64.wrap ((m - 1) * 2 * 7) = (m - 1) * 2 * 7 := wr (by omega) (by omega)
        have q2 : IntKind.i64.wrap (1679833 + (m - 1) * 2 * 7) = 1679833 + (m - 1) * 2 * 7 := wr (by omega) (by omega)
        have q3 : IntKind.i64.wrap (1679833 + (m - 1) * 2 * 7 + g) = 1679833 + (m - 1) * 2 * 7 + g := wr (by omega) (by omega)
        have q4 : IntKind.i64.wrap (1679833 + (m - 1) * 2 * 7 + g - 1) = 1679833 + (m - 1) * 2 * 7 + g - 1 := wr (by omega) (by omega)
        clear h1 h2 g1 g7
        go_enter Tryd.func27, Tryd.ntmps27
        go_wp2_with fail
        refine (hc.out _).mono ?_
        rintro e w1 ⟨rfl, hb1⟩
        have X1 := Lib.hid (X0.out.later hb1)
        obtain ⟨x0, x1, x2, x3, x4, x5⟩ := X1.out.cells
        clear X0 hb1
        go_wp2
        go_ret2
        exact ⟨by simp [b01], X1.out.bel⟩
      · have q1 : IntKind.i64.wrap (((m - 1) * 2 + 1) * 7) = ((m - 1) * 2 + 1) * 7 := wr (by omega) (by omega)
        have q2 : IntKind.i64.wrap (1679833 + ((m - 1) * 2 + 1) * 7) = 1679833 + ((m - 1) * 2 + 1) * 7 := wr (by omega) (by omega)
        have q3 : IntKind.i64.wrap (1679833 + ((m - 1) * 2 + 1) * 7 + g) = 1679833 + ((m - 1) * 2 + 1) * 7 + g := wr (by omega) (by omega)
        have q4 : IntKind.i64.wrap (1679833 + ((m - 1) * 2 + 1) * 7 + g - 1) = 1679833 + ((m - 1) * 2 + 1) * 7 + g - 1 := wr (by omega) (by omega)
        clear h1 h2 g1 g7
        go_enter Tryd.func27, Tryd.ntmps27
        go_wp2_with fail
        refine (hc.out _).mono ?_
        rintro e w1 ⟨rfl, hb1⟩
        have X1 := Lib.hid (X0.out.later hb1)
        obtain ⟨x0, x1, x2, x3, x4, x5⟩ := X1.out.cells
        clear X0 hb1
        go_wp2
        go_ret2
        exact ⟨by simp [b01], X1.out.bel⟩
  · rw [show ckI ⟨a, b, p, m, i, g⟩ = 2 from if_neg h] at hc ⊢
    rw [show nmI ⟨a, b, p, m, i, g⟩ = 0 from if_neg h]
    replace hc := Lib.hid hc
    go_enter Tryd.func27, Tryd.ntmps27
    go_wp2_with fail
    refine (hc.out _).mono ?_
    rintro e w1 ⟨rfl, hb1⟩
    have X1 := Lib.hid (X0.out.later hb1)
    clear X0 hb1
    go_wp2
    go_ret2
    exact ⟨rfl, X1.out.bel⟩

end Go.Proofs.YtllhgjenkchniaaDoor.Ident
