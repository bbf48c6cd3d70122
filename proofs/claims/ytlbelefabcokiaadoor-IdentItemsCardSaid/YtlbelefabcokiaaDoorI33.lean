/- The document's ParseEffect. -/
import Derived.Test.YtlbelefabcokiaaDoorI32
namespace Go.Proofs.YtlbelefabcokiaaDoor.Ident
open Go.RowKit Go.Lib
set_option linter.unusedVariables false
set_option linter.unusedSimpArgs false
set_option maxRecDepth 20000

theorem rN_range (l : List UInt8) (i : Nat) : -1 ≤ rN l i ∧ rN l i ≤ 9999 := by
  have h := rV_lt l i (rD l i).length
  rw [List.take_length] at h
  unfold rN
  split
  · omega
  · split
    · omega
    · omega
/-- The result's box while the phases are tried. -/
structure ZAt (w W : World) : Prop where
  rb : Kp w.heap.size (eBox 0 0 0) W
  bel : Below w.heap.size w W
theorem ZAt.later {w W W' : World} (h : ZAt w W) (hb : Below W.heap.size W W') : ZAt w W' := ⟨h.rb.later hb, below2 h.bel hb⟩
theorem ZAt.fin {w W : World} (h : ZAt w W) (u0 u1 u2 : Value) :
    Kp w.heap.size (.cells #[u0, u1, u2] TE (0, 0)) (((W.setCell ⟨w.heap.size, 0, none⟩ u0).setCell ⟨w.heap.size, 1, none⟩ u1).setCell ⟨w.heap.size, 2, none⟩ u2) ∧
    Below w.heap.size w (((W.setCell ⟨w.heap.size, 0, none⟩ u0).setCell ⟨w.heap.size, 1, none⟩ u1).setCell ⟨w.heap.size, 2, none⟩ u2) := by
  have h1 := heap_setCell_same W w.heap.size 0 _ _ u0 h.rb
  have h2 := heap_setCell_same _ w.heap.size 1 _ _ u1 h1
  have h3 := heap_setCell_same _ w.heap.size 2 _ _ u2 h2
  exact ⟨h3, ((h.bel.setCell (Nat.le_refl _) _).setCell (Nat.le_refl _) _).setCell (Nat.le_refl _) _⟩
theorem ref_early (l : List UInt8) (h : rN l 0 < 0 ∨ rN l (rA l 0 + 1) < 0 ∨ rA l (rA l 0 + 1) + 2 ≠ l.length) : pE l = none := by
  cases hp : pE l with
  | none => rfl
  | some x =>
    obtain ⟨a, b, p⟩ := x
    obtain ⟨hok, e⟩ := pE_some hp
    have ho := hok
    obtain ⟨h1, h2, h3, h4, h5, h6⟩ := ho
    obtain ⟨y1, y2, y3⟩ := ref_yes a.toNat b.toNat p.toNat (by omega) (by omega)
    rw [← e] at y1 y2 y3
    omega
theorem ref_late (l : List UInt8) (h : ∀ j : Nat, 1 ≤ j → j < 4 → ¬ (effOk (rN l 0) (rN l (rA l 0 + 1)) j ∧ effT (rN l 0).toNat (rN l (rA l 0 + 1)).toNat j = l)) : pE l = none := by
  cases hp : pE l with
  | none => rfl
  | some x =>
    exfalso
    obtain ⟨a, b, p⟩ := x
    obtain ⟨hok, e⟩ := pE_some hp
    have ho := hok
    obtain ⟨h1, h2, h3, h4, h5, h6⟩ := ho
    obtain ⟨y1, y2, y3⟩ := ref_yes a.toNat b.toNat p.toNat (by omega) (by omega)
    rw [← e] at y1 y2 y3
    refine h p.toNat (by omega) (by omega) ⟨?_, ?_⟩
    · rw [y1, y2]; unfold effOk; omega
    · rw [y1, y2, Int.toNat_natCast, Int.toNat_natCast]; exact e.symm
set_option maxHeartbeats 4000000 in
theorem ref_parse (l : List UInt8) (hl : l.length ≤ 300) (w : World) (hH : Hv w) :
    Calls Tryd.prog 19 #[.string (tx l)] w fun e w' => e = .returned (.tuple #[peV (pE l), .int .i64 (peE (pE l))]) ∧ Below w.heap.size w w' := by
  have hz := tx_size l
  have ha1 : rA l 0 ≤ 10 := by unfold rA; have := rD_len l 0; omega
  have hN1 := fun W => ref_number l 0 (by omega) (by omega) W
  have hN2 := fun W => ref_number l (rA l 0 + 1) (by omega) (by omega) W
  rw [show ((rA l 0 + 1 : Nat) : Int) = ((rA l 0 : Nat) : Int) + 1 by omega] at hN2
  have hearly := Lib.hid (ref_early l)
  have hlate := Lib.hid (ref_late l)
  have g1 := rN_range l 0
  have g2 := rN_range l (rA l 0 + 1)
  have he2 : rA l (rA l 0 + 1) ≤ 20 := by unfold rA; have := rD_len l 0; have := rD_len l (rA l 0 + 1); unfold rA at this; omega
  have hsome : Hid (∀ (n1 n2 : Int) (ph : Nat), effOk n1 n2 ph → effT n1.toNat n2.toNat ph = l → pE l = some (n1, n2, (ph : Int))) := by
    intro n1 n2 ph h1 h2
    have := pE_text h1
    rw [Int.toNat_natCast, h2] at this
    exact this
  generalize rN l 0 = n1 at *
  generalize rN l (rA l 0 + 1) = n2 at *
  generalize rA l (rA l 0 + 1) = e2 at *
  generalize rA l 0 = a1 at *
  have hbq : Hid (∀ x : List UInt8, ((tx x).toList == (tx l).toList) = decide (x = l)) := fun x => tx_beq x l
  have r1 : IntKind.i64.wrap ((a1 : Int) + 1) = (a1 : Int) + 1 := wr (by omega) (by omega)
  have r2 : IntKind.i64.wrap ((e2 : Int) + 2) = (e2 : Int) + 2 := wr (by omega) (by omega)
  replace hN1 := Lib.hid hN1
  replace hN2 := Lib.hid hN2
  have hcase : (decide (n1 < 0) = true ∧ pE l = none) ∨ (decide (n1 < 0) = false ∧ decide (n2 < 0) = true ∧ pE l = none) ∨ (decide (n1 < 0) = false ∧ decide (n2 < 0) = false ∧ ((e2 : Int) + 2 != (l.length : Int)) = true ∧ pE l = none) ∨ (decide (n1 < 0) = false ∧ decide (n2 < 0) = false ∧ ((e2 : Int) + 2 != (l.length : Int)) = false) := by
    by_cases h1 : n1 < 0
    · exact .inl ⟨by simpa using h1, hearly.out (.inl h1)⟩
    · by_cases h2 : n2 < 0
      · exact .inr (.inl ⟨by simpa using h1, by simpa using h2, hearly.out (.inr (.inl h2))⟩)
      · by_cases h3 : e2 + 2 = l.length
        · exact .inr (.inr (.inr ⟨by simpa using h1, by simpa using h2, by simp; omega⟩))
        · exact .inr (.inr (.inl ⟨by simpa using h1, by simpa using h2, by simp; omega, hearly.out (.inr (.inr h3))⟩))
  have Z0 := Lib.hid (show ZAt w (w.alloc (.cells #[.int .i64 0, .int .i64 0, .int .i64 0] TE)) from ⟨kp_new w _ _, alloc_b _ _⟩)
  clear hearly ha1 he2
  rcases hcase with ⟨b1, hp⟩ | ⟨b1, b2, hp⟩ | ⟨b1, b2, b3, hp⟩ | ⟨b1, b2, b3⟩
  case inr.inr.inr =>
    have hadds : Hid (∀ ph : Nat, ph ≤ 4 → IntKind.i64.wrap ((ph : Int) + 1) = ((ph + 1 : Nat) : Int)) := Lib.hid (fun ph h => by rw [wr (by omega) (by omega)]; omega)
    generalize hs : tx l = s at *
    go_enter Tryd.func19, Tryd.ntmps19
    go_wp2_with fail
    refine (hN1.out _).mono ?_
    rintro e w1 ⟨rfl, rfl⟩
    go_wp2_with fail
    refine (hN2.out _).mono ?_
    rintro e w1 ⟨rfl, rfl⟩
    go_wp2_with fail
    clear b1 b2 b3 hN1 hN2 r1 r2
    go_loopw [8] (fun i W => ∃ ph : Nat, 1 ≤ ph ∧ ph ≤ 4 ∧ i = .int .i64 ph ∧ ZAt w W ∧ Hid (∀ j : Nat, 1 ≤ j → j < ph → ¬ (effOk n1 n2 j ∧ effT n1.toNat n2.toNat j = l))) (fun i _ => 4 - (intOf i).toNat)
    case atStart => exact ⟨1, by omega, by omega, rfl, Z0.out, Lib.hid (fun j h1 h2 => by omega)⟩
    case round =>
      obtain ⟨ph, hp1, hp4, rfl, hZ, hno⟩ := hrel
      replace hZ := Lib.hid hZ
      by_cases hlt : ph < 4
      · have hZ1 := Lib.hid (hZ.out.later (alloc_b wr (.cells #[.int .i64 n1, .int .i64 n2, .int .i64 ph] TE)))
        have hE := fun W hW => ref_effect n1 n2 ph W hW
        have X0 := Lib.hid (kp_new wr #[.int .i64 n1, .int .i64 n2, .int .i64 ph] TE)
        have hadd := hadds.out ph (by omega)
        by_cases hok : effOk n1 n2 ph
        · have hq := hbq.out (effT n1.toNat n2.toNat ph)
          rw [show okE n1 n2 ph = 0 from if_pos hok, show effS n1 n2 ph = effT n1.toNat n2.toNat ph from by unfold effS; rw [if_pos hok, Int.toNat_natCast]] at hE
          replace hE := Lib.hid hE
          by_cases heq : effT n1.toNat n2.toNat ph = l
          · have hres := Lib.hid (hsome.out n1 n2 ph hok heq)
            rw [decide_eq_true heq] at hq
            generalize tx (effT n1.toNat n2.toNat ph) = T at *
            clear hok heq hno hlate
            go_wp2_with fail
            refine (hE.out _ (hH.later hZ1.out.bel)).mono ?_
            rintro e w2 ⟨rfl, hb2⟩
            have hZ2 := Lib.hid (hZ1.out.later hb2)
            have X2 := X0.out.later hb2
            have x0 := cell_of_row _ _ 0 _ _ _ X2
            have x1 := cell_of_row _ _ 1 _ _ _ X2
            have x2 := cell_of_row _ _ 2 _ _ _ X2
            have R2 := hZ2.out.rb
            have y0 := cell_of_row _ _ 0 _ _ _ R2
            have y1 := cell_of_row _ _ 1 _ _ _ R2
            have y2 := cell_of_row _ _ 2 _ _ _ R2
            have fz : ∀ i, w2.frozen? ⟨w.heap.size, i, none⟩ = false := fun i => frozen_of_row _ _ i _ _ R2
            obtain ⟨hf, hbl⟩ := hZ2.out.fin (.int .i64 n1) (.int .i64 n2) (.int .i64 ph)
            clear X2 R2 hb2
            go_wp2
            exact bodyPost_ret (res3e Tryd.results19 _ _ w.heap.size rfl (cell_of_row _ _ 0 _ _ _ hf) (cell_of_row _ _ 1 _ _ _ hf) (cell_of_row _ _ 2 _ _ _ hf)) rfl ⟨by rw [hres.out]; rfl, hbl⟩
          · rw [decide_eq_false heq] at hq
            have hno2 := Lib.hid (fun (j : Nat) (h1 : 1 ≤ j) (h2 : j < ph + 1) (h : effOk n1 n2 j ∧ effT n1.toNat n2.toNat j = l) => (by
              by_cases hj : j = ph
              · subst hj; exact heq h.2
              · exact hno.out j h1 (by omega) h : False))
            generalize tx (effT n1.toNat n2.toNat ph) = T at *
            clear hok heq hno
            go_wp2_with fail
            refine (hE.out _ (hH.later hZ1.out.bel)).mono ?_
            rintro e w2 ⟨rfl, hb2⟩
            have hZ2 := Lib.hid (hZ1.out.later hb2)
            clear hb2
            go_wp2
            go_roundw
            case rel => exact ⟨ph + 1, by omega, by omega, rfl, hZ2.out, hno2⟩
            case measure => simp [intOf]; omega
        · rw [show okE n1 n2 ph = 2 from if_neg hok] at hE
          replace hE := Lib.hid hE
          have hno2 := Lib.hid (fun (j : Nat) (h1 : 1 ≤ j) (h2 : j < ph + 1) (h : effOk n1 n2 j ∧ effT n1.toNat n2.toNat j = l) => (by
            by_cases hj : j = ph
            · subst hj; exact hok h.1
            · exact hno.out j h1 (by omega) h : False))
          generalize tx (effS n1 n2 ph) = T at *
          clear hok hno
          go_wp2_with fail
          refine (hE.out _ (hH.later hZ1.out.bel)).mono ?_
          rintro e w2 ⟨rfl, hb2⟩
          have hZ2 := Lib.hid (hZ1.out.later hb2)
          clear hb2
          go_wp2
          go_roundw
          case rel => exact ⟨ph + 1, by omega, by omega, rfl, hZ2.out, hno2⟩
          case measure => simp [intOf]; omega
      · obtain rfl : ph = 4 := by omega
        have hres := Lib.hid (hlate.out hno.out)
        have R2 := hZ.out.rb
        have y0 := cell_of_row _ _ 0 _ _ _ R2
        have y1 := cell_of_row _ _ 1 _ _ _ R2
        have y2 := cell_of_row _ _ 2 _ _ _ R2
        have fz : ∀ i, wr.frozen? ⟨w.heap.size, i, none⟩ = false := fun i => frozen_of_row _ _ i _ _ R2
        obtain ⟨hf, hbl⟩ := hZ.out.fin (.int .i64 0) (.int .i64 0) (.int .i64 0)
        clear R2 hno hlate
        go_wp2
        exact bodyPost_ret (res3e Tryd.results19 _ _ w.heap.size rfl (cell_of_row _ _ 0 _ _ _ hf) (cell_of_row _ _ 1 _ _ _ hf) (cell_of_row _ _ 2 _ _ _ hf)) rfl ⟨by rw [hres.out]; rfl, hbl⟩
  all_goals
    replace hp := Lib.hid hp
    generalize hs : tx l = s at *
    clear hlate hsome
    go_enter Tryd.func19, Tryd.ntmps19
    go_wp2_with fail
    refine (hN1.out _).mono ?_
    rintro e w1 ⟨rfl, rfl⟩
    go_wp2_with fail
    refine (hN2.out _).mono ?_
    rintro e w1 ⟨rfl, rfl⟩
    go_wp2
    exact bodyPost_ret (res3e Tryd.results19 _ _ w.heap.size rfl (cell_of_row _ _ 0 _ _ _ Z0.out.rb) (cell_of_row _ _ 1 _ _ _ Z0.out.rb) (cell_of_row _ _ 2 _ _ _ Z0.out.rb)) rfl ⟨by rw [hp.out]; rfl, Z0.out.bel⟩
end Go.Proofs.YtlbelefabcokiaaDoor.Ident
