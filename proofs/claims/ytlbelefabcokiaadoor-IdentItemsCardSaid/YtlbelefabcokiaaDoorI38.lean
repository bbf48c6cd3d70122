/- The document's ParseItem, where the text may be one. -/
import Derived.Test.YtlbelefabcokiaaDoorI37
namespace Go.Proofs.YtlbelefabcokiaaDoor.Ident
open Go.RowKit Go.Lib
set_option linter.unusedVariables false
set_option linter.unusedSimpArgs false
set_option maxRecDepth 20000

theorem ref_parseI_eff (l : List UInt8) (k k1 g : Nat) (hk : l.length = k + 2) (hk1 : k + 1 = k1) (hl : l.length ≤ 300) (h0 : k < l.length) (h1 : k1 < l.length) (hc : (l[k]).toNat = 64) (hd : (l[k1]).toNat = 48 + g) (hg1 : 1 ≤ g) (hg7 : g ≤ 7)
    (a b p : Int) (he : pE (l.take k) = some (a, b, p)) (w : World) (hH : Hv w) :
    Calls Tryd.prog 25 #[.string (tx l)] w fun e w' => e = .returned (.tuple #[itV (piX (pI l)), .int .i64 (piE (pI l))]) ∧ Below w.heap.size w w' := by
  have hz := tx_size l
  have hp := Lib.hid (show pI l = some ⟨a, b, p, 0, false, g⟩ by subst hk1; exact pI_eff l k g hk hc hd hg1 hg7 he)
  have Z0 := Lib.hid (show YAt w (w.alloc (.cells #[.int .i64 0, .int .i64 0, .int .i64 0, .int .i64 0, .bool false, .int .i64 0] TI)) from ⟨kp_new w _ _, alloc_b _ _⟩)
  have r0 : IntKind.i64.wrap ((l.length : Int) - 2) = (k : Int) := by rw [wr (by omega) (by omega)]; omega
  have r1 : IntKind.i64.wrap ((k : Int) + 1) = (k1 : Int) := by rw [wr (by omega) (by omega)]; omega
  have hks : k < (tx l).size := by omega
  have hks1 : k1 < (tx l).size := by omega
  have e0 : ((tx l)[k]'hks).toNat = 64 := by rw [tx_get l k hks]; exact hc
  have e1 : ((tx l)[k1]'hks1).toNat = 48 + g := by rw [tx_get l k1 hks1]; exact hd
  have hcut := cut_h l k
  have hP := fun W hW => ref_parse (l.take k) (by rw [List.length_take]; omega) W hW
  rw [he] at hP
  dsimp only [peV, peE, effV] at hP
  replace hP := Lib.hid hP
  generalize tx (l.take k) = H at *
  generalize hs : tx l = s at *
  have c1 : (((s[k]'hks).toNat : Int) != 64) = false := by simp; omega
  have c2 : decide (((s[k1]'hks1).toNat : Int) < 49) = false := by simp; omega
  have c3 : decide (55 < ((s[k1]'hks1).toNat : Int)) = false := by simp; omega
  have q1 : IntKind.u8.wrap (((s[k1]'hks1).toNat : Int) - 48) = (g : Int) := by rw [IntKind.wrap_u8']; omega
  have q2 : IntKind.i64.wrap (g : Int) = (g : Int) := wr (by omega) (by omega)
  replace hk := Lib.hid hk
  replace hk1 := Lib.hid hk1
  clear hs hc hd e0 e1 he
  go_enter Tryd.func25, Tryd.ntmps25
  go_wp2_with fail
  refine (hP.out _ (hH.later Z0.out.bel)).mono ?_
  rintro e w1 ⟨rfl, hb1⟩
  have Z1 := Lib.hid ((Z0.out.later hb1).later (alloc_b w1 (.cells #[.int .i64 a, .int .i64 b, .int .i64 p] TE)))
  obtain ⟨y0, y1, y2, y3, y4, y5, fz⟩ := ib_cells Z1.out.rb
  have hbx := Lib.hid (set6_blk Z1.out.rb ⟨a, b, p, 0, false, g⟩)
  have hbl := Lib.hid (set6_below Z1.out.bel (Nat.le_refl _) ⟨a, b, p, 0, false, g⟩)
  have X1 := kp_new w1 #[.int .i64 a, .int .i64 b, .int .i64 p] TE
  have x0 := cell_of_row _ _ 0 _ _ _ X1
  have x1 := cell_of_row _ _ 1 _ _ _ X1
  have x2 := cell_of_row _ _ 2 _ _ _ X1
  clear hb1 Z0 X1
  go_wp2
  exact bodyPost_ret (res6e Tryd.results25 _ _ w.heap.size rfl hbx.out) rfl ⟨by rw [hp.out]; rfl, hbl.out⟩

theorem ref_parseI_late (l : List UInt8) (k k1 g : Nat) (hk : l.length = k + 2) (hk1 : k + 1 = k1) (hl : l.length ≤ 300) (h0 : k < l.length) (h1 : k1 < l.length) (hc : (l[k]).toNat = 64) (hd : (l[k1]).toNat = 48 + g) (hg1 : 1 ≤ g) (hg7 : g ≤ 7)
    (he : pE (l.take k) = none) (w : World) (hH : Hv w) :
    Calls Tryd.prog 25 #[.string (tx l)] w fun e w' => e = .returned (.tuple #[itV (piX (pI l)), .int .i64 (piE (pI l))]) ∧ Below w.heap.size w w' := by
  have hz := tx_size l
  have hlate := Lib.hid (show (∀ (m : Nat) (i : Bool), 1 ≤ m → m ≤ 64 → itT ⟨0, 0, 0, m, i, g⟩ ≠ l) → pI l = none by subst hk1; exact pI_late l k g hk hd he)
  have hsome := Lib.hid (fun m i h1 h2 h => pI_move l m g i hg1 hg7 h1 h2 h)
  have hbq : Hid (∀ x : List UInt8, ((tx x).toList == (tx l).toList) = decide (x = l)) := fun x => tx_beq x l
  have Z0 := Lib.hid (show YAt w (w.alloc (.cells #[.int .i64 0, .int .i64 0, .int .i64 0, .int .i64 0, .bool false, .int .i64 0] TI)) from ⟨kp_new w _ _, alloc_b _ _⟩)
  have r0 : IntKind.i64.wrap ((l.length : Int) - 2) = (k : Int) := by rw [wr (by omega) (by omega)]; omega
  have r1 : IntKind.i64.wrap ((k : Int) + 1) = (k1 : Int) := by rw [wr (by omega) (by omega)]; omega
  have hks : k < (tx l).size := by omega
  have hks1 : k1 < (tx l).size := by omega
  have e0 : ((tx l)[k]'hks).toNat = 64 := by rw [tx_get l k hks]; exact hc
  have e1 : ((tx l)[k1]'hks1).toNat = 48 + g := by rw [tx_get l k1 hks1]; exact hd
  have hcut := cut_h l k
  have hP := fun W hW => ref_parse (l.take k) (by rw [List.length_take]; omega) W hW
  rw [he] at hP
  dsimp only [peV, peE, effV] at hP
  replace hP := Lib.hid hP
  have hI : Hid (∀ (m : Nat) (i : Bool), 1 ≤ m → m ≤ 64 → ∀ W, Hv W → Calls Tryd.prog 23 #[.agg #[.int .i64 0, .int .i64 0, .int .i64 0, .int .i64 m, .bool i, .int .i64 g]] W fun e w' => e = .returned (.tuple #[.string (tx (itT ⟨0, 0, 0, m, i, g⟩)), .int .i64 0]) ∧ Below W.heap.size W w') := by
    intro m i m1 m2 W hW
    have hok : okIt ⟨0, 0, 0, m, i, g⟩ := ⟨by show (1 : Int) ≤ g; omega, by show (g : Int) ≤ 7; omega, .inr ⟨by show (1 : Int) ≤ m; omega, by show (m : Int) ≤ 64; omega, rfl, rfl, rfl⟩⟩
    cases i
    · exact ref_item_out m g hok W hW
    · exact ref_item_in m g hok W hW
  have hwr : Hid (∀ n : Int, 0 ≤ n → n ≤ 70 → IntKind.i64.wrap n = n) := Lib.hid (fun n h1 h2 => wr (by omega) (by omega))
  have hadds : Hid (∀ n : Nat, n ≤ 65 → IntKind.i64.wrap ((n : Int) + 1) = ((n + 1 : Nat) : Int)) := Lib.hid (fun n h => by rw [wr (by omega) (by omega)]; omega)
  generalize tx (l.take k) = H at *
  generalize hs : tx l = s at *
  have c1 : (((s[k]'hks).toNat : Int) != 64) = false := by simp; omega
  have c2 : decide (((s[k1]'hks1).toNat : Int) < 49) = false := by simp; omega
  have c3 : decide (55 < ((s[k1]'hks1).toNat : Int)) = false := by simp; omega
  have q1 : IntKind.u8.wrap (((s[k1]'hks1).toNat : Int) - 48) = (g : Int) := by rw [IntKind.wrap_u8']; omega
  have q2 : IntKind.i64.wrap (g : Int) = (g : Int) := wr (by omega) (by omega)
  replace hk := Lib.hid hk
  replace hk1 := Lib.hid hk1
  clear hs hc hd e0 e1 he
  go_enter Tryd.func25, Tryd.ntmps25
  go_wp2_with fail
  refine (hP.out _ (hH.later Z0.out.bel)).mono ?_
  rintro e w1 ⟨rfl, hb1⟩
  have Z1 := Lib.hid ((Z0.out.later hb1).later (alloc_b w1 (.cells #[.int .i64 0, .int .i64 0, .int .i64 0] TE)))
  clear hb1 Z0
  go_wp2_with fail
  clear c1 c2 c3 q1 q2 r0 r1 hP hcut
  go_loopw [8] (fun i W => ∃ j : Nat, 1 ≤ j ∧ j ≤ 65 ∧ i = .int .i64 j ∧ YAt w W ∧ Hid (∀ (m : Nat) (i : Bool), 1 ≤ m → ahead j 0 m i → itT ⟨0, 0, 0, m, i, g⟩ ≠ l)) (fun i _ => 65 - (intOf i).toNat)
  case atStart => exact ⟨1, by omega, by omega, rfl, Z1.out, Lib.hid (fun m i h1 h2 => by unfold ahead at h2; omega)⟩
  case round =>
    obtain ⟨j, hj1, hj2, rfl, hZ, hno⟩ := hrel
    replace hZ := Lib.hid hZ
    by_cases hlt : j ≤ 64
    · go_wp2_with fail
      replace hlt := Lib.hid hlt
      rename (j : Int) ≤ 64 => h64
      clear h64
      go_loopw [9] (fun i W => ∃ (d : Nat) (D : Int), Hid (D = d) ∧ d ≤ 2 ∧ i = .int .i64 D ∧ YAt w W ∧ Hid (∀ (m : Nat) (i : Bool), 1 ≤ m → ahead j d m i → itT ⟨0, 0, 0, m, i, g⟩ ≠ l)) (fun i _ => 2 - (intOf i).toNat)
      case atStart => exact ⟨0, 0, Lib.hid rfl, by omega, rfl, hZ.out, hno⟩
      case round =>
        clear hZ hno
        obtain ⟨d, D, hD, hd, rfl, hZ, hno⟩ := hrel
        replace hZ := Lib.hid hZ
        by_cases hlt2 : d < 2
        · have hD9 := hD.out
          obtain ⟨D', hD'⟩ : ∃ D', D + 1 = D' := ⟨_, rfl⟩
          have u1 : decide (D < 2) = true := by simp; omega
          have u2 : IntKind.i64.wrap (D + 1) = D' := by rw [hwr.out _ (by omega) (by omega)]; exact hD'
          obtain ⟨bi, hbi⟩ : ∃ bi, ((d : Int) == 1) = bi := ⟨_, rfl⟩
          have u3 : (D == 1) = bi := by rw [hD9]; exact hbi
          have hI2 := Lib.hid (hI.out j bi hj1 hlt.out)
          have hq := hbq.out (itT ⟨0, 0, 0, j, bi, g⟩)
          have hZ1 := Lib.hid (hZ.out.later (alloc_b wr (.cells #[.int .i64 0, .int .i64 0, .int .i64 0, .int .i64 j, .bool bi, .int .i64 g] TI)))
          have X0 := Lib.hid (kp_new wr #[.int .i64 0, .int .i64 0, .int .i64 0, .int .i64 j, .bool bi, .int .i64 g] TI)
          by_cases heq : itT ⟨0, 0, 0, j, bi, g⟩ = l
          · have hres := Lib.hid (hsome.out j bi hj1 hlt.out heq)
            rw [decide_eq_true heq] at hq
            generalize tx (itT ⟨0, 0, 0, j, bi, g⟩) = T at *
            replace hD' := Lib.hid hD'
            clear heq hno hlate hbi hD9 hsome
            go_wp2_with fail
            refine (hI2.out _ (hH.later hZ1.out.bel)).mono ?_
            rintro e w2 ⟨rfl, hb2⟩
            have hZ2 := Lib.hid (hZ1.out.later hb2)
            have X2 := X0.out.later hb2
            obtain ⟨x0, x1, x2, x3, x4, x5, _⟩ := ib_cells (x := ⟨0, 0, 0, j, bi, g⟩) X2
            obtain ⟨y0, y1, y2, y3, y4, y5, fz⟩ := ib_cells hZ2.out.rb
            have hbx := Lib.hid (set6_blk hZ2.out.rb ⟨0, 0, 0, j, bi, g⟩)
            have hbl := Lib.hid (set6_below hZ2.out.bel (Nat.le_refl _) ⟨0, 0, 0, j, bi, g⟩)
            clear X2 hb2
            go_wp2
            exact bodyPost_ret (res6e Tryd.results25 _ _ w.heap.size rfl hbx.out) rfl ⟨by rw [hres.out]; rfl, hbl.out⟩
          · rw [decide_eq_false heq] at hq
            have hno2 := Lib.hid (fun (m : Nat) (i : Bool) (h1 : 1 ≤ m) (h2 : ahead j (d + 1) m i) (h : itT ⟨0, 0, 0, m, i, g⟩ = l) => (by
              rcases ahead_next hlt2 h2 with h3 | ⟨h3, h4⟩
              · exact hno.out m i h1 h3 h
              · subst h3; rw [hbi] at h4; subst h4; exact heq h : False))
            generalize tx (itT ⟨0, 0, 0, j, bi, g⟩) = T at *
            have hDD := Lib.hid (show D' = ((d + 1 : Nat) : Int) by omega)
            clear heq hno hbi hD9 hD'
            go_wp2_with fail
            refine (hI2.out _ (hH.later hZ1.out.bel)).mono ?_
            rintro e w2 ⟨rfl, hb2⟩
            have hZ2 := Lib.hid (hZ1.out.later hb2)
            clear hb2
            go_wp2
            go_roundw
            case rel => exact ⟨d + 1, D', hDD, by omega, rfl, hZ2.out, hno2⟩
            case measure => simp [intOf]; have := hDD.out; have := hD.out; omega
        · have hD9 := hD.out
          have u1 : decide (D < 2) = false := by simp; omega
          have hadd := hadds.out j (by have := hlt.out; omega)
          have hno2 := Lib.hid (fun (m : Nat) (i : Bool) (h1 : 1 ≤ m) (h2 : ahead (j + 1) 0 m i) => (by
            have h3 := ahead_over h2
            have h4 : d = 2 := by omega
            rw [← h4] at h3
            exact hno.out m i h1 h3 : itT ⟨0, 0, 0, m, i, g⟩ ≠ l))
          clear hD9 hno
          go_wp2
          go_roundw
          case rel => exact ⟨j + 1, by omega, by have := hlt.out; omega, rfl, hZ.out, hno2⟩
          case measure => simp [intOf]; have := hlt.out; omega
    · obtain rfl : j = 65 := by omega
      have hres := Lib.hid (hlate.out (fun m i h1 h2 => hno.out m i h1 (.inl (by omega))))
      obtain ⟨y0, y1, y2, y3, y4, y5, fz⟩ := ib_cells hZ.out.rb
      have hbx := Lib.hid (set6_blk hZ.out.rb it0)
      have hbl := Lib.hid (set6_below hZ.out.bel (Nat.le_refl _) it0)
      clear hno hlate hsome
      go_wp2
      exact bodyPost_ret (res6e Tryd.results25 _ _ w.heap.size rfl hbx.out) rfl ⟨by rw [hres.out]; rfl, hbl.out⟩
theorem ref_parseI (l : List UInt8) (hl : l.length ≤ 300) (w : World) (hH : Hv w) :
    Calls Tryd.prog 25 #[.string (tx l)] w fun e w' => e = .returned (.tuple #[itV (piX (pI l)), .int .i64 (piE (pI l))]) ∧ Below w.heap.size w w' := by
  by_cases h2 : l.length < 2
  · exact ref_parseI_none l hl h2 w
  · obtain ⟨k, hk⟩ : ∃ k, l.length = k + 2 := ⟨l.length - 2, by omega⟩
    by_cases h : (l[k]).toNat ≠ 64 ∨ (l[k + 1]).toNat < 49 ∨ 55 < (l[k + 1]).toNat
    · exact ref_parseI_bad l k (k + 1) hk rfl hl (by omega) (by omega) h w
    · obtain ⟨g, hg⟩ : ∃ g, (l[k + 1]).toNat = 48 + g := ⟨(l[k + 1]).toNat - 48, by omega⟩
      cases he : pE (l.take k) with
      | some x =>
        obtain ⟨a, b, p⟩ := x
        exact ref_parseI_eff l k (k + 1) g hk rfl hl (by omega) (by omega) (by omega) hg (by omega) (by omega) a b p he w hH
      | none => exact ref_parseI_late l k (k + 1) g hk rfl hl (by omega) (by omega) (by omega) hg (by omega) (by omega) he w hH
end Go.Proofs.YtlbelefabcokiaaDoor.Ident
