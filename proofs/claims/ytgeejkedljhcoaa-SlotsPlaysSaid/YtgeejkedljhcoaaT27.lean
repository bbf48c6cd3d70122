/- SlotsPlays. -/
import Derived.Test.YtgeejkedljhcoaaT26
namespace Go.Proofs.Ytgeejkedljhcoaa.Slt
open Go.RowKit Go.Maps Go.Lib
set_option linter.unusedVariables false
set_option linter.unusedSimpArgs false
set_option maxRecDepth 100000

set_option maxHeartbeats 16000000 in
theorem plays_any (a : Option Addr) (len cap : Nat) (S : Nat → Sp) (k : Int) (w : World) (h : IsSt w a len cap S) (hk : (Lit.int .i64 k).wf = true) :
    Calls Try.prog 3 #[.slice a len cap, .int .i64 k] w (Yes w) := by
  have HF := Lib.hid (few_any a len cap S w h)
  have HU := Lib.hid h
  have hfit := h.fit
  have hkk := Lib.hid hk
  have HN := Lib.hid (fun W => new_any W)
  have HR := Lib.hid (fun W => rnew_any W)
  have HS := Lib.hid (fun sb mb rb (s : St) (L : List Et) vl W (x : Ax W sb mb s) (y : Rx W rb s L vl) => shows_any k W x y hk)
  clear h hk
  go_enter Try.func3, Try.ntmps3
  go_wp2_with fail
  go_at_call 11
  refine HF.out.mono ?_
  rintro e w1 ⟨B, rfl, hb1⟩
  cases B with
  | false =>
    go_wp2_with (go_at_call 12; refine (works_any _).mono ?_; rintro e w2 ⟨rfl, hb2⟩)
    go_ret
    exact ⟨rfl, below2 hb1 hb2⟩
  | true =>
    go_wp2_with (first
      | (go_at_call 13; refine (HN.out _).mono ?_; rintro e w2 ⟨sb, mb, rfl, hA2, hs2, hm2, hb2⟩)
      | (go_at_call 14; refine (HR.out _).mono ?_; rintro e w3 ⟨rb, rfl, hx3, hr3, hb3⟩)
      | (go_at_call 15; refine (HS.out _ _ _ _ _ _ _ (hA2.later hb3) hx3).mono ?_; rintro e w4 ⟨rfl, hb4⟩))
    have hD0 : Duo w w.heap.size sb mb rb (.pointer none) (.pointer none) newS newS w4 :=
      have q1 := hb1.size
      have q2 := hb2.size
      Duo.later ⟨hA2.later hb3, ⟨_, _, hx3, fun i hi => by cases hi⟩, (below2 hb1 hb2).trans (hb3.mono (by omega)), Nat.le_refl _, by omega, by omega, by omega, .inl ⟨rfl, rfl⟩⟩ hb4
    clear hA2 hx3 hb2 hb3 hb4 hs2 hm2 hr3 hb1 HN HR HF HS
    go_loopw [5, 6, 7, 8, 25] (fun x r old was i wr => ∃ (j sb mb rb base : Nat) (s : St), j ≤ len ∧ i = .int .i64 j ∧ x = .pointer (some ⟨sb, 0, none⟩) ∧ r = .pointer (some ⟨rb, 0, none⟩) ∧ Duo w base sb mb rb old was s s wr) (fun _ _ _ _ i _ => len - nOf i)
    case atStart => exact ⟨0, sb, mb, rb, w.heap.size, newS, Nat.zero_le _, rfl, rfl, rfl, hD0⟩
    case round =>
      clear hD0
      obtain ⟨j, sb, mb, rb, base, s, hj, rfl, rfl, rfl, hD⟩ := hrel
      by_cases hlt : j < len
      · obtain ⟨b, off, rfl, hbl, hc⟩ := HU.out.at hD.bel hlt
        obtain ⟨c0, c1, c2⟩ := hc
        have hwf := Lib.hid (HU.out.wf j).2.1
        generalize S j = p at *
        obtain ⟨pd, pk, pv⟩ := p
        simp only at c0 c1 c2
        have i1 : 0 ≤ (j : Int) := by omega
        have i2 : (j : Int) < (len : Int) := by omega
        have i3 : decide ((j : Int) < (len : Int)) = true := by simpa using i2
        have i4 : IntKind.i64.wrap ((j : Int) + 1) = ((j + 1 : Nat) : Int) := by rw [IntKind.wrap_i64]; omega
        have T0 := two_new hD ⟨pd, pk, pv⟩
        obtain ⟨d0, d1, d2⟩ := T0.cells
        simp only at d0 d1 d2
        replace T0 := Lib.hid T0
        have hfin : Hid (∀ (sb mb rb base : Nat) (old was : Value) (s : St) (W : World), Duo w base sb mb rb old was s s W → ∃ (j' sb' mb' rb' base' : Nat) (s' : St), j' ≤ len ∧ Value.int .i64 ((j + 1 : Nat) : Int) = .int .i64 j' ∧ Value.pointer (some ⟨sb, 0, none⟩) = .pointer (some ⟨sb', 0, none⟩) ∧ Value.pointer (some ⟨rb, 0, none⟩) = .pointer (some ⟨rb', 0, none⟩) ∧ Duo w base' sb' mb' rb' old was s' s' W) :=
          Lib.hid fun sb mb rb base old was s W hW => ⟨j + 1, sb, mb, rb, base, s, by omega, rfl, rfl, rfl, hW⟩
        have hpast := hD.past
        clear hD hbl
        rcases hpast with ⟨rfl, rfl⟩ | ⟨sb0, mb0, rb0, s0, L0, vl0, rfl, rfl, _⟩
        · by_cases h0 : pd = 0
          · subst h0
            have HA := Lib.hid (fun W t (h : Two w base sb mb rb (.pointer none) (.pointer none) wr.heap.size ⟨0, pk, pv⟩ s t W) => h.pput pk pv)
            have HR := Lib.hid (fun W t (h : Two w base sb mb rb (.pointer none) (.pointer none) wr.heap.size ⟨0, pk, pv⟩ t s W) => h.rput pk pv)
            have HK : Hid (∀ s t W, Two w base sb mb rb (.pointer none) (.pointer none) wr.heap.size ⟨0, pk, pv⟩ s t W → W.cell? ⟨wr.heap.size, 1, none⟩ = some (.int .i64 pk) ∧ W.cell? ⟨wr.heap.size, 2, none⟩ = some (.string pv)) := Lib.hid fun s t W h => ⟨h.cells.2.1, h.cells.2.2⟩
            generalize putE s pk pv = rE at *
            generalize hs1 : putS s pk pv = s1 at *
            clear hs1
            have e2 : (rE == rE) = true := by simp
            go_wp2_with fail
            generalize wr.alloc (.cells #[.int .i64 0, .int .i64 pk, .string pv] TP) = W0 at *
            replace T0 := Lib.hid T0.out.drew
            go_region_held3 (fun W => W.cell? ⟨wr.heap.size, 1, none⟩ = some (.int .i64 pk) ∧ W.cell? ⟨wr.heap.size, 2, none⟩ = some (.string pv))
              ((first | exact HK.out _ _ _ T3.out | exact HK.out _ _ _ T1p.out | exact HK.out _ _ _ T1r.out | exact HK.out _ _ _ T0.out | assumption))
              ((first
                | (go_at_call 16; refine (HA.out _ _ T1r.out).mono ?_; rintro e w3 ⟨rfl, T3⟩; replace T3 := Lib.hid T3)
                | (go_at_call 16; refine (HA.out _ _ T0.out).mono ?_; rintro e w2 ⟨rfl, T1p⟩; replace T1p := Lib.hid T1p)
                | (go_at_call 17; refine (HR.out _ _ T1p.out).mono ?_; rintro e w3 ⟨rfl, T3⟩; replace T3 := Lib.hid T3)
                | (go_at_call 17; refine (HR.out _ _ T0.out).mono ?_; rintro e w2 ⟨rfl, T1r⟩; replace T1r := Lib.hid T1r)))
            all_goals
              have x3 := T3.out.cells.2.1
              simp only at x3
              go_wp2_with (first
                | (go_at_call 15; refine (T4.out.show _ hwf.out).mono ?_; rintro e w5 ⟨rfl, T5⟩; replace T5 := Lib.hid T5)
                | (go_at_call 15; refine (T3.out.show _ hkk.out).mono ?_; rintro e w4 ⟨rfl, T4⟩; replace T4 := Lib.hid T4; have x2 := T4.out.cells.2.1; simp only at x2))
              go_roundw
              case rel => exact hfin.out _ _ _ _ _ _ _ _ T5.out.d
              case measure => simp [nOf]; omega
          by_cases h1 : pd = 1
          · subst h1
            have HA := Lib.hid (fun W t (h : Two w base sb mb rb (.pointer none) (.pointer none) wr.heap.size ⟨1, pk, pv⟩ s t W) => h.pfor pk)
            have HR := Lib.hid (fun W t (h : Two w base sb mb rb (.pointer none) (.pointer none) wr.heap.size ⟨1, pk, pv⟩ t s W) => h.rfor pk)
            have HK : Hid (∀ s t W, Two w base sb mb rb (.pointer none) (.pointer none) wr.heap.size ⟨1, pk, pv⟩ s t W → W.cell? ⟨wr.heap.size, 1, none⟩ = some (.int .i64 pk) ∧ W.cell? ⟨wr.heap.size, 2, none⟩ = some (.string pv)) := Lib.hid fun s t W h => ⟨h.cells.2.1, h.cells.2.2⟩
            generalize forE s pk = rE at *
            generalize hs1 : forS s pk = s1 at *
            clear hs1
            have e2 : (rE == rE) = true := by simp
            go_wp2_with fail
            generalize wr.alloc (.cells #[.int .i64 1, .int .i64 pk, .string pv] TP) = W0 at *
            replace T0 := Lib.hid T0.out.drew
            go_region_held3 (fun W => W.cell? ⟨wr.heap.size, 1, none⟩ = some (.int .i64 pk) ∧ W.cell? ⟨wr.heap.size, 2, none⟩ = some (.string pv))
              ((first | exact HK.out _ _ _ T3.out | exact HK.out _ _ _ T1p.out | exact HK.out _ _ _ T1r.out | exact HK.out _ _ _ T0.out | assumption))
              ((first
                | (go_at_call 18; refine (HA.out _ _ T1r.out).mono ?_; rintro e w3 ⟨rfl, T3⟩; replace T3 := Lib.hid T3)
                | (go_at_call 18; refine (HA.out _ _ T0.out).mono ?_; rintro e w2 ⟨rfl, T1p⟩; replace T1p := Lib.hid T1p)
                | (go_at_call 19; refine (HR.out _ _ T1p.out).mono ?_; rintro e w3 ⟨rfl, T3⟩; replace T3 := Lib.hid T3)
                | (go_at_call 19; refine (HR.out _ _ T0.out).mono ?_; rintro e w2 ⟨rfl, T1r⟩; replace T1r := Lib.hid T1r)))
            all_goals
              have x3 := T3.out.cells.2.1
              simp only at x3
              go_wp2_with (first
                | (go_at_call 15; refine (T4.out.show _ hwf.out).mono ?_; rintro e w5 ⟨rfl, T5⟩; replace T5 := Lib.hid T5)
                | (go_at_call 15; refine (T3.out.show _ hkk.out).mono ?_; rintro e w4 ⟨rfl, T4⟩; replace T4 := Lib.hid T4; have x2 := T4.out.cells.2.1; simp only at x2))
              go_roundw
              case rel => exact hfin.out _ _ _ _ _ _ _ _ T5.out.d
              case measure => simp [nOf]; omega
          by_cases h2 : pd = 2
          · subst h2
            have HA := Lib.hid (fun W t (h : Two w base sb mb rb (.pointer none) (.pointer none) wr.heap.size ⟨2, pk, pv⟩ s t W) => h.pjmp pk)
            have HR := Lib.hid (fun W t (h : Two w base sb mb rb (.pointer none) (.pointer none) wr.heap.size ⟨2, pk, pv⟩ t s W) => h.rjmp pk)
            have HK : Hid (∀ s t W, Two w base sb mb rb (.pointer none) (.pointer none) wr.heap.size ⟨2, pk, pv⟩ s t W → W.cell? ⟨wr.heap.size, 1, none⟩ = some (.int .i64 pk) ∧ W.cell? ⟨wr.heap.size, 2, none⟩ = some (.string pv)) := Lib.hid fun s t W h => ⟨h.cells.2.1, h.cells.2.2⟩
            generalize jmpE s pk = rE at *
            generalize hs1 : jmpS s pk = s1 at *
            clear hs1
            have e2 : (rE == rE) = true := by simp
            go_wp2_with fail
            generalize wr.alloc (.cells #[.int .i64 2, .int .i64 pk, .string pv] TP) = W0 at *
            replace T0 := Lib.hid T0.out.drew
            go_region_held3 (fun W => W.cell? ⟨wr.heap.size, 1, none⟩ = some (.int .i64 pk) ∧ W.cell? ⟨wr.heap.size, 2, none⟩ = some (.string pv))
              ((first | exact HK.out _ _ _ T3.out | exact HK.out _ _ _ T1p.out | exact HK.out _ _ _ T1r.out | exact HK.out _ _ _ T0.out | assumption))
              ((first
                | (go_at_call 20; refine (HA.out _ _ T1r.out).mono ?_; rintro e w3 ⟨rfl, T3⟩; replace T3 := Lib.hid T3)
                | (go_at_call 20; refine (HA.out _ _ T0.out).mono ?_; rintro e w2 ⟨rfl, T1p⟩; replace T1p := Lib.hid T1p)
                | (go_at_call 21; refine (HR.out _ _ T1p.out).mono ?_; rintro e w3 ⟨rfl, T3⟩; replace T3 := Lib.hid T3)
                | (go_at_call 21; refine (HR.out _ _ T0.out).mono ?_; rintro e w2 ⟨rfl, T1r⟩; replace T1r := Lib.hid T1r)))
            all_goals
              have x3 := T3.out.cells.2.1
              simp only at x3
              go_wp2_with (first
                | (go_at_call 15; refine (T4.out.show _ hwf.out).mono ?_; rintro e w5 ⟨rfl, T5⟩; replace T5 := Lib.hid T5)
                | (go_at_call 15; refine (T3.out.show _ hkk.out).mono ?_; rintro e w4 ⟨rfl, T4⟩; replace T4 := Lib.hid T4; have x2 := T4.out.cells.2.1; simp only at x2))
              go_roundw
              case rel => exact hfin.out _ _ _ _ _ _ _ _ T5.out.d
              case measure => simp [nOf]; omega
          by_cases h3 : pd = 3
          · subst h3
            go_wp2_with (first
              | (go_at_call 22; refine T0.out.cp1.mono ?_; rintro e w2 ⟨sb1, mb1, rfl, hA1, q1, q2, hb2⟩)
              | (go_at_call 23; refine (T0.out.cp2 hA1 q1 q2 hb2).mono ?_; rintro e w3 ⟨rb1, rfl, T3⟩; have x3 := T3.cells.2.1; simp only at x3; replace T3 := Lib.hid T3)
              | (go_at_call 15; refine (T5.out.show0 _ hkk.out).mono ?_; rintro e w6 ⟨rfl, T6⟩; replace T6 := Lib.hid T6)
              | (go_at_call 15; refine (T4.out.show _ hwf.out).mono ?_; rintro e w5 ⟨rfl, T5⟩; replace T5 := Lib.hid T5)
              | (go_at_call 15; refine (T3.out.show _ hkk.out).mono ?_; rintro e w4 ⟨rfl, T4⟩; replace T4 := Lib.hid T4; have x2 := T4.out.cells.2.1; simp only at x2))
            go_roundw
            case rel => exact hfin.out _ _ _ _ _ _ _ _ T6.out.d
            case measure => simp [nOf]; omega
          have g0 : (pd == 0) = false := by simpa using h0
          have g0' : (pd = 0) = False := by simpa using h0
          have g1 : (pd == 1) = false := by simpa using h1
          have g1' : (pd = 1) = False := by simpa using h1
          have g2 : (pd == 2) = false := by simpa using h2
          have g2' : (pd = 2) = False := by simpa using h2
          have g3 : (pd == 3) = false := by simpa using h3
          have g3' : (pd = 3) = False := by simpa using h3
          clear h0 h1 h2 h3
          have T3 := T0
          clear T0
          go_wp2_with (first
            | (go_at_call 15; refine (T4.out.show _ hwf.out).mono ?_; rintro e w5 ⟨rfl, T5⟩; replace T5 := Lib.hid T5)
            | (go_at_call 15; refine (T3.out.show _ hkk.out).mono ?_; rintro e w4 ⟨rfl, T4⟩; replace T4 := Lib.hid T4; have x2 := T4.out.cells.2.1; simp only at x2))
          go_roundw
          case rel => exact hfin.out _ _ _ _ _ _ _ _ T5.out.d
          case measure => simp [nOf]; omega
        · by_cases h0 : pd = 0
          · subst h0
            have HA := Lib.hid (fun W t (h : Two w base sb mb rb (.pointer (some ⟨sb0, 0, none⟩)) (.pointer (some ⟨rb0, 0, none⟩)) wr.heap.size ⟨0, pk, pv⟩ s t W) => h.pput pk pv)
            have HR := Lib.hid (fun W t (h : Two w base sb mb rb (.pointer (some ⟨sb0, 0, none⟩)) (.pointer (some ⟨rb0, 0, none⟩)) wr.heap.size ⟨0, pk, pv⟩ t s W) => h.rput pk pv)
            have HK : Hid (∀ s t W, Two w base sb mb rb (.pointer (some ⟨sb0, 0, none⟩)) (.pointer (some ⟨rb0, 0, none⟩)) wr.heap.size ⟨0, pk, pv⟩ s t W → W.cell? ⟨wr.heap.size, 1, none⟩ = some (.int .i64 pk) ∧ W.cell? ⟨wr.heap.size, 2, none⟩ = some (.string pv)) := Lib.hid fun s t W h => ⟨h.cells.2.1, h.cells.2.2⟩
            generalize putE s pk pv = rE at *
            generalize hs1 : putS s pk pv = s1 at *
            clear hs1
            have e2 : (rE == rE) = true := by simp
            go_wp2_with fail
            generalize wr.alloc (.cells #[.int .i64 0, .int .i64 pk, .string pv] TP) = W0 at *
            replace T0 := Lib.hid T0.out.drew
            go_region_held3 (fun W => W.cell? ⟨wr.heap.size, 1, none⟩ = some (.int .i64 pk) ∧ W.cell? ⟨wr.heap.size, 2, none⟩ = some (.string pv))
              ((first | exact HK.out _ _ _ T3.out | exact HK.out _ _ _ T1p.out | exact HK.out _ _ _ T1r.out | exact HK.out _ _ _ T0.out | assumption))
              ((first
                | (go_at_call 16; refine (HA.out _ _ T1r.out).mono ?_; rintro e w3 ⟨rfl, T3⟩; replace T3 := Lib.hid T3)
                | (go_at_call 16; refine (HA.out _ _ T0.out).mono ?_; rintro e w2 ⟨rfl, T1p⟩; replace T1p := Lib.hid T1p)
                | (go_at_call 17; refine (HR.out _ _ T1p.out).mono ?_; rintro e w3 ⟨rfl, T3⟩; replace T3 := Lib.hid T3)
                | (go_at_call 17; refine (HR.out _ _ T0.out).mono ?_; rintro e w2 ⟨rfl, T1r⟩; replace T1r := Lib.hid T1r)))
            all_goals
              have x3 := T3.out.cells.2.1
              simp only at x3
              go_wp2_with (first
                | (go_at_call 15; refine (T5.out.show0 _ hkk.out).mono ?_; rintro e w6 ⟨rfl, T6⟩; replace T6 := Lib.hid T6)
                | (go_at_call 15; refine (T4.out.show _ hwf.out).mono ?_; rintro e w5 ⟨rfl, T5⟩; replace T5 := Lib.hid T5)
                | (go_at_call 15; refine (T3.out.show _ hkk.out).mono ?_; rintro e w4 ⟨rfl, T4⟩; replace T4 := Lib.hid T4; have x2 := T4.out.cells.2.1; simp only at x2))
              go_roundw
              case rel => exact hfin.out _ _ _ _ _ _ _ _ T6.out.d
              case measure => simp [nOf]; omega
          by_cases h1 : pd = 1
          · subst h1
            have HA := Lib.hid (fun W t (h : Two w base sb mb rb (.pointer (some ⟨sb0, 0, none⟩)) (.pointer (some ⟨rb0, 0, none⟩)) wr.heap.size ⟨1, pk, pv⟩ s t W) => h.pfor pk)
            have HR := Lib.hid (fun W t (h : Two w base sb mb rb (.pointer (some ⟨sb0, 0, none⟩)) (.pointer (some ⟨rb0, 0, none⟩)) wr.heap.size ⟨1, pk, pv⟩ t s W) => h.rfor pk)
            have HK : Hid (∀ s t W, Two w base sb mb rb (.pointer (some ⟨sb0, 0, none⟩)) (.pointer (some ⟨rb0, 0, none⟩)) wr.heap.size ⟨1, pk, pv⟩ s t W → W.cell? ⟨wr.heap.size, 1, none⟩ = some (.int .i64 pk) ∧ W.cell? ⟨wr.heap.size, 2, none⟩ = some (.string pv)) := Lib.hid fun s t W h => ⟨h.cells.2.1, h.cells.2.2⟩
            generalize forE s pk = rE at *
            generalize hs1 : forS s pk = s1 at *
            clear hs1
            have e2 : (rE == rE) = true := by simp
            go_wp2_with fail
            generalize wr.alloc (.cells #[.int .i64 1, .int .i64 pk, .string pv] TP) = W0 at *
            replace T0 := Lib.hid T0.out.drew
            go_region_held3 (fun W => W.cell? ⟨wr.heap.size, 1, none⟩ = some (.int .i64 pk) ∧ W.cell? ⟨wr.heap.size, 2, none⟩ = some (.string pv))
              ((first | exact HK.out _ _ _ T3.out | exact HK.out _ _ _ T1p.out | exact HK.out _ _ _ T1r.out | exact HK.out _ _ _ T0.out | assumption))
              ((first
                | (go_at_call 18; refine (HA.out _ _ T1r.out).mono ?_; rintro e w3 ⟨rfl, T3⟩; replace T3 := Lib.hid T3)
                | (go_at_call 18; refine (HA.out _ _ T0.out).mono ?_; rintro e w2 ⟨rfl, T1p⟩; replace T1p := Lib.hid T1p)
                | (go_at_call 19; refine (HR.out _ _ T1p.out).mono ?_; rintro e w3 ⟨rfl, T3⟩; replace T3 := Lib.hid T3)
                | (go_at_call 19; refine (HR.out _ _ T0.out).mono ?_; rintro e w2 ⟨rfl, T1r⟩; replace T1r := Lib.hid T1r)))
            all_goals
              have x3 := T3.out.cells.2.1
              simp only at x3
              go_wp2_with (first
                | (go_at_call 15; refine (T5.out.show0 _ hkk.out).mono ?_; rintro e w6 ⟨rfl, T6⟩; replace T6 := Lib.hid T6)
                | (go_at_call 15; refine (T4.out.show _ hwf.out).mono ?_; rintro e w5 ⟨rfl, T5⟩; replace T5 := Lib.hid T5)
                | (go_at_call 15; refine (T3.out.show _ hkk.out).mono ?_; rintro e w4 ⟨rfl, T4⟩; replace T4 := Lib.hid T4; have x2 := T4.out.cells.2.1; simp only at x2))
              go_roundw
              case rel => exact hfin.out _ _ _ _ _ _ _ _ T6.out.d
              case measure => simp [nOf]; omega
          by_cases h2 : pd = 2
          · subst h2
            have HA := Lib.hid (fun W t (h : Two w base sb mb rb (.pointer (some ⟨sb0, 0, none⟩)) (.pointer (some ⟨rb0, 0, none⟩)) wr.heap.size ⟨2, pk, pv⟩ s t W) => h.pjmp pk)
            have HR := Lib.hid (fun W t (h : Two w base sb mb rb (.pointer (some ⟨sb0, 0, none⟩)) (.pointer (some ⟨rb0, 0, none⟩)) wr.heap.size ⟨2, pk, pv⟩ t s W) => h.rjmp pk)
            have HK : Hid (∀ s t W, Two w base sb mb rb (.pointer (some ⟨sb0, 0, none⟩)) (.pointer (some ⟨rb0, 0, none⟩)) wr.heap.size ⟨2, pk, pv⟩ s t W → W.cell? ⟨wr.heap.size, 1, none⟩ = some (.int .i64 pk) ∧ W.cell? ⟨wr.heap.size, 2, none⟩ = some (.string pv)) := Lib.hid fun s t W h => ⟨h.cells.2.1, h.cells.2.2⟩
            generalize jmpE s pk = rE at *
            generalize hs1 : jmpS s pk = s1 at *
            clear hs1
            have e2 : (rE == rE) = true := by simp
            go_wp2_with fail
            generalize wr.alloc (.cells #[.int .i64 2, .int .i64 pk, .string pv] TP) = W0 at *
            replace T0 := Lib.hid T0.out.drew
            go_region_held3 (fun W => W.cell? ⟨wr.heap.size, 1, none⟩ = some (.int .i64 pk) ∧ W.cell? ⟨wr.heap.size, 2, none⟩ = some (.string pv))
              ((first | exact HK.out _ _ _ T3.out | exact HK.out _ _ _ T1p.out | exact HK.out _ _ _ T1r.out | exact HK.out _ _ _ T0.out | assumption))
              ((first
                | (go_at_call 20; refine (HA.out _ _ T1r.out).mono ?_; rintro e w3 ⟨rfl, T3⟩; replace T3 := Lib.hid T3)
                | (go_at_call 20; refine (HA.out _ _ T0.out).mono ?_; rintro e w2 ⟨rfl, T1p⟩; replace T1p := Lib.hid T1p)
                | (go_at_call 21; refine (HR.out _ _ T1p.out).mono ?_; rintro e w3 ⟨rfl, T3⟩; replace T3 := Lib.hid T3)
                | (go_at_call 21; refine (HR.out _ _ T0.out).mono ?_; rintro e w2 ⟨rfl, T1r⟩; replace T1r := Lib.hid T1r)))
            all_goals
              have x3 := T3.out.cells.2.1
              simp only at x3
              go_wp2_with (first
                | (go_at_call 15; refine (T5.out.show0 _ hkk.out).mono ?_; rintro e w6 ⟨rfl, T6⟩; replace T6 := Lib.hid T6)
                | (go_at_call 15; refine (T4.out.show _ hwf.out).mono ?_; rintro e w5 ⟨rfl, T5⟩; replace T5 := Lib.hid T5)
                | (go_at_call 15; refine (T3.out.show _ hkk.out).mono ?_; rintro e w4 ⟨rfl, T4⟩; replace T4 := Lib.hid T4; have x2 := T4.out.cells.2.1; simp only at x2))
              go_roundw
              case rel => exact hfin.out _ _ _ _ _ _ _ _ T6.out.d
              case measure => simp [nOf]; omega
          by_cases h3 : pd = 3
          · subst h3
            go_wp2_with (first
              | (go_at_call 22; refine T0.out.cp1.mono ?_; rintro e w2 ⟨sb1, mb1, rfl, hA1, q1, q2, hb2⟩)
              | (go_at_call 23; refine (T0.out.cp2 hA1 q1 q2 hb2).mono ?_; rintro e w3 ⟨rb1, rfl, T3⟩; have x3 := T3.cells.2.1; simp only at x3; replace T3 := Lib.hid T3)
              | (go_at_call 15; refine (T5.out.show0 _ hkk.out).mono ?_; rintro e w6 ⟨rfl, T6⟩; replace T6 := Lib.hid T6)
              | (go_at_call 15; refine (T4.out.show _ hwf.out).mono ?_; rintro e w5 ⟨rfl, T5⟩; replace T5 := Lib.hid T5)
              | (go_at_call 15; refine (T3.out.show _ hkk.out).mono ?_; rintro e w4 ⟨rfl, T4⟩; replace T4 := Lib.hid T4; have x2 := T4.out.cells.2.1; simp only at x2))
            go_roundw
            case rel => exact hfin.out _ _ _ _ _ _ _ _ T6.out.d
            case measure => simp [nOf]; omega
          have g0 : (pd == 0) = false := by simpa using h0
          have g0' : (pd = 0) = False := by simpa using h0
          have g1 : (pd == 1) = false := by simpa using h1
          have g1' : (pd = 1) = False := by simpa using h1
          have g2 : (pd == 2) = false := by simpa using h2
          have g2' : (pd = 2) = False := by simpa using h2
          have g3 : (pd == 3) = false := by simpa using h3
          have g3' : (pd = 3) = False := by simpa using h3
          clear h0 h1 h2 h3
          have T3 := T0
          clear T0
          go_wp2_with (first
            | (go_at_call 15; refine (T5.out.show0 _ hkk.out).mono ?_; rintro e w6 ⟨rfl, T6⟩; replace T6 := Lib.hid T6)
            | (go_at_call 15; refine (T4.out.show _ hwf.out).mono ?_; rintro e w5 ⟨rfl, T5⟩; replace T5 := Lib.hid T5)
            | (go_at_call 15; refine (T3.out.show _ hkk.out).mono ?_; rintro e w4 ⟨rfl, T4⟩; replace T4 := Lib.hid T4; have x2 := T4.out.cells.2.1; simp only at x2))
          go_roundw
          case rel => exact hfin.out _ _ _ _ _ _ _ _ T6.out.d
          case measure => simp [nOf]; omega
      · have hjl : j = len := by omega
        subst hjl
        have i3 : decide ((j : Int) < (j : Int)) = false := by simp
        have hbel := hD.bel
        clear hD
        go_wp2_with (go_at_call 12; refine (works_any _).mono ?_; rintro e w2 ⟨rfl, hb2⟩)
        go_ret
        exact ⟨rfl, below2 hbel hb2⟩
theorem plays_law (a : Option Addr) (len cap : Nat) (S : Nat → Sp) (k : Int) (w : World) (h : IsSt w a len cap S) (hk : (Lit.int .i64 k).wf = true) :
    Calls Try.prog 3 #[.slice a len cap, .int .i64 k] w (Yes w) :=
  plays_any a len cap S k w h hk
end Go.Proofs.Ytgeejkedljhcoaa.Slt
