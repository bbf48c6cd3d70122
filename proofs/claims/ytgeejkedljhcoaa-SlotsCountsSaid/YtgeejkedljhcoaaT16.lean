/- SlotsCounts. -/
import Derived.Test.YtgeejkedljhcoaaT15
namespace Go.Proofs.Ytgeejkedljhcoaa.Slt
open Go.RowKit Go.Maps Go.Lib Go.ChangeShapes
set_option linter.unusedVariables false
set_option linter.unusedSimpArgs false
set_option maxRecDepth 100000

set_option maxHeartbeats 16000000 in
theorem counts_law (x a : Nat) (hx : x < 18446744073709551616) (ha : a ≤ 255) (w : World) :
    Calls Try.prog 6 #[.int .u64 (x : Nat), .int .u8 (a : Nat)] w (Yes w) := by
  have HWk := Lib.hid (fun W => works_any W)
  have HN := Lib.hid (new_w w w (Below.refl _ _))
  have hvr : ∀ i, i < 65536 → (vr i).size ≤ 65536 := fun i h => by rw [vr_size]; omega
  obtain ⟨vf, hvf⟩ : ∃ vf : Nat → ByteArray, vf = fun i => if i < 64 then vr i else ⟨#[]⟩ := ⟨_, rfl⟩
  have hv1 : ∀ i, i < 64 → vf i = vr i := fun i h => by rw [hvf]; exact if_pos h
  have hvs : ∀ i, (vf i).size ≤ 65536 := fun i => by
    rw [hvf]
    show (if i < 64 then vr i else ⟨#[]⟩).size ≤ 65536
    split
    · exact hvr i (by omega)
    · exact Nat.zero_le _
  clear hvf hvr
  replace hv1 := Lib.hid hv1
  replace hvs := Lib.hid hvs
  have hsg : IntKind.u64.signed = false := rfl
  have e4 : IntKind.i64.wrap (a : Int) = a := by rw [IntKind.wrap_i64]; omega
  go_enter Try.func6, Try.ntmps6
  go_wp2_with (go_at_call 13; refine HN.out.mono ?_; rintro e W1 ⟨sb, mb, rfl, hN1, _⟩)
  have hA0 : WAt w sb mb (setN x vf 0) W1 := hN1
  replace hA0 := Lib.hid hA0
  clear hN1 HN
  go_loopw [16] (fun i wr => ∃ k : Nat, k ≤ 64 ∧ i = .int .i64 k ∧ WAt w sb mb (setN x vf k) wr) (fun i _ => 64 - nOf i)
  case atStart => exact ⟨0, Nat.zero_le _, rfl, hA0.out⟩
  case round =>
    clear hA0
    obtain ⟨k, hk, rfl, hA⟩ := hrel
    by_cases hlt : k < 64
    · have i1 : decide ((k : Int) < 64) = true := by simp; omega
      have p2 : 0 ≤ (k : Int) := by omega
      have p3 : (k : Int) < 64 := by omega
      have hsr := shr_nat x k
      have hz : x / 2 ^ k < 18446744073709551616 := Nat.lt_of_le_of_lt (Nat.div_le_self _ _) hx
      have hbt := bit_one x k
      obtain ⟨_, _, _, hP⟩ := set_facts (bt := fun i => x.testBit i) hvs.out k (by omega)
      have hP := hP (by omega)
      have hnx : setN x vf (k + 1) = if x.testBit k then putS (setN x vf k) k (vf k) else setN x vf k := rfl
      generalize x / 2 ^ k = z at *
      have hb1 := and_1 z hz
      have hz2 : z % 2 < 2 := Nat.mod_lt _ (by decide)
      generalize z % 2 = rr at *
      have hw : IntKind.i64.wrap ((k : Int) + 1) = (k : Int) + 1 := by rw [IntKind.wrap_i64]; omega
      replace hA := Lib.hid hA
      by_cases hr : rr = 1
      · subst hr
        rw [decide_eq_true rfl] at hbt
        rw [hbt, if_pos rfl] at hnx
        have HR := Lib.hid (fun W => rep_any k W (by omega))
        rw [← hv1.out k hlt] at HR
        replace hnx := Lib.hid hnx
        replace hP := Lib.hid hP
        clear hbt hz
        go_wp2_with (first
          | (go_at_call 30; refine (HR.out _).mono ?_; rintro e W3 ⟨rfl, hb3⟩; have hA3 := hA.out.later hb3)
          | (go_at_call 16; refine (hA3.put k (vf k) hP.out hnx.out.symm).mono ?_; rintro e W4 ⟨rfl, hA4, _⟩))
        go_roundw
        case rel => exact ⟨k + 1, by omega, by go_num, hA4⟩
        case measure => simp [nOf]; omega
      · have hr0 : rr = 0 := by omega
        subst hr0
        rw [decide_eq_false (by omega)] at hbt
        rw [hbt, if_neg (by decide)] at hnx
        replace hnx := Lib.hid hnx
        clear hbt hz hP hr
        go_wp2
        go_roundw
        case rel => exact ⟨k + 1, by omega, by go_num, by rw [hnx.out]; exact hA.out⟩
        case measure => simp [nOf]; omega
    · have hk64 : k = 64 := by omega
      subst hk64
      have i1 : decide (((64 : Nat) : Int) < 64) = false := by decide
      obtain ⟨hO, hb0, _, _⟩ := set_facts (bt := fun i => x.testBit i) hvs.out 64 (by omega)
      change OkS (setN x vf 64) at hO
      change (setN x vf 64).b = 0 at hb0
      have hgl := Lib.hid (fun (u B : Nat) (hu : u ≤ 64) (hB : B ≤ u) (hU : uptoV (setN x vf 64) = u) => set_gaps hx hvs.out hu hB hU)
      have hup := Lib.hid (fun (u : Nat) (hu : u ≤ 64) (h1 : ∀ i, i < u → x.testBit i = true) (h2 : u < 64 → x.testBit u = false) => set_upto hvs.out hu h1 h2)
      have hgt := Lib.hid (fun j => (set_facts (bt := fun i => x.testBit i) hvs.out 64 (by omega)).2.2.1 j)
      change Hid (∀ j : Int, getM (setN x vf 64).M j = _) at hgt
      generalize setN x vf 64 = s at *
      replace hA := Lib.hid hA
      replace hO := Lib.hid hO
      replace hb0 := Lib.hid hb0
      clear hlt
      go_wp2
      go_loop [7] (fun i => ∃ u : Nat, u ≤ 64 ∧ i = .int .i64 u ∧ ∀ j, j < u → x.testBit j = true) (fun i => 64 - nOf i)
      case atStart => exact ⟨0, Nat.zero_le _, rfl, fun j h => by omega⟩
      case round =>
        obtain ⟨u, hu, rfl, hall⟩ := hrel
        replace hall := Lib.hid hall
        have stop : Hid (∀ (hn : u < 64 → x.testBit u = false), uptoV s = u) := Lib.hid fun hn => hup.out u hu hall.out hn
        have hnd : Hid (∀ i, i < u → x.testBit i = true) := hall
        by_cases hlt : u < 64
        · have i1 : decide ((u : Int) < 64) = true := by simp; omega
          have p2 : 0 ≤ (u : Int) := by omega
          have p3 : (u : Int) < 64 := by omega
          have hsr := shr_nat x u
          have hz : x / 2 ^ u < 18446744073709551616 := Nat.lt_of_le_of_lt (Nat.div_le_self _ _) hx
          have hbt := bit_one x u
          generalize x / 2 ^ u = z at *
          have hb1 := and_1 z hz
          have hz2 : z % 2 < 2 := Nat.mod_lt _ (by decide)
          generalize z % 2 = rr at *
          have hw : IntKind.i64.wrap ((u : Int) + 1) = (u : Int) + 1 := by rw [IntKind.wrap_i64]; omega
          by_cases hr : rr = 1
          · subst hr
            rw [decide_eq_true rfl] at hbt
            have hall2 : Hid (∀ j, j < u + 1 → x.testBit j = true) := Lib.hid fun j hj => by
              by_cases e : j = u
              · rw [e]; exact hbt
              · exact hall.out j (by omega)
            clear hbt hz
            go_wp2
            go_round
            case rel => exact ⟨u + 1, by omega, by go_num, hall2.out⟩
            case measure => simp [nOf]; omega
          · have hr0 : rr = 0 := by omega
            subst hr0
            rw [decide_eq_false (by omega)] at hbt
            have hU := stop.out (fun _ => hbt)
            clear hbt hz hr
            clear hw
            have hS1 := Lib.hid (hA.out.upto hU)
            have hB0 : a % (u + 1) ≤ u := by have := Nat.mod_lt a (show 0 < u + 1 by omega); omega
            have e5 : IntKind.i64.wrap ((u : Int) + 1) = ((u + 1 : Nat) : Int) := by rw [IntKind.wrap_i64]; omega
            have e6 : (a : Int).tmod ((u + 1 : Nat) : Int) = ((a % (u + 1) : Nat) : Int) := (Int.ofNat_tmod a (u + 1)).symm
            have e7 : IntKind.i64.wrap ((a % (u + 1) : Nat) : Int) = ((a % (u + 1) : Nat) : Int) := by rw [IntKind.wrap_i64]; omega
            obtain ⟨u1, hu1⟩ : ∃ u1, u + 1 = u1 := ⟨_, rfl⟩
            rw [hu1] at e5 e6 e7 hB0
            have n1 : ((u1 : Int) == 0) = false := by simp; omega
            have n2 : (u1 == 0) = false := by simp; omega
            have n3 : ((u1 : Int) = 0) = False := by simp; omega
            have n4 : (u1 = 0) = False := by simp; omega
            generalize a % u1 = B at *
            have hF0 : forE s B = 0 := by unfold forE; rw [if_pos ⟨by omega, by omega⟩, if_neg (by rw [hU]; omega)]
            have hF1 : forS s B = rsS s B := by unfold forS; rw [if_pos hF0]
            have HF := Lib.hid (hA.out.forget (B : Int) hF0 hF1)
            have hU2 : uptoV (rsS s B) = u := by rw [rs_upto hO.out (by rw [hU]; omega), hU]
            have hbB : (rsS s B).b = (B : Int) := by show max s.b (B : Int) = _; rw [hb0.out]; omega
            have hO2 : OkS (rsS s B) := ok_rs hO.out (by omega)
            have hGV : gapV (rsS s B) = wl x u (64 - u) := hgl.out u B hu hB0 hU
            have hG0 : 0 < (wl x u (64 - u)).length → (wl x u (64 - u))[0]? = some (u : Int) := fun h => by
              have := gap_first hO2 (by rw [hGV]; exact h)
              rw [hGV, hU2] at this
              exact this
            have hPl := pre_len hO2
            rw [hU2, hbB] at hPl
            have hPg : ∀ i : Nat, i < u - B → (preV (rsS s B))[i]? = some (vf (B + i)) := fun i hi => by
              rw [pre_get hO2, hbB, if_pos (by rw [hU2]; omega), rs_get hO.out, if_pos (by omega), hgt.out, if_pos ⟨by omega, by omega, by
                have := hall.out (B + i) (by omega)
                rw [show ((B : Int) + (i : Nat)).toNat = B + i by omega]; exact this⟩]
              show some (vf ((B : Int) + (i : Nat)).toNat) = _
              rw [show ((B : Int) + (i : Nat)).toNat = B + i by omega]
            have HP := Lib.hid (fun W (h : WAt w sb mb (rsS s B) W) => h.prefixs rfl)
            have HG := Lib.hid (fun W (h : WAt w sb mb (rsS s B) W) => h.gaps hGV)
            have HU2 := Lib.hid (fun W (h : WAt w sb mb (rsS s B) W) => h.upto hU2)
            have HB2 := Lib.hid (fun W (h : WAt w sb mb (rsS s B) W) => h.base hbB)
            generalize preV (rsS s B) = PV at *
            obtain ⟨pl, hpl⟩ : ∃ pl, PV.length = pl := ⟨_, rfl⟩
            have hplu : pl = u - B := by omega
            rw [← hplu] at hPg
            have e8 : IntKind.i64.wrap ((u : Int) - (B : Int)) = (pl : Int) := by rw [IntKind.wrap_i64]; omega
            replace hPg := Lib.hid hPg
            replace hG0 := Lib.hid hG0
            replace hU := Lib.hid hU
            replace hu1 := Lib.hid hu1
            replace hplu := Lib.hid hplu
            replace hpl := Lib.hid hpl
            obtain ⟨GL, hGL⟩ : ∃ GL, wl x u (64 - u) = GL := ⟨_, rfl⟩
            rw [hGL] at HG hG0
            obtain ⟨gl, hgl2⟩ : ∃ gl, GL.length = gl := ⟨_, rfl⟩
            have hgl3 : gl ≤ 64 := by have := wl_len x u (64 - u); rw [hGL, hgl2] at this; omega
            replace hGL := Lib.hid hGL
            replace hgl2 := Lib.hid hgl2
            clear hF0 hF1 hU2 hbB hO2 hGV hPl hgl hup hgt stop hO hb0
            go_wp2_with (first
              | (go_at_call 18; refine HF.out.mono ?_; rintro e W5 ⟨rfl, hA5, _⟩)
              | (have _ := hA5; go_at_call 25; refine (HU2.out _ hA5).mono ?_; rintro e W6 ⟨rfl, rfl⟩)
              | (go_at_call 25; refine hS1.out.mono ?_; rintro e W6 ⟨rfl, rfl⟩)
              | (go_at_call 26; refine (HB2.out _ hA5).mono ?_; rintro e W6 ⟨rfl, rfl⟩)
              | (go_at_call 27; refine (HP.out _ hA5).mono ?_; rintro e W7 ⟨v7, rfl, hO7, hA7, hb7⟩; obtain ⟨a7, c7, rfl⟩ := rows_form hO7; replace hO7 := Lib.hid hO7; rw [hpl.out])
              | (go_at_call 28; refine (HG.out _ hA7).mono ?_; rintro e W8 ⟨v8, rfl, hO8, hA8, hb8⟩; obtain ⟨a8, c8, rfl⟩ := rows_form hO8; replace hO8 := Lib.hid hO8; rw [hgl2.out]))
            have hPc : Hid (∀ i : Nat, i < pl → ∃ g, a7 = some ⟨g, 0, none⟩ ∧ W8.cell? ⟨g, i, none⟩ = some (.string (vf (B + i)))) := Lib.hid fun i hi => by
              obtain ⟨g, cap', hv, _, hg, hc⟩ := hO7.out.cells (by rw [hpl.out]; omega)
              refine ⟨g, by injection hv, (hb8.cell (p := ⟨g, i, none⟩) hg).trans (hc i _ (hPg.out i hi))⟩
            have hb8w := Lib.hid hA8.bel
            replace hO8 := Lib.hid hO8.out
            clear hA hA5 hA7 hA8 hO7 hb7 hb8 HP HG HU2 HB2 HF hS1
            go_loop [83] (fun i => ∃ k : Nat, k ≤ pl ∧ i = .int .i64 k) (fun i => pl - nOf i)
            case atStart => exact ⟨0, Nat.zero_le _, rfl⟩
            case round =>
              obtain ⟨k, hk, rfl⟩ := hrel
              by_cases hkl : k < pl
              · obtain ⟨g, rfl, hc⟩ := hPc.out k hkl
                have p1 : decide ((k : Int) < (pl : Int)) = true := by simp; omega
                have p2 : (0 : Int) ≤ (k : Int) := by omega
                have p3 : (k : Int) < (pl : Int) := by omega
                have hw1 : IntKind.i64.wrap ((k : Int) + 1) = (k : Int) + 1 := by rw [IntKind.wrap_i64]; have := hplu.out; omega
                have hw2 : IntKind.i64.wrap ((B : Int) + (k : Int)) = (B : Int) + (k : Int) := by rw [IntKind.wrap_i64]; have := hplu.out; omega
                have hT : (vf (B + k)).size = B + k := by rw [hv1.out _ (by have := hplu.out; omega), vr_size]
                generalize vf (B + k) = T at *
                have hT2 : ((T.size : Nat) : Int) = (B : Int) + (k : Int) := by omega
                clear hT
                have hc3 : ((T.size : Int) != (B : Int) + (k : Int)) = false := by simp; omega
                clear hPc hkl
                go_wp2
                go_round
                case rel => exact ⟨k + 1, by omega, by go_num⟩
                case measure => simp [nOf]; omega
              · have hkp : k = pl := by omega
                subst hkp
                have p1 : decide ((k : Int) < (k : Int)) = false := by simp
                clear hPc hkl
                go_wp2
                go_loopw [13, 14] (fun l i wr => ∃ q : Nat, q ≤ 64 - u ∧ i = .int .i64 ((u + q : Nat) : Int) ∧ OwI W8.heap.size (wl x u q) l wr ∧ Below W8.heap.size W8 wr) (fun _ i _ => 64 - nOf i)
                case atStart => exact ⟨0, Nat.zero_le _, rfl, OwI.nil _ _, Below.refl _ _⟩
                case round =>
                  obtain ⟨q, hq, rfl, hOw, hbw⟩ := hrel
                  obtain ⟨n, hn⟩ : ∃ n, u + q = n := ⟨_, rfl⟩
                  have hwl1 : wl x u (q + 1) = wl x u q ++ (if x / 2 ^ n % 2 = 0 ∧ x / 2 ^ n ≠ 0 then [(n : Int)] else []) := by rw [← hn]; rfl
                  have hwll := wl_len x u q
                  rw [hn]
                  have hnq : Hid (∀ m : Int, m = (n : Int) + 1 → m = ((u + (q + 1) : Nat) : Int)) := Lib.hid fun m hm => by omega
                  have hn2 := Lib.hid hn
                  clear hn
                  by_cases hnl : n < 64
                  · have p2 : decide ((n : Int) < 64) = true := by simp; omega
                    have p3 : 0 ≤ (n : Int) := by omega
                    have p4 : (n : Int) < 64 := by omega
                    have hsr := shr_nat x n
                    have hz : x / 2 ^ n < 18446744073709551616 := Nat.lt_of_le_of_lt (Nat.div_le_self _ _) hx
                    generalize x / 2 ^ n = z2 at *
                    have hb1 := and_1 z2 hz
                    have hw1 : IntKind.i64.wrap ((n : Int) + 1) = (n : Int) + 1 := by rw [IntKind.wrap_i64]; omega
                    have hqq : q + 1 ≤ 64 - u := by have := hn2.out; omega
                    have hr3 : z2 % 2 = 0 ∨ z2 % 2 = 1 := by omega
                    generalize z2 % 2 = r2 at *
                    generalize hWL : wl x u q = WL at *
                    obtain ⟨la, lc, rfl⟩ := rows_form hOw
                    obtain ⟨m, hm⟩ : ∃ m, WL.length = m := ⟨_, rfl⟩
                    rw [hm]
                    rw [hm] at hOw hwll
                    clear hWL
                    replace hm := Lib.hid hm
                    replace hbw := Lib.hid hbw
                    rcases hr3 with hr3 | hr3
                    · subst hr3
                      by_cases hz0 : z2 = 0
                      · subst hz0
                        rw [if_neg (fun h => h.2 rfl), List.append_nil] at hwl1
                        replace hwl1 := Lib.hid hwl1
                        replace hOw := Lib.hid hOw
                        clear hz
                        go_wp2
                        go_roundw
                        case rel => exact ⟨q + 1, hqq, by rw [hnq.out _ rfl], by rw [hwl1.out]; exact hOw.out, hbw.out⟩
                        case measure => simp [nOf]; omega
                      · have z1 : ((z2 : Int) == 0) = false := by simp; omega
                        have z3 : ((z2 : Int) = 0) = False := by simp; omega
                        have z4 : (z2 = 0) = False := by simp; omega
                        have z5 : ((z2 : Int) != 0) = true := by simp; omega
                        rw [if_pos ⟨rfl, hz0⟩] at hwl1
                        have hOa := Lib.hid (rows_later (show wr.ownsRow W8.heap.size TI 1 _ m (ints WL) by have := hOw; unfold OwI at this; rw [hm.out] at this; exact this) (alloc_b wr (.cells #[.int .i64 n] TI)))
                        have hca := Lib.hid (heap_alloc_new wr (.cells #[.int .i64 n] TI))
                        have hBa := Lib.hid (hbw.out.alloc hbw.out.size (.cells #[.int .i64 n] TI))
                        have hsza := Lib.hid (show W8.heap.size ≤ (wr.alloc (.cells #[.int .i64 n] TI)).heap.size from hBa.out.size)
                        have hml := Lib.hid (show m ≤ 100000 by omega)
                        replace hwl1 := Lib.hid hwl1
                        replace hwll := Lib.hid hwll
                        clear hOw hz hz0
                        go_wp2_with (at_builtin; refine wpList_append_m rfl _ _ rfl W8.heap.size _ m _ rfl hOa.out wr.heap.size _ (n : Int) rfl hca.out hml.out hsza.out ?_; intro v5 w5 hO5 hg5)
                        go_roundw
                        case rel => exact ⟨q + 1, hqq, by rw [hnq.out _ rfl], by rw [hwl1.out]; unfold OwI; rw [List.length_append, ints_app, hm.out]; exact hO5, own_below hOa.out hg5 hBa.out (Nat.le_refl _)⟩
                        case measure => simp [nOf]; omega
                    · subst hr3
                      rw [if_neg (fun h => by have := h.1; omega), List.append_nil] at hwl1
                      replace hwl1 := Lib.hid hwl1
                      replace hOw := Lib.hid hOw
                      clear hz
                      go_wp2
                      go_roundw
                      case rel => exact ⟨q + 1, hqq, by rw [hnq.out _ rfl], by rw [hwl1.out]; exact hOw.out, hbw.out⟩
                      case measure => simp [nOf]; omega
                  · have hn64 : n = 64 := by have := hn2.out; omega
                    subst hn64
                    have p2 : decide (((64 : Nat) : Int) < 64) = false := by decide
                    have hqe : q = 64 - u := by have := hn2.out; omega
                    rw [hqe, hGL.out] at hOw
                    have hGl : GL.length = gl := hgl2.out
                    have hgi := hO8.later hbw
                    have hI1 := Lib.hid hgi.is
                    have hI2 := Lib.hid hOw.is
                    have hG0c : Hid (0 < gl → ∃ g, a8 = some ⟨g, 0, none⟩ ∧ g < wr.heap.size ∧ wr.cell? ⟨g, 0, none⟩ = some (.int .i64 u)) := Lib.hid fun h => by
                      obtain ⟨g, cap', hv, _, hg, hc⟩ := hgi.cells (by rw [hGl]; exact h)
                      exact ⟨g, by injection hv, hg, hc 0 _ (hG0.out (by rw [hGl]; exact h))⟩
                    obtain ⟨la, lc, rfl⟩ := rows_form hOw
                    have hbA := Lib.hid (hb8w.out.trans (hbw.mono hb8w.out.size))
                    rw [hGl] at hI1 hI2 ⊢
                    have hLen := Lib.hid (show GL.length ≤ 100000 by omega)
                    clear hOw hgi hbw hO8 hwll hwl1 hG0 hGl
                    by_cases hg0 : gl = 0
                    · subst hg0
                      clear hG0c
                      go_wp2_with (first
                        | (go_at_call 31; refine (equal_any _ _ GL GL _ hI1.out hI2.out hLen.out hLen.out).mono ?_; rintro e W10 ⟨rfl, hb10⟩; rw [eqLs_t])
                        | (go_at_call 12; refine (HWk.out _).mono ?_; rintro e W11 ⟨rfl, hb11⟩))
                      go_ret
                      exact ⟨rfl, (hbA.out.trans (hb10.mono hbA.out.size)).trans (hb11.mono (Nat.le_trans hbA.out.size hb10.size))⟩
                    · obtain ⟨g, rfl, hgl8, hgc⟩ := hG0c.out (by omega)
                      have g1 : ((gl : Int) == 0) = false := by simp; omega
                      have g2 : (gl == 0) = false := by simp; omega
                      have g3 : ((gl : Int) = 0) = False := by simp; omega
                      have g4 : (gl = 0) = False := by simp; omega
                      have g5 : (0 : Int) < (gl : Int) := by omega
                      have g6 : 0 < gl := by omega
                      have hgc2 := Lib.hid (fun W (hb : Below wr.heap.size wr W) => (hb.cell (p := ⟨g, 0, none⟩) hgl8).trans hgc)
                      clear hG0c hg0 hgc
                      go_wp2_with (first
                        | (go_at_call 31; refine (equal_any _ _ GL GL _ hI1.out hI2.out hLen.out hLen.out).mono ?_; rintro e W10 ⟨rfl, hb10⟩; rw [eqLs_t]; have hc10 := hgc2.out _ hb10)
                        | (go_at_call 12; refine (HWk.out _).mono ?_; rintro e W11 ⟨rfl, hb11⟩))
                      go_ret
                      exact ⟨rfl, (hbA.out.trans (hb10.mono hbA.out.size)).trans (hb11.mono (Nat.le_trans hbA.out.size hb10.size))⟩
        · have i1 : decide ((u : Int) < 64) = false := by simp; omega
          have hU := stop.out (fun h => absurd h hlt)
          clear hlt
          have hS1 := Lib.hid (hA.out.upto hU)
          have hB0 : a % (u + 1) ≤ u := by have := Nat.mod_lt a (show 0 < u + 1 by omega); omega
          have e5 : IntKind.i64.wrap ((u : Int) + 1) = ((u + 1 : Nat) : Int) := by rw [IntKind.wrap_i64]; omega
          have e6 : (a : Int).tmod ((u + 1 : Nat) : Int) = ((a % (u + 1) : Nat) : Int) := (Int.ofNat_tmod a (u + 1)).symm
          have e7 : IntKind.i64.wrap ((a % (u + 1) : Nat) : Int) = ((a % (u + 1) : Nat) : Int) := by rw [IntKind.wrap_i64]; omega
          obtain ⟨u1, hu1⟩ : ∃ u1, u + 1 = u1 := ⟨_, rfl⟩
          rw [hu1] at e5 e6 e7 hB0
          have n1 : ((u1 : Int) == 0) = false := by simp; omega
          have n2 : (u1 == 0) = false := by simp; omega
          have n3 : ((u1 : Int) = 0) = False := by simp; omega
          have n4 : (u1 = 0) = False := by simp; omega
          generalize a % u1 = B at *
          have hF0 : forE s B = 0 := by unfold forE; rw [if_pos ⟨by omega, by omega⟩, if_neg (by rw [hU]; omega)]
          have hF1 : forS s B = rsS s B := by unfold forS; rw [if_pos hF0]
          have HF := Lib.hid (hA.out.forget (B : Int) hF0 hF1)
          have hU2 : uptoV (rsS s B) = u := by rw [rs_upto hO.out (by rw [hU]; omega), hU]
          have hbB : (rsS s B).b = (B : Int) := by show max s.b (B : Int) = _; rw [hb0.out]; omega
          have hO2 : OkS (rsS s B) := ok_rs hO.out (by omega)
          have hGV : gapV (rsS s B) = wl x u (64 - u) := hgl.out u B hu hB0 hU
          have hG0 : 0 < (wl x u (64 - u)).length → (wl x u (64 - u))[0]? = some (u : Int) := fun h => by
            have := gap_first hO2 (by rw [hGV]; exact h)
            rw [hGV, hU2] at this
            exact this
          have hPl := pre_len hO2
          rw [hU2, hbB] at hPl
          have hPg : ∀ i : Nat, i < u - B → (preV (rsS s B))[i]? = some (vf (B + i)) := fun i hi => by
            rw [pre_get hO2, hbB, if_pos (by rw [hU2]; omega), rs_get hO.out, if_pos (by omega), hgt.out, if_pos ⟨by omega, by omega, by
              have := hall.out (B + i) (by omega)
              rw [show ((B : Int) + (i : Nat)).toNat = B + i by omega]; exact this⟩]
            show some (vf ((B : Int) + (i : Nat)).toNat) = _
            rw [show ((B : Int) + (i : Nat)).toNat = B + i by omega]
          have HP := Lib.hid (fun W (h : WAt w sb mb (rsS s B) W) => h.prefixs rfl)
          have HG := Lib.hid (fun W (h : WAt w sb mb (rsS s B) W) => h.gaps hGV)
          have HU2 := Lib.hid (fun W (h : WAt w sb mb (rsS s B) W) => h.upto hU2)
          have HB2 := Lib.hid (fun W (h : WAt w sb mb (rsS s B) W) => h.base hbB)
          generalize preV (rsS s B) = PV at *
          obtain ⟨pl, hpl⟩ : ∃ pl, PV.length = pl := ⟨_, rfl⟩
          have hplu : pl = u - B := by omega
          rw [← hplu] at hPg
          have e8 : IntKind.i64.wrap ((u : Int) - (B : Int)) = (pl : Int) := by rw [IntKind.wrap_i64]; omega
          replace hPg := Lib.hid hPg
          replace hG0 := Lib.hid hG0
          replace hU := Lib.hid hU
          replace hu1 := Lib.hid hu1
          replace hplu := Lib.hid hplu
          replace hpl := Lib.hid hpl
          obtain ⟨GL, hGL⟩ : ∃ GL, wl x u (64 - u) = GL := ⟨_, rfl⟩
          rw [hGL] at HG hG0
          obtain ⟨gl, hgl2⟩ : ∃ gl, GL.length = gl := ⟨_, rfl⟩
          have hgl3 : gl ≤ 64 := by have := wl_len x u (64 - u); rw [hGL, hgl2] at this; omega
          replace hGL := Lib.hid hGL
          replace hgl2 := Lib.hid hgl2
          clear hF0 hF1 hU2 hbB hO2 hGV hPl hgl hup hgt stop hO hb0
          go_wp2_with (first
            | (go_at_call 18; refine HF.out.mono ?_; rintro e W5 ⟨rfl, hA5, _⟩)
            | (have _ := hA5; go_at_call 25; refine (HU2.out _ hA5).mono ?_; rintro e W6 ⟨rfl, rfl⟩)
            | (go_at_call 25; refine hS1.out.mono ?_; rintro e W6 ⟨rfl, rfl⟩)
            | (go_at_call 26; refine (HB2.out _ hA5).mono ?_; rintro e W6 ⟨rfl, rfl⟩)
            | (go_at_call 27; refine (HP.out _ hA5).mono ?_; rintro e W7 ⟨v7, rfl, hO7, hA7, hb7⟩; obtain ⟨a7, c7, rfl⟩ := rows_form hO7; replace hO7 := Lib.hid hO7; rw [hpl.out])
            | (go_at_call 28; refine (HG.out _ hA7).mono ?_; rintro e W8 ⟨v8, rfl, hO8, hA8, hb8⟩; obtain ⟨a8, c8, rfl⟩ := rows_form hO8; replace hO8 := Lib.hid hO8; rw [hgl2.out]))
          have hPc : Hid (∀ i : Nat, i < pl → ∃ g, a7 = some ⟨g, 0, none⟩ ∧ W8.cell? ⟨g, i, none⟩ = some (.string (vf (B + i)))) := Lib.hid fun i hi => by
            obtain ⟨g, cap', hv, _, hg, hc⟩ := hO7.out.cells (by rw [hpl.out]; omega)
            refine ⟨g, by injection hv, (hb8.cell (p := ⟨g, i, none⟩) hg).trans (hc i _ (hPg.out i hi))⟩
          have hb8w := Lib.hid hA8.bel
          replace hO8 := Lib.hid hO8.out
          clear hA hA5 hA7 hA8 hO7 hb7 hb8 HP HG HU2 HB2 HF hS1
          go_loop [83] (fun i => ∃ k : Nat, k ≤ pl ∧ i = .int .i64 k) (fun i => pl - nOf i)
          case atStart => exact ⟨0, Nat.zero_le _, rfl⟩
          case round =>
            obtain ⟨k, hk, rfl⟩ := hrel
            by_cases hkl : k < pl
            · obtain ⟨g, rfl, hc⟩ := hPc.out k hkl
              have p1 : decide ((k : Int) < (pl : Int)) = true := by simp; omega
              have p2 : (0 : Int) ≤ (k : Int) := by omega
              have p3 : (k : Int) < (pl : Int) := by omega
              have hw1 : IntKind.i64.wrap ((k : Int) + 1) = (k : Int) + 1 := by rw [IntKind.wrap_i64]; have := hplu.out; omega
              have hw2 : IntKind.i64.wrap ((B : Int) + (k : Int)) = (B : Int) + (k : Int) := by rw [IntKind.wrap_i64]; have := hplu.out; omega
              have hT : (vf (B + k)).size = B + k := by rw [hv1.out _ (by have := hplu.out; omega), vr_size]
              generalize vf (B + k) = T at *
              have hT2 : ((T.size : Nat) : Int) = (B : Int) + (k : Int) := by omega
              clear hT
              have hc3 : ((T.size : Int) != (B : Int) + (k : Int)) = false := by simp; omega
              clear hPc hkl
              go_wp2
              go_round
              case rel => exact ⟨k + 1, by omega, by go_num⟩
              case measure => simp [nOf]; omega
            · have hkp : k = pl := by omega
              subst hkp
              have p1 : decide ((k : Int) < (k : Int)) = false := by simp
              clear hPc hkl
              go_wp2
              go_loopw [13, 14] (fun l i wr => ∃ q : Nat, q ≤ 64 - u ∧ i = .int .i64 ((u + q : Nat) : Int) ∧ OwI W8.heap.size (wl x u q) l wr ∧ Below W8.heap.size W8 wr) (fun _ i _ => 64 - nOf i)
              case atStart => exact ⟨0, Nat.zero_le _, rfl, OwI.nil _ _, Below.refl _ _⟩
              case round =>
                obtain ⟨q, hq, rfl, hOw, hbw⟩ := hrel
                obtain ⟨n, hn⟩ : ∃ n, u + q = n := ⟨_, rfl⟩
                have hwl1 : wl x u (q + 1) = wl x u q ++ (if x / 2 ^ n % 2 = 0 ∧ x / 2 ^ n ≠ 0 then [(n : Int)] else []) := by rw [← hn]; rfl
                have hwll := wl_len x u q
                rw [hn]
                have hnq : Hid (∀ m : Int, m = (n : Int) + 1 → m = ((u + (q + 1) : Nat) : Int)) := Lib.hid fun m hm => by omega
                have hn2 := Lib.hid hn
                clear hn
                by_cases hnl : n < 64
                · have p2 : decide ((n : Int) < 64) = true := by simp; omega
                  have p3 : 0 ≤ (n : Int) := by omega
                  have p4 : (n : Int) < 64 := by omega
                  have hsr := shr_nat x n
                  have hz : x / 2 ^ n < 18446744073709551616 := Nat.lt_of_le_of_lt (Nat.div_le_self _ _) hx
                  generalize x / 2 ^ n = z2 at *
                  have hb1 := and_1 z2 hz
                  have hw1 : IntKind.i64.wrap ((n : Int) + 1) = (n : Int) + 1 := by rw [IntKind.wrap_i64]; omega
                  have hqq : q + 1 ≤ 64 - u := by have := hn2.out; omega
                  have hr3 : z2 % 2 = 0 ∨ z2 % 2 = 1 := by omega
                  generalize z2 % 2 = r2 at *
                  generalize hWL : wl x u q = WL at *
                  obtain ⟨la, lc, rfl⟩ := rows_form hOw
                  obtain ⟨m, hm⟩ : ∃ m, WL.length = m := ⟨_, rfl⟩
                  rw [hm]
                  rw [hm] at hOw hwll
                  clear hWL
                  replace hm := Lib.hid hm
                  replace hbw := Lib.hid hbw
                  rcases hr3 with hr3 | hr3
                  · subst hr3
                    by_cases hz0 : z2 = 0
                    · subst hz0
                      rw [if_neg (fun h => h.2 rfl), List.append_nil] at hwl1
                      replace hwl1 := Lib.hid hwl1
                      replace hOw := Lib.hid hOw
                      clear hz
                      go_wp2
                      go_roundw
                      case rel => exact ⟨q + 1, hqq, by rw [hnq.out _ rfl], by rw [hwl1.out]; exact hOw.out, hbw.out⟩
                      case measure => simp [nOf]; omega
                    · have z1 : ((z2 : Int) == 0) = false := by simp; omega
                      have z3 : ((z2 : Int) = 0) = False := by simp; omega
                      have z4 : (z2 = 0) = False := by simp; omega
                      have z5 : ((z2 : Int) != 0) = true := by simp; omega
                      rw [if_pos ⟨rfl, hz0⟩] at hwl1
                      have hOa := Lib.hid (rows_later (show wr.ownsRow W8.heap.size TI 1 _ m (ints WL) by have := hOw; unfold OwI at this; rw [hm.out] at this; exact this) (alloc_b wr (.cells #[.int .i64 n] TI)))
                      have hca := Lib.hid (heap_alloc_new wr (.cells #[.int .i64 n] TI))
                      have hBa := Lib.hid (hbw.out.alloc hbw.out.size (.cells #[.int .i64 n] TI))
                      have hsza := Lib.hid (show W8.heap.size ≤ (wr.alloc (.cells #[.int .i64 n] TI)).heap.size from hBa.out.size)
                      have hml := Lib.hid (show m ≤ 100000 by omega)
                      replace hwl1 := Lib.hid hwl1
                      replace hwll := Lib.hid hwll
                      clear hOw hz hz0
                      go_wp2_with (at_builtin; refine wpList_append_m rfl _ _ rfl W8.heap.size _ m _ rfl hOa.out wr.heap.size _ (n : Int) rfl hca.out hml.out hsza.out ?_; intro v5 w5 hO5 hg5)
                      go_roundw
                      case rel => exact ⟨q + 1, hqq, by rw [hnq.out _ rfl], by rw [hwl1.out]; unfold OwI; rw [List.length_append, ints_app, hm.out]; exact hO5, own_below hOa.out hg5 hBa.out (Nat.le_refl _)⟩
                      case measure => simp [nOf]; omega
                  · subst hr3
                    rw [if_neg (fun h => by have := h.1; omega), List.append_nil] at hwl1
                    replace hwl1 := Lib.hid hwl1
                    replace hOw := Lib.hid hOw
                    clear hz
                    go_wp2
                    go_roundw
                    case rel => exact ⟨q + 1, hqq, by rw [hnq.out _ rfl], by rw [hwl1.out]; exact hOw.out, hbw.out⟩
                    case measure => simp [nOf]; omega
                · have hn64 : n = 64 := by have := hn2.out; omega
                  subst hn64
                  have p2 : decide (((64 : Nat) : Int) < 64) = false := by decide
                  have hqe : q = 64 - u := by have := hn2.out; omega
                  rw [hqe, hGL.out] at hOw
                  have hGl : GL.length = gl := hgl2.out
                  have hgi := hO8.later hbw
                  have hI1 := Lib.hid hgi.is
                  have hI2 := Lib.hid hOw.is
                  have hG0c : Hid (0 < gl → ∃ g, a8 = some ⟨g, 0, none⟩ ∧ g < wr.heap.size ∧ wr.cell? ⟨g, 0, none⟩ = some (.int .i64 u)) := Lib.hid fun h => by
                    obtain ⟨g, cap', hv, _, hg, hc⟩ := hgi.cells (by rw [hGl]; exact h)
                    exact ⟨g, by injection hv, hg, hc 0 _ (hG0.out (by rw [hGl]; exact h))⟩
                  obtain ⟨la, lc, rfl⟩ := rows_form hOw
                  have hbA := Lib.hid (hb8w.out.trans (hbw.mono hb8w.out.size))
                  rw [hGl] at hI1 hI2 ⊢
                  have hLen := Lib.hid (show GL.length ≤ 100000 by omega)
                  clear hOw hgi hbw hO8 hwll hwl1 hG0 hGl
                  by_cases hg0 : gl = 0
                  · subst hg0
                    clear hG0c
                    go_wp2_with (first
                      | (go_at_call 31; refine (equal_any _ _ GL GL _ hI1.out hI2.out hLen.out hLen.out).mono ?_; rintro e W10 ⟨rfl, hb10⟩; rw [eqLs_t])
                      | (go_at_call 12; refine (HWk.out _).mono ?_; rintro e W11 ⟨rfl, hb11⟩))
                    go_ret
                    exact ⟨rfl, (hbA.out.trans (hb10.mono hbA.out.size)).trans (hb11.mono (Nat.le_trans hbA.out.size hb10.size))⟩
                  · obtain ⟨g, rfl, hgl8, hgc⟩ := hG0c.out (by omega)
                    have g1 : ((gl : Int) == 0) = false := by simp; omega
                    have g2 : (gl == 0) = false := by simp; omega
                    have g3 : ((gl : Int) = 0) = False := by simp; omega
                    have g4 : (gl = 0) = False := by simp; omega
                    have g5 : (0 : Int) < (gl : Int) := by omega
                    have g6 : 0 < gl := by omega
                    have hgc2 := Lib.hid (fun W (hb : Below wr.heap.size wr W) => (hb.cell (p := ⟨g, 0, none⟩) hgl8).trans hgc)
                    clear hG0c hg0 hgc
                    go_wp2_with (first
                      | (go_at_call 31; refine (equal_any _ _ GL GL _ hI1.out hI2.out hLen.out hLen.out).mono ?_; rintro e W10 ⟨rfl, hb10⟩; rw [eqLs_t]; have hc10 := hgc2.out _ hb10)
                      | (go_at_call 12; refine (HWk.out _).mono ?_; rintro e W11 ⟨rfl, hb11⟩))
                    go_ret
                    exact ⟨rfl, (hbA.out.trans (hb10.mono hbA.out.size)).trans (hb11.mono (Nat.le_trans hbA.out.size hb10.size))⟩
theorem counts_any (a0 a1 : Int) (w : World) (w0 : (Lit.int .u64 a0).wf = true) (w1 : (Lit.int .u8 a1).wf = true) :
    Calls Try.prog 6 #[.int .u64 a0, .int .u8 a1] w (Yes w) := by
  have b0 := bounds_u64 w0
  have b1 := bounds_u8 w1
  obtain ⟨x, rfl⟩ := Int.eq_ofNat_of_zero_le b0.1
  obtain ⟨a, rfl⟩ := Int.eq_ofNat_of_zero_le b1.1
  exact counts_law x a (by have := b0.2; omega) (by have := b1.2; omega) w
end Go.Proofs.Ytgeejkedljhcoaa.Slt
