/- SlotsJumps. -/
import Derived.Test.YtgeejkedljhcoaaT18
import Derived.Deep.CutBlock
import Derived.Deep.CutRange
namespace Go.Proofs.Ytgeejkedljhcoaa.Slt
open Go.RowKit Go.Maps Go.Lib Go.ChangeShapes
set_option linter.unusedVariables false
set_option linter.unusedSimpArgs false
set_option maxRecDepth 100000

theorem rs_again {s : St} (u : Int) : rsS (rsS s u) u = rsS s u := by
  unfold rsS
  simp only
  rw [fr_fr, show max (max s.b u) u = max s.b u by omega, show max u u = u by omega]
theorem rs_base {s : St} (h : OkS s) : rsS s s.b = s := by
  obtain ⟨b, M⟩ := s
  unfold rsS
  simp only
  rw [show max b b = b by omega, fr_all (fun p hp => (h.ent p hp).1)]
set_option maxHeartbeats 16000000 in
theorem jumps_law (x a : Nat) (hx : x < 18446744073709551616) (ha : a ≤ 255) (w : World) :
    Calls Try.prog 8 #[.int .u64 (x : Nat), .int .u8 (a : Nat)] w (Yes w) := by
  have HWk := Lib.hid (fun W => works_any W)
  have HN := Lib.hid (fun W (hW : Below w.heap.size w W) => new_w w W hW)
  have hvs := Lib.hid chr_size
  have hsg : IntKind.u64.signed = false := rfl
  have e4 : IntKind.i64.wrap (a : Int) = a := by rw [IntKind.wrap_i64]; omega
  go_enter Try.func8, Try.ntmps8
  go_wp2_with fail
  go_at_call 13
  refine (HN.out w (Below.refl _ _)).mono ?_
  rintro e W1 ⟨sa, ma, rfl, hN1, hb1, _⟩
  go_wp2_with fail
  go_at_call 13
  refine (HN.out W1 hN1.bel).mono ?_
  rintro e W2 ⟨sb, mb, rfl, hN2, hb2, hs2, hm2⟩
  have hT0 : Two w sa ma sb mb (setN x chr 0) (setN x chr 0) W2 := ⟨hN1.later hb2, hN2, by have := hN1.ax.lt; omega⟩
  replace hT0 := Lib.hid hT0
  clear hN1 hN2 hb1 hb2 hs2 hm2 HN
  go_wp2
  go_loopw [16] (fun i wr => ∃ k : Nat, k ≤ 64 ∧ i = .int .i64 k ∧ Two w sa ma sb mb (setN x chr k) (setN x chr k) wr) (fun i _ => 64 - nOf i)
  case atStart => exact ⟨0, Nat.zero_le _, rfl, hT0.out⟩
  case round =>
    clear hT0
    obtain ⟨k, hk, rfl, hT⟩ := hrel
    by_cases hlt : k < 64
    · have i1 : decide ((k : Int) < 64) = true := by simp; omega
      have p2 : 0 ≤ (k : Int) := by omega
      have p3 : (k : Int) < 64 := by omega
      have hsr := shr_nat x k
      have hz : x / 2 ^ k < 18446744073709551616 := Nat.lt_of_le_of_lt (Nat.div_le_self _ _) hx
      have hbt := bit_one x k
      obtain ⟨_, _, _, hP⟩ := set_facts (bt := fun i => x.testBit i) hvs.out k (by omega)
      have hP := hP (by omega)
      have hnx : setN x chr (k + 1) = if x.testBit k then putS (setN x chr k) k (chr k) else setN x chr k := rfl
      generalize x / 2 ^ k = z at *
      have hb1 := and_1 z hz
      have hz2 : z % 2 < 2 := Nat.mod_lt _ (by decide)
      generalize z % 2 = rr at *
      have hw : IntKind.i64.wrap ((k : Int) + 1) = (k : Int) + 1 := by rw [IntKind.wrap_i64]; omega
      have hw2 : IntKind.u8.wrap (k : Int) = k := by rw [IntKind.wrap_u8]; omega
      replace hT := Lib.hid hT
      by_cases hr : rr = 1
      · subst hr
        rw [decide_eq_true rfl] at hbt
        rw [hbt, if_pos rfl] at hnx
        have hcv := Lib.hid (fun W c => conv_new W k (by omega) c)
        replace hnx := Lib.hid hnx
        replace hP := Lib.hid hP
        have hT3 := Lib.hid (hT.out.alloc (.cells #[.int .u8 (k : Nat)] TU8))
        have hc1 := hcv.out wr
        clear hbt hz hT
        go_wp2_with fail
        go_at_call 16
        refine (hT3.out.a.put k (chr k) hP.out hnx.out.symm).mono ?_
        rintro e W4 ⟨rfl, hA4, hk4⟩
        have hT4 := hT3.out.stepA hA4 hk4
        have hT5 := Lib.hid (hT4.alloc (.cells #[.int .u8 (k : Nat)] TU8))
        have hc2 := hcv.out W4
        clear hT3 hT4 hA4 hk4 hc1
        go_wp2_with fail
        go_at_call 16
        refine (hT5.out.b.put k (chr k) hP.out hnx.out.symm).mono ?_
        rintro e W6 ⟨rfl, hB6, hk6⟩
        have hT6 := hT5.out.stepB hB6 hk6
        clear hT5 hB6 hk6 hc2
        go_wp2
        go_roundw
        case rel => exact ⟨k + 1, by omega, by go_num, hT6⟩
        case measure => simp [nOf]; omega
      · have hr0 : rr = 0 := by omega
        subst hr0
        rw [decide_eq_false (by omega)] at hbt
        rw [hbt, if_neg (by decide)] at hnx
        replace hnx := Lib.hid hnx
        clear hbt hz hP hr
        go_wp2
        go_roundw
        case rel => exact ⟨k + 1, by omega, by go_num, by rw [hnx.out]; exact hT.out⟩
        case measure => simp [nOf]; omega
    · have hk64 : k = 64 := by omega
      subst hk64
      have i1 : decide (((64 : Nat) : Int) < 64) = false := by decide
      obtain ⟨hO, hb0, _, _⟩ := set_facts (bt := fun i => x.testBit i) hvs.out 64 (by omega)
      change OkS (setN x chr 64) at hO
      change (setN x chr 64).b = 0 at hb0
      have hgt := Lib.hid (fun j => (set_facts (bt := fun i => x.testBit i) hvs.out 64 (by omega)).2.2.1 j)
      change Hid (∀ j : Int, getM (setN x chr 64).M j = _) at hgt
      have hU64 : 0 ≤ uptoV (setN x chr 64) ∧ uptoV (setN x chr 64) ≤ 64 := by
        have h1 := upto_le hO
        rw [hb0] at h1
        refine ⟨h1.1, ?_⟩
        by_cases h : uptoV (setN x chr 64) ≤ 64
        · exact h
        · have h2 := upto_has (s := setN x chr 64) (k := 64) (by rw [hb0]; omega) (by omega)
          rw [hgt.out, if_neg (by omega)] at h2
          cases h2
      generalize setN x chr 64 = s at *
      obtain ⟨u, hu⟩ := Int.eq_ofNat_of_zero_le hU64.1
      have hu64 : u ≤ 64 := by omega
      have hUa := Lib.hid (hT.a.upto hu)
      obtain ⟨q, hq⟩ : ∃ q, 65 - u = q := ⟨_, rfl⟩
      have e5 : IntKind.i64.wrap (65 - (u : Int)) = (q : Int) := by rw [IntKind.wrap_i64]; omega
      have e6 : (a : Int).tmod (q : Int) = ((a % q : Nat) : Int) := (Int.ofNat_tmod a q).symm
      have hmod : a % q < q := Nat.mod_lt _ (by omega)
      have n1 : ((q : Int) == 0) = false := by simp; omega
      have n2 : (q == 0) = false := by simp; omega
      have n3 : ((q : Int) = 0) = False := by simp; omega
      have n4 : (q = 0) = False := by simp; omega
      generalize a % q = c at *
      obtain ⟨K, hK⟩ : ∃ K, u + c = K := ⟨_, rfl⟩
      have e8 : IntKind.i64.wrap (c : Int) = c := by rw [IntKind.wrap_i64]; omega
      have e7 : IntKind.i64.wrap ((u : Int) + (c : Int)) = (K : Int) := by rw [IntKind.wrap_i64]; omega
      have hK64 : u ≤ K ∧ K ≤ 64 := by omega
      replace hq := Lib.hid hq
      replace hK := Lib.hid hK
      have hE1 : jmpE s K = 0 := by unfold jmpE; rw [if_pos ⟨by omega, by omega⟩, if_neg (by rw [hu]; show ¬ (K : Int) < (u : Int); omega)]
      have hS1 : jmpS s K = rsS s K := by unfold jmpS; rw [if_pos hE1]
      have hOk : OkS (rsS s K) := ok_rs hO (by omega)
      have hbK : (rsS s K).b = (K : Int) := by show max s.b (K : Int) = _; rw [hb0]; omega
      have hleK := upto_le hOk
      rw [hbK] at hleK
      obtain ⟨U2, hU2⟩ := Int.eq_ofNat_of_zero_le (show 0 ≤ uptoV (rsS s K) by omega)
      rw [hU2] at hleK
      have hKU : K ≤ U2 ∧ U2 ≤ 4096 := by have h1 := hleK.1; have h2 := hleK.2; omega
      have hJ := Lib.hid (hT.a.jump K hE1 hS1)
      have hgt2 : Hid (∀ j : Nat, j < 64 → getM (rsS s K).M (j : Int) = if K ≤ j ∧ x.testBit j = true then some ⟨j, chr j⟩ else none) := Lib.hid fun j hj => by
        rw [rs_get hO, hgt.out]
        have hjn : ((j : Nat) : Int).toNat = j := by omega
        rw [hjn]
        by_cases h1 : (K : Int) ≤ (j : Int)
        · rw [if_pos h1]
          by_cases h2 : x.testBit j = true
          · rw [if_pos ⟨by omega, by omega, h2⟩, if_pos ⟨by omega, h2⟩]
          · rw [if_neg (fun h => h2 h.2.2), if_neg (fun h => h2 h.2)]
        · rw [if_neg h1, if_neg (fun h => h1 (by omega))]
      have HB2 := Lib.hid (fun W (h : WAt w sa ma (rsS s K) W) => h.base hbK)
      have HU2 := Lib.hid (fun W (h : WAt w sa ma (rsS s K) W) => h.upto hU2)
      have d1 : decide ((U2 : Int) < (K : Int)) = false := by simp; omega
      have d1b : decide (U2 < K) = false := by simp; omega
      have hw9 : IntKind.i64.wrap ((U2 : Int) - 1) = (U2 : Int) - 1 := by rw [IntKind.wrap_i64]; omega
      have hj2 : 0 < U2 → jmpE (rsS s K) ((U2 : Int) - 1) = 8 ∧ jmpS (rsS s K) ((U2 : Int) - 1) = rsS s K := fun h => by
        have h1 : jmpE (rsS s K) ((U2 : Int) - 1) = 8 := by unfold jmpE; rw [if_pos ⟨by omega, by omega⟩, if_pos (by rw [hU2]; show (U2 : Int) - 1 < (U2 : Int); omega)]
        exact ⟨h1, by unfold jmpS; rw [if_neg (by rw [h1]; decide)]⟩
      have hj3 : U2 = 0 → jmpE (rsS s K) (-1) = 2 ∧ jmpS (rsS s K) (-1) = rsS s K := fun h => by
        have h1 : jmpE (rsS s K) (-1) = 2 := by unfold jmpE; rw [if_neg (by omega)]
        exact ⟨h1, by unfold jmpS; rw [if_neg (by rw [h1]; decide)]⟩
      replace hj2 := Lib.hid hj2
      replace hj3 := Lib.hid hj3
      replace hE1 := Lib.hid hE1
      replace hS1 := Lib.hid hS1
      have hgf := Lib.hid (fun h => gap_first hOk h)
      have hgl4 := Lib.hid (gap_len4 hOk)
      have hfo := Lib.hid (fun u (h : 0 ≤ u ∧ u ≤ uptoV s) => (show forE s u = 0 by have := upto_le hO; unfold forE; rw [if_pos ⟨h.1, by omega⟩, if_neg (by omega)]))
      have hOu := Lib.hid (ok_rs (u := (u : Int)) hO (by omega))
      have huu := Lib.hid (rs_upto (u := (u : Int)) hO (by rw [hu]; exact Int.le_refl _))
      replace hu := Lib.hid hu
      replace hU2 := Lib.hid hU2
      replace hO := Lib.hid hO
      replace hOk := Lib.hid hOk
      replace hb0 := Lib.hid hb0
      replace hbK := Lib.hid hbK
      replace hT := Lib.hid hT
      clear hU64 hleK hlt hgt
      go_wp2_with fail
      go_at_call 25
      refine hUa.out.mono ?_
      rintro e W3 ⟨rfl, rfl⟩
      go_upto_region 10 with fail
      go_cut [82] from 54 to 83 (fun c0 W => c0 = .bool false ∧ Two w sa ma sb mb (rsS s K) s W)
      case first =>
        clear hgt2 hgf hgl4 hfo hOu huu
        go_wp2_with fail
        go_at_call 20
        refine hJ.out.mono ?_
        rintro e W4 ⟨rfl, hA4, hk4⟩
        have hT4 := hT.out.stepA hA4 hk4
        clear hA4 hk4 hT hJ hUa
        go_wp2_with (first
          | (go_at_call 26; refine (HB2.out _ hT4.a).mono ?_; rintro e W5 ⟨rfl, rfl⟩)
          | (go_at_call 25; refine (HU2.out _ hT4.a).mono ?_; rintro e W5 ⟨rfl, rfl⟩))
        by_cases hz : U2 = 0
        · subst hz
          obtain ⟨j1, j2⟩ := hj3.out rfl
          go_at_call 20
          refine (hT4.a.jump (-1) j1 j2).mono ?_
          rintro e W6 ⟨rfl, hA6, hk6⟩
          have hT6 := hT4.stepA hA6 hk6
          clear hA6 hk6 j1 j2
          go_wp2_with (go_at_call 25; refine (HU2.out _ hT6.a).mono ?_; rintro e W5 ⟨rfl, rfl⟩)
          go_meet
          case rel => exact ⟨rfl, hT6⟩
        · obtain ⟨j1, j2⟩ := hj2.out (by omega)
          go_at_call 20
          refine (hT4.a.jump ((U2 : Int) - 1) j1 j2).mono ?_
          rintro e W6 ⟨rfl, hA6, hk6⟩
          have hT6 := hT4.stepA hA6 hk6
          clear hA6 hk6 j1 j2 hz
          go_wp2
          go_meet
          case rel => exact ⟨rfl, hT6⟩
      case rest =>
        obtain ⟨rfl, hT6⟩ := hcut
        clear hT hJ hUa HB2 HU2 hj2 hj3 d1 d1b hw9
        have HG6 := Lib.hid (fun j hj => hT6.a.get (j : Nat) (wf64 (by omega) (by omega)) (hgt2.out j hj))
        go_wp2
        go_loopw [83] (fun i wr => ∃ j : Nat, j ≤ 64 ∧ i = .int .i64 j ∧ Below wc.heap.size wc wr) (fun i _ => 64 - nOf i)
        case atStart => exact ⟨0, Nat.zero_le _, rfl, Below.refl _ _⟩
        case round =>
          obtain ⟨j, hj, rfl, hbw⟩ := hrel
          by_cases hjl : j < 64
          · have i2 : decide ((j : Int) < 64) = true := by simp; omega
            have p2 : 0 ≤ (j : Int) := by omega
            have p3 : (j : Int) < 64 := by omega
            have hw1 : IntKind.i64.wrap ((j : Int) + 1) = (j : Int) + 1 := by rw [IntKind.wrap_i64]; omega
            have hw2 : IntKind.u8.wrap (j : Int) = j := by rw [IntKind.wrap_u8]; omega
            have hsr := shr_nat x j
            have hz : x / 2 ^ j < 18446744073709551616 := Nat.lt_of_le_of_lt (Nat.div_le_self _ _) hx
            have hbt := bit_one x j
            generalize x / 2 ^ j = z at *
            have hb1 := and_1 z hz
            have hz2 : z % 2 < 2 := Nat.mod_lt _ (by decide)
            generalize z % 2 = rr at *
            have HGj := Lib.hid ((hT6.later hbw).a.get (j : Nat) (wf64 (by omega) (by omega)) (hgt2.out j hjl))
            clear hz
            by_cases hjK : K ≤ j
            · have d2 : decide ((K : Int) ≤ (j : Int)) = true := by simp; omega
              have d2b : decide (K ≤ j) = true := by simp; omega
              by_cases hr : rr = 1
              · subst hr
                rw [decide_eq_true rfl] at hbt
                rw [if_pos ⟨hjK, hbt⟩] at HGj
                simp only [Option.isSome_some, gK] at HGj
                have hcv := conv_new wr j (by omega)
                have ht := tl_eq (chr j) (chr j)
                rw [eqT_t] at ht
                have hbn := Lib.hid (hbw.alloc hbw.size (.cells #[.int .u8 (j : Nat)] TU8))
                generalize chr j = T at *
                clear hbt hjK HG6 hgt2
                go_wp2_with (go_at_call 24; refine HGj.out.mono ?_; rintro e W7 ⟨rfl, rfl⟩)
                go_roundw
                case rel => exact ⟨j + 1, by omega, by go_num, hbn.out⟩
                case measure => simp [nOf]; omega
              · have hr0 : rr = 0 := by omega
                subst hr0
                rw [decide_eq_false (by omega)] at hbt
                rw [if_neg (fun h => by rw [hbt] at h; cases h.2)] at HGj
                simp only [Option.isSome_none, gK] at HGj
                clear hbt hjK HG6 hgt2 hr
                go_wp2_with (go_at_call 24; refine HGj.out.mono ?_; rintro e W7 ⟨rfl, rfl⟩)
                go_roundw
                case rel => exact ⟨j + 1, by omega, by go_num, hbw⟩
                case measure => simp [nOf]; omega
            · have d2 : decide ((K : Int) ≤ (j : Int)) = false := by simp; omega
              have d2b : decide (K ≤ j) = false := by simp; omega
              rw [if_neg (fun h => hjK h.1)] at HGj
              simp only [Option.isSome_none, gK] at HGj
              clear hbt hjK HG6 hgt2
              go_wp2_with (go_at_call 24; refine HGj.out.mono ?_; rintro e W7 ⟨rfl, rfl⟩)
              go_roundw
              case rel => exact ⟨j + 1, by omega, by go_num, hbw⟩
              case measure => simp [nOf]; omega
          · have hj64 : j = 64 := by omega
            subst hj64
            have i2 : decide (((64 : Nat) : Int) < 64) = false := by decide
            have hT7 := Lib.hid (hT6.later hbw)
            clear HG6 hT6 hbw hgt2 hjl
            go_upto_region 19 with fail
            go_cut [138] from 116 to 139 (fun c0 W => c0 = .bool false ∧ Two w sa ma sb mb (rsS s K) s W)
            case first =>
              clear hfo hOu huu
              obtain ⟨GL, hGL⟩ : ∃ GL, gapV (rsS s K) = GL := ⟨_, rfl⟩
              rw [hGL, hU2.out] at hgf
              rw [hGL] at hgl4
              obtain ⟨gl, hgl⟩ : ∃ gl, GL.length = gl := ⟨_, rfl⟩
              rw [hgl] at hgl4
              have hG0 : Hid (0 < gl → GL[0]? = some (U2 : Int)) := Lib.hid fun h => hgf.out (by rw [hgl]; exact h)
              have d1 : decide ((U2 : Int) < (K : Int)) = false := by simp; omega
              have d1b : decide (U2 < K) = false := by simp; omega
              replace hGL := Lib.hid hGL
              replace hgl := Lib.hid hgl
              clear hgf
              by_cases hK0 : K = 0
              · have c1 : decide ((0 : Int) < (K : Int)) = false := by simp; omega
                have c2 : decide (0 < K) = false := by simp; omega
                have hTg := hT7
                clear hK0 hT7
                by_cases hg0 : gl = 0
                · subst hg0
                  go_wp2_with fail
                  go_at_call 28
                  refine (hTg.out.a.gaps hGL.out).mono ?_
                  rintro e W9 ⟨v9, rfl, hO9, _, hb9⟩
                  have hT9 := hTg.out.later hb9
                  obtain ⟨a9, c9, rfl⟩ := rows_form hO9
                  rw [hgl.out]
                  clear hO9 hb9
                  go_wp2
                  go_meet
                  case rel => exact ⟨rfl, hT9⟩
                · have g5 : (0 : Int) < (gl : Int) := by omega
                  have g6 : decide ((0 : Int) < (gl : Int)) = true := by simp; omega
                  have g7 : decide (0 < gl) = true := by simp; omega
                  have g8 : 0 < gl := by omega
                  go_wp2_with fail
                  go_at_call 28
                  refine (hTg.out.a.gaps hGL.out).mono ?_
                  rintro e W9 ⟨v9, rfl, hO9, _, hb9⟩
                  have hT9 := Lib.hid (hTg.out.later hb9)
                  obtain ⟨a9, c9, rfl⟩ := rows_form hO9
                  rw [hgl.out]
                  clear hO9 hb9
                  go_wp2_with fail
                  go_at_call 28
                  refine (hT9.out.a.gaps hGL.out).mono ?_
                  rintro e W10 ⟨v10, rfl, hO10, _, hb10⟩
                  have hT10 := Lib.hid (hT9.out.later hb10)
                  obtain ⟨g, cap', rfl, _, hgl10, hc10⟩ := hO10.cells (by rw [hgl.out]; omega)
                  have hcc := hc10 0 _ (hG0.out (by omega))
                  rw [hgl.out]
                  clear hO10 hb10 hc10 hT9 hg0
                  go_wp2
                  go_meet
                  case rel => exact ⟨rfl, hT10.out⟩
              · have c1 : decide ((0 : Int) < (K : Int)) = true := by simp; omega
                have c2 : decide (0 < K) = true := by simp; omega
                have c3 : IntKind.i64.wrap ((K : Int) - 1) = (K : Int) - 1 := by rw [IntKind.wrap_i64]; omega
                have hp1 : putE (rsS s K) ((K : Int) - 1) ⟨#[120]⟩ = 8 := by rw [put_val (by omega) (by decide), if_pos (by rw [hbK.out]; omega)]
                have hp2 : putS (rsS s K) ((K : Int) - 1) ⟨#[120]⟩ = rsS s K := put_no (by rw [hp1]; decide)
                have HPx := Lib.hid (hT7.out.a.put ((K : Int) - 1) ⟨#[120]⟩ hp1 hp2)
                clear hp1 hp2 hK0
                go_wp2_with fail
                go_at_call 16
                refine HPx.out.mono ?_
                rintro e W8 ⟨rfl, hA8, hk8⟩
                have hTg := Lib.hid (hT7.out.stepA hA8 hk8)
                clear hA8 hk8 HPx hT7
                by_cases hg0 : gl = 0
                · subst hg0
                  go_wp2_with fail
                  go_at_call 28
                  refine (hTg.out.a.gaps hGL.out).mono ?_
                  rintro e W9 ⟨v9, rfl, hO9, _, hb9⟩
                  have hT9 := hTg.out.later hb9
                  obtain ⟨a9, c9, rfl⟩ := rows_form hO9
                  rw [hgl.out]
                  clear hO9 hb9
                  go_wp2
                  go_meet
                  case rel => exact ⟨rfl, hT9⟩
                · have g5 : (0 : Int) < (gl : Int) := by omega
                  have g6 : decide ((0 : Int) < (gl : Int)) = true := by simp; omega
                  have g7 : decide (0 < gl) = true := by simp; omega
                  have g8 : 0 < gl := by omega
                  go_wp2_with fail
                  go_at_call 28
                  refine (hTg.out.a.gaps hGL.out).mono ?_
                  rintro e W9 ⟨v9, rfl, hO9, _, hb9⟩
                  have hT9 := Lib.hid (hTg.out.later hb9)
                  obtain ⟨a9, c9, rfl⟩ := rows_form hO9
                  rw [hgl.out]
                  clear hO9 hb9
                  go_wp2_with fail
                  go_at_call 28
                  refine (hT9.out.a.gaps hGL.out).mono ?_
                  rintro e W10 ⟨v10, rfl, hO10, _, hb10⟩
                  have hT10 := Lib.hid (hT9.out.later hb10)
                  obtain ⟨g, cap', rfl, _, hgl10, hc10⟩ := hO10.cells (by rw [hgl.out]; omega)
                  have hcc := hc10 0 _ (hG0.out (by omega))
                  rw [hgl.out]
                  clear hO10 hb10 hc10 hT9 hg0
                  go_wp2
                  go_meet
                  case rel => exact ⟨rfl, hT10.out⟩
            case rest =>
              obtain ⟨rfl, hT8⟩ := hcut
              clear hT7 hgf hgl4
              have hF := hfo.out (u : Int) ⟨by omega, by rw [hu.out]; exact Int.le_refl _⟩
              have hFS : forS s u = rsS s u := by unfold forS; rw [if_pos hF]
              have HF := Lib.hid (hT8.b.forget (u : Int) hF hFS)
              have hub : (rsS s u).b = (u : Int) := by show max s.b (u : Int) = _; rw [hb0.out]; omega
              have hup2 : uptoV (rsS s u) = (u : Int) := huu.out.trans hu.out
              have hJE : jmpE (rsS s u) u = 0 := by unfold jmpE; rw [if_pos ⟨by omega, by omega⟩, if_neg (by rw [hup2]; omega)]
              have hJS : jmpS (rsS s u) u = rsS s u := by unfold jmpS; rw [if_pos hJE]; exact rs_again _
              have hg5 := gap_len4 hOu.out
              obtain ⟨t, ht⟩ : ∃ t, rsS s (u : Int) = t := ⟨_, rfl⟩
              rw [ht] at HF hub hup2 hJE hJS hg5
              obtain ⟨GL, hGL⟩ : ∃ GL, gapV t = GL := ⟨_, rfl⟩
              rw [hGL] at hg5
              have HBs := Lib.hid (fun W q1 q2 (h : WAt w q1 q2 t W) => h.base hub)
              have HUp := Lib.hid (fun W q1 q2 (h : WAt w q1 q2 t W) => h.upto hup2)
              have HGs := Lib.hid (fun W q1 q2 (h : WAt w q1 q2 t W) => h.gaps hGL)
              have HJm := Lib.hid (fun W q1 q2 (h : WAt w q1 q2 t W) => h.jump (u : Int) hJE hJS)
              replace hg5 := Lib.hid hg5
              clear hfo hOu huu hF hFS hub hup2 hJE hJS ht hGL hT8
              go_wp2_with fail
              go_at_call 18
              refine HF.out.mono ?_
              rintro e W9 ⟨rfl, hB9, hk9⟩
              clear hk9
              go_wp2_with fail
              go_at_call 22
              refine hB9.copy.mono ?_
              rintro e W10 ⟨sc, mc, rfl, hC10, hB10, hb10, hs10, hm10⟩
              have hQ : Two w sc mc sb mb t t W10 := ⟨hC10, hB10, by have := hB9.ax.lt; omega⟩
              clear hC10 hB10 hb10 hs10 hm10 hB9
              go_wp2_with fail
              go_at_call 20
              refine (HJm.out _ _ _ hQ.a).mono ?_
              rintro e W11 ⟨rfl, hA11, hk11⟩
              have hQ1 := hQ.stepA hA11 hk11
              clear hQ hA11 hk11
              go_wp2_with fail
              go_at_call 26
              refine (HBs.out _ _ _ hQ1.a).mono ?_
              rintro e W12 ⟨rfl, rfl⟩
              go_wp2_with fail
              go_at_call 26
              refine (HBs.out _ _ _ hQ1.b).mono ?_
              rintro e W12 ⟨rfl, rfl⟩
              go_wp2_with fail
              go_at_call 25
              refine (HUp.out _ _ _ hQ1.a).mono ?_
              rintro e W12 ⟨rfl, rfl⟩
              go_wp2_with fail
              go_at_call 25
              refine (HUp.out _ _ _ hQ1.b).mono ?_
              rintro e W12 ⟨rfl, rfl⟩
              go_wp2_with fail
              go_at_call 28
              refine (HGs.out _ _ _ hQ1.a).mono ?_
              rintro e W13 ⟨v8, rfl, hO8, _, hb8⟩
              have hT8 := hQ1.later hb8
              obtain ⟨a8, c8, rfl⟩ := rows_form hO8
              clear hb8 hQ1
              replace hO8 := Lib.hid hO8
              go_wp2_with fail
              go_at_call 28
              refine (HGs.out _ _ _ hT8.b).mono ?_
              rintro e W14 ⟨v9, rfl, hO9, _, hb9⟩
              have hT9 := hT8.later hb9
              have hI8 := Lib.hid (hO8.out.later hb9).is
              have hI9 := Lib.hid hO9.is
              obtain ⟨a9, c9, rfl⟩ := rows_form hO9
              clear hb9 hO8 hO9 hT8
              go_wp2_with fail
              go_at_call 31
              refine (equal_any _ _ GL GL _ hI8.out hI9.out (by have := hg5.out; omega) (by have := hg5.out; omega)).mono ?_
              rintro e W15 ⟨rfl, hb15⟩
              rw [eqLs_t]
              have hbl := Lib.hid (hT9.later hb15).a.bel
              clear hb15 hI8 hI9 hT9
              go_wp2_with (go_at_call 12; refine (HWk.out _).mono ?_; rintro e W16 ⟨rfl, hb16⟩)
              go_ret
              exact ⟨rfl, hbl.out.trans (hb16.mono hbl.out.size)⟩
theorem jumps_any (a0 a1 : Int) (w : World) (w0 : (Lit.int .u64 a0).wf = true) (w1 : (Lit.int .u8 a1).wf = true) :
    Calls Try.prog 8 #[.int .u64 a0, .int .u8 a1] w (Yes w) := by
  have b0 := bounds_u64 w0
  have b1 := bounds_u8 w1
  obtain ⟨x, rfl⟩ := Int.eq_ofNat_of_zero_le b0.1
  obtain ⟨a, rfl⟩ := Int.eq_ofNat_of_zero_le b1.1
  exact jumps_law x a (by have := b0.2; omega) (by have := b1.2; omega) w
end Go.Proofs.Ytgeejkedljhcoaa.Slt
