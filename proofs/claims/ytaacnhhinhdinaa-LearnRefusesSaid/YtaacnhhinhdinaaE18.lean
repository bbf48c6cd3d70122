/- LearnNewer. -/
import Derived.Test.YtaacnhhinhdinaaE17
namespace Go.Proofs.Ytaacnhhinhdinaa.Lrn
open Go.RowKit Go.Maps Go.Lib
open Bal (TB bOk ckB ordV eqB eqB_t eqB_f eq_b alloc_b)
set_option linter.unusedVariables false
set_option linter.unusedSimpArgs false
set_option maxRecDepth 100000

theorem mj_pc {n x p : Nat} (hp : Quo.pc x = p) : mj n x = decide (n < 2 * p) := by
  unfold mj
  rw [hp]
  by_cases h : n / 2 < p
  · rw [decide_eq_true h, decide_eq_true (by omega)]
  · rw [decide_eq_false h, decide_eq_false (by omega)]
theorem conv_key (W : World) (g c : Nat) (b : UInt8) (n : Int) (hn : n = (b.toNat : Int)) (h : W.cell? ⟨g, 0, none⟩ = some (.int .u8 n)) :
    (convert 44 9 (.slice (some ⟨g, 0, none⟩) 1 c)).run Try.prog W = .ok (.string ⟨#[b]⟩) W := by
  exact run_convert_bytes_back W 44 9 5 ⟨g, 0, none⟩ c [b] Try.underlying44 Try.underlying5 Try.underlying9 (fun j hj => by
    have hj0 : j = 0 := by simp at hj; omega
    subst hj0
    rw [addr_add, h, hn]
    rfl)
theorem conv_one (W : World) (b : UInt8) (n : Int) (hn : n = (b.toNat : Int)) : (convert 44 9 (.slice (some ⟨W.heap.size, 0, none⟩) 1 1)).run Try.prog (W.alloc (.cells #[.int .u8 n] 5)) = .ok (.string ⟨#[b]⟩) (W.alloc (.cells #[.int .u8 n] 5)) :=
  conv_key _ _ _ b n hn (cell_of_row _ _ 0 _ _ _ (heap_alloc_new _ _))
set_option maxHeartbeats 16000000 in
theorem newer_go (a : Nat) (a1 : Option Addr) (len1 cap1 : Nat) (S : Nat → B2) (w : World) (ha : a ≤ 255) (h1 : IsB2 w a1 len1 cap1 S) :
    Calls Try.prog 5 #[.int .u8 a, .slice a1 len1 cap1] w (Yes w) := by
  obtain ⟨n, hn⟩ : ∃ n, n = 2 + a % 6 := ⟨_, rfl⟩
  have hn1 : 1 ≤ n := by omega
  have hn7 : n ≤ 7 := by omega
  have e1 : (a : Int).tmod 6 = ((a % 6 : Nat) : Int) := (Int.ofNat_tmod a 6).symm
  have e2 : IntKind.i64.wrap (2 + ((a % 6 : Nat) : Int)) = (n : Nat) := by rw [IntKind.wrap_i64]; omega
  have e3 : IntKind.u8.wrap ((a % 6 : Nat) : Int) = ((a % 6 : Nat) : Int) := by rw [IntKind.wrap_u8]; omega
  have e4 : IntKind.i64.wrap ((a % 6 : Nat) : Int) = ((a % 6 : Nat) : Int) := by rw [IntKind.wrap_i64]; omega
  generalize a % 6 = r7 at *
  have f12 : ((n : Int) == 0) = false := by simp; omega
  have f13 : (n == 0) = false := by simp; omega
  have f14 : ¬ (n : Int) = 0 := by omega
  have f15 : ¬ n = 0 := by omega
  obtain ⟨l, hl2⟩ : ∃ l, min len1 40 = l := ⟨_, rfl⟩
  have hmin : ∀ (ts : Array TypeId) (t : TypeId) (w : World), (Builtin.min_ ts t #[.int .i64 len1, .int .i64 40]).run Try.prog w = .ok (.int .i64 l) w := min_n 40 _ _ hl2
  have hll : l ≤ len1 := by omega
  have q0 : (l : Int) ≤ (cap1 : Int) := by have := h1.fit.1; omega
  have hcap := h1.fit.2
  have hlc := h1.fit.1
  have HU := Lib.hid h1
  have HN := Lib.hid (new_w n (by omega) w w (Below.refl _ _))
  clear h1 hl2 hn ha
  go_enter Try.func5, Try.ntmps5
  go_wp2_with (go_at_call 12; refine HN.out.mono ?_; rintro e W1 ⟨sb, mb, rfl, hN1, _⟩)
  have hA0 : WAt w sb mb (nwS n 0 0) W1 := hN1
  clear hN1 HN
  go_loopw [8, 9, 40] (fun g s i wr => ∃ (j g' x : Nat), j ≤ l ∧ i = .int .i64 j ∧ g = .int .i64 g' ∧ s = .int .u64 x ∧ g' ≤ 16 ∧ x ≤ Quo.all1 n ∧ WAt w sb mb (nwS n g' x) wr) (fun _ _ i _ => l - nOf i)
  case atStart => exact ⟨0, 0, 0, Nat.zero_le _, rfl, rfl, rfl, Nat.zero_le _, Nat.zero_le _, hA0⟩
  case round =>
    clear hA0
    obtain ⟨j, g, x, hj, rfl, rfl, rfl, hg16, hx, hA⟩ := hrel
    by_cases hlt : j < l
    · obtain ⟨b, off, rfl, hbl, hc0, hc1⟩ := HU.out.at hA.bel (show j < len1 by omega)
      have hS := HU.out.rng j
      generalize S j = sj at *
      obtain ⟨sx, sy⟩ := sj
      simp only at hc0 hc1 hS
      have i1 : 0 ≤ (j : Int) := by omega
      have i2 : (j : Int) < (l : Int) := by omega
      have i4 : decide ((j : Int) < (l : Int)) = true := by simp; omega
      have k1 : (sx : Int).tmod 16 = ((sx % 16 : Nat) : Int) := (Int.ofNat_tmod sx 16).symm
      have k2 : IntKind.u8.wrap ((sx % 16 : Nat) : Int) = ((sx % 16 : Nat) : Int) := by rw [IntKind.wrap_u8]; omega
      have k3 : IntKind.i64.wrap ((sx % 16 : Nat) : Int) = ((sx % 16 : Nat) : Int) := by rw [IntKind.wrap_i64]; omega
      obtain ⟨ρ, hρ⟩ : ∃ ρ, ρ = 1 + sx % 16 := ⟨_, rfl⟩
      have hρ1 : 1 ≤ ρ ∧ ρ ≤ 16 := by omega
      have k4 : IntKind.i64.wrap (1 + ((sx % 16 : Nat) : Int)) = (ρ : Nat) := by rw [IntKind.wrap_i64]; omega
      generalize sx % 16 = s16 at *
      have k5 : IntKind.i64.wrap (sy : Int) = sy := by rw [IntKind.wrap_i64]; omega
      have k6 : (sy : Int).tmod (n : Nat) = ((sy % n : Nat) : Int) := (Int.ofNat_tmod sy n).symm
      have hnd : sy % n < n := Nat.mod_lt _ (by omega)
      have k7 : IntKind.i64.wrap ((sy % n : Nat) : Int) = ((sy % n : Nat) : Int) := by rw [IntKind.wrap_i64]; omega
      generalize sy % n = nd at *
      have k8 : IntKind.u8.wrap (ρ : Int) = ρ := by rw [IntKind.wrap_u8]; omega
      have k9 : IntKind.u8.wrap (97 + (ρ : Int)) = 97 + (ρ : Int) := by rw [IntKind.wrap_u8]; omega
      have hxb := heap_alloc_new wr (.cells #[.int .u8 sx, .int .u8 sy] TB2)
      have x0 := cell_of_row _ _ 0 _ TB2 _ hxb
      have x1 := cell_of_row _ _ 1 _ TB2 _ hxb
      have hA1 := Lib.hid (fun k => (hA.alloc (.cells #[.int .u8 sx, .int .u8 sy] TB2)).drewN k)
      clear hxb hA hρ
      have h127 := Quo.all1_7 hn7
      have n0 : 0 ≤ (nd : Int) := by omega
      have n1 : (nd : Int) < 64 := by omega
      have hsh := Quo.pow_in nd (by omega)
      have hsg : IntKind.u64.signed = false := rfl
      have hbv := vv_byte ρ hρ1.2
      have hap := vv_app ρ
      generalize UInt8.ofNat (97 + ρ) = ub at *
      replace hap := Lib.hid hap
      replace hbv := Lib.hid hbv
      by_cases hgr : g < ρ
      · have o1 : decide (g < ρ) = true := decide_eq_true hgr
        have o2 : decide ((g : Int) < (ρ : Int)) = true := by simp; omega
        have o3 : decide (g ≤ ρ) = true := decide_eq_true (by omega)
        have o4 : decide ((g : Int) ≤ (ρ : Int)) = true := by simp; omega
        obtain ⟨y, hyd2⟩ : ∃ y, 0 ||| 2 ^ nd = y := ⟨_, rfl⟩
        have hor : bits .or .u64 0 ((2 ^ nd : Nat) : Int) = ((0 ||| 2 ^ nd : Nat) : Int) := bits_or_u64_nat 0 (2 ^ nd) (by omega) (Quo.pow_lt nd (by omega))
        rw [hyd2] at hor
        have hy : y ≤ Quo.all1 n := by rw [← hyd2]; exact or_low hn7 (Nat.zero_le _) hnd
        have hcp := cnt_pc n (by omega) y (by omega) hy
        have hmy := mj_pc (n := n) (x := y) rfl
        generalize hqq : 2 ^ nd = q at hsh hor
        replace hqq := Lib.hid hqq
        replace hyd2 := Lib.hid hyd2
        go_wp2
        go_quiet (fail)
        generalize hW1 : (wr.alloc (.cells #[.int .u8 sx, .int .u8 sy] TB2)).drewN nq = W1 at *
        have hA2 : WAt w sb mb (nwS n g x) W1 := by rw [← hW1]; exact hA1.out _
        replace hA2 := Lib.hid hA2
        have hcv := conv_one W1 _ _ hbv.out
        clear hW1 hA1 x0 x1 hc0 hc1
        go_wp2
        go_loopw [15, 63] (fun cc ii W => ∃ i : Nat, i ≤ n ∧ ii = .int .i64 i ∧ cc = .int .i64 (cnt i y) ∧ W = W1) (fun _ ii _ => n - nOf ii)
        case atStart => exact ⟨0, Nat.zero_le _, rfl, rfl, rfl⟩
        case round =>
          obtain ⟨i, hi, rfl, rfl, rfl⟩ := hrel
          by_cases hin : i < n
          · have p1 : decide ((i : Int) < (n : Int)) = true := by simp; omega
            have p2 : 0 ≤ (i : Int) := by omega
            have p3 : (i : Int) < 64 := by omega
            have hsr := shr_nat y i
            have hz : y / 2 ^ i < 18446744073709551616 := Nat.lt_of_le_of_lt (Nat.div_le_self _ _) (by omega)
            have hcs : cnt (i + 1) y = cnt i y + y / 2 ^ i % 2 := rfl
            have hcl := cnt_le y i
            generalize y / 2 ^ i = z at *
            have hb1 := and_1 z hz
            have hz2 : z % 2 < 2 := Nat.mod_lt _ (by decide)
            generalize z % 2 = rr at *
            have p4 : IntKind.i64.wrap (rr : Int) = rr := by rw [IntKind.wrap_i64]; omega
            have p5 : IntKind.i64.wrap ((cnt i y : Int) + (rr : Int)) = (cnt (i + 1) y : Nat) := by rw [hcs, IntKind.wrap_i64]; omega
            replace hcs := Lib.hid hcs
            clear hz hz2 hcl
            obtain ⟨c2, hc2⟩ : ∃ c2, cnt (i + 1) y = c2 := ⟨_, rfl⟩
            rw [hc2] at p5
            replace hc2 := Lib.hid hc2
            go_wp2
            go_roundw
            case rel => exact ⟨i + 1, by omega, by go_num, by rw [hc2.out], trivial⟩
            case measure => simp [nOf]; omega
          · have hin' : n = i := by omega
            subst hin'
            have p1 : decide ((n : Int) < (n : Int)) = false := by simp
            rw [hcp.1]
            have hpcn := hcp.2
            clear hcp
            generalize hpy : Quo.pc y = p at *
            replace hpy := Lib.hid hpy
            have l1 : IntKind.i64.wrap (2 * (p : Int)) = 2 * (p : Int) := by rw [IntKind.wrap_i64]; omega
            have l2 : decide ((n : Int) < 2 * (p : Int)) = mj n y := by rw [hmy]; by_cases h : n < 2 * p <;> simp [h] <;> omega
            have l3 : decide (n < 2 * p) = mj n y := hmy.symm
            clear hmy hin
            cases hM : mj n y with
            | true =>
              rw [hM] at l2 l3
              go_wp2
              go_roundw
              case rel => exact ⟨j + 1, g, x, by omega, by go_num, rfl, rfl, by omega, hx, hA2.out⟩
              case measure => simp [nOf]; omega
            | false =>
              rw [hM] at l2 l3
              obtain ⟨m1, m2, m3⟩ := nw_kept hn1 hn7 hnd hρ1 hx (show ¬ ρ < g by omega) (by rw [if_neg (by omega)]; exact hyd2.out.symm) hM
              have HA := Lib.hid ((hA2.out.alloc (.cells #[.int .u8 (97 + (ρ : Int))] 5)).add nd ρ 0 7 (vv ρ) m1 m2 m3)
              have hρ0 : ρ ≠ 0 := by omega
              have hat : at' (nwS n ρ y) 7 = nwK ρ y := by rw [nwS_at, if_neg hρ0]
              have HC := Lib.hid (fun W (h : WAt w sb mb (nwS n ρ y) W) => h.chosen 7 (by decide) hat)
              have HV := Lib.hid (fun W (h : WAt w sb mb (nwS n ρ y) W) => h.votes 7 (by decide) hat)
              have HO := Lib.hid (fun W (h : WAt w sb mb (nwS n ρ y) W) => h.opens (nwS_open n ρ y hρ0))
              have hfin : Hid (∀ W, WAt w sb mb (nwS n ρ y) W → ∃ (j' g' x' : Nat), j' ≤ l ∧ Value.int .i64 ((j + 1 : Nat) : Int) = .int .i64 j' ∧ Value.int .i64 (ρ : Nat) = .int .i64 g' ∧ Value.int .u64 (y : Nat) = .int .u64 x' ∧ g' ≤ 16 ∧ x' ≤ Quo.all1 n ∧ WAt w sb mb (nwS n g' x') W) := Lib.hid fun W hW => ⟨j + 1, ρ, y, by omega, rfl, rfl, rfl, by omega, hy, hW⟩
              clear m1 m2 m3 hat hM
              have hap2 := hap.out
              clear hA2
              go_wp2_with fail
              go_at_call 14
              refine HA.out.mono ?_
              rintro e w2 ⟨rfl, hA3, _⟩
              go_wp2_with fail
              go_at_call 24
              refine (HV.out _ hA3).mono ?_
              rintro e w3 ⟨rfl, hA4, _⟩
              have hA5 := hA4.alloc (.cells #[.int .i64 ρ, .int .i64 0] TB)
              have hx5 := heap_alloc_new w3 (.cells #[.int .i64 ρ, .int .i64 0] TB)
              simp only [nwK]
              go_wp2_with fail
              generalize w3.alloc (.cells #[.int .i64 ρ, .int .i64 0] TB) = w4 at *
              generalize w3.heap.size = vb at *
              go_at_call 23
              refine (HC.out _ hA5).mono ?_
              rintro e w5 ⟨rfl, hA6, hB6⟩
              have hx6 := (hB6.block _ (Array.getElem?_eq_some_iff.1 hx5).1).trans hx5
              have d0 := cell_of_row _ _ 0 _ TB _ hx6
              have d1 := cell_of_row _ _ 1 _ TB _ hx6
              clear hB6 hx5 hA5 hA4 hA3 hx6
              simp only [nwK]
              go_wp2_with fail
              go_at_call 25
              refine (HO.out _ hA6).mono ?_
              rintro e w6 ⟨vO, rfl, hO6, hA7, hB7⟩
              have b1 := alloc_b w6 (.cells #[.int .i64 7] TI)
              have hA8 := hA7.later b1
              have I1 := Lib.hid (hO6.is.later b1)
              have I2 := Lib.hid (is_one (heap_alloc_new w6 (.cells #[.int .i64 7] TI)) 1)
              obtain ⟨oa, oc, rfl⟩ := rows_form hO6
              clear hO6 hA7 hB7 b1 hA6 d0 d1
              go_wp2_with fail
              go_at_call 26
              refine (equal_any _ _ _ _ _ I1.out I2.out (by decide) (by decide)).mono ?_
              rintro e w8 ⟨rfl, hB8⟩
              rw [eqLs_t]
              have hA9 := Lib.hid (hA8.later hB8)
              clear hA8 hB8 I1 I2
              go_wp2
              go_roundw
              case rel => exact hfin.out _ hA9.out
              case measure => simp [nOf]; omega
      · by_cases hge : ρ = g
        · subst hge
          have o1 : decide (ρ < ρ) = false := decide_eq_false hgr
          have o2 : decide ((ρ : Int) < (ρ : Int)) = false := by simp
          have o3 : decide (ρ ≤ ρ) = true := decide_eq_true (Nat.le_refl _)
          have o4 : decide ((ρ : Int) ≤ (ρ : Int)) = true := by simp
          obtain ⟨y, hyd2⟩ : ∃ y, x ||| 2 ^ nd = y := ⟨_, rfl⟩
          have hor := bits_or_u64_nat x (2 ^ nd) (by omega) (Quo.pow_lt nd (by omega))
          rw [hyd2] at hor
          have hy : y ≤ Quo.all1 n := by rw [← hyd2]; exact or_low hn7 hx hnd
          have hcp := cnt_pc n (by omega) y (by omega) hy
          have hmy := mj_pc (n := n) (x := y) rfl
          generalize hqq : 2 ^ nd = q at hsh hor
          replace hqq := Lib.hid hqq
          replace hyd2 := Lib.hid hyd2
          go_wp2
          go_quiet (fail)
          generalize hW1 : (wr.alloc (.cells #[.int .u8 sx, .int .u8 sy] TB2)).drewN nq = W1 at *
          have hA2 : WAt w sb mb (nwS n ρ x) W1 := by rw [← hW1]; exact hA1.out _
          replace hA2 := Lib.hid hA2
          have hcv := conv_one W1 _ _ hbv.out
          clear hW1 hA1 x0 x1 hc0 hc1
          go_wp2
          go_loopw [15, 63] (fun cc ii W => ∃ i : Nat, i ≤ n ∧ ii = .int .i64 i ∧ cc = .int .i64 (cnt i y) ∧ W = W1) (fun _ ii _ => n - nOf ii)
          case atStart => exact ⟨0, Nat.zero_le _, rfl, rfl, rfl⟩
          case round =>
            obtain ⟨i, hi, rfl, rfl, rfl⟩ := hrel
            by_cases hin : i < n
            · have p1 : decide ((i : Int) < (n : Int)) = true := by simp; omega
              have p2 : 0 ≤ (i : Int) := by omega
              have p3 : (i : Int) < 64 := by omega
              have hsr := shr_nat y i
              have hz : y / 2 ^ i < 18446744073709551616 := Nat.lt_of_le_of_lt (Nat.div_le_self _ _) (by omega)
              have hcs : cnt (i + 1) y = cnt i y + y / 2 ^ i % 2 := rfl
              have hcl := cnt_le y i
              generalize y / 2 ^ i = z at *
              have hb1 := and_1 z hz
              have hz2 : z % 2 < 2 := Nat.mod_lt _ (by decide)
              generalize z % 2 = rr at *
              have p4 : IntKind.i64.wrap (rr : Int) = rr := by rw [IntKind.wrap_i64]; omega
              have p5 : IntKind.i64.wrap ((cnt i y : Int) + (rr : Int)) = (cnt (i + 1) y : Nat) := by rw [hcs, IntKind.wrap_i64]; omega
              replace hcs := Lib.hid hcs
              clear hz hz2 hcl
              obtain ⟨c2, hc2⟩ : ∃ c2, cnt (i + 1) y = c2 := ⟨_, rfl⟩
              rw [hc2] at p5
              replace hc2 := Lib.hid hc2
              go_wp2
              go_roundw
              case rel => exact ⟨i + 1, by omega, by go_num, by rw [hc2.out], trivial⟩
              case measure => simp [nOf]; omega
            · have hin' : n = i := by omega
              subst hin'
              have p1 : decide ((n : Int) < (n : Int)) = false := by simp
              rw [hcp.1]
              have hpcn := hcp.2
              clear hcp
              generalize hpy : Quo.pc y = p at *
              replace hpy := Lib.hid hpy
              have l1 : IntKind.i64.wrap (2 * (p : Int)) = 2 * (p : Int) := by rw [IntKind.wrap_i64]; omega
              have l2 : decide ((n : Int) < 2 * (p : Int)) = mj n y := by rw [hmy]; by_cases h : n < 2 * p <;> simp [h] <;> omega
              have l3 : decide (n < 2 * p) = mj n y := hmy.symm
              clear hmy hin
              cases hM : mj n y with
              | true =>
                rw [hM] at l2 l3
                go_wp2
                go_roundw
                case rel => exact ⟨j + 1, ρ, x, by omega, by go_num, rfl, rfl, by omega, hx, hA2.out⟩
                case measure => simp [nOf]; omega
              | false =>
                rw [hM] at l2 l3
                obtain ⟨m1, m2, m3⟩ := nw_kept hn1 hn7 hnd hρ1 hx (Nat.lt_irrefl ρ) (by rw [if_pos rfl]; exact hyd2.out.symm) hM
                have HA := Lib.hid ((hA2.out.alloc (.cells #[.int .u8 (97 + (ρ : Int))] 5)).add nd ρ 0 7 (vv ρ) m1 m2 m3)
                have hρ0 : ρ ≠ 0 := by omega
                have hat : at' (nwS n ρ y) 7 = nwK ρ y := by rw [nwS_at, if_neg hρ0]
                have HC := Lib.hid (fun W (h : WAt w sb mb (nwS n ρ y) W) => h.chosen 7 (by decide) hat)
                have HV := Lib.hid (fun W (h : WAt w sb mb (nwS n ρ y) W) => h.votes 7 (by decide) hat)
                have HO := Lib.hid (fun W (h : WAt w sb mb (nwS n ρ y) W) => h.opens (nwS_open n ρ y hρ0))
                have hfin : Hid (∀ W, WAt w sb mb (nwS n ρ y) W → ∃ (j' g' x' : Nat), j' ≤ l ∧ Value.int .i64 ((j + 1 : Nat) : Int) = .int .i64 j' ∧ Value.int .i64 (ρ : Nat) = .int .i64 g' ∧ Value.int .u64 (y : Nat) = .int .u64 x' ∧ g' ≤ 16 ∧ x' ≤ Quo.all1 n ∧ WAt w sb mb (nwS n g' x') W) := Lib.hid fun W hW => ⟨j + 1, ρ, y, by omega, rfl, rfl, rfl, by omega, hy, hW⟩
                clear m1 m2 m3 hat hM
                have hap2 := hap.out
                clear hA2
                go_wp2_with fail
                go_at_call 14
                refine HA.out.mono ?_
                rintro e w2 ⟨rfl, hA3, _⟩
                go_wp2_with fail
                go_at_call 24
                refine (HV.out _ hA3).mono ?_
                rintro e w3 ⟨rfl, hA4, _⟩
                have hA5 := hA4.alloc (.cells #[.int .i64 ρ, .int .i64 0] TB)
                have hx5 := heap_alloc_new w3 (.cells #[.int .i64 ρ, .int .i64 0] TB)
                simp only [nwK]
                go_wp2_with fail
                generalize w3.alloc (.cells #[.int .i64 ρ, .int .i64 0] TB) = w4 at *
                generalize w3.heap.size = vb at *
                go_at_call 23
                refine (HC.out _ hA5).mono ?_
                rintro e w5 ⟨rfl, hA6, hB6⟩
                have hx6 := (hB6.block _ (Array.getElem?_eq_some_iff.1 hx5).1).trans hx5
                have d0 := cell_of_row _ _ 0 _ TB _ hx6
                have d1 := cell_of_row _ _ 1 _ TB _ hx6
                clear hB6 hx5 hA5 hA4 hA3 hx6
                simp only [nwK]
                go_wp2_with fail
                go_at_call 25
                refine (HO.out _ hA6).mono ?_
                rintro e w6 ⟨vO, rfl, hO6, hA7, hB7⟩
                have b1 := alloc_b w6 (.cells #[.int .i64 7] TI)
                have hA8 := hA7.later b1
                have I1 := Lib.hid (hO6.is.later b1)
                have I2 := Lib.hid (is_one (heap_alloc_new w6 (.cells #[.int .i64 7] TI)) 1)
                obtain ⟨oa, oc, rfl⟩ := rows_form hO6
                clear hO6 hA7 hB7 b1 hA6 d0 d1
                go_wp2_with fail
                go_at_call 26
                refine (equal_any _ _ _ _ _ I1.out I2.out (by decide) (by decide)).mono ?_
                rintro e w8 ⟨rfl, hB8⟩
                rw [eqLs_t]
                have hA9 := Lib.hid (hA8.later hB8)
                clear hA8 hB8 I1 I2
                go_wp2
                go_roundw
                case rel => exact hfin.out _ hA9.out
                case measure => simp [nOf]; omega
        · have o1 : decide (g < ρ) = false := decide_eq_false hgr
          have o2 : decide ((g : Int) < (ρ : Int)) = false := by simp; omega
          have o3 : decide (g ≤ ρ) = false := decide_eq_false (by omega)
          have o4 : decide ((g : Int) ≤ (ρ : Int)) = false := by simp; omega
          obtain ⟨y, hyd2⟩ : ∃ y, x ||| 2 ^ nd = y := ⟨_, rfl⟩
          have hor := bits_or_u64_nat x (2 ^ nd) (by omega) (Quo.pow_lt nd (by omega))
          rw [hyd2] at hor
          have hy : y ≤ Quo.all1 n := by rw [← hyd2]; exact or_low hn7 hx hnd
          have hcp := cnt_pc n (by omega) y (by omega) hy
          have hmy := mj_pc (n := n) (x := y) rfl
          generalize hqq : 2 ^ nd = q at hsh hor
          replace hqq := Lib.hid hqq
          replace hyd2 := Lib.hid hyd2
          go_wp2
          go_quiet (fail)
          generalize hW1 : (wr.alloc (.cells #[.int .u8 sx, .int .u8 sy] TB2)).drewN nq = W1 at *
          have hA2 : WAt w sb mb (nwS n g x) W1 := by rw [← hW1]; exact hA1.out _
          replace hA2 := Lib.hid hA2
          have hcv := conv_one W1 _ _ hbv.out
          clear hW1 hA1 x0 x1 hc0 hc1
          go_wp2
          go_loopw [15, 63] (fun cc ii W => ∃ i : Nat, i ≤ n ∧ ii = .int .i64 i ∧ cc = .int .i64 (cnt i y) ∧ W = W1) (fun _ ii _ => n - nOf ii)
          case atStart => exact ⟨0, Nat.zero_le _, rfl, rfl, rfl⟩
          case round =>
            obtain ⟨i, hi, rfl, rfl, rfl⟩ := hrel
            by_cases hin : i < n
            · have p1 : decide ((i : Int) < (n : Int)) = true := by simp; omega
              have p2 : 0 ≤ (i : Int) := by omega
              have p3 : (i : Int) < 64 := by omega
              have hsr := shr_nat y i
              have hz : y / 2 ^ i < 18446744073709551616 := Nat.lt_of_le_of_lt (Nat.div_le_self _ _) (by omega)
              have hcs : cnt (i + 1) y = cnt i y + y / 2 ^ i % 2 := rfl
              have hcl := cnt_le y i
              generalize y / 2 ^ i = z at *
              have hb1 := and_1 z hz
              have hz2 : z % 2 < 2 := Nat.mod_lt _ (by decide)
              generalize z % 2 = rr at *
              have p4 : IntKind.i64.wrap (rr : Int) = rr := by rw [IntKind.wrap_i64]; omega
              have p5 : IntKind.i64.wrap ((cnt i y : Int) + (rr : Int)) = (cnt (i + 1) y : Nat) := by rw [hcs, IntKind.wrap_i64]; omega
              replace hcs := Lib.hid hcs
              clear hz hz2 hcl
              obtain ⟨c2, hc2⟩ : ∃ c2, cnt (i + 1) y = c2 := ⟨_, rfl⟩
              rw [hc2] at p5
              replace hc2 := Lib.hid hc2
              go_wp2
              go_roundw
              case rel => exact ⟨i + 1, by omega, by go_num, by rw [hc2.out], trivial⟩
              case measure => simp [nOf]; omega
            · have hin' : n = i := by omega
              subst hin'
              have p1 : decide ((n : Int) < (n : Int)) = false := by simp
              rw [hcp.1]
              have hpcn := hcp.2
              clear hcp
              generalize hpy : Quo.pc y = p at *
              replace hpy := Lib.hid hpy
              have l1 : IntKind.i64.wrap (2 * (p : Int)) = 2 * (p : Int) := by rw [IntKind.wrap_i64]; omega
              have l2 : decide ((n : Int) < 2 * (p : Int)) = mj n y := by rw [hmy]; by_cases h : n < 2 * p <;> simp [h] <;> omega
              have l3 : decide (n < 2 * p) = mj n y := hmy.symm
              clear hmy hin
              obtain ⟨m1, m2, m3⟩ := nw_late (x := x) hn1 hnd hρ1 (show ρ < g by omega)
              have HA := Lib.hid ((hA2.out.alloc (.cells #[.int .u8 (97 + (ρ : Int))] 5)).add nd ρ 0 7 (vv ρ) m1 m2 m3)
              have hg0 : g ≠ 0 := by omega
              have hat : at' (nwS n g x) 7 = nwK g x := by rw [nwS_at, if_neg hg0]
              have HC := Lib.hid (fun W (h : WAt w sb mb (nwS n g x) W) => h.chosen 7 (by decide) hat)
              have HV := Lib.hid (fun W (h : WAt w sb mb (nwS n g x) W) => h.votes 7 (by decide) hat)
              have HO := Lib.hid (fun W (h : WAt w sb mb (nwS n g x) W) => h.opens (nwS_open n g x hg0))
              have hfin : Hid (∀ W, WAt w sb mb (nwS n g x) W → ∃ (j' g' x' : Nat), j' ≤ l ∧ Value.int .i64 ((j + 1 : Nat) : Int) = .int .i64 j' ∧ Value.int .i64 (g : Nat) = .int .i64 g' ∧ Value.int .u64 (x : Nat) = .int .u64 x' ∧ g' ≤ 16 ∧ x' ≤ Quo.all1 n ∧ WAt w sb mb (nwS n g' x') W) := Lib.hid fun W hW => ⟨j + 1, g, x, by omega, rfl, rfl, rfl, by omega, hx, hW⟩
              clear m1 m2 m3 hat
              have hap2 := hap.out
              clear hA2
              go_wp2_with fail
              go_at_call 14
              refine HA.out.mono ?_
              rintro e w2 ⟨rfl, hA3, _⟩
              go_wp2_with fail
              go_at_call 24
              refine (HV.out _ hA3).mono ?_
              rintro e w3 ⟨rfl, hA4, _⟩
              have hA5 := hA4.alloc (.cells #[.int .i64 g, .int .i64 0] TB)
              have hx5 := heap_alloc_new w3 (.cells #[.int .i64 g, .int .i64 0] TB)
              simp only [nwK]
              go_wp2_with fail
              generalize w3.alloc (.cells #[.int .i64 g, .int .i64 0] TB) = w4 at *
              generalize w3.heap.size = vb at *
              go_at_call 23
              refine (HC.out _ hA5).mono ?_
              rintro e w5 ⟨rfl, hA6, hB6⟩
              have hx6 := (hB6.block _ (Array.getElem?_eq_some_iff.1 hx5).1).trans hx5
              have d0 := cell_of_row _ _ 0 _ TB _ hx6
              have d1 := cell_of_row _ _ 1 _ TB _ hx6
              clear hB6 hx5 hA5 hA4 hA3 hx6
              simp only [nwK]
              go_wp2_with fail
              go_at_call 25
              refine (HO.out _ hA6).mono ?_
              rintro e w6 ⟨vO, rfl, hO6, hA7, hB7⟩
              have b1 := alloc_b w6 (.cells #[.int .i64 7] TI)
              have hA8 := hA7.later b1
              have I1 := Lib.hid (hO6.is.later b1)
              have I2 := Lib.hid (is_one (heap_alloc_new w6 (.cells #[.int .i64 7] TI)) 1)
              obtain ⟨oa, oc, rfl⟩ := rows_form hO6
              clear hO6 hA7 hB7 b1 hA6 d0 d1
              go_wp2_with fail
              go_at_call 26
              refine (equal_any _ _ _ _ _ I1.out I2.out (by decide) (by decide)).mono ?_
              rintro e w8 ⟨rfl, hB8⟩
              rw [eqLs_t]
              have hA9 := Lib.hid (hA8.later hB8)
              clear hA8 hB8 I1 I2
              go_wp2
              go_roundw
              case rel => exact hfin.out _ hA9.out
              case measure => simp [nOf]; omega
    · have hjl : j = l := by omega
      subst hjl
      have i4 : decide ((j : Int) < (j : Int)) = false := by simp
      have hA' := Lib.hid hA
      clear hA
      go_wp2_with (go_at_call 11; refine (works_any _).mono ?_; rintro e w1 ⟨rfl, hb⟩)
      go_ret
      exact ⟨rfl, hA'.out.bel.trans (hb.mono hA'.out.bel.size)⟩
theorem newer_law (a0 : Int) (a1 : Option Addr) (len1 cap1 : Nat) (S1 : Nat → B2) (w : World) (w0 : (Lit.int .u8 a0).wf = true) (w1 : IsB2 w a1 len1 cap1 S1) :
    Calls Try.prog 5 #[.int .u8 a0, .slice a1 len1 cap1] w (Yes w) := by
  have b0 := bounds_u8 w0
  obtain ⟨a, rfl⟩ := Int.eq_ofNat_of_zero_le b0.1
  exact newer_go a a1 len1 cap1 S1 w (by have := b0.2; omega) w1
end Go.Proofs.Ytaacnhhinhdinaa.Lrn
