/- LearnMajority. -/
import Derived.Test.YtaacnhhinhdinaaE13
namespace Go.Proofs.Ytaacnhhinhdinaa.Lrn
open Go.RowKit Go.Maps Go.Lib
open Bal (TB bOk ckB ordV eqB eqB_t eqB_f eq_b alloc_b)
set_option linter.unusedVariables false
set_option linter.unusedSimpArgs false
set_option maxRecDepth 100000

theorem mj_pc {n x p : Nat} (hp : Quo.pc x = p) : mj n x = decide (n < 2 * p) := by
  unfold mj
  rw [hp]
  by_cases h : n / 2 < p
  · rw [decide_eq_true h, decide_eq_true (by omega)]
  · rw [decide_eq_false h, decide_eq_false (by omega)]
set_option maxHeartbeats 8000000 in
theorem majority_go (a : Nat) (a1 : Option Addr) (len1 cap1 : Nat) (S : Nat → Nat) (c d : Nat) (v : ByteArray) (w : World) (ha : a ≤ 255) (h1 : IsU w a1 len1 cap1 S) (hc : c ≤ 65535) (hd : d ≤ 4294967295) :
    Calls Try.prog 4 #[.int .u8 a, .slice a1 len1 cap1, .int .u16 c, .int .u32 d, .string v] w (Yes w) := by
  by_cases hl : 1000 < v.size
  · have b1 : decide ((1000 : Int) < (v.size : Int)) = true := by simp; omega
    have b2 : decide (1000 < v.size) = true := by simp; omega
    clear hl h1
    go_enter Try.func4, Try.ntmps4
    go_wp2_with (go_at_call 11; refine (works_any _).mono ?_; rintro e w1 ⟨rfl, hb⟩)
    go_ret
    exact ⟨rfl, hb⟩
  · have b1 : decide ((1000 : Int) < (v.size : Int)) = false := by simp; omega
    have b2 : decide (1000 < v.size) = false := by simp; omega
    have hv : v.size ≤ 65536 := by omega
    obtain ⟨n, hn⟩ : ∃ n, n = 1 + a % 7 := ⟨_, rfl⟩
    have hn1 : 1 ≤ n := by omega
    have hn7 : n ≤ 7 := by omega
    have e1 : (a : Int).tmod 7 = ((a % 7 : Nat) : Int) := (Int.ofNat_tmod a 7).symm
    have e2 : IntKind.i64.wrap (1 + ((a % 7 : Nat) : Int)) = (n : Nat) := by rw [IntKind.wrap_i64]; omega
    have e3 : IntKind.u8.wrap ((a % 7 : Nat) : Int) = ((a % 7 : Nat) : Int) := by rw [IntKind.wrap_u8]; omega
    have e4 : IntKind.i64.wrap ((a % 7 : Nat) : Int) = ((a % 7 : Nat) : Int) := by rw [IntKind.wrap_i64]; omega
    generalize a % 7 = r7 at *
    have f1 : IntKind.i64.wrap (c : Int) = c := by rw [IntKind.wrap_i64]; omega
    have f2 : (c : Int).tmod 4096 = ((c % 4096 : Nat) : Int) := (Int.ofNat_tmod c 4096).symm
    have f3 : IntKind.i64.wrap ((c % 4096 : Nat) : Int) = ((c % 4096 : Nat) : Int) := by rw [IntKind.wrap_i64]; omega
    have hk : c % 4096 < 4096 := Nat.mod_lt _ (by decide)
    generalize c % 4096 = k at *
    have g1 : (d : Int).tmod 1073741824 = ((d % 1073741824 : Nat) : Int) := (Int.ofNat_tmod d 1073741824).symm
    have g2 : IntKind.u32.wrap ((d % 1073741824 : Nat) : Int) = ((d % 1073741824 : Nat) : Int) := by rw [IntKind.wrap_u32]; omega
    have g3 : IntKind.i64.wrap ((d % 1073741824 : Nat) : Int) = ((d % 1073741824 : Nat) : Int) := by rw [IntKind.wrap_i64]; omega
    obtain ⟨r, hr⟩ : ∃ r : Nat, r = 1 + d % 1073741824 := ⟨_, rfl⟩
    have g4 : IntKind.i64.wrap (1 + ((d % 1073741824 : Nat) : Int)) = (r : Nat) := by rw [IntKind.wrap_i64]; omega
    have hr1 : 1 ≤ r ∧ r ≤ 1073741824 := by omega
    generalize d % 1073741824 = r30 at *
    have g5 : IntKind.i64.wrap (d : Int) = d := by rw [IntKind.wrap_i64]; omega
    have g6 : (d : Int).tmod (n : Nat) = ((d % n : Nat) : Int) := (Int.ofNat_tmod d n).symm
    have hm : d % n < n := Nat.mod_lt _ (by omega)
    have g7 : IntKind.i64.wrap ((d % n : Nat) : Int) = ((d % n : Nat) : Int) := by rw [IntKind.wrap_i64]; omega
    generalize d % n = m at *
    have f12 : ((n : Int) == 0) = false := by simp; omega
    have f13 : (n == 0) = false := by simp; omega
    have f14 : ¬ (n : Int) = 0 := by omega
    have f15 : ¬ n = 0 := by omega
    obtain ⟨l, hl2⟩ : ∃ l, min len1 30 = l := ⟨_, rfl⟩
    have hmin : ∀ (ts : Array TypeId) (t : TypeId) (w : World), (Builtin.min_ ts t #[.int .i64 len1, .int .i64 30]).run Try.prog w = .ok (.int .i64 l) w := min_n 30 _ _ hl2
    have hll : l ≤ len1 := by omega
    have q0 : (l : Int) ≤ (cap1 : Int) := by have := h1.fit.1; omega
    have hcap := h1.fit.2
    have hlc := h1.fit.1
    have HU := Lib.hid h1
    have HN := Lib.hid (new_w n (by omega) w w (Below.refl _ _))
    have hGd : Hid (Gd n r m) := Lib.hid ⟨by omega, by omega, by omega, by omega⟩
    clear hl h1 hl2 hn hr ha
    go_enter Try.func4, Try.ntmps4
    go_wp2_with (go_at_call 12; refine HN.out.mono ?_; rintro e W1 ⟨sb, mb, rfl, hN1, _⟩)
    have hA0 : WAt w sb mb (mjS n k r m v 0) (W1.alloc (.cells #[.int .i64 r, .int .i64 m] TB)) := (show mjS n k r m v 0 = newS n from rfl) ▸ hN1.alloc _
    have hx0 := heap_alloc_new W1 (.cells #[.int .i64 r, .int .i64 m] TB)
    clear hN1 HN
    generalize W1.alloc (.cells #[.int .i64 r, .int .i64 m] TB) = W2 at *
    generalize W1.heap.size = gb at *
    go_loopw [16, 17, 63] (fun s ch i wr => ∃ (j x : Nat), j ≤ l ∧ i = .int .i64 j ∧ s = .int .u64 x ∧ ch = .bool (mj n x) ∧ x ≤ Quo.all1 n ∧ WAt w sb mb (mjS n k r m v x) wr ∧ wr.heap[gb]? = some (.cells #[.int .i64 r, .int .i64 m] TB (0, 0)))
      (fun _ _ i _ => l - nOf i)
    case atStart => exact ⟨0, 0, Nat.zero_le _, rfl, rfl, by rw [mj_z], Nat.zero_le _, hA0, hx0⟩
    case round =>
      obtain ⟨j, x, hj, rfl, rfl, rfl, hx, hA, hbx⟩ := hrel
      by_cases hlt : j < l
      · obtain ⟨b, off, rfl, hbl, hcell⟩ := HU.out.at hA.bel (show j < len1 by omega)
        have hS := HU.out.rng j
        generalize S j = sj at *
        have i1 : 0 ≤ (j : Int) := by omega
        have i2 : (j : Int) < (l : Int) := by omega
        have i3 : decide ((j : Int) < (l : Int)) = true := by simp; omega
        have k1 : IntKind.i64.wrap (sj : Int) = sj := by rw [IntKind.wrap_i64]; omega
        have k2 : (sj : Int).tmod (n : Nat) = ((sj % n : Nat) : Int) := (Int.ofNat_tmod sj n).symm
        have hnd : sj % n < n := Nat.mod_lt _ (by omega)
        have k3 : IntKind.i64.wrap ((sj % n : Nat) : Int) = ((sj % n : Nat) : Int) := by rw [IntKind.wrap_i64]; omega
        generalize sj % n = nd at *
        have h127 := Quo.all1_7 hn7
        obtain ⟨p1, p2, p3⟩ := more_pc x (by omega) nd (by omega)
        have hy := or_low hn7 hx hnd
        obtain ⟨m1, m2, m3⟩ := maj_add hn1 hn7 (v := v) hx hnd (k := k) (by omega) hGd.out hv
        have hsh := Quo.pow_in nd (by omega)
        have hor := bits_or_u64_nat x (2 ^ nd) (by omega) (Quo.pow_lt nd (by omega))
        have hcp := cnt_pc n (by omega) (x ||| 2 ^ nd) (by omega) hy
        have n0 : 0 ≤ (nd : Int) := by omega
        have n1 : (nd : Int) < 64 := by omega
        generalize hyy : x ||| 2 ^ nd = y at *
        generalize 2 ^ nd = q at *
        clear hyy
        have hop := mjS_open n k r m v y p3
        have hat : at' (mjS n k r m v y) k = mjK n r m v y := by rw [mjS_at, if_neg p3]
        have HA := Lib.hid (fun W (h : WAt w sb mb (mjS n k r m v x) W) => h.add nd r m k v m1 m2 m3)
        have HC := Lib.hid (fun W (h : WAt w sb mb (mjS n k r m v y) W) => h.chosen k (wf64 (by omega) (by omega)) hat)
        have HV := Lib.hid (fun W (h : WAt w sb mb (mjS n k r m v y) W) => h.votes k (wf64 (by omega) (by omega)) hat)
        have HO := Lib.hid (fun W (h : WAt w sb mb (mjS n k r m v y) W) => h.opens hop)
        have hmx := mj_pc (n := n) (x := x) rfl
        have hmy := mj_pc (n := n) (x := y) rfl
        have hsg : IntKind.u64.signed = false := rfl
        have hfin : Hid (∀ W, WAt w sb mb (mjS n k r m v y) W → W.heap[gb]? = some (.cells #[.int .i64 r, .int .i64 m] TB (0, 0)) → ∃ (j' x' : Nat), j' ≤ l ∧ Value.int .i64 ((j + 1 : Nat) : Int) = .int .i64 j' ∧ Value.int .u64 (y : Nat) = .int .u64 x' ∧ Value.bool (mj n y) = .bool (mj n x') ∧ x' ≤ Quo.all1 n ∧ WAt w sb mb (mjS n k r m v x') W ∧ W.heap[gb]? = some (.cells #[.int .i64 r, .int .i64 m] TB (0, 0))) :=
          Lib.hid fun W hW hB => ⟨j + 1, y, by omega, rfl, rfl, rfl, hy, hW, hB⟩
        replace hA := Lib.hid hA
        replace hbx := Lib.hid hbx
        clear hop hat m1 m2 m3 hlt hnd hS
        go_wp2
        go_loopw [21, 76] (fun cc ii W => ∃ i : Nat, i ≤ n ∧ ii = .int .i64 i ∧ cc = .int .i64 (cnt i y) ∧ W = wr) (fun _ ii _ => n - nOf ii)
        case atStart => exact ⟨0, Nat.zero_le _, rfl, rfl, rfl⟩
        case round =>
          obtain ⟨i, hi, rfl, rfl, rfl⟩ := hrel
          by_cases hin : i < n
          · have o1 : decide ((i : Int) < (n : Int)) = true := by simp; omega
            have o2 : 0 ≤ (i : Int) := by omega
            have o3 : (i : Int) < 64 := by omega
            have hsr := shr_nat y i
            have hz : y / 2 ^ i < 18446744073709551616 := Nat.lt_of_le_of_lt (Nat.div_le_self _ _) (by omega)
            have hcs : cnt (i + 1) y = cnt i y + y / 2 ^ i % 2 := rfl
            have hcl := cnt_le y i
            generalize y / 2 ^ i = z at *
            have hb1 := and_1 z hz
            have hz2 : z % 2 < 2 := Nat.mod_lt _ (by decide)
            generalize z % 2 = rr at *
            have o4 : IntKind.i64.wrap (rr : Int) = rr := by rw [IntKind.wrap_i64]; omega
            have o5 : IntKind.i64.wrap ((cnt i y : Int) + (rr : Int)) = (cnt (i + 1) y : Nat) := by rw [hcs, IntKind.wrap_i64]; omega
            replace hcs := Lib.hid hcs
            clear hz hz2 hcl
            obtain ⟨c2, hc2⟩ : ∃ c2, cnt (i + 1) y = c2 := ⟨_, rfl⟩
            rw [hc2] at o5
            replace hc2 := Lib.hid hc2
            go_wp2
            go_roundw
            case rel => exact ⟨i + 1, by omega, by go_num, by rw [hc2.out], trivial⟩
            case measure => simp [nOf]; omega
          · have hin' : i = n := by omega
            subst hin'
            have o1 : decide ((i : Int) < (i : Int)) = false := by simp
            have c0 := cell_of_row _ _ 0 _ TB _ hbx.out
            have c1 := cell_of_row _ _ 1 _ TB _ hbx.out
            rw [hcp.1]
            have hpcn := hcp.2
            have hq := fun W => (eq_b r m r m W).trans (by rw [eqB_t ⟨rfl, rfl⟩])
            have hmono : mj i x = true → mj i y = true := by
              rw [hmx, hmy]
              intro h
              exact decide_eq_true (by have := of_decide_eq_true h; omega)
            have hvv := Lib.hid (show mjK i r m v y = ⟨mj i y, if mj i y then v else ⟨#[]⟩, r, m, v, y⟩ from rfl)
            rw [hvv.out] at HC HV
            simp only at HC HV
            clear hmx hcp p1 p2 hvv
            generalize Quo.pc y = p at *
            have l1 : IntKind.i64.wrap (2 * (p : Int)) = 2 * (p : Int) := by rw [IntKind.wrap_i64]; omega
            have l2 : decide ((i : Int) < 2 * (p : Int)) = mj i y := by rw [hmy]; by_cases h : i < 2 * p <;> simp [h] <;> omega
            have l3 : decide (i < 2 * p) = mj i y := hmy.symm
            clear hmy
            generalize mj i x = C at *
            generalize mj i y = D at *
            have hvs : (v.toList == v.toList) = true := by simp
            have hu : (y == y) = true := by simp
            cases D with
            | true =>
              cases C with
              | true =>
                clear hmono
                go_wp2_with fail
                go_at_call 14
                refine (HA.out _ hA.out).mono ?_
                rintro e w1 ⟨rfl, hA1, hk1⟩
                have hb1 := hA.out.box hk1 hbx.out
                go_wp2_with fail
                go_at_call 23
                refine (HC.out _ hA1).mono ?_
                rintro e w2 ⟨rfl, hA2, hB2⟩
                have hb2 := (hB2.block _ (Array.getElem?_eq_some_iff.1 hb1).1).trans hb1
                go_wp2_with fail
                go_at_call 24
                refine (HV.out _ hA2).mono ?_
                rintro e w3 ⟨rfl, hA3, hB3⟩
                have hb3 := (hB3.block _ (Array.getElem?_eq_some_iff.1 hb2).1).trans hb2
                have hB4 := alloc_b w3 (.cells #[.int .i64 r, .int .i64 m] TB)
                have hb4 := (hB4.block _ (Array.getElem?_eq_some_iff.1 hb3).1).trans hb3
                have hA4 := hA3.later hB4
                have hx4 := heap_alloc_new w3 (.cells #[.int .i64 r, .int .i64 m] TB)
                have d0 := cell_of_row _ _ 0 _ TB _ hb4
                have d1 := cell_of_row _ _ 1 _ TB _ hb4
                have d2 := cell_of_row _ _ 0 _ TB _ hx4
                have d3 := cell_of_row _ _ 1 _ TB _ hx4
                clear hk1 hb1 hB2 hb2 hB3 hb3 hB4 hA1 hA2 hA3 hx4
                go_wp2_with fail
                go_at_call 25
                refine (HO.out _ hA4).mono ?_
                rintro e w5 ⟨vO, rfl, hO5, hA5, hB5⟩
                have hb5 := (hB5.block _ (Array.getElem?_eq_some_iff.1 hb4).1).trans hb4
                obtain ⟨oa, oc, rfl⟩ := rows_form hO5
                clear hO5 hB5 hb4 hA4
                simp only [if_true, List.length_nil]

                have hA5' := Lib.hid hA5
                have hb5' := Lib.hid hb5
                clear hA5 hb5
                go_wp2
                go_roundw
                case rel => exact hfin.out _ hA5'.out hb5'.out
                case measure => simp [nOf]; omega
              | false =>
                clear hmono
                go_wp2_with fail
                go_at_call 14
                refine (HA.out _ hA.out).mono ?_
                rintro e w1 ⟨rfl, hA1, hk1⟩
                have hb1 := hA.out.box hk1 hbx.out
                go_wp2_with fail
                go_at_call 23
                refine (HC.out _ hA1).mono ?_
                rintro e w2 ⟨rfl, hA2, hB2⟩
                have hb2 := (hB2.block _ (Array.getElem?_eq_some_iff.1 hb1).1).trans hb1
                go_wp2_with fail
                go_at_call 24
                refine (HV.out _ hA2).mono ?_
                rintro e w3 ⟨rfl, hA3, hB3⟩
                have hb3 := (hB3.block _ (Array.getElem?_eq_some_iff.1 hb2).1).trans hb2
                have hB4 := alloc_b w3 (.cells #[.int .i64 r, .int .i64 m] TB)
                have hb4 := (hB4.block _ (Array.getElem?_eq_some_iff.1 hb3).1).trans hb3
                have hA4 := hA3.later hB4
                have hx4 := heap_alloc_new w3 (.cells #[.int .i64 r, .int .i64 m] TB)
                have d0 := cell_of_row _ _ 0 _ TB _ hb4
                have d1 := cell_of_row _ _ 1 _ TB _ hb4
                have d2 := cell_of_row _ _ 0 _ TB _ hx4
                have d3 := cell_of_row _ _ 1 _ TB _ hx4
                clear hk1 hb1 hB2 hb2 hB3 hb3 hB4 hA1 hA2 hA3 hx4
                go_wp2_with fail
                go_at_call 25
                refine (HO.out _ hA4).mono ?_
                rintro e w5 ⟨vO, rfl, hO5, hA5, hB5⟩
                have hb5 := (hB5.block _ (Array.getElem?_eq_some_iff.1 hb4).1).trans hb4
                obtain ⟨oa, oc, rfl⟩ := rows_form hO5
                clear hO5 hB5 hb4 hA4
                simp only [if_true, List.length_nil]

                have hA5' := Lib.hid hA5
                have hb5' := Lib.hid hb5
                clear hA5 hb5
                go_wp2
                go_roundw
                case rel => exact hfin.out _ hA5'.out hb5'.out
                case measure => simp [nOf]; omega
            | false =>
              obtain rfl : C = false := by cases C; rfl; exact absurd (hmono rfl) (by decide)
              clear hmono
              go_wp2_with fail
              go_at_call 14
              refine (HA.out _ hA.out).mono ?_
              rintro e w1 ⟨rfl, hA1, hk1⟩
              have hb1 := hA.out.box hk1 hbx.out
              go_wp2_with fail
              go_at_call 23
              refine (HC.out _ hA1).mono ?_
              rintro e w2 ⟨rfl, hA2, hB2⟩
              have hb2 := (hB2.block _ (Array.getElem?_eq_some_iff.1 hb1).1).trans hb1
              go_wp2_with fail
              go_at_call 24
              refine (HV.out _ hA2).mono ?_
              rintro e w3 ⟨rfl, hA3, hB3⟩
              have hb3 := (hB3.block _ (Array.getElem?_eq_some_iff.1 hb2).1).trans hb2
              have hB4 := alloc_b w3 (.cells #[.int .i64 r, .int .i64 m] TB)
              have hb4 := (hB4.block _ (Array.getElem?_eq_some_iff.1 hb3).1).trans hb3
              have hA4 := hA3.later hB4
              have hx4 := heap_alloc_new w3 (.cells #[.int .i64 r, .int .i64 m] TB)
              have d0 := cell_of_row _ _ 0 _ TB _ hb4
              have d1 := cell_of_row _ _ 1 _ TB _ hb4
              have d2 := cell_of_row _ _ 0 _ TB _ hx4
              have d3 := cell_of_row _ _ 1 _ TB _ hx4
              clear hk1 hb1 hB2 hb2 hB3 hb3 hB4 hA1 hA2 hA3 hx4
              go_wp2_with fail
              go_at_call 25
              refine (HO.out _ hA4).mono ?_
              rintro e w5 ⟨vO, rfl, hO5, hA5, hB5⟩
              have hb5 := (hB5.block _ (Array.getElem?_eq_some_iff.1 hb4).1).trans hb4
              obtain ⟨oa, oc, rfl⟩ := rows_form hO5
              clear hO5 hB5 hb4 hA4
              simp only [if_false, Bool.false_eq_true, List.length_cons, List.length_nil]

              have hA5' := Lib.hid hA5
              have hb5' := Lib.hid hb5
              clear hA5 hb5
              go_wp2
              go_roundw
              case rel => exact hfin.out _ hA5'.out hb5'.out
              case measure => simp [nOf]; omega
      · have hjl : j = l := by omega
        subst hjl
        have i3 : decide ((j : Int) < (j : Int)) = false := by simp
        have hA' := Lib.hid hA
        clear hA
        go_wp2_with (go_at_call 11; refine (works_any _).mono ?_; rintro e w1 ⟨rfl, hb⟩)
        go_ret
        exact ⟨rfl, hA'.out.bel.trans (hb.mono hA'.out.bel.size)⟩
theorem majority_law (a0 : Int) (a1 : Option Addr) (len1 cap1 : Nat) (S1 : Nat → Nat) (a2 a3 : Int) (s4 : ByteArray) (w : World) (w0 : (Lit.int .u8 a0).wf = true) (w1 : IsU w a1 len1 cap1 S1) (w2 : (Lit.int .u16 a2).wf = true) (w3 : (Lit.int .u32 a3).wf = true) (w4 : s4.size ≤ maxLen) :
    Calls Try.prog 4 #[.int .u8 a0, .slice a1 len1 cap1, .int .u16 a2, .int .u32 a3, .string s4] w (Yes w) := by
  have b0 := bounds_u8 w0
  have b2 := bounds_u16 w2
  have b3 := bounds_u32 w3
  obtain ⟨a, rfl⟩ := Int.eq_ofNat_of_zero_le b0.1
  obtain ⟨c, rfl⟩ := Int.eq_ofNat_of_zero_le b2.1
  obtain ⟨d, rfl⟩ := Int.eq_ofNat_of_zero_le b3.1
  exact majority_go a a1 len1 cap1 S1 c d s4 w (by have := b0.2; omega) w1 (by have := b2.2; omega) (by have := b3.2; omega)
end Go.Proofs.Ytaacnhhinhdinaa.Lrn
