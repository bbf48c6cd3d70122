/- LearnStays. -/
import Derived.Test.YtaacnhhinhdinaaE15
namespace Go.Proofs.Ytaacnhhinhdinaa.Lrn
open Go.RowKit Go.Maps Go.Lib
open Bal (TB bOk ckB ordV eqB eqB_t eqB_f eq_b alloc_b)
set_option linter.unusedVariables false
set_option linter.unusedSimpArgs false
set_option maxRecDepth 100000

set_option maxHeartbeats 16000000 in
theorem stays_voted (a : Nat) (a2 : Option Addr) (len2 cap2 : Nat) (S : Nat → B2) (w : World) (ha : a ≤ 255) (h1 : IsB2 w a2 len2 cap2 S) :
    Calls Try.prog 6 #[.int .u8 a, .bool true, .slice a2 len2 cap2] w (Yes w) := by
  obtain ⟨n, hn⟩ : ∃ n, n = 1 + a % 7 := ⟨_, rfl⟩
  have hn1 : 1 ≤ n := by omega
  have hn7 : n ≤ 7 := by omega
  have e1 : (a : Int).tmod 7 = ((a % 7 : Nat) : Int) := (Int.ofNat_tmod a 7).symm
  have e2 : IntKind.i64.wrap (1 + ((a % 7 : Nat) : Int)) = (n : Nat) := by rw [IntKind.wrap_i64]; omega
  have e3 : IntKind.u8.wrap ((a % 7 : Nat) : Int) = ((a % 7 : Nat) : Int) := by rw [IntKind.wrap_u8]; omega
  have e4 : IntKind.i64.wrap ((a % 7 : Nat) : Int) = ((a % 7 : Nat) : Int) := by rw [IntKind.wrap_i64]; omega
  generalize a % 7 = r7 at *
  have f12 : ((n : Int) == 0) = false := by simp; omega
  have f13 : (n == 0) = false := by simp; omega
  have f14 : ¬ (n : Int) = 0 := by omega
  have f15 : ¬ n = 0 := by omega
  obtain ⟨l, hl2⟩ : ∃ l, min len2 40 = l := ⟨_, rfl⟩
  have hmin : ∀ (ts : Array TypeId) (t : TypeId) (w : World), (Builtin.min_ ts t #[.int .i64 len2, .int .i64 40]).run Try.prog w = .ok (.int .i64 l) w := min_n 40 _ _ hl2
  have hll : l ≤ len2 := by omega
  have q0 : (l : Int) ≤ (cap2 : Int) := by have := h1.fit.1; omega
  have hcap := h1.fit.2
  have hlc := h1.fit.1
  have HU := Lib.hid h1
  have HN := Lib.hid (new_w n (by omega) w w (Below.refl _ _))
  clear h1 hl2 hn ha
  go_enter Try.func6, Try.ntmps6
  go_wp2_with (go_at_call 12; refine HN.out.mono ?_; rintro e W1 ⟨sb, mb, rfl, hN1, _⟩)
  have hA0 : WAt w sb mb (mjS n 3 8 0 gd (2 ^ 0 - 1)) W1 := hN1
  clear hN1 HN
  go_loopw [37] (fun i wr => ∃ j : Nat, j ≤ n ∧ i = .int .i64 j ∧ WAt w sb mb (mjS n 3 8 0 gd (2 ^ j - 1)) wr) (fun i _ => n - nOf i)
  case atStart => exact ⟨0, Nat.zero_le _, rfl, hA0⟩
  case round =>
    obtain ⟨j, hj, rfl, hA⟩ := hrel
    by_cases hlt : j < n
    · have i3 : decide ((j : Int) < (n : Int)) = true := by simp; omega
      obtain ⟨p1, p2⟩ := pow_all n j (by omega)
      obtain ⟨m1, m2, m3⟩ := maj_add hn1 hn7 (v := gd) (r := 8) (m := 0) (pow_in_all n (by omega) j (by omega)) hlt (k := 3) (by omega) ⟨by omega, by omega, by omega, by omega⟩ (by decide)
      rw [p1] at m3
      have HA := Lib.hid (hA.add j 8 0 3 gd m1 m2 m3)
      clear m1 m2 m3 p1 p2 hA hA0
      generalize (mj n (2 ^ j - 1 ||| 2 ^ j) && !mj n (2 ^ j - 1)) = B at *
      go_wp2_with (go_at_call 14; refine HA.out.mono ?_; rintro e w1 ⟨rfl, hA1, _⟩)
      go_roundw
      case rel => exact ⟨j + 1, by omega, by go_num, hA1⟩
      case measure => simp [nOf]; omega
    · have hjn : n = j := by omega
      subst hjn
      rw [mj_stS hn1 hn7] at hA
      have i3 : decide ((n : Int) < (n : Int)) = false := by simp
      have hx0 := pow_in_all n (by omega) n (Nat.le_refl _)
      clear hA0
      go_wp2
      go_loopw [13, 60] (fun g i wr => ∃ (j r x : Nat) (t : ByteArray), j ≤ l ∧ i = .int .i64 j ∧ g = .int .i64 r ∧ x ≤ Quo.all1 n ∧ (r = 0 ∨ t = gd) ∧ WAt w sb mb (stS n r t x) wr) (fun _ i _ => l - nOf i)
      case atStart => exact ⟨0, 8, (2 ^ n - 1), gd, Nat.zero_le _, rfl, rfl, hx0, .inr rfl, hA⟩
      case round =>
        clear hx0 hA
        obtain ⟨j', r, x, t, hj', rfl, rfl, hx, ht, hA⟩ := hrel
        by_cases hlt : j' < l
        · obtain ⟨b, off, rfl, hbl, hc0, hc1⟩ := HU.out.at hA.bel (show j' < len2 by omega)
          have hS := HU.out.rng j'
          generalize S j' = sj at *
          obtain ⟨sx, sy⟩ := sj
          simp only at hc0 hc1 hS
          have i1 : 0 ≤ (j' : Int) := by omega
          have i2 : (j' : Int) < (l : Int) := by omega
          have i4 : decide ((j' : Int) < (l : Int)) = true := by simp; omega
          have k1 : (sx : Int).tmod 16 = ((sx % 16 : Nat) : Int) := (Int.ofNat_tmod sx 16).symm
          have k2 : IntKind.u8.wrap ((sx % 16 : Nat) : Int) = ((sx % 16 : Nat) : Int) := by rw [IntKind.wrap_u8]; omega
          have k3 : IntKind.i64.wrap ((sx % 16 : Nat) : Int) = ((sx % 16 : Nat) : Int) := by rw [IntKind.wrap_i64]; omega
          obtain ⟨ρ, hρ⟩ : ∃ ρ, ρ = 1 + sx % 16 := ⟨_, rfl⟩
          have hρ1 : 1 ≤ ρ ∧ ρ ≤ 16 := by omega
          have k4 : IntKind.i64.wrap (1 + ((sx % 16 : Nat) : Int)) = (ρ : Nat) := by rw [IntKind.wrap_i64]; omega
          generalize sx % 16 = s16 at *
          have k5 : IntKind.i64.wrap (sy : Int) = sy := by rw [IntKind.wrap_i64]; omega
          have k6 : (sy : Int).tmod (n : Nat) = ((sy % n : Nat) : Int) := (Int.ofNat_tmod sy n).symm
          have hnd : sy % n < n := Nat.mod_lt _ (by omega)
          have k7 : IntKind.i64.wrap ((sy % n : Nat) : Int) = ((sy % n : Nat) : Int) := by rw [IntKind.wrap_i64]; omega
          generalize sy % n = nd at *
          have hxb := heap_alloc_new wr (.cells #[.int .u8 sx, .int .u8 sy] TB2)
          have x0 := cell_of_row _ _ 0 _ TB2 _ hxb
          have x1 := cell_of_row _ _ 1 _ TB2 _ hxb
          have hA1 := Lib.hid (hA.alloc (.cells #[.int .u8 sx, .int .u8 sy] TB2))
          clear hxb hA hρ
          have HC := Lib.hid (fun W r' t' x' (h : WAt w sb mb (stS n r' t' x') W) => h.chosen 3 (by decide) (stS_at n r' t' x'))
          have HL1 := Lib.hid (fun W r' t' x' (h : WAt w sb mb (stS n r' t' x') W) => h.learn 3 bd st_learn.1 st_learn.2.1)
          have HL2 := Lib.hid (fun W r' t' x' (h : WAt w sb mb (stS n r' t' x') W) => h.learn 3 gd st_learn.2.2.1 st_learn.2.2.2)
          have HO := Lib.hid (fun W r' t' x' (h : WAt w sb mb (stS n r' t' x') W) => h.opens (stS_open n r' t' x'))
          by_cases hbd : 128 ≤ sy
          · have o1 : decide (128 ≤ sy) = true := by simpa using hbd
            have o2 : decide ((128 : Int) ≤ (sy : Int)) = true := by simp; omega
            obtain ⟨e, r', t', x', hX, hcase⟩ := st_next hn1 hn7 hx ht hnd hρ1 (v := bd) (.inr rfl)
            have HA := Lib.hid (fun W (h : WAt w sb mb (stS n r t x) W) => h.add nd ρ 0 3 bd hX.b hX.e hX.s)
            have hfin : Hid (∀ W, WAt w sb mb (stS n r' t' x') W → ∃ (j r x : Nat) (t : ByteArray), j ≤ l ∧ Value.int .i64 ((j' + 1 : Nat) : Int) = .int .i64 j ∧ Value.int .i64 (r' : Nat) = .int .i64 r ∧ x ≤ Quo.all1 n ∧ (r = 0 ∨ t = gd) ∧ WAt w sb mb (stS n r t x) W) := Lib.hid fun W hW => ⟨j' + 1, r', x', t', by omega, rfl, rfl, hX.x, hX.t, hW⟩
            clear hX hbd hS
            rcases hcase with ⟨ho, rfl, rfl⟩ | ⟨ho, _, rfl, rfl⟩ | ⟨ho, hz, _⟩
            · have o3 : decide (ρ < r') = true := decide_eq_true ho
              have o4 : decide ((ρ : Int) < (r' : Int)) = true := by simp; omega
              clear ho
              go_wp2
              go_quiet (fail)
              go_wp2_with fail
              go_at_call 14
              refine (HA.out _ (hA1.out.drewN _)).mono ?_
              rintro e w2 ⟨rfl, hA2, _⟩
              clear hA1 x0 x1
              go_wp2_with fail
              go_at_call 23
              refine (HC.out _ _ _ _ hA2).mono ?_
              rintro e w3 ⟨rfl, hA3, _⟩
              clear hA2
              go_wp2_with fail
              go_at_call 16
              refine (HL1.out _ _ _ _ hA3).mono ?_
              rintro e w4 ⟨rfl, hA4, _⟩
              clear hA3
              go_wp2_with fail
              go_at_call 16
              refine (HL2.out _ _ _ _ hA4).mono ?_
              rintro e w5 ⟨rfl, hA5, _⟩
              clear hA4
              go_wp2_with fail
              go_at_call 25
              refine (HO.out _ _ _ _ hA5).mono ?_
              rintro e w6 ⟨vO, rfl, hO6, hA6, _⟩
              obtain ⟨oa, oc, rfl⟩ := rows_form hO6
              rw [List.length_nil]
              have hA6' := Lib.hid hA6
              clear hO6 hA5 hA6
              go_wp2
              go_roundw
              case rel => exact hfin.out _ hA6'.out
              case measure => simp [nOf]; omega
            · have o3 : decide (ρ < r') = false := decide_eq_false ho
              have o4 : decide ((ρ : Int) < (r' : Int)) = false := by simp; omega
              clear ho
              go_wp2
              go_quiet (fail)
              go_wp2_with fail
              go_at_call 14
              refine (HA.out _ (hA1.out.drewN _)).mono ?_
              rintro e w2 ⟨rfl, hA2, _⟩
              clear hA1 x0 x1
              go_wp2_with fail
              go_at_call 23
              refine (HC.out _ _ _ _ hA2).mono ?_
              rintro e w3 ⟨rfl, hA3, _⟩
              clear hA2
              go_wp2_with fail
              go_at_call 16
              refine (HL1.out _ _ _ _ hA3).mono ?_
              rintro e w4 ⟨rfl, hA4, _⟩
              clear hA3
              go_wp2_with fail
              go_at_call 16
              refine (HL2.out _ _ _ _ hA4).mono ?_
              rintro e w5 ⟨rfl, hA5, _⟩
              clear hA4
              go_wp2_with fail
              go_at_call 25
              refine (HO.out _ _ _ _ hA5).mono ?_
              rintro e w6 ⟨vO, rfl, hO6, hA6, _⟩
              obtain ⟨oa, oc, rfl⟩ := rows_form hO6
              rw [List.length_nil]
              have hA6' := Lib.hid hA6
              clear hO6 hA5 hA6
              go_wp2
              go_roundw
              case rel => exact hfin.out _ hA6'.out
              case measure => simp [nOf]; omega
            · exact absurd hz.symm gd_bd
          · have o1 : decide (128 ≤ sy) = false := by simpa using hbd
            have o2 : decide ((128 : Int) ≤ (sy : Int)) = false := by simp; omega
            obtain ⟨e, r', t', x', hX, hcase⟩ := st_next hn1 hn7 hx ht hnd hρ1 (v := gd) (.inl rfl)
            have HA := Lib.hid (fun W (h : WAt w sb mb (stS n r t x) W) => h.add nd ρ 0 3 gd hX.b hX.e hX.s)
            have hfin : Hid (∀ W, WAt w sb mb (stS n r' t' x') W → ∃ (j r x : Nat) (t : ByteArray), j ≤ l ∧ Value.int .i64 ((j' + 1 : Nat) : Int) = .int .i64 j ∧ Value.int .i64 (r' : Nat) = .int .i64 r ∧ x ≤ Quo.all1 n ∧ (r = 0 ∨ t = gd) ∧ WAt w sb mb (stS n r t x) W) := Lib.hid fun W hW => ⟨j' + 1, r', x', t', by omega, rfl, rfl, hX.x, hX.t, hW⟩
            clear hX hbd hS
            rcases hcase with ⟨ho, rfl, rfl⟩ | ⟨ho, hz, _⟩ | ⟨ho, _, rfl, rfl⟩
            · have o3 : decide (ρ < r') = true := decide_eq_true ho
              have o4 : decide ((ρ : Int) < (r' : Int)) = true := by simp; omega
              clear ho
              go_wp2
              go_quiet (fail)
              go_wp2_with fail
              go_at_call 14
              refine (HA.out _ (hA1.out.drewN _)).mono ?_
              rintro e w2 ⟨rfl, hA2, _⟩
              clear hA1 x0 x1
              go_wp2_with fail
              go_at_call 23
              refine (HC.out _ _ _ _ hA2).mono ?_
              rintro e w3 ⟨rfl, hA3, _⟩
              clear hA2
              go_wp2_with fail
              go_at_call 16
              refine (HL1.out _ _ _ _ hA3).mono ?_
              rintro e w4 ⟨rfl, hA4, _⟩
              clear hA3
              go_wp2_with fail
              go_at_call 16
              refine (HL2.out _ _ _ _ hA4).mono ?_
              rintro e w5 ⟨rfl, hA5, _⟩
              clear hA4
              go_wp2_with fail
              go_at_call 25
              refine (HO.out _ _ _ _ hA5).mono ?_
              rintro e w6 ⟨vO, rfl, hO6, hA6, _⟩
              obtain ⟨oa, oc, rfl⟩ := rows_form hO6
              rw [List.length_nil]
              have hA6' := Lib.hid hA6
              clear hO6 hA5 hA6
              go_wp2
              go_roundw
              case rel => exact hfin.out _ hA6'.out
              case measure => simp [nOf]; omega
            · exact absurd hz gd_bd
            · have o3 : decide (r' < r) = false := decide_eq_false ho
              have o4 : decide ((r' : Int) < (r : Int)) = false := by simp; omega
              clear ho
              go_wp2
              go_quiet (fail)
              go_wp2_with fail
              go_at_call 14
              refine (HA.out _ (hA1.out.drewN _)).mono ?_
              rintro e w2 ⟨rfl, hA2, _⟩
              clear hA1 x0 x1
              go_wp2_with fail
              go_at_call 23
              refine (HC.out _ _ _ _ hA2).mono ?_
              rintro e w3 ⟨rfl, hA3, _⟩
              clear hA2
              go_wp2_with fail
              go_at_call 16
              refine (HL1.out _ _ _ _ hA3).mono ?_
              rintro e w4 ⟨rfl, hA4, _⟩
              clear hA3
              go_wp2_with fail
              go_at_call 16
              refine (HL2.out _ _ _ _ hA4).mono ?_
              rintro e w5 ⟨rfl, hA5, _⟩
              clear hA4
              go_wp2_with fail
              go_at_call 25
              refine (HO.out _ _ _ _ hA5).mono ?_
              rintro e w6 ⟨vO, rfl, hO6, hA6, _⟩
              obtain ⟨oa, oc, rfl⟩ := rows_form hO6
              rw [List.length_nil]
              have hA6' := Lib.hid hA6
              clear hO6 hA5 hA6
              go_wp2
              go_roundw
              case rel => exact hfin.out _ hA6'.out
              case measure => simp [nOf]; omega
        · have hjl : j' = l := by omega
          subst hjl
          have i4 : decide ((j' : Int) < (j' : Int)) = false := by simp
          have hA' := Lib.hid hA
          clear hA
          go_wp2_with (go_at_call 11; refine (works_any _).mono ?_; rintro e w1 ⟨rfl, hb⟩)
          go_ret
          exact ⟨rfl, hA'.out.bel.trans (hb.mono hA'.out.bel.size)⟩
set_option maxHeartbeats 16000000 in
theorem stays_plain (a : Nat) (a2 : Option Addr) (len2 cap2 : Nat) (S : Nat → B2) (w : World) (ha : a ≤ 255) (h1 : IsB2 w a2 len2 cap2 S) :
    Calls Try.prog 6 #[.int .u8 a, .bool false, .slice a2 len2 cap2] w (Yes w) := by
  obtain ⟨n, hn⟩ : ∃ n, n = 1 + a % 7 := ⟨_, rfl⟩
  have hn1 : 1 ≤ n := by omega
  have hn7 : n ≤ 7 := by omega
  have e1 : (a : Int).tmod 7 = ((a % 7 : Nat) : Int) := (Int.ofNat_tmod a 7).symm
  have e2 : IntKind.i64.wrap (1 + ((a % 7 : Nat) : Int)) = (n : Nat) := by rw [IntKind.wrap_i64]; omega
  have e3 : IntKind.u8.wrap ((a % 7 : Nat) : Int) = ((a % 7 : Nat) : Int) := by rw [IntKind.wrap_u8]; omega
  have e4 : IntKind.i64.wrap ((a % 7 : Nat) : Int) = ((a % 7 : Nat) : Int) := by rw [IntKind.wrap_i64]; omega
  generalize a % 7 = r7 at *
  have f12 : ((n : Int) == 0) = false := by simp; omega
  have f13 : (n == 0) = false := by simp; omega
  have f14 : ¬ (n : Int) = 0 := by omega
  have f15 : ¬ n = 0 := by omega
  obtain ⟨l, hl2⟩ : ∃ l, min len2 40 = l := ⟨_, rfl⟩
  have hmin : ∀ (ts : Array TypeId) (t : TypeId) (w : World), (Builtin.min_ ts t #[.int .i64 len2, .int .i64 40]).run Try.prog w = .ok (.int .i64 l) w := min_n 40 _ _ hl2
  have hll : l ≤ len2 := by omega
  have q0 : (l : Int) ≤ (cap2 : Int) := by have := h1.fit.1; omega
  have hcap := h1.fit.2
  have hlc := h1.fit.1
  have HU := Lib.hid h1
  have HN := Lib.hid (new_w n (by omega) w w (Below.refl _ _))
  clear h1 hl2 hn ha
  go_enter Try.func6, Try.ntmps6
  go_wp2_with (go_at_call 12; refine HN.out.mono ?_; rintro e W1 ⟨sb, mb, rfl, hN1, _⟩)
  obtain ⟨l1, l2⟩ := st_new n
  have HL := Lib.hid (hN1.learn 3 gd l1 l2)
  clear l1 l2 hN1 HN
  go_wp2_with (go_at_call 16; refine HL.out.mono ?_; rintro e wr ⟨rfl, hA, _⟩)
  have hx0 : (0 : Nat) ≤ Quo.all1 n := Nat.zero_le _
  go_loopw [13, 60] (fun g i wr => ∃ (j r x : Nat) (t : ByteArray), j ≤ l ∧ i = .int .i64 j ∧ g = .int .i64 r ∧ x ≤ Quo.all1 n ∧ (r = 0 ∨ t = gd) ∧ WAt w sb mb (stS n r t x) wr) (fun _ i _ => l - nOf i)
  case atStart => exact ⟨0, 0, 0, ⟨#[]⟩, Nat.zero_le _, rfl, rfl, hx0, .inl rfl, hA⟩
  case round =>
    clear hx0 hA
    obtain ⟨j', r, x, t, hj', rfl, rfl, hx, ht, hA⟩ := hrel
    by_cases hlt : j' < l
    · obtain ⟨b, off, rfl, hbl, hc0, hc1⟩ := HU.out.at hA.bel (show j' < len2 by omega)
      have hS := HU.out.rng j'
      generalize S j' = sj at *
      obtain ⟨sx, sy⟩ := sj
      simp only at hc0 hc1 hS
      have i1 : 0 ≤ (j' : Int) := by omega
      have i2 : (j' : Int) < (l : Int) := by omega
      have i4 : decide ((j' : Int) < (l : Int)) = true := by simp; omega
      have k1 : (sx : Int).tmod 16 = ((sx % 16 : Nat) : Int) := (Int.ofNat_tmod sx 16).symm
      have k2 : IntKind.u8.wrap ((sx % 16 : Nat) : Int) = ((sx % 16 : Nat) : Int) := by rw [IntKind.wrap_u8]; omega
      have k3 : IntKind.i64.wrap ((sx % 16 : Nat) : Int) = ((sx % 16 : Nat) : Int) := by rw [IntKind.wrap_i64]; omega
      obtain ⟨ρ, hρ⟩ : ∃ ρ, ρ = 1 + sx % 16 := ⟨_, rfl⟩
      have hρ1 : 1 ≤ ρ ∧ ρ ≤ 16 := by omega
      have k4 : IntKind.i64.wrap (1 + ((sx % 16 : Nat) : Int)) = (ρ : Nat) := by rw [IntKind.wrap_i64]; omega
      generalize sx % 16 = s16 at *
      have k5 : IntKind.i64.wrap (sy : Int) = sy := by rw [IntKind.wrap_i64]; omega
      have k6 : (sy : Int).tmod (n : Nat) = ((sy % n : Nat) : Int) := (Int.ofNat_tmod sy n).symm
      have hnd : sy % n < n := Nat.mod_lt _ (by omega)
      have k7 : IntKind.i64.wrap ((sy % n : Nat) : Int) = ((sy % n : Nat) : Int) := by rw [IntKind.wrap_i64]; omega
      generalize sy % n = nd at *
      have hxb := heap_alloc_new wr (.cells #[.int .u8 sx, .int .u8 sy] TB2)
      have x0 := cell_of_row _ _ 0 _ TB2 _ hxb
      have x1 := cell_of_row _ _ 1 _ TB2 _ hxb
      have hA1 := Lib.hid (hA.alloc (.cells #[.int .u8 sx, .int .u8 sy] TB2))
      clear hxb hA hρ
      have HC := Lib.hid (fun W r' t' x' (h : WAt w sb mb (stS n r' t' x') W) => h.chosen 3 (by decide) (stS_at n r' t' x'))
      have HL1 := Lib.hid (fun W r' t' x' (h : WAt w sb mb (stS n r' t' x') W) => h.learn 3 bd st_learn.1 st_learn.2.1)
      have HL2 := Lib.hid (fun W r' t' x' (h : WAt w sb mb (stS n r' t' x') W) => h.learn 3 gd st_learn.2.2.1 st_learn.2.2.2)
      have HO := Lib.hid (fun W r' t' x' (h : WAt w sb mb (stS n r' t' x') W) => h.opens (stS_open n r' t' x'))
      by_cases hbd : 128 ≤ sy
      · have o1 : decide (128 ≤ sy) = true := by simpa using hbd
        have o2 : decide ((128 : Int) ≤ (sy : Int)) = true := by simp; omega
        obtain ⟨e, r', t', x', hX, hcase⟩ := st_next hn1 hn7 hx ht hnd hρ1 (v := bd) (.inr rfl)
        have HA := Lib.hid (fun W (h : WAt w sb mb (stS n r t x) W) => h.add nd ρ 0 3 bd hX.b hX.e hX.s)
        have hfin : Hid (∀ W, WAt w sb mb (stS n r' t' x') W → ∃ (j r x : Nat) (t : ByteArray), j ≤ l ∧ Value.int .i64 ((j' + 1 : Nat) : Int) = .int .i64 j ∧ Value.int .i64 (r' : Nat) = .int .i64 r ∧ x ≤ Quo.all1 n ∧ (r = 0 ∨ t = gd) ∧ WAt w sb mb (stS n r t x) W) := Lib.hid fun W hW => ⟨j' + 1, r', x', t', by omega, rfl, rfl, hX.x, hX.t, hW⟩
        clear hX hbd hS
        rcases hcase with ⟨ho, rfl, rfl⟩ | ⟨ho, _, rfl, rfl⟩ | ⟨ho, hz, _⟩
        · have o3 : decide (ρ < r') = true := decide_eq_true ho
          have o4 : decide ((ρ : Int) < (r' : Int)) = true := by simp; omega
          clear ho
          go_wp2
          go_quiet (fail)
          go_wp2_with fail
          go_at_call 14
          refine (HA.out _ (hA1.out.drewN _)).mono ?_
          rintro e w2 ⟨rfl, hA2, _⟩
          clear hA1 x0 x1
          go_wp2_with fail
          go_at_call 23
          refine (HC.out _ _ _ _ hA2).mono ?_
          rintro e w3 ⟨rfl, hA3, _⟩
          clear hA2
          go_wp2_with fail
          go_at_call 16
          refine (HL1.out _ _ _ _ hA3).mono ?_
          rintro e w4 ⟨rfl, hA4, _⟩
          clear hA3
          go_wp2_with fail
          go_at_call 16
          refine (HL2.out _ _ _ _ hA4).mono ?_
          rintro e w5 ⟨rfl, hA5, _⟩
          clear hA4
          go_wp2_with fail
          go_at_call 25
          refine (HO.out _ _ _ _ hA5).mono ?_
          rintro e w6 ⟨vO, rfl, hO6, hA6, _⟩
          obtain ⟨oa, oc, rfl⟩ := rows_form hO6
          rw [List.length_nil]
          have hA6' := Lib.hid hA6
          clear hO6 hA5 hA6
          go_wp2
          go_roundw
          case rel => exact hfin.out _ hA6'.out
          case measure => simp [nOf]; omega
        · have o3 : decide (ρ < r') = false := decide_eq_false ho
          have o4 : decide ((ρ : Int) < (r' : Int)) = false := by simp; omega
          clear ho
          go_wp2
          go_quiet (fail)
          go_wp2_with fail
          go_at_call 14
          refine (HA.out _ (hA1.out.drewN _)).mono ?_
          rintro e w2 ⟨rfl, hA2, _⟩
          clear hA1 x0 x1
          go_wp2_with fail
          go_at_call 23
          refine (HC.out _ _ _ _ hA2).mono ?_
          rintro e w3 ⟨rfl, hA3, _⟩
          clear hA2
          go_wp2_with fail
          go_at_call 16
          refine (HL1.out _ _ _ _ hA3).mono ?_
          rintro e w4 ⟨rfl, hA4, _⟩
          clear hA3
          go_wp2_with fail
          go_at_call 16
          refine (HL2.out _ _ _ _ hA4).mono ?_
          rintro e w5 ⟨rfl, hA5, _⟩
          clear hA4
          go_wp2_with fail
          go_at_call 25
          refine (HO.out _ _ _ _ hA5).mono ?_
          rintro e w6 ⟨vO, rfl, hO6, hA6, _⟩
          obtain ⟨oa, oc, rfl⟩ := rows_form hO6
          rw [List.length_nil]
          have hA6' := Lib.hid hA6
          clear hO6 hA5 hA6
          go_wp2
          go_roundw
          case rel => exact hfin.out _ hA6'.out
          case measure => simp [nOf]; omega
        · exact absurd hz.symm gd_bd
      · have o1 : decide (128 ≤ sy) = false := by simpa using hbd
        have o2 : decide ((128 : Int) ≤ (sy : Int)) = false := by simp; omega
        obtain ⟨e, r', t', x', hX, hcase⟩ := st_next hn1 hn7 hx ht hnd hρ1 (v := gd) (.inl rfl)
        have HA := Lib.hid (fun W (h : WAt w sb mb (stS n r t x) W) => h.add nd ρ 0 3 gd hX.b hX.e hX.s)
        have hfin : Hid (∀ W, WAt w sb mb (stS n r' t' x') W → ∃ (j r x : Nat) (t : ByteArray), j ≤ l ∧ Value.int .i64 ((j' + 1 : Nat) : Int) = .int .i64 j ∧ Value.int .i64 (r' : Nat) = .int .i64 r ∧ x ≤ Quo.all1 n ∧ (r = 0 ∨ t = gd) ∧ WAt w sb mb (stS n r t x) W) := Lib.hid fun W hW => ⟨j' + 1, r', x', t', by omega, rfl, rfl, hX.x, hX.t, hW⟩
        clear hX hbd hS
        rcases hcase with ⟨ho, rfl, rfl⟩ | ⟨ho, hz, _⟩ | ⟨ho, _, rfl, rfl⟩
        · have o3 : decide (ρ < r') = true := decide_eq_true ho
          have o4 : decide ((ρ : Int) < (r' : Int)) = true := by simp; omega
          clear ho
          go_wp2
          go_quiet (fail)
          go_wp2_with fail
          go_at_call 14
          refine (HA.out _ (hA1.out.drewN _)).mono ?_
          rintro e w2 ⟨rfl, hA2, _⟩
          clear hA1 x0 x1
          go_wp2_with fail
          go_at_call 23
          refine (HC.out _ _ _ _ hA2).mono ?_
          rintro e w3 ⟨rfl, hA3, _⟩
          clear hA2
          go_wp2_with fail
          go_at_call 16
          refine (HL1.out _ _ _ _ hA3).mono ?_
          rintro e w4 ⟨rfl, hA4, _⟩
          clear hA3
          go_wp2_with fail
          go_at_call 16
          refine (HL2.out _ _ _ _ hA4).mono ?_
          rintro e w5 ⟨rfl, hA5, _⟩
          clear hA4
          go_wp2_with fail
          go_at_call 25
          refine (HO.out _ _ _ _ hA5).mono ?_
          rintro e w6 ⟨vO, rfl, hO6, hA6, _⟩
          obtain ⟨oa, oc, rfl⟩ := rows_form hO6
          rw [List.length_nil]
          have hA6' := Lib.hid hA6
          clear hO6 hA5 hA6
          go_wp2
          go_roundw
          case rel => exact hfin.out _ hA6'.out
          case measure => simp [nOf]; omega
        · exact absurd hz gd_bd
        · have o3 : decide (r' < r) = false := decide_eq_false ho
          have o4 : decide ((r' : Int) < (r : Int)) = false := by simp; omega
          clear ho
          go_wp2
          go_quiet (fail)
          go_wp2_with fail
          go_at_call 14
          refine (HA.out _ (hA1.out.drewN _)).mono ?_
          rintro e w2 ⟨rfl, hA2, _⟩
          clear hA1 x0 x1
          go_wp2_with fail
          go_at_call 23
          refine (HC.out _ _ _ _ hA2).mono ?_
          rintro e w3 ⟨rfl, hA3, _⟩
          clear hA2
          go_wp2_with fail
          go_at_call 16
          refine (HL1.out _ _ _ _ hA3).mono ?_
          rintro e w4 ⟨rfl, hA4, _⟩
          clear hA3
          go_wp2_with fail
          go_at_call 16
          refine (HL2.out _ _ _ _ hA4).mono ?_
          rintro e w5 ⟨rfl, hA5, _⟩
          clear hA4
          go_wp2_with fail
          go_at_call 25
          refine (HO.out _ _ _ _ hA5).mono ?_
          rintro e w6 ⟨vO, rfl, hO6, hA6, _⟩
          obtain ⟨oa, oc, rfl⟩ := rows_form hO6
          rw [List.length_nil]
          have hA6' := Lib.hid hA6
          clear hO6 hA5 hA6
          go_wp2
          go_roundw
          case rel => exact hfin.out _ hA6'.out
          case measure => simp [nOf]; omega
    · have hjl : j' = l := by omega
      subst hjl
      have i4 : decide ((j' : Int) < (j' : Int)) = false := by simp
      have hA' := Lib.hid hA
      clear hA
      go_wp2_with (go_at_call 11; refine (works_any _).mono ?_; rintro e w1 ⟨rfl, hb⟩)
      go_ret
      exact ⟨rfl, hA'.out.bel.trans (hb.mono hA'.out.bel.size)⟩
theorem stays_law (a0 : Int) (b1 : Bool) (a2 : Option Addr) (len2 cap2 : Nat) (S2 : Nat → B2) (w : World) (w0 : (Lit.int .u8 a0).wf = true) (w1 : True) (w2 : IsB2 w a2 len2 cap2 S2) :
    Calls Try.prog 6 #[.int .u8 a0, .bool b1, .slice a2 len2 cap2] w (Yes w) := by
  have b0 := bounds_u8 w0
  obtain ⟨a, rfl⟩ := Int.eq_ofNat_of_zero_le b0.1
  cases b1 with
  | true => exact stays_voted a a2 len2 cap2 S2 w (by have := b0.2; omega) w2
  | false => exact stays_plain a a2 len2 cap2 S2 w (by have := b0.2; omega) w2
end Go.Proofs.Ytaacnhhinhdinaa.Lrn
