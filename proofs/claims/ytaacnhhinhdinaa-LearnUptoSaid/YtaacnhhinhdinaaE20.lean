/- LearnUpto. -/
import Derived.Test.YtaacnhhinhdinaaE19
import Derived.OwnWalk
namespace Go.Proofs.Ytaacnhhinhdinaa.Lrn
open Go.RowKit Go.Maps Go.Lib
open Bal (TB bOk ckB ordV eqB eqB_t eqB_f eq_b alloc_b)
set_option linter.unusedVariables false
set_option linter.unusedSimpArgs false
set_option maxRecDepth 100000

theorem lt_byte (g : Nat) (h : g < 60) : (97 : Int) + (g : Int) = ((UInt8.ofNat (97 + g)).toNat : Int) := by
  have : (UInt8.ofNat (97 + g)).toNat = 97 + g := by
    rw [UInt8.toNat_ofNat']
    exact Nat.mod_eq_of_lt (by omega)
  rw [this]
  omega
set_option maxHeartbeats 32000000 in
theorem upto_go (a0 : Option Addr) (len0 cap0 : Nat) (S : Nat → Nat) (ev mu : Nat) (w : World) (h1 : IsU w a0 len0 cap0 S) (he : ev ≤ 255) (hm : mu ≤ 255) :
    Calls Try.prog 7 #[.slice a0 len0 cap0, .int .u8 ev, .int .u8 mu] w (Yes w) := by
  obtain ⟨l, hl2⟩ : ∃ l, min len0 60 = l := ⟨_, rfl⟩
  have hmin : ∀ (ts : Array TypeId) (t : TypeId) (w : World), (Builtin.min_ ts t #[.int .i64 len0, .int .i64 60]).run Try.prog w = .ok (.int .i64 l) w := min_n 60 _ _ hl2
  have hll : l ≤ len0 ∧ l ≤ 60 := by omega
  have q0 : (l : Int) ≤ (cap0 : Int) := by have := h1.fit.1; omega
  have hcap := h1.fit.2
  have hlc := h1.fit.1
  have e1 : (ev : Int).tmod 16 = ((ev % 16 : Nat) : Int) := (Int.ofNat_tmod ev 16).symm
  have e3 : IntKind.u8.wrap ((ev % 16 : Nat) : Int) = ((ev % 16 : Nat) : Int) := by rw [IntKind.wrap_u8]; omega
  have e4 : IntKind.i64.wrap ((ev % 16 : Nat) : Int) = ((ev % 16 : Nat) : Int) := by rw [IntKind.wrap_i64]; omega
  obtain ⟨D, hD⟩ : ∃ D, D = 2 + ev % 16 := ⟨_, rfl⟩
  have e2 : IntKind.i64.wrap (2 + ((ev % 16 : Nat) : Int)) = (D : Nat) := by rw [IntKind.wrap_i64]; omega
  have hD0 : 0 < D := by omega
  generalize ev % 16 = r16 at *
  have f12 : ((D : Int) == 0) = false := by simp; omega
  have f13 : (D == 0) = false := by simp; omega
  have f14 : ¬ (D : Int) = 0 := by omega
  have f15 : ¬ D = 0 := by omega
  have HU := Lib.hid h1
  have HN := Lib.hid (new_w 3 (by omega) w w (Below.refl _ _))
  obtain ⟨i0, hi, hz0, hz1, hz2⟩ := info_p info_bo
  clear h1 hl2 hD he
  go_enter Try.func7, Try.ntmps7
  go_wp2_with (first
    | (go_at_call 12; refine HN.out.mono ?_; rintro e W1 ⟨sb, mb, rfl, hN1, _⟩)
    | (at_make; refine wpList_make_full _ rfl _ _ 60 rfl W1.heap.size TBo i0 (.bool false) 1 Try.underlying60 hi hz0 hz1 _ _ _ _ 100 rfl rfl rfl rfl (by rw [hz2]; decide) (by unfold maxLen; decide) (Nat.le_refl _) ?_; intro W2 hown hg1))
  have hb1 : Below W1.heap.size W1 W2 := (Below.refl _ _).grown hg1 (Nat.le_refl _) (fun _ h => by cases h)
  have hA0 : WAt w sb mb (upS 0 fun _ => false) W2 := by rw [up_new]; exact hN1.later hb1
  have hG0 := made_blc hown
  have hwg : w.heap.size ≤ W1.heap.size := hN1.bel.size
  clear hown hg1 hb1 hN1 HN
  generalize W1.heap.size = gb at *
  go_loopw [2, 9, 10, 33] (fun mu ba la i wr => ∃ (j m b L : Nat) (C : Nat → Bool), j ≤ l ∧ i = .int .i64 j ∧ mu = .int .u8 m ∧ ba = .int .i64 b ∧ la = .int .i64 L ∧ m ≤ 255 ∧ b ≤ 44 ∧ (∀ k, 40 ≤ k → C k = false) ∧ (∀ k, b ≤ k → k < L → C k = true) ∧ WAt w sb mb (upS b C) wr ∧ BlC wr gb C) (fun _ _ _ i _ => l - nOf i)
  case atStart => exact ⟨0, mu, 0, 0, _, Nat.zero_le _, rfl, rfl, rfl, rfl, hm, by omega, fun _ _ => rfl, fun k h1 h2 => by omega, hA0, hG0⟩
  case round =>
    clear hA0 hG0
    obtain ⟨j, m, b, L, C, hj, rfl, rfl, rfl, rfl, hm255, hb44, hC, hL, hA, hG⟩ := hrel
    by_cases hlt : j < l
    · obtain ⟨vb, off, rfl, hbl, hc0⟩ := HU.out.at hA.bel (show j < len0 by omega)
      have hS := HU.out.rng j
      generalize S j = sj at *
      have i1 : 0 ≤ (j : Int) := by omega
      have i2 : (j : Int) < (l : Int) := by omega
      have i4 : decide ((j : Int) < (l : Int)) = true := by simp; omega
      have k1 : (sj : Int).tmod 40 = ((sj % 40 : Nat) : Int) := (Int.ofNat_tmod sj 40).symm
      have k2 : IntKind.u8.wrap ((sj % 40 : Nat) : Int) = ((sj % 40 : Nat) : Int) := by rw [IntKind.wrap_u8]; omega
      have k3 : IntKind.i64.wrap ((sj % 40 : Nat) : Int) = ((sj % 40 : Nat) : Int) := by rw [IntKind.wrap_i64]; omega
      have hs40 : sj % 40 < 40 := Nat.mod_lt _ (by decide)
      generalize sj % 40 = sl at *
      have k8 : IntKind.u8.wrap (sl : Int) = sl := by rw [IntKind.wrap_u8]; omega
      have k9 : IntKind.u8.wrap (97 + (sl : Int)) = 97 + (sl : Int) := by rw [IntKind.wrap_u8]; omega
      have hbv := Lib.hid (lt_byte sl (by omega))
      have hltb : Hid (lt sl = ⟨#[UInt8.ofNat (97 + sl)]⟩) := Lib.hid rfl
      generalize UInt8.ofNat (97 + sl) = ub at *
      have z0 : 0 ≤ (sl : Int) := by omega
      have z1 : (sl : Int) < 100 := by omega
      have m1 : IntKind.i64.wrap ((j : Int) + 1) = ((j + 1 : Nat) : Int) := by rw [IntKind.wrap_i64]; omega
      have m2 : ((j + 1 : Nat) : Int).tmod (D : Nat) = (((j + 1) % D : Nat) : Int) := (Int.ofNat_tmod (j + 1) D).symm
      have m3 : IntKind.i64.wrap (((j + 1) % D : Nat) : Int) = (((j + 1) % D : Nat) : Int) := by
        have := Nat.mod_le (j + 1) D
        rw [IntKind.wrap_i64]; omega
      obtain ⟨jp, hjp⟩ : ∃ jp, j + 1 = jp := ⟨_, rfl⟩
      rw [hjp] at m1 m2 m3
      replace hjp := Lib.hid hjp
      generalize jp % D = jd at *
      have t1 : IntKind.i64.wrap (m : Int) = m := by rw [IntKind.wrap_i64]; omega
      have t2 : (m : Int).tmod 45 = ((m % 45 : Nat) : Int) := (Int.ofNat_tmod m 45).symm
      have t3 : IntKind.i64.wrap ((m % 45 : Nat) : Int) = ((m % 45 : Nat) : Int) := by rw [IntKind.wrap_i64]; omega
      have hu45 : m % 45 < 45 := Nat.mod_lt _ (by decide)
      generalize m % 45 = u at *
      have t4 : max (b : Int) (u : Int) = ((max b u : Nat) : Int) := by omega
      have t5 : IntKind.u8.wrap ((m : Int) + 7) = (((m + 7) % 256 : Nat) : Int) := by rw [IntKind.wrap_u8]; omega
      have hmx : max b u ≤ 44 ∧ b ≤ max b u := by omega
      have hm7 : (m + 7) % 256 ≤ 255 := by omega
      generalize (m + 7) % 256 = m7 at *
      obtain ⟨b2, hb2⟩ : ∃ b2, max b u = b2 := ⟨_, rfl⟩
      rw [hb2] at t4 hmx
      by_cases hsb : sl < b
      · have o1 : decide (sl < b) = true := decide_eq_true hsb
        have o2 : decide ((sl : Int) < (b : Int)) = true := by simp; omega
        obtain ⟨l1, l2⟩ := up_late (C := C) hs40 hsb
        rw [hltb.out] at l1 l2
        have hcv := conv_one wr _ _ hbv.out
        have HL := Lib.hid ((hA.alloc (.cells #[.int .u8 (97 + (sl : Int))] 5)).learn sl ⟨#[ub]⟩ l1 l2)
        have hGa := hG.later (alloc_b wr (.cells #[.int .u8 (97 + (sl : Int))] 5))
        have hAa := hA.alloc (.cells #[.int .u8 (97 + (sl : Int))] 5)
        clear l1 l2 hA hG
        go_wp2_with fail
        go_at_call 16
        refine HL.out.mono ?_
        rintro e w3 ⟨rfl, hA, hk3⟩
        have hG := hAa.blc hk3 hGa
        clear hk3 hAa hGa HL hcv
        have hC' := Lib.hid hC
        have hL' := Lib.hid hL
        clear hC hL o1 o2 hsb k1 k2 k3 k8 k9 hc0
        by_cases hjd : jd = 0
        · have o3 : (jd == 0) = true := by simpa using hjd
          have o4 : ((jd : Int) == 0) = true := by simp; omega
          have o5 : ((jd : Int) = 0) = True := by simp; omega
          subst hjd
          obtain ⟨f1, f2⟩ := up_forget (b := b) (C := C) (u := u) (by omega)
          rw [hb2] at f2
          have HF := Lib.hid (hA.forget u f1 f2)
          clear f1 f2
          go_wp2_with fail
          go_at_call 18
          refine HF.out.mono ?_
          rintro e w4 ⟨rfl, hA4, hk4⟩
          have hG4 := hA.blc hk4 hG
          clear hk4 HF hA hG
          have hL4 : Hid (∀ k, b2 ≤ k → k < L → C k = true) := Lib.hid fun k h1 h2 => hL'.out k (by omega) h2
          clear hL'
          go_wp2
          have hAh := Lib.hid hA4
          have hGh := Lib.hid hG4
          have hCc := Lib.hid (fun k (hk : k < 100) => hG4.cell hk)
          clear hA4 hG4
          go_loopw [16] (fun up W => ∃ k : Nat, b2 ≤ k ∧ k ≤ 44 ∧ up = .int .i64 k ∧ (∀ i, b2 ≤ i → i < k → C i = true) ∧ uptoV (upS b2 C) = upTo (upM b2 C) (k : Int) (4096 - (k : Int)).toNat ∧ W = w4) (fun up _ => 44 - nOf up)
          case atStart => exact ⟨b2, Nat.le_refl _, by omega, rfl, fun i h1 h2 => by omega, up_v _ _, rfl⟩
          case round =>
            obtain ⟨k, hk1, hk2, rfl, hk3, hk4, rfl⟩ := hrel
            have p0 : 0 ≤ (k : Int) := by omega
            have p1 : (k : Int) < 100 := by omega
            have hcc := hCc.out k (by omega)
            replace hk3 := Lib.hid hk3
            replace hk4 := Lib.hid hk4
            cases hCk : C k with
            | true =>
              rw [hCk] at hcc
              have hk40 : k < 40 := by
                rcases Nat.lt_or_ge k 40 with h | h
                · exact h
                · have := hC'.out k h; rw [hCk] at this; cases this
              have r1 : IntKind.i64.wrap ((k : Int) + 1) = ((k + 1 : Nat) : Int) := by rw [IntKind.wrap_i64]; omega
              have hCk' := Lib.hid hCk
              clear hCk
              go_wp2
              go_roundw
              case rel => exact ⟨k + 1, by omega, by omega, rfl, fun i h1 h2 => by
                rcases Nat.lt_or_ge i k with h | h
                · exact hk3.out i h1 h
                · have : i = k := by omega
                  rw [this]; exact hCk'.out, by rw [hk4.out]; exact up_t hk1 hk40 hCk'.out, trivial⟩
              case measure => simp [nOf]; omega
            | false =>
              rw [hCk] at hcc
              have hU : uptoV (upS b2 C) = k := by rw [hk4.out]; exact up_f hCk _
              have HU2 := Lib.hid (hAh.out.upto hU)
              have hLk : L ≤ k := by
                rcases Nat.lt_or_ge k L with h | h
                · have := hL4.out k hk1 h; rw [hCk] at this; cases this
                · exact h
              have r1 : decide (k < L) = false := by simp; omega
              have r2 : decide ((k : Int) < (L : Int)) = false := by simp; omega
              have r3 : ((k : Int) == (k : Int)) = true := by simp
              have hCk' := Lib.hid hCk
              clear hCk hU
              go_wp2_with (go_at_call 27; refine HU2.out.mono ?_; rintro e w5 ⟨rfl, rfl⟩)
              clear hcc HU2
              go_loopw [95] (fun ii W => ∃ i : Nat, i ≤ 45 ∧ ii = .int .i64 i ∧ WAt w sb mb (upS b2 C) W ∧ BlC W gb C) (fun ii _ => 45 - nOf ii)
              case atStart => exact ⟨0, Nat.zero_le _, rfl, hAh.out, hGh.out⟩
              case round =>
                obtain ⟨i, hi45, rfl, hA6, hG6⟩ := hrel
                by_cases hi2 : i < 45
                · have s1 : decide (i < 45) = true := decide_eq_true hi2
                  have s2 : decide ((i : Int) < 45) = true := by simp; omega
                  have s3 : 0 ≤ (i : Int) := by omega
                  have s4 : (i : Int) < 100 := by omega
                  have s5 : IntKind.u8.wrap (i : Int) = i := by rw [IntKind.wrap_u8]; omega
                  have s6 : IntKind.u8.wrap (97 + (i : Int)) = 97 + (i : Int) := by rw [IntKind.wrap_u8]; omega
                  have hbi := Lib.hid (lt_byte i (by omega))
                  have hlti : Hid (lt i = ⟨#[UInt8.ofNat (97 + i)]⟩) := Lib.hid rfl
                  generalize UInt8.ofNat (97 + i) = ui at *
                  by_cases hin : i < 40 ∧ b2 ≤ i ∧ C i = true
                  · have hat : at' (upS b2 C) i = ukn i := by rw [at_up, if_pos hin]
                    have HC := Lib.hid (hA6.chosen i (wf64 (by omega) (by omega)) hat)
                    have s7 : decide (b2 ≤ i) = true := decide_eq_true hin.2.1
                    have s8 : decide ((b2 : Int) ≤ (i : Int)) = true := by simp; omega
                    have hCi := hin.2.2
                    have hse : (⟨#[ui]⟩ : ByteArray).toList == (⟨#[ui]⟩ : ByteArray).toList := by simp
                    clear hat hin hA6
                    go_wp2_with fail
                    go_at_call 23
                    refine HC.out.mono ?_
                    rintro e w7 ⟨rfl, hA7, hB7⟩
                    have hG7 := hG6.later hB7
                    have hc7 := hG7.cell (i := i) (by omega)
                    rw [hCi] at hc7
                    have hcv := conv_one w7 _ _ hbi.out
                    have hA8 := Lib.hid (hA7.alloc (.cells #[.int .u8 (97 + (i : Int))] 5))
                    have hG8 := Lib.hid (hG7.later (alloc_b w7 (.cells #[.int .u8 (97 + (i : Int))] 5)))
                    clear hB7 hG6 hA7 hG7 HC hCi
                    simp only [ukn, hlti.out]
                    go_wp2
                    go_roundw
                    case rel => exact ⟨i + 1, by omega, by go_num, hA8.out, hG8.out⟩
                    case measure => simp [nOf]; omega
                  · have hat : at' (upS b2 C) i = zK := by rw [at_up, if_neg hin]
                    have HC := Lib.hid (hA6.chosen i (wf64 (by omega) (by omega)) hat)
                    clear hat hA6
                    cases hCi : C i with
                    | false =>
                      clear hin
                      go_wp2_with fail
                      go_at_call 23
                      refine HC.out.mono ?_
                      rintro e w7 ⟨rfl, hA7, hB7⟩
                      have hG7 := hG6.later hB7
                      have hc7 := hG7.cell (i := i) (by omega)
                      rw [hCi] at hc7
                      have hA8 := Lib.hid hA7
                      have hG8 := Lib.hid hG7
                      clear hB7 hG6 hA7 hG7 HC hCi
                      go_wp2
                      go_roundw
                      case rel => exact ⟨i + 1, by omega, by go_num, hA8.out, hG8.out⟩
                      case measure => simp [nOf]; omega
                    | true =>
                      have hi40 : i < 40 := by
                        rcases Nat.lt_or_ge i 40 with h | h
                        · exact h
                        · have := hC'.out i h; rw [hCi] at this; cases this
                      have hnb : ¬ b2 ≤ i := fun h => hin ⟨hi40, h, hCi⟩
                      have s7 : decide (b2 ≤ i) = false := decide_eq_false hnb
                      have s8 : decide ((b2 : Int) ≤ (i : Int)) = false := by simp; omega
                      clear hin hnb
                      go_wp2_with fail
                      go_at_call 23
                      refine HC.out.mono ?_
                      rintro e w7 ⟨rfl, hA7, hB7⟩
                      have hG7 := hG6.later hB7
                      have hc7 := hG7.cell (i := i) (by omega)
                      rw [hCi] at hc7
                      have hA8 := Lib.hid hA7
                      have hG8 := Lib.hid hG7
                      clear hB7 hG6 hA7 hG7 HC hCi
                      go_wp2
                      go_roundw
                      case rel => exact ⟨i + 1, by omega, by go_num, hA8.out, hG8.out⟩
                      case measure => simp [nOf]; omega
                · have hi3 : i = 45 := by omega
                  subst hi3
                  have hA8 := Lib.hid hA6
                  have hG8 := Lib.hid hG6
                  clear hA6 hG6
                  go_wp2
                  go_roundw
                  case rel => exact ⟨j + 1, m7, b2, k, C, by omega, by rw [hjp.out], rfl, rfl, rfl, by omega, by omega, hC'.out, hk3.out, hA8.out, hG8.out⟩
                  case measure => simp [nOf]; have := hjp.out; omega
        · have o3 : (jd == 0) = false := by simpa using hjd
          have o4 : ((jd : Int) == 0) = false := by simp; omega
          have o5 : ((jd : Int) = 0) = False := by simp; omega
          go_wp2
          have hAh := Lib.hid hA
          have hGh := Lib.hid hG
          have hCc := Lib.hid (fun k (hk : k < 100) => hG.cell hk)
          clear hA hG
          go_loopw [16] (fun up W => ∃ k : Nat, b ≤ k ∧ k ≤ 44 ∧ up = .int .i64 k ∧ (∀ i, b ≤ i → i < k → C i = true) ∧ uptoV (upS b C) = upTo (upM b C) (k : Int) (4096 - (k : Int)).toNat ∧ W = w3) (fun up _ => 44 - nOf up)
          case atStart => exact ⟨b, Nat.le_refl _, by omega, rfl, fun i h1 h2 => by omega, up_v _ _, rfl⟩
          case round =>
            obtain ⟨k, hk1, hk2, rfl, hk3, hk4, rfl⟩ := hrel
            have p0 : 0 ≤ (k : Int) := by omega
            have p1 : (k : Int) < 100 := by omega
            have hcc := hCc.out k (by omega)
            replace hk3 := Lib.hid hk3
            replace hk4 := Lib.hid hk4
            cases hCk : C k with
            | true =>
              rw [hCk] at hcc
              have hk40 : k < 40 := by
                rcases Nat.lt_or_ge k 40 with h | h
                · exact h
                · have := hC'.out k h; rw [hCk] at this; cases this
              have r1 : IntKind.i64.wrap ((k : Int) + 1) = ((k + 1 : Nat) : Int) := by rw [IntKind.wrap_i64]; omega
              have hCk' := Lib.hid hCk
              clear hCk
              go_wp2
              go_roundw
              case rel => exact ⟨k + 1, by omega, by omega, rfl, fun i h1 h2 => by
                rcases Nat.lt_or_ge i k with h | h
                · exact hk3.out i h1 h
                · have : i = k := by omega
                  rw [this]; exact hCk'.out, by rw [hk4.out]; exact up_t hk1 hk40 hCk'.out, trivial⟩
              case measure => simp [nOf]; omega
            | false =>
              rw [hCk] at hcc
              have hU : uptoV (upS b C) = k := by rw [hk4.out]; exact up_f hCk _
              have HU2 := Lib.hid (hAh.out.upto hU)
              have hLk : L ≤ k := by
                rcases Nat.lt_or_ge k L with h | h
                · have := hL'.out k hk1 h; rw [hCk] at this; cases this
                · exact h
              have r1 : decide (k < L) = false := by simp; omega
              have r2 : decide ((k : Int) < (L : Int)) = false := by simp; omega
              have r3 : ((k : Int) == (k : Int)) = true := by simp
              have hCk' := Lib.hid hCk
              clear hCk hU
              go_wp2_with (go_at_call 27; refine HU2.out.mono ?_; rintro e w5 ⟨rfl, rfl⟩)
              clear hcc HU2
              go_loopw [95] (fun ii W => ∃ i : Nat, i ≤ 45 ∧ ii = .int .i64 i ∧ WAt w sb mb (upS b C) W ∧ BlC W gb C) (fun ii _ => 45 - nOf ii)
              case atStart => exact ⟨0, Nat.zero_le _, rfl, hAh.out, hGh.out⟩
              case round =>
                obtain ⟨i, hi45, rfl, hA6, hG6⟩ := hrel
                by_cases hi2 : i < 45
                · have s1 : decide (i < 45) = true := decide_eq_true hi2
                  have s2 : decide ((i : Int) < 45) = true := by simp; omega
                  have s3 : 0 ≤ (i : Int) := by omega
                  have s4 : (i : Int) < 100 := by omega
                  have s5 : IntKind.u8.wrap (i : Int) = i := by rw [IntKind.wrap_u8]; omega
                  have s6 : IntKind.u8.wrap (97 + (i : Int)) = 97 + (i : Int) := by rw [IntKind.wrap_u8]; omega
                  have hbi := Lib.hid (lt_byte i (by omega))
                  have hlti : Hid (lt i = ⟨#[UInt8.ofNat (97 + i)]⟩) := Lib.hid rfl
                  generalize UInt8.ofNat (97 + i) = ui at *
                  by_cases hin : i < 40 ∧ b ≤ i ∧ C i = true
                  · have hat : at' (upS b C) i = ukn i := by rw [at_up, if_pos hin]
                    have HC := Lib.hid (hA6.chosen i (wf64 (by omega) (by omega)) hat)
                    have s7 : decide (b ≤ i) = true := decide_eq_true hin.2.1
                    have s8 : decide ((b : Int) ≤ (i : Int)) = true := by simp; omega
                    have hCi := hin.2.2
                    have hse : (⟨#[ui]⟩ : ByteArray).toList == (⟨#[ui]⟩ : ByteArray).toList := by simp
                    clear hat hin hA6
                    go_wp2_with fail
                    go_at_call 23
                    refine HC.out.mono ?_
                    rintro e w7 ⟨rfl, hA7, hB7⟩
                    have hG7 := hG6.later hB7
                    have hc7 := hG7.cell (i := i) (by omega)
                    rw [hCi] at hc7
                    have hcv := conv_one w7 _ _ hbi.out
                    have hA8 := Lib.hid (hA7.alloc (.cells #[.int .u8 (97 + (i : Int))] 5))
                    have hG8 := Lib.hid (hG7.later (alloc_b w7 (.cells #[.int .u8 (97 + (i : Int))] 5)))
                    clear hB7 hG6 hA7 hG7 HC hCi
                    simp only [ukn, hlti.out]
                    go_wp2
                    go_roundw
                    case rel => exact ⟨i + 1, by omega, by go_num, hA8.out, hG8.out⟩
                    case measure => simp [nOf]; omega
                  · have hat : at' (upS b C) i = zK := by rw [at_up, if_neg hin]
                    have HC := Lib.hid (hA6.chosen i (wf64 (by omega) (by omega)) hat)
                    clear hat hA6
                    cases hCi : C i with
                    | false =>
                      clear hin
                      go_wp2_with fail
                      go_at_call 23
                      refine HC.out.mono ?_
                      rintro e w7 ⟨rfl, hA7, hB7⟩
                      have hG7 := hG6.later hB7
                      have hc7 := hG7.cell (i := i) (by omega)
                      rw [hCi] at hc7
                      have hA8 := Lib.hid hA7
                      have hG8 := Lib.hid hG7
                      clear hB7 hG6 hA7 hG7 HC hCi
                      go_wp2
                      go_roundw
                      case rel => exact ⟨i + 1, by omega, by go_num, hA8.out, hG8.out⟩
                      case measure => simp [nOf]; omega
                    | true =>
                      have hi40 : i < 40 := by
                        rcases Nat.lt_or_ge i 40 with h | h
                        · exact h
                        · have := hC'.out i h; rw [hCi] at this; cases this
                      have hnb : ¬ b ≤ i := fun h => hin ⟨hi40, h, hCi⟩
                      have s7 : decide (b ≤ i) = false := decide_eq_false hnb
                      have s8 : decide ((b : Int) ≤ (i : Int)) = false := by simp; omega
                      clear hin hnb
                      go_wp2_with fail
                      go_at_call 23
                      refine HC.out.mono ?_
                      rintro e w7 ⟨rfl, hA7, hB7⟩
                      have hG7 := hG6.later hB7
                      have hc7 := hG7.cell (i := i) (by omega)
                      rw [hCi] at hc7
                      have hA8 := Lib.hid hA7
                      have hG8 := Lib.hid hG7
                      clear hB7 hG6 hA7 hG7 HC hCi
                      go_wp2
                      go_roundw
                      case rel => exact ⟨i + 1, by omega, by go_num, hA8.out, hG8.out⟩
                      case measure => simp [nOf]; omega
                · have hi3 : i = 45 := by omega
                  subst hi3
                  have hA8 := Lib.hid hA6
                  have hG8 := Lib.hid hG6
                  clear hA6 hG6
                  go_wp2
                  go_roundw
                  case rel => exact ⟨j + 1, m, b, k, C, by omega, by rw [hjp.out], rfl, rfl, rfl, by omega, by omega, hC'.out, hk3.out, hA8.out, hG8.out⟩
                  case measure => simp [nOf]; have := hjp.out; omega
      · have o1 : decide (sl < b) = false := decide_eq_false hsb
        have o2 : decide ((sl : Int) < (b : Int)) = false := by simp; omega
        obtain ⟨l1, l2⟩ := up_learn (C := C) hs40 hsb
        rw [hltb.out] at l1 l2
        have hf := hG.frozen sl
        have hcg := hG.cell (i := sl) (by omega)
        have hszS : (wr.setCell ⟨gb, sl, none⟩ (.bool true)).heap.size = wr.heap.size := by simp [World.setCell]
        have hcv := conv_one (wr.setCell ⟨gb, sl, none⟩ (.bool true)) _ _ hbv.out
        rw [hszS] at hcv
        have hAa := (hA.put hG hwg (k := sl) (.bool true)).alloc (.cells #[.int .u8 (97 + (sl : Int))] 5)
        have HL := Lib.hid (hAa.learn sl ⟨#[ub]⟩ l1 l2)
        have hGa := (hG.set (k := sl) (by omega)).later (alloc_b (wr.setCell ⟨gb, sl, none⟩ (.bool true)) (.cells #[.int .u8 (97 + (sl : Int))] 5))
        have hC' : ∀ k, 40 ≤ k → set1 C sl k = false := fun k hk => by unfold set1; rw [if_neg (by omega)]; exact hC k hk
        have hL' : ∀ k, b ≤ k → k < L → set1 C sl k = true := fun k hk hk2 => by
          unfold set1
          split
          · rfl
          · exact hL k hk hk2
        clear l1 l2 hA hG hC hL hszS
        generalize set1 C sl = C at *
        rename (∀ k, 40 ≤ k → C k = false) => hC
        rename (∀ k, b ≤ k → k < L → C k = true) => hL
        go_wp2_with fail
        go_at_call 16
        refine HL.out.mono ?_
        rintro e w3 ⟨rfl, hA, hk3⟩
        have hG := hAa.blc hk3 hGa
        clear hk3 hAa hGa HL hcv hf hcg
        have hC' := Lib.hid hC
        have hL' := Lib.hid hL
        clear hC hL o1 o2 hsb k1 k2 k3 k8 k9 hc0
        by_cases hjd : jd = 0
        · have o3 : (jd == 0) = true := by simpa using hjd
          have o4 : ((jd : Int) == 0) = true := by simp; omega
          have o5 : ((jd : Int) = 0) = True := by simp; omega
          subst hjd
          obtain ⟨f1, f2⟩ := up_forget (b := b) (C := C) (u := u) (by omega)
          rw [hb2] at f2
          have HF := Lib.hid (hA.forget u f1 f2)
          clear f1 f2
          go_wp2_with fail
          go_at_call 18
          refine HF.out.mono ?_
          rintro e w4 ⟨rfl, hA4, hk4⟩
          have hG4 := hA.blc hk4 hG
          clear hk4 HF hA hG
          have hL4 : Hid (∀ k, b2 ≤ k → k < L → C k = true) := Lib.hid fun k h1 h2 => hL'.out k (by omega) h2
          clear hL'
          go_wp2
          have hAh := Lib.hid hA4
          have hGh := Lib.hid hG4
          have hCc := Lib.hid (fun k (hk : k < 100) => hG4.cell hk)
          clear hA4 hG4
          go_loopw [16] (fun up W => ∃ k : Nat, b2 ≤ k ∧ k ≤ 44 ∧ up = .int .i64 k ∧ (∀ i, b2 ≤ i → i < k → C i = true) ∧ uptoV (upS b2 C) = upTo (upM b2 C) (k : Int) (4096 - (k : Int)).toNat ∧ W = w4) (fun up _ => 44 - nOf up)
          case atStart => exact ⟨b2, Nat.le_refl _, by omega, rfl, fun i h1 h2 => by omega, up_v _ _, rfl⟩
          case round =>
            obtain ⟨k, hk1, hk2, rfl, hk3, hk4, rfl⟩ := hrel
            have p0 : 0 ≤ (k : Int) := by omega
            have p1 : (k : Int) < 100 := by omega
            have hcc := hCc.out k (by omega)
            replace hk3 := Lib.hid hk3
            replace hk4 := Lib.hid hk4
            cases hCk : C k with
            | true =>
              rw [hCk] at hcc
              have hk40 : k < 40 := by
                rcases Nat.lt_or_ge k 40 with h | h
                · exact h
                · have := hC'.out k h; rw [hCk] at this; cases this
              have r1 : IntKind.i64.wrap ((k : Int) + 1) = ((k + 1 : Nat) : Int) := by rw [IntKind.wrap_i64]; omega
              have hCk' := Lib.hid hCk
              clear hCk
              go_wp2
              go_roundw
              case rel => exact ⟨k + 1, by omega, by omega, rfl, fun i h1 h2 => by
                rcases Nat.lt_or_ge i k with h | h
                · exact hk3.out i h1 h
                · have : i = k := by omega
                  rw [this]; exact hCk'.out, by rw [hk4.out]; exact up_t hk1 hk40 hCk'.out, trivial⟩
              case measure => simp [nOf]; omega
            | false =>
              rw [hCk] at hcc
              have hU : uptoV (upS b2 C) = k := by rw [hk4.out]; exact up_f hCk _
              have HU2 := Lib.hid (hAh.out.upto hU)
              have hLk : L ≤ k := by
                rcases Nat.lt_or_ge k L with h | h
                · have := hL4.out k hk1 h; rw [hCk] at this; cases this
                · exact h
              have r1 : decide (k < L) = false := by simp; omega
              have r2 : decide ((k : Int) < (L : Int)) = false := by simp; omega
              have r3 : ((k : Int) == (k : Int)) = true := by simp
              have hCk' := Lib.hid hCk
              clear hCk hU
              go_wp2_with (go_at_call 27; refine HU2.out.mono ?_; rintro e w5 ⟨rfl, rfl⟩)
              clear hcc HU2
              go_loopw [95] (fun ii W => ∃ i : Nat, i ≤ 45 ∧ ii = .int .i64 i ∧ WAt w sb mb (upS b2 C) W ∧ BlC W gb C) (fun ii _ => 45 - nOf ii)
              case atStart => exact ⟨0, Nat.zero_le _, rfl, hAh.out, hGh.out⟩
              case round =>
                obtain ⟨i, hi45, rfl, hA6, hG6⟩ := hrel
                by_cases hi2 : i < 45
                · have s1 : decide (i < 45) = true := decide_eq_true hi2
                  have s2 : decide ((i : Int) < 45) = true := by simp; omega
                  have s3 : 0 ≤ (i : Int) := by omega
                  have s4 : (i : Int) < 100 := by omega
                  have s5 : IntKind.u8.wrap (i : Int) = i := by rw [IntKind.wrap_u8]; omega
                  have s6 : IntKind.u8.wrap (97 + (i : Int)) = 97 + (i : Int) := by rw [IntKind.wrap_u8]; omega
                  have hbi := Lib.hid (lt_byte i (by omega))
                  have hlti : Hid (lt i = ⟨#[UInt8.ofNat (97 + i)]⟩) := Lib.hid rfl
                  generalize UInt8.ofNat (97 + i) = ui at *
                  by_cases hin : i < 40 ∧ b2 ≤ i ∧ C i = true
                  · have hat : at' (upS b2 C) i = ukn i := by rw [at_up, if_pos hin]
                    have HC := Lib.hid (hA6.chosen i (wf64 (by omega) (by omega)) hat)
                    have s7 : decide (b2 ≤ i) = true := decide_eq_true hin.2.1
                    have s8 : decide ((b2 : Int) ≤ (i : Int)) = true := by simp; omega
                    have hCi := hin.2.2
                    have hse : (⟨#[ui]⟩ : ByteArray).toList == (⟨#[ui]⟩ : ByteArray).toList := by simp
                    clear hat hin hA6
                    go_wp2_with fail
                    go_at_call 23
                    refine HC.out.mono ?_
                    rintro e w7 ⟨rfl, hA7, hB7⟩
                    have hG7 := hG6.later hB7
                    have hc7 := hG7.cell (i := i) (by omega)
                    rw [hCi] at hc7
                    have hcv := conv_one w7 _ _ hbi.out
                    have hA8 := Lib.hid (hA7.alloc (.cells #[.int .u8 (97 + (i : Int))] 5))
                    have hG8 := Lib.hid (hG7.later (alloc_b w7 (.cells #[.int .u8 (97 + (i : Int))] 5)))
                    clear hB7 hG6 hA7 hG7 HC hCi
                    simp only [ukn, hlti.out]
                    go_wp2
                    go_roundw
                    case rel => exact ⟨i + 1, by omega, by go_num, hA8.out, hG8.out⟩
                    case measure => simp [nOf]; omega
                  · have hat : at' (upS b2 C) i = zK := by rw [at_up, if_neg hin]
                    have HC := Lib.hid (hA6.chosen i (wf64 (by omega) (by omega)) hat)
                    clear hat hA6
                    cases hCi : C i with
                    | false =>
                      clear hin
                      go_wp2_with fail
                      go_at_call 23
                      refine HC.out.mono ?_
                      rintro e w7 ⟨rfl, hA7, hB7⟩
                      have hG7 := hG6.later hB7
                      have hc7 := hG7.cell (i := i) (by omega)
                      rw [hCi] at hc7
                      have hA8 := Lib.hid hA7
                      have hG8 := Lib.hid hG7
                      clear hB7 hG6 hA7 hG7 HC hCi
                      go_wp2
                      go_roundw
                      case rel => exact ⟨i + 1, by omega, by go_num, hA8.out, hG8.out⟩
                      case measure => simp [nOf]; omega
                    | true =>
                      have hi40 : i < 40 := by
                        rcases Nat.lt_or_ge i 40 with h | h
                        · exact h
                        · have := hC'.out i h; rw [hCi] at this; cases this
                      have hnb : ¬ b2 ≤ i := fun h => hin ⟨hi40, h, hCi⟩
                      have s7 : decide (b2 ≤ i) = false := decide_eq_false hnb
                      have s8 : decide ((b2 : Int) ≤ (i : Int)) = false := by simp; omega
                      clear hin hnb
                      go_wp2_with fail
                      go_at_call 23
                      refine HC.out.mono ?_
                      rintro e w7 ⟨rfl, hA7, hB7⟩
                      have hG7 := hG6.later hB7
                      have hc7 := hG7.cell (i := i) (by omega)
                      rw [hCi] at hc7
                      have hA8 := Lib.hid hA7
                      have hG8 := Lib.hid hG7
                      clear hB7 hG6 hA7 hG7 HC hCi
                      go_wp2
                      go_roundw
                      case rel => exact ⟨i + 1, by omega, by go_num, hA8.out, hG8.out⟩
                      case measure => simp [nOf]; omega
                · have hi3 : i = 45 := by omega
                  subst hi3
                  have hA8 := Lib.hid hA6
                  have hG8 := Lib.hid hG6
                  clear hA6 hG6
                  go_wp2
                  go_roundw
                  case rel => exact ⟨j + 1, m7, b2, k, C, by omega, by rw [hjp.out], rfl, rfl, rfl, by omega, by omega, hC'.out, hk3.out, hA8.out, hG8.out⟩
                  case measure => simp [nOf]; have := hjp.out; omega
        · have o3 : (jd == 0) = false := by simpa using hjd
          have o4 : ((jd : Int) == 0) = false := by simp; omega
          have o5 : ((jd : Int) = 0) = False := by simp; omega
          go_wp2
          have hAh := Lib.hid hA
          have hGh := Lib.hid hG
          have hCc := Lib.hid (fun k (hk : k < 100) => hG.cell hk)
          clear hA hG
          go_loopw [16] (fun up W => ∃ k : Nat, b ≤ k ∧ k ≤ 44 ∧ up = .int .i64 k ∧ (∀ i, b ≤ i → i < k → C i = true) ∧ uptoV (upS b C) = upTo (upM b C) (k : Int) (4096 - (k : Int)).toNat ∧ W = w3) (fun up _ => 44 - nOf up)
          case atStart => exact ⟨b, Nat.le_refl _, by omega, rfl, fun i h1 h2 => by omega, up_v _ _, rfl⟩
          case round =>
            obtain ⟨k, hk1, hk2, rfl, hk3, hk4, rfl⟩ := hrel
            have p0 : 0 ≤ (k : Int) := by omega
            have p1 : (k : Int) < 100 := by omega
            have hcc := hCc.out k (by omega)
            replace hk3 := Lib.hid hk3
            replace hk4 := Lib.hid hk4
            cases hCk : C k with
            | true =>
              rw [hCk] at hcc
              have hk40 : k < 40 := by
                rcases Nat.lt_or_ge k 40 with h | h
                · exact h
                · have := hC'.out k h; rw [hCk] at this; cases this
              have r1 : IntKind.i64.wrap ((k : Int) + 1) = ((k + 1 : Nat) : Int) := by rw [IntKind.wrap_i64]; omega
              have hCk' := Lib.hid hCk
              clear hCk
              go_wp2
              go_roundw
              case rel => exact ⟨k + 1, by omega, by omega, rfl, fun i h1 h2 => by
                rcases Nat.lt_or_ge i k with h | h
                · exact hk3.out i h1 h
                · have : i = k := by omega
                  rw [this]; exact hCk'.out, by rw [hk4.out]; exact up_t hk1 hk40 hCk'.out, trivial⟩
              case measure => simp [nOf]; omega
            | false =>
              rw [hCk] at hcc
              have hU : uptoV (upS b C) = k := by rw [hk4.out]; exact up_f hCk _
              have HU2 := Lib.hid (hAh.out.upto hU)
              have hLk : L ≤ k := by
                rcases Nat.lt_or_ge k L with h | h
                · have := hL'.out k hk1 h; rw [hCk] at this; cases this
                · exact h
              have r1 : decide (k < L) = false := by simp; omega
              have r2 : decide ((k : Int) < (L : Int)) = false := by simp; omega
              have r3 : ((k : Int) == (k : Int)) = true := by simp
              have hCk' := Lib.hid hCk
              clear hCk hU
              go_wp2_with (go_at_call 27; refine HU2.out.mono ?_; rintro e w5 ⟨rfl, rfl⟩)
              clear hcc HU2
              go_loopw [95] (fun ii W => ∃ i : Nat, i ≤ 45 ∧ ii = .int .i64 i ∧ WAt w sb mb (upS b C) W ∧ BlC W gb C) (fun ii _ => 45 - nOf ii)
              case atStart => exact ⟨0, Nat.zero_le _, rfl, hAh.out, hGh.out⟩
              case round =>
                obtain ⟨i, hi45, rfl, hA6, hG6⟩ := hrel
                by_cases hi2 : i < 45
                · have s1 : decide (i < 45) = true := decide_eq_true hi2
                  have s2 : decide ((i : Int) < 45) = true := by simp; omega
                  have s3 : 0 ≤ (i : Int) := by omega
                  have s4 : (i : Int) < 100 := by omega
                  have s5 : IntKind.u8.wrap (i : Int) = i := by rw [IntKind.wrap_u8]; omega
                  have s6 : IntKind.u8.wrap (97 + (i : Int)) = 97 + (i : Int) := by rw [IntKind.wrap_u8]; omega
                  have hbi := Lib.hid (lt_byte i (by omega))
                  have hlti : Hid (lt i = ⟨#[UInt8.ofNat (97 + i)]⟩) := Lib.hid rfl
                  generalize UInt8.ofNat (97 + i) = ui at *
                  by_cases hin : i < 40 ∧ b ≤ i ∧ C i = true
                  · have hat : at' (upS b C) i = ukn i := by rw [at_up, if_pos hin]
                    have HC := Lib.hid (hA6.chosen i (wf64 (by omega) (by omega)) hat)
                    have s7 : decide (b ≤ i) = true := decide_eq_true hin.2.1
                    have s8 : decide ((b : Int) ≤ (i : Int)) = true := by simp; omega
                    have hCi := hin.2.2
                    have hse : (⟨#[ui]⟩ : ByteArray).toList == (⟨#[ui]⟩ : ByteArray).toList := by simp
                    clear hat hin hA6
                    go_wp2_with fail
                    go_at_call 23
                    refine HC.out.mono ?_
                    rintro e w7 ⟨rfl, hA7, hB7⟩
                    have hG7 := hG6.later hB7
                    have hc7 := hG7.cell (i := i) (by omega)
                    rw [hCi] at hc7
                    have hcv := conv_one w7 _ _ hbi.out
                    have hA8 := Lib.hid (hA7.alloc (.cells #[.int .u8 (97 + (i : Int))] 5))
                    have hG8 := Lib.hid (hG7.later (alloc_b w7 (.cells #[.int .u8 (97 + (i : Int))] 5)))
                    clear hB7 hG6 hA7 hG7 HC hCi
                    simp only [ukn, hlti.out]
                    go_wp2
                    go_roundw
                    case rel => exact ⟨i + 1, by omega, by go_num, hA8.out, hG8.out⟩
                    case measure => simp [nOf]; omega
                  · have hat : at' (upS b C) i = zK := by rw [at_up, if_neg hin]
                    have HC := Lib.hid (hA6.chosen i (wf64 (by omega) (by omega)) hat)
                    clear hat hA6
                    cases hCi : C i with
                    | false =>
                      clear hin
                      go_wp2_with fail
                      go_at_call 23
                      refine HC.out.mono ?_
                      rintro e w7 ⟨rfl, hA7, hB7⟩
                      have hG7 := hG6.later hB7
                      have hc7 := hG7.cell (i := i) (by omega)
                      rw [hCi] at hc7
                      have hA8 := Lib.hid hA7
                      have hG8 := Lib.hid hG7
                      clear hB7 hG6 hA7 hG7 HC hCi
                      go_wp2
                      go_roundw
                      case rel => exact ⟨i + 1, by omega, by go_num, hA8.out, hG8.out⟩
                      case measure => simp [nOf]; omega
                    | true =>
                      have hi40 : i < 40 := by
                        rcases Nat.lt_or_ge i 40 with h | h
                        · exact h
                        · have := hC'.out i h; rw [hCi] at this; cases this
                      have hnb : ¬ b ≤ i := fun h => hin ⟨hi40, h, hCi⟩
                      have s7 : decide (b ≤ i) = false := decide_eq_false hnb
                      have s8 : decide ((b : Int) ≤ (i : Int)) = false := by simp; omega
                      clear hin hnb
                      go_wp2_with fail
                      go_at_call 23
                      refine HC.out.mono ?_
                      rintro e w7 ⟨rfl, hA7, hB7⟩
                      have hG7 := hG6.later hB7
                      have hc7 := hG7.cell (i := i) (by omega)
                      rw [hCi] at hc7
                      have hA8 := Lib.hid hA7
                      have hG8 := Lib.hid hG7
                      clear hB7 hG6 hA7 hG7 HC hCi
                      go_wp2
                      go_roundw
                      case rel => exact ⟨i + 1, by omega, by go_num, hA8.out, hG8.out⟩
                      case measure => simp [nOf]; omega
                · have hi3 : i = 45 := by omega
                  subst hi3
                  have hA8 := Lib.hid hA6
                  have hG8 := Lib.hid hG6
                  clear hA6 hG6
                  go_wp2
                  go_roundw
                  case rel => exact ⟨j + 1, m, b, k, C, by omega, by rw [hjp.out], rfl, rfl, rfl, by omega, by omega, hC'.out, hk3.out, hA8.out, hG8.out⟩
                  case measure => simp [nOf]; have := hjp.out; omega
    · have hjl : j = l := by omega
      subst hjl
      have i4 : decide ((j : Int) < (j : Int)) = false := by simp
      have hA' := Lib.hid hA
      clear hA
      go_wp2_with (go_at_call 11; refine (works_any _).mono ?_; rintro e w1 ⟨rfl, hb⟩)
      go_ret
      exact ⟨rfl, hA'.out.bel.trans (hb.mono hA'.out.bel.size)⟩
theorem upto_law (a0 : Option Addr) (len0 cap0 : Nat) (S0 : Nat → Nat) (a1 a2 : Int) (w : World) (w0 : IsU w a0 len0 cap0 S0) (w1 : (Lit.int .u8 a1).wf = true) (w2 : (Lit.int .u8 a2).wf = true) :
    Calls Try.prog 7 #[.slice a0 len0 cap0, .int .u8 a1, .int .u8 a2] w (Yes w) := by
  have b1 := bounds_u8 w1
  have b2 := bounds_u8 w2
  obtain ⟨a, rfl⟩ := Int.eq_ofNat_of_zero_le b1.1
  obtain ⟨b, rfl⟩ := Int.eq_ofNat_of_zero_le b2.1
  exact upto_go a0 len0 cap0 S0 a b w w0 (by have := b1.2; omega) (by have := b2.2; omega)
end Go.Proofs.Ytaacnhhinhdinaa.Lrn
