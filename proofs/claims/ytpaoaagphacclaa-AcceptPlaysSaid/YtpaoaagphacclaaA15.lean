/- short, filled, equal. -/
import Derived.Test.YtpaoaagphacclaaA12
import Derived.StillTailTactics
namespace Go.Proofs.Ytpaoaagphacclaa.Acc
open Go.RowKit Go.Maps Go.Lib
open Bal (TB alloc_b)
set_option linter.unusedVariables false
set_option linter.unusedSimpArgs false
set_option maxRecDepth 100000

def nOf : Value → Nat
  | .int _ k => k.toNat
  | _ => 0
def midB (s : Sp) : Bool := decide (40 < s.v.size) && decide (s.v.size ≤ 65536)
def shortB (S : Nat → Sp) (len : Nat) : Bool := decide (len ≤ 80) && (List.range len).all fun i => !midB (S i)
theorem short_len {S : Nat → Sp} {len : Nat} (h : shortB S len = true) : len ≤ 80 := by
  unfold shortB at h
  rw [Bool.and_eq_true] at h
  exact of_decide_eq_true h.1
/-- The steps that come in, as they stand at any later world. -/
theorem IsSt.at {w W : World} {a : Option Addr} {len cap : Nat} {S : Nat → Sp} (h : IsSt w a len cap S) (hb : Below w.heap.size w W) {i : Nat} (hi : i < len) : ∃ b off, a = some ⟨b, off, Option.none⟩ ∧ Sc W b (off + i * 5) (S i) := by
  obtain ⟨b, off, rfl, hlt, hc⟩ := h.cell (by omega)
  exact ⟨b, off, rfl, (hc i hi).same (hb.block b hlt)⟩
set_option maxHeartbeats 2000000 in
theorem short_any (a : Option Addr) (len cap : Nat) (S : Nat → Sp) (w : World) (h : IsSt w a len cap S) :
    Calls Try.prog 12 #[.slice a len cap] w fun e w' => e = .returned (.bool (shortB S len)) ∧ w = w' := by
  have hfit := h.fit
  by_cases hl : len ≤ 80
  · have b1 : decide (80 < (len : Int)) = false := by simp; omega
    have b2 : decide (80 < len) = false := by simp; omega
    have hS : Hid (shortB S len = (List.range len).all fun i => !midB (S i)) := Lib.hid (by unfold shortB; rw [decide_eq_true hl, Bool.true_and])
    have H := Lib.hid h
    clear h
    go_enter Try.func12, Try.ntmps12
    go_wp2
    go_loopw [3] (fun i wr => ∃ k : Nat, k ≤ len ∧ i = .int .i64 k ∧ wr = w ∧ ∀ j, j < k → midB (S j) = false) (fun i _ => len - nOf i)
    case atStart => exact ⟨0, Nat.zero_le _, rfl, rfl, fun j h => by omega⟩
    case round =>
      obtain ⟨k, hk, rfl, rfl, hall⟩ := hrel
      replace hall := Lib.hid hall
      by_cases hlt : k < len
      · obtain ⟨b, off, rfl, hc⟩ := H.out.at (Below.refl _ _) hlt
        have c4 := hc.c4
        have i1 : 0 ≤ (k : Int) := by omega
        have i2 : (k : Int) < (len : Int) := by omega
        have i3 : decide ((k : Int) < (len : Int)) = true := by simpa using i2
        obtain ⟨sz, hsz⟩ : ∃ n, n = (S k).v.size := ⟨_, rfl⟩
        have hmid : Hid (midB (S k) = (decide (40 < sz) && decide (sz ≤ 65536))) := Lib.hid (by unfold midB; rw [← hsz])
        obtain ⟨sv, hsv⟩ : ∃ n, n = (S k).v := ⟨_, rfl⟩
        rw [← hsv] at hsz c4
        clear hsv hc
        by_cases h40 : 40 < sz
        · have d1 : decide (40 < (sv.size : Int)) = true := by simp; omega
          have d2 : decide (40 < sv.size) = true := by simp; omega
          by_cases h64 : sz ≤ 65536
          · have d3 : decide ((sv.size : Int) ≤ 65536) = true := by simp; omega
            have d4 : decide (sv.size ≤ 65536) = true := by simp; omega
            have hB : Hid (shortB S len = false) := Lib.hid (by
              rw [hS.out, List.all_eq_false]
              refine ⟨k, List.mem_range.2 hlt, ?_⟩
              rw [hmid.out, decide_eq_true h40, decide_eq_true h64]
              simp)
            clear h40 h64 hsz
            go_wp2
            go_ret
            exact ⟨by rw [hB.out]; rfl, rfl⟩
          · have d3 : decide ((sv.size : Int) ≤ 65536) = false := by simp; omega
            have d4 : decide (sv.size ≤ 65536) = false := by simp; omega
            have hB : Hid (midB (S k) = false) := Lib.hid (by rw [hmid.out, decide_eq_false h64, Bool.and_false])
            clear h40 h64 hsz
            go_wp2
            go_roundw
            case rel => exact ⟨k + 1, by omega, by go_num, trivial, fun j hj => by
              by_cases e : j = k
              · rw [e]; exact hB.out
              · exact hall.out j (by omega)⟩
            case measure => simp [nOf]; omega
        · have d1 : decide (40 < (sv.size : Int)) = false := by simp; omega
          have d2 : decide (40 < sv.size) = false := by simp; omega
          have hB : Hid (midB (S k) = false) := Lib.hid (by rw [hmid.out, decide_eq_false h40, Bool.false_and])
          clear h40 hsz
          go_wp2
          go_roundw
          case rel => exact ⟨k + 1, by omega, by go_num, trivial, fun j hj => by
            by_cases e : j = k
            · rw [e]; exact hB.out
            · exact hall.out j (by omega)⟩
          case measure => simp [nOf]; omega
      · have hkl : k = len := by omega
        subst hkl
        have i3 : decide ((k : Int) < (k : Int)) = false := by simp
        have hB : Hid (shortB S k = true) := Lib.hid (by
          rw [hS.out, List.all_eq_true]
          intro j hj
          rw [hall.out j (List.mem_range.1 hj)]
          rfl)
        go_wp2
        go_ret
        exact ⟨by rw [hB.out]; rfl, rfl⟩
  · have b1 : decide (80 < (len : Int)) = true := by simp; omega
    have b2 : decide (80 < len) = true := by simp; omega
    have hB : Hid (shortB S len = false) := Lib.hid (by unfold shortB; rw [decide_eq_false hl, Bool.false_and])
    clear hl h
    go_enter Try.func12, Try.ntmps12
    go_wp2
    go_ret
    exact ⟨by rw [hB.out]; rfl, rfl⟩

/-! filled. -/
def stepS (s : St) (t : Sp) : St := if t.d = 0 then proS s t.r t.m t.k else if t.d = 1 then accS s t.r t.m t.k t.v else if t.d = 2 then forS s t.k else s
def fillS (S : Nat → Sp) : Nat → St
  | 0 => newS 3
  | k + 1 => stepS (fillS S k) (S k)
set_option maxHeartbeats 2000000 in
theorem filled_any (a : Option Addr) (len cap : Nat) (S : Nat → Sp) (w0 w : World) (hw0 : Below w0.heap.size w0 w) (h : IsSt w a len cap S) (hl : len ≤ 80) :
    Calls Try.prog 35 #[.slice a len cap] w fun e w' => ∃ sb mb, e = .returned (.pointer (some ⟨sb, 0, none⟩)) ∧ WAt w sb mb (fillS S len) w' := by
  have hfit := h.fit
  have HN := Lib.hid (new_w 3 (by omega) w w (Below.refl _ _))
  have H := Lib.hid h
  clear h
  go_enter Try.func35, Try.ntmps35
  go_wp2_with (go_at_call 14; refine HN.out.mono ?_; rintro e w1 ⟨sb, mb, rfl, hN1, _⟩)
  go_loopw [5] (fun i wr => ∃ k : Nat, k ≤ len ∧ i = .int .i64 k ∧ WAt w sb mb (fillS S k) wr) (fun i _ => len - nOf i)
  case atStart => exact ⟨0, Nat.zero_le _, rfl, hN1⟩
  case round =>
    obtain ⟨k, hk, rfl, hA⟩ := hrel
    by_cases hlt : k < len
    · obtain ⟨b, off, rfl, hc⟩ := H.out.at hA.bel hlt
      obtain ⟨c0, c1, c2, c3, c4⟩ := hc
      have i1 : 0 ≤ (k : Int) := by omega
      have i2 : (k : Int) < (len : Int) := by omega
      have i3 : decide ((k : Int) < (len : Int)) = true := by simpa using i2
      have hst : fillS S (k + 1) = stepS (fillS S k) (S k) := rfl
      replace hA := Lib.hid hA
      generalize S k = t at c0 c1 c2 c3 c4 hst
      obtain ⟨td, tr, tm, tk, tv⟩ := t
      replace hst := Lib.hid hst
      clear hN1
      by_cases h0 : td = 0
      · subst h0
        have e2 : Hid (fillS S (k + 1) = proS (fillS S k) tr tm tk) := Lib.hid (by rw [hst.out]; rfl)
        have HP := Lib.hid (hA.out.drew.promise tr tm tk rfl rfl rfl)
        go_wp2
        go_still_tail 11, (by kernel_rfl)
        change wpList _ _ _ _ _ wr.drew
        go_wp2_with (go_at_call 16; refine HP.out.mono ?_; rintro e w2 ⟨v, rfl, _, hW2, _⟩)
        go_roundw
        case rel => exact ⟨k + 1, by omega, by go_num, by rw [e2.out]; exact hW2⟩
        case measure => simp [nOf]; omega
      · have h0b : (td == 0) = false := by simpa using h0
        by_cases h1 : td = 1
        · subst h1
          have e2 : Hid (fillS S (k + 1) = accS (fillS S k) tr tm tk tv) := Lib.hid (by rw [hst.out]; rfl)
          have HP := Lib.hid (hA.out.drew.accept tr tm tk tv rfl rfl)
          go_wp2
          go_still_tail 16, (by kernel_rfl)
          change wpList _ _ _ _ _ wr.drew
          go_wp2_with (go_at_call 19; refine HP.out.mono ?_; rintro e w2 ⟨rfl, hW2, _⟩)
          go_roundw
          case rel => exact ⟨k + 1, by omega, by go_num, by rw [e2.out]; exact hW2⟩
          case measure => simp [nOf]; omega
        · have h1b : (td == 1) = false := by simpa using h1
          by_cases h2 : td = 2
          · subst h2
            have e2 : Hid (fillS S (k + 1) = forS (fillS S k) tk) := Lib.hid (by rw [hst.out]; rfl)
            have HP := Lib.hid (hA.out.forget tk rfl rfl)
            go_wp2_with (go_at_call 21; refine HP.out.mono ?_; rintro e w2 ⟨rfl, hW2, _⟩)
            go_roundw
            case rel => exact ⟨k + 1, by omega, by go_num, by rw [e2.out]; exact hW2⟩
            case measure => simp [nOf]; omega
          · have h2b : (td == 2) = false := by simpa using h2
            have e2 : Hid (fillS S (k + 1) = fillS S k) := Lib.hid (by rw [hst.out]; unfold stepS; rw [if_neg h0, if_neg h1, if_neg h2])
            clear h0 h1 h2
            go_wp2
            go_roundw
            case rel => exact ⟨k + 1, by omega, by go_num, by rw [e2.out]; exact hA.out⟩
            case measure => simp [nOf]; omega
    · have hkl : k = len := by omega
      subst hkl
      have i3 : decide ((k : Int) < (k : Int)) = false := by simp
      replace hA := Lib.hid hA
      go_wp2
      go_ret
      exact ⟨sb, mb, rfl, hA.out⟩

/-! equal. -/
theorem fr_zero {s : St} (h : OkS s) : frM s.M 0 = s.M := fr_all fun p hp => by have := (h.ent p hp).1; have := h.hb.1; omega
def eqS (s t : St) : Bool := Bal.eqB s.r s.m t.r t.m && (s.b == t.b) && eqLs s.M t.M
theorem eqS_self (s : St) : eqS s s = true := by unfold eqS; rw [Bal.eqB_t ⟨rfl, rfl⟩, eqLs_t]; simp
set_option maxHeartbeats 2000000 in
theorem equal_any (sb mb sb' mb' : Nat) (s t : St) (w : World) (h1 : Ax w sb mb s) (h2 : Ax w sb' mb' t) :
    Calls Try.prog 36 #[.pointer (some ⟨sb, 0, none⟩), .pointer (some ⟨sb', 0, none⟩)] w fun e w' => e = .returned (.bool (eqS s t)) ∧ Below w.heap.size w w' := by
  have f1 := fr_zero h1.ok
  have f2 := fr_zero h2.ok
  have l1 := h1.ok.len
  have l2 := h2.ok.len
  have W1 : WAt w sb mb s w ∨ True := .inr trivial
  have HE : Hid (eqS s t = (Bal.eqB s.r s.m t.r t.m && (s.b == t.b) && eqLs s.M t.M)) := Lib.hid rfl
  have hq := fun W => Bal.eq_b s.r s.m t.r t.m W
  have P1 := Lib.hid (fun W (h : Below w.heap.size w W) => promised_any W (h1.later h))
  have P2 := Lib.hid (fun W (h : Below w.heap.size w W) => promised_any W (h2.later h))
  have B1 := Lib.hid (fun W (h : Below w.heap.size w W) => base_any W (h1.later h))
  have B2 := Lib.hid (fun W (h : Below w.heap.size w W) => base_any W (h2.later h))
  have L1 := Lib.hid (fun W (h : Below w.heap.size w W) => list_any 0 W (h1.later h))
  have L2 := Lib.hid (fun W (h : Below w.heap.size w W) => list_any 0 W (h2.later h))
  rw [f1] at L1
  rw [f2] at L2
  clear f1 f2 h1 h2 W1
  generalize eqS s t = B at *
  generalize s.r = sr at *
  generalize s.m = sm at *
  generalize s.b = sbb at *
  generalize s.M = sM at *
  generalize t.r = tr at *
  generalize t.m = tm at *
  generalize t.b = tbb at *
  generalize t.M = tM at *
  cases hb1 : Bal.eqB sr sm tr tm with
  | false =>
    rw [hb1] at HE hq
    have hB : B = false := by rw [HE.out]; rfl
    subst hB
    go_enter Try.func36, Try.ntmps36
    go_wp2_with fail
    go_at_call 27
    refine (P1.out _ (Below.refl _ _)).mono ?_
    rintro e w1 ⟨rfl, hb1⟩
    go_wp2_with fail
    go_at_call 27
    refine (P2.out _ hb1).mono ?_
    rintro e w2 ⟨rfl, hb2⟩
    go_wp2
    go_ret
    exact ⟨rfl, below2 hb1 hb2⟩
  | true =>
    rw [hb1] at HE hq
    by_cases hb2 : sbb = tbb
    · have c1 : (sbb == tbb) = true := by simpa using hb2
      have hB : Hid (B = eqLs sM tM) := Lib.hid (by rw [HE.out, c1]; simp)
      go_enter Try.func36, Try.ntmps36
      go_wp2_with fail
      go_at_call 27
      refine (P1.out _ (Below.refl _ _)).mono ?_
      rintro e w1 ⟨rfl, hb1⟩
      go_wp2_with fail
      go_at_call 27
      refine (P2.out _ hb1).mono ?_
      rintro e w2 ⟨rfl, hb2⟩
      have hb12 := below2 hb1 hb2
      go_wp2_with fail
      go_at_call 29
      refine (B1.out _ hb12).mono ?_
      rintro e w3 ⟨rfl, rfl⟩
      go_wp2_with fail
      go_at_call 29
      refine (B2.out _ hb12).mono ?_
      rintro e w3 ⟨rfl, rfl⟩
      go_wp2_with fail
      go_at_call 31
      refine (L1.out _ hb12).mono ?_
      rintro e w4 ⟨v4, rfl, hO4, hb4⟩
      have hb14 := below2 hb12 hb4
      go_wp2_with fail
      go_at_call 31
      refine (L2.out _ hb14).mono ?_
      rintro e w5 ⟨v5, rfl, hO5, hb5⟩
      go_wp2_with fail
      go_at_call 37
      refine (entries_any _ _ sM tM w5 (hO4.later hb5).is hO5.is (by omega) (by omega)).mono ?_
      rintro e w6 ⟨rfl, hb6⟩
      go_wp2
      go_ret
      exact ⟨by rw [hB.out]; rfl, below2 (below2 hb14 hb5) hb6⟩
    · have c1 : (sbb == tbb) = false := by simpa using hb2
      have hB : B = false := by rw [HE.out, c1]; simp
      subst hB
      clear hb2
      go_enter Try.func36, Try.ntmps36
      go_wp2_with fail
      go_at_call 27
      refine (P1.out _ (Below.refl _ _)).mono ?_
      rintro e w1 ⟨rfl, hb1⟩
      go_wp2_with fail
      go_at_call 27
      refine (P2.out _ hb1).mono ?_
      rintro e w2 ⟨rfl, hb2⟩
      have hb12 := below2 hb1 hb2
      go_wp2_with fail
      go_at_call 29
      refine (B1.out _ hb12).mono ?_
      rintro e w3 ⟨rfl, rfl⟩
      go_wp2_with fail
      go_at_call 29
      refine (B2.out _ hb12).mono ?_
      rintro e w3 ⟨rfl, rfl⟩
      go_wp2
      go_ret
      exact ⟨rfl, hb12⟩
end Go.Proofs.Ytpaoaagphacclaa.Acc
