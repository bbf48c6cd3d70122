/- The walk of WireFails. -/
import Derived.Test.YtnkmiigcglddmaaW15
namespace Go.Proofs.Ytnkmiigcglddmaa.Wire
open Go.RowKit Go.ChangeShapes
set_option linter.unusedVariables false
set_option linter.unusedSimpArgs false

set_option maxRecDepth 100000 in
set_option maxHeartbeats 2000000 in
theorem fails_go (a0 : Option Addr) (cap0 : Nat) (l0 : List Nat) (a1 : Option Addr) (cap1 : Nat) (l1 : List Nat) (a2 : Option Addr) (cap2 : Nat) (l2 : List Nat) (w : World)
    (h0 : Bs w (Old w) (.slice a0 l0.length cap0) l0) (h1 : Bs w (Old w) (.slice a1 l1.length cap1) l1) (h2 : Bs w (Old w) (.slice a2 l2.length cap2) l2) (hl : l0.length ≤ 1000) :
    Calls Try.prog 10 #[.slice a0 l0.length cap0, .slice a1 l1.length cap1, .slice a2 l2.length cap2] w fun e w' => e = .returned (.bool true) ∧ Below w.heap.size w w' := by
  have hd : decide (1000 < (l0.length : Int)) = false := decide_eq_false (by omega)
  obtain ⟨m1, hm1⟩ : ∃ m, min l1.length 50 = m := ⟨_, rfl⟩
  obtain ⟨m2, hm2⟩ : ∃ m, min l2.length 50 = m := ⟨_, rfl⟩
  have n1 : ∀ (ts : Array TypeId) (t : TypeId) (w : World), (Builtin.min_ ts t #[.int .i64 (l1.length : Nat), .int .i64 50]).run Try.prog w = .ok (.int .i64 m1) w := min_n 50 _ _ hm1
  have n2 : ∀ (ts : Array TypeId) (t : TypeId) (w : World), (Builtin.min_ ts t #[.int .i64 (l2.length : Nat), .int .i64 50]).run Try.prog w = .ok (.int .i64 m2) w := min_n 50 _ _ hm2
  have hc1 : l1.length ≤ cap1 := by obtain ⟨_, _, _, hv, hc, _⟩ := h1; injection hv; omega
  have hc2 : l2.length ≤ cap2 := by obtain ⟨_, _, _, hv, hc, _⟩ := h2; injection hv; omega
  have u1 := fun w => upto_run a1 l1.length cap1 m1 (by omega) w
  have u2 := fun w => upto_run a2 l2.length cap2 m2 (by omega) w
  have hml1 : m1 ≤ l1.length := by omega
  have hml2 : m2 ≤ l2.length := by omega
  have hm50 : m1 ≤ 50 := by omega
  have hn50 : m2 ≤ 50 := by omega
  have B0 := Lib.hid h0
  have B1 := Lib.hid h1
  have B2 := Lib.hid h2
  have H := Lib.hid (Has.start w)
  clear h0 h1 h2 hm1 hm2
  go_enter Try.func10, Try.ntmps10
  go_wp2_with fail
  refine (h_read w _ _ (Old w) _ l0 H.out B0.out (fun k hk => hk) (by omega)).mono ?_
  rintro e w1 ⟨p, rfl, h, _⟩
  have H := Lib.hid h
  clear h
  go_wp2
  clear n1 u1
  go_loopw [24] (fun i wr => ∃ (j : Nat) (st : Option (List Nat)), j ≤ m1 ∧ i = .int .i64 j ∧ left st ≤ 1000 ∧ Has w wr [Rd TR mkP p st]) (fun i _ => m1 - (intOf i).toNat)
  case atStart => exact ⟨0, some l0, Nat.zero_le _, rfl, hl, H.out⟩
  case round =>
    obtain ⟨j, st, hj, rfl, hls, h⟩ := hrel
    have H := Lib.hid h
    have HLS := Lib.hid hls
    by_cases hlt : j < m1
    · obtain ⟨b, off, ha, hcell⟩ := (B1.out.late h.bel).at_ (show j < l1.length by omega)
      have hk := byte_lt B1.out.1 j
      subst ha
      clear h hls
      generalize l1.getD j 0 = k at *
      obtain ⟨N, S, st', hg⟩ : ∃ N S st', gv k st = (N, S, st') := ⟨_, _, _, rfl⟩
      have hgl := gv_left k st
      rw [hg] at hgl
      have HG := Lib.hid hg
      have HGL := Lib.hid (Nat.le_trans hgl HLS.out)
      clear hg hgl
      go_wp2_with fail
      refine (h_get w _ _ p st k N S st' HG.out H.out hk (Nat.le_trans HLS.out (by omega))).mono ?_
      rintro e w2 ⟨rfl, h⟩
      have H := Lib.hid h
      clear h
      go_wp2
      go_roundw
      case rel => exact ⟨j + 1, st', by omega, by go_num, HGL.out, H.out⟩
      case measure => simp [intOf]; omega
    · obtain rfl : j = m1 := by omega
      clear h hls
      go_wp2_with fail
      refine (h_fail w _ _ p st H.out).mono ?_
      rintro e w3 ⟨rfl, h⟩
      have H := Lib.hid h
      clear h
      go_wp2
      clear n2 u2
      go_loopw [40] (fun i wr => ∃ (j : Nat), j ≤ m2 ∧ i = .int .i64 j ∧ Has w wr [Rd TR mkP p none]) (fun i _ => m2 - (intOf i).toNat)
      case atStart => exact ⟨0, Nat.zero_le _, rfl, H.out⟩
      case round =>
        obtain ⟨j2, hj2, rfl, h⟩ := hrel
        have H := Lib.hid h
        by_cases hlt2 : j2 < m2
        · obtain ⟨b, off, ha, hcell⟩ := (B2.out.late h.bel).at_ (show j2 < l2.length by omega)
          have hk := byte_lt B2.out.1 j2
          subst ha
          clear h
          generalize l2.getD j2 0 = k at *
          go_wp2_with fail
          refine (h_get w _ _ p none k 0 [] none (gv_none k) H.out hk (by decide)).mono ?_
          rintro e w4 ⟨rfl, h⟩
          have H := Lib.hid h
          have es : str [] = ⟨#[]⟩ := rfl
          rw [es]
          clear h es
          go_wp2
          go_roundw
          case rel => exact ⟨j2 + 1, by omega, by go_num, H.out⟩
          case measure => simp [intOf]; omega
        · obtain rfl : j2 = m2 := by omega
          clear h
          go_wp2_with fail
          refine (h_left w _ _ p none H.out).mono ?_
          rintro e w' ⟨rfl, rfl⟩
          go_wp2_with fail
          refine (h_end w _ _ p none H.out).mono ?_
          rintro e w' ⟨rfl, rfl⟩
          have e4 : endE none = 10 := rfl
          rw [e4]
          clear e4
          go_wp2_with fail
          refine (works_any _).mono ?_
          rintro e w5 ⟨rfl, hb⟩
          have H := Lib.hid (H.out.below hb)
          clear hb
          go_wp2
          go_ret
          exact ⟨rfl, H.out.bel⟩
theorem fails_long (a0 : Option Addr) (len0 cap0 : Nat) (a1 : Option Addr) (len1 cap1 : Nat) (a2 : Option Addr) (len2 cap2 : Nat) (w : World) (hl : 1000 < len0) :
    Calls Try.prog 10 #[.slice a0 len0 cap0, .slice a1 len1 cap1, .slice a2 len2 cap2] w fun e w' => e = .returned (.bool true) ∧ Below w.heap.size w w' := by
  have hd : decide (1000 < (len0 : Int)) = true := decide_eq_true (by omega)
  go_enter Try.func10, Try.ntmps10
  go_wp2_with (go_at_call 13; refine (works_any _).mono ?_; rintro e w1 ⟨rfl, hb⟩)
  go_ret
  exact ⟨rfl, hb⟩
theorem w_wireFails (a0 : Option Addr) (len0 cap0 : Nat) (z0 : List Int) (a1 : Option Addr) (len1 cap1 : Nat) (z1 : List Int) (a2 : Option Addr) (len2 cap2 : Nat) (z2 : List Int) (w : World) (w0 : IsRow .u8 w a0 len0 cap0 z0) (w1 : IsRow .u8 w a1 len1 cap1 z1) (w2 : IsRow .u8 w a2 len2 cap2 z2) :
    Calls Try.prog 10 #[.slice a0 len0 cap0, .slice a1 len1 cap1, .slice a2 len2 cap2] w fun e w' => e = .returned (.bool true) ∧ Below w.heap.size w w' := by
  obtain ⟨l0, hl0, h0⟩ := row_bs w0
  obtain ⟨l1, hl1, h1⟩ := row_bs w1
  obtain ⟨l2, hl2, h2⟩ := row_bs w2
  by_cases h : 1000 < len0
  · exact fails_long a0 len0 cap0 a1 len1 cap1 a2 len2 cap2 w h
  · subst hl0 hl1 hl2
    exact fails_go a0 cap0 l0 a1 cap1 l1 a2 cap2 l2 w h0 h1 h2 (by omega)
end Go.Proofs.Ytnkmiigcglddmaa.Wire
