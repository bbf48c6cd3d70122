/- The walk of WireReads. -/
import Derived.Test.YtnkmiigcglddmaaW34
namespace Go.Proofs.Ytnkmiigcglddmaa.Wire
open Go.RowKit Go.ChangeShapes
set_option linter.unusedVariables false
set_option linter.unusedSimpArgs false

set_option maxRecDepth 100000 in
set_option maxHeartbeats 2000000 in
theorem reads_go (a0 : Option Addr) (cap0 : Nat) (l0 : List Nat) (a1 : Option Addr) (cap1 : Nat) (l1 : List Nat) (w : World)
    (h0 : Bs w (Old w) (.slice a0 l0.length cap0) l0) (h1 : Bs w (Old w) (.slice a1 l1.length cap1) l1) (hl : l0.length ≤ 100000) (hl1 : l1.length ≤ 100) :
    Calls Try.prog 4 #[.slice a0 l0.length cap0, .slice a1 l1.length cap1] w fun e w' => e = .returned (.bool true) ∧ Below w.heap.size w w' := by
  have hd : decide (100000 < (l0.length : Int)) = false := decide_eq_false (by omega)
  have hd1 : decide (100 < (l1.length : Int)) = false := decide_eq_false (by omega)
  have B0 := Lib.hid h0
  have B1 := Lib.hid h1
  have H := Lib.hid (Has.start w)
  have HL := Lib.hid hl
  clear h0 h1
  go_enter Try.func4, Try.ntmps4
  go_wp2_with fail
  refine (h_clone w _ _ (Old w) _ l0 H.out B0.out (fun k hk => hk) (by omega)).mono ?_
  rintro e w1 ⟨a2, c2, rfl, h⟩
  have H := Lib.hid h
  obtain ⟨F2, hF2, hlt2⟩ := h.fst
  have HB2 := Lib.hid (ow_bs hF2)
  have HLT2 := Lib.hid hlt2
  clear h hF2 hlt2
  go_wp2_with fail
  refine (h_read w _ _ F2 _ l0 H.out HB2.out HLT2.out (by omega)).mono ?_
  rintro e w2 ⟨p, rfl, h, _⟩
  have H := Lib.hid h
  have HB0 := Lib.hid (B0.out.late h.bel)
  have HZ := Lib.hid h.bel.size
  clear h HB2 HLT2
  go_wp2_with fail
  refine (h_qread w _ _ (Old w) _ l0 H.out HB0.out (fun k hk => Nat.lt_of_lt_of_le hk HZ.out) (by omega)).mono ?_
  rintro e w3 ⟨q, rfl, h, _⟩
  have H := Lib.hid h.swap
  obtain ⟨F3, hF3, _⟩ := h.up3.fst
  have HE := Lib.hid (equal_same F3 (Old w) _ _ l0 _ (ow_bs hF3) (B0.out.late h.bel))
  clear h HB0 HZ hF3
  go_wp2_with fail
  refine HE.out.mono ?_
  rintro e w' ⟨rfl, rfl⟩
  go_wp2_with fail
  refine (h_left w _ _ p _ H.out).mono ?_
  rintro e w' ⟨rfl, rfl⟩
  go_wp2_with fail
  refine (h_qleft w _ _ q _ H.out.swap).mono ?_
  rintro e w' ⟨rfl, rfl⟩
  go_wp2_with fail
  refine (h_end w _ _ p _ H.out).mono ?_
  rintro e w' ⟨rfl, rfl⟩
  go_wp2_with fail
  refine (h_qend w _ _ q _ H.out.swap).mono ?_
  rintro e w' ⟨rfl, rfl⟩
  have HC := Lib.hid H.out.up3
  go_wp2_with (refine wpList_clear rfl _ rfl _ rfl w _ l0 HC.out ?_; intro w11 hc; have HD := Lib.hid hc; clear hc)
  clear HC H
  go_loopw [46] (fun i wr => ∃ (j : Nat) (st : Option (List Nat)), j ≤ l1.length ∧ i = .int .i64 j ∧ left st ≤ 100000 ∧ Has w wr [Rd TR mkP p st, Rd TR' mkR q st]) (fun i _ => l1.length - (intOf i).toNat)
  case atStart => exact ⟨0, some l0, Nat.zero_le _, rfl, HL.out, HD.out⟩
  case round =>
    obtain ⟨j, st, hj, rfl, hls, h⟩ := hrel
    have H := Lib.hid h
    have HLS := Lib.hid hls
    by_cases hlt : j < l1.length
    · obtain ⟨b, off, ha, hcell⟩ := (B1.out.late h.bel).at_ hlt
      have hk := byte_lt B1.out.1 j
      subst ha
      clear h hls
      generalize l1.getD j 0 = k at *
      have HN := Lib.hid (Nat.le_trans (nx_left k st) HLS.out)
      go_wp2_with fail
      refine (h_same w _ _ p q st k H.out hk (Nat.le_trans HLS.out (by omega))).mono ?_
      rintro e w2 ⟨rfl, h⟩
      have H := Lib.hid h
      clear h
      go_wp2
      go_roundw
      case rel => exact ⟨j + 1, nx k st, by omega, by go_num, HN.out, H.out⟩
      case measure => simp [intOf]; omega
    · obtain rfl : j = l1.length := by omega
      clear h hls
      go_wp2_with fail
      refine (works_any _).mono ?_
      rintro e w5 ⟨rfl, hb⟩
      have H := Lib.hid (H.out.below hb)
      clear hb
      go_wp2
      go_ret
      exact ⟨rfl, H.out.bel⟩
theorem reads_long (a0 : Option Addr) (len0 cap0 : Nat) (a1 : Option Addr) (len1 cap1 : Nat) (w : World) (hl : 100000 < len0 ∨ 100 < len1) :
    Calls Try.prog 4 #[.slice a0 len0 cap0, .slice a1 len1 cap1] w fun e w' => e = .returned (.bool true) ∧ Below w.heap.size w w' := by
  by_cases h0 : 100000 < len0
  · have hd : decide (100000 < (len0 : Int)) = true := decide_eq_true (by omega)
    go_enter Try.func4, Try.ntmps4
    go_wp2_with (go_at_call 13; refine (works_any _).mono ?_; rintro e w1 ⟨rfl, hb⟩)
    go_ret
    exact ⟨rfl, hb⟩
  · have hd : decide (100000 < (len0 : Int)) = false := decide_eq_false (by omega)
    have hd2 : decide (100 < (len1 : Int)) = true := decide_eq_true (by omega)
    clear hl
    go_enter Try.func4, Try.ntmps4
    go_wp2_with (go_at_call 13; refine (works_any _).mono ?_; rintro e w1 ⟨rfl, hb⟩)
    go_ret
    exact ⟨rfl, hb⟩
theorem w_wireReads (a0 : Option Addr) (len0 cap0 : Nat) (z0 : List Int) (a1 : Option Addr) (len1 cap1 : Nat) (z1 : List Int) (w : World) (w0 : IsRow .u8 w a0 len0 cap0 z0) (w1 : IsRow .u8 w a1 len1 cap1 z1) :
    Calls Try.prog 4 #[.slice a0 len0 cap0, .slice a1 len1 cap1] w fun e w' => e = .returned (.bool true) ∧ Below w.heap.size w w' := by
  obtain ⟨l0, hl0, h0⟩ := row_bs w0
  obtain ⟨l1, hl1, h1⟩ := row_bs w1
  by_cases h : 100000 < len0 ∨ 100 < len1
  · exact reads_long a0 len0 cap0 a1 len1 cap1 w h
  · subst hl0 hl1
    exact reads_go a0 cap0 l0 a1 cap1 l1 w h0 h1 (by omega) (by omega)
end Go.Proofs.Ytnkmiigcglddmaa.Wire
