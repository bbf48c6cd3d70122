/- SlotsFull. -/
import Derived.Test.YtgeejkedljhcoaaT19
namespace Go.Proofs.Ytgeejkedljhcoaa.Slt
open Go.RowKit Go.Maps Go.Lib Go.ChangeShapes
set_option linter.unusedVariables false
set_option linter.unusedSimpArgs false
set_option maxRecDepth 100000

theorem put_arg {s : St} {k : Int} {v : ByteArray} (h : ¬ (0 ≤ k ∧ k < 4096)) : putE s k v = 2 := by
  have : ckV s.b k v = 2 := if_neg h
  unfold putE; rw [this, if_neg (by decide)]
theorem put_long {s : St} {k : Int} {v : ByteArray} (h : 0 ≤ k ∧ k < 4096) (hv : 65536 < v.size) : putE s k v = 11 := by
  have : ckV s.b k v = 11 := by unfold ckV; rw [if_pos h, if_pos hv]
  unfold putE; rw [this, if_neg (by decide)]
def flS (k : Nat) : St := setS (fun _ => true) (fun _ => ⟨#[]⟩) k
theorem fl_facts (k : Nat) (hk : k ≤ 4096) : OkS (flS k) ∧ (flS k).b = 0 ∧ (∀ j : Int, 0 ≤ j → j < k → (getM (flS k).M j).isSome = true) ∧ (k < 4096 → putE (flS k) k ⟨#[]⟩ = 0) := by
  obtain ⟨h1, h2, h3, h4⟩ := set_facts (bt := fun _ => true) (vf := fun _ => ⟨#[]⟩) (fun _ => Nat.zero_le _) k hk
  refine ⟨h1, h2, fun j a b => ?_, h4⟩
  have := h3 j
  unfold flS
  rw [this, if_pos ⟨a, b, rfl⟩]
  rfl
theorem fl_upto : uptoV (flS 4096) = 4096 := by
  obtain ⟨h1, h2, h3, _⟩ := fl_facts 4096 (Nat.le_refl _)
  have a := (upto_le h1).2
  have b := upto_ge h1 (u := 4096) (fun k q1 q2 => h3 k (by rw [h2] at q1; exact q1) (by omega))
  omega
theorem fl_pre : (preV (flS 4096)).length = 4096 := by
  obtain ⟨h1, h2, _, _⟩ := fl_facts 4096 (Nat.le_refl _)
  have := pre_len h1
  rw [fl_upto, h2] at this
  omega
theorem gap_nil {s : St} (h : OkS s) (hu : uptoV s = 4096) : (gapV s).length = 0 := by
  cases hg : gapV s with
  | nil => rfl
  | cons x r =>
    have := gap_in h (x := x) (by rw [hg]; exact List.mem_cons_self ..)
    omega
def yS1 (L : ByteArray) : St := ⟨0, [⟨0, L⟩]⟩
def yS2 (L : ByteArray) : St := ⟨0, [⟨0, L⟩, ⟨4095, ⟨#[122]⟩⟩]⟩
def yS3 : St := ⟨4095, [⟨4095, ⟨#[122]⟩⟩]⟩
theorem y1_put (L : ByteArray) (h : L.size = 65536) : putE newS 0 L = 0 ∧ putS newS 0 L = yS1 L := by
  have e : putE newS 0 L = 0 := one_put ok_new rfl (k := 0) (by omega) (by omega) (.inl rfl)
  exact ⟨e, by rw [put_ok e]; rfl⟩
theorem y1_ok (L : ByteArray) (h : L.size = 65536) : OkS (yS1 L) := by
  have := ok_puts ok_new 0 L
  rwa [(y1_put L h).2] at this
theorem y2_put (L : ByteArray) (h : L.size = 65536) : putE (yS1 L) 4095 ⟨#[122]⟩ = 0 ∧ putS (yS1 L) 4095 ⟨#[122]⟩ = yS2 L := by
  have e : putE (yS1 L) 4095 ⟨#[122]⟩ = 0 := one_put (y1_ok L h) rfl (k := 4095) (by omega) (by decide) (.inl rfl)
  exact ⟨e, by rw [put_ok e]; rfl⟩
theorem y2_ok (L : ByteArray) (h : L.size = 65536) : OkS (yS2 L) := by
  have := ok_puts (y1_ok L h) 4095 ⟨#[122]⟩
  rwa [(y2_put L h).2] at this
theorem y2_gap (L : ByteArray) : (gapV (yS2 L)).length = 4094 := by
  rw [gapV_eq]
  show (rng 0 ((0 : Int) - 0).toNat ++ (rng (0 + 1) ((4095 : Int) - (0 + 1)).toNat ++ [])).length = 4094
  rw [List.length_append, List.length_append, rng_len, rng_len]
  rfl
theorem y2_upto (L : ByteArray) (h : L.size = 65536) : uptoV (yS2 L) = 1 := by
  refine upto_eq (y2_ok L h) (by show (0 : Int) ≤ 1; omega) (fun k h1 h2 => ?_) rfl
  change (0 : Int) ≤ k at h1
  have : k = 0 := by omega
  subst this
  rfl
theorem y3_jump (L : ByteArray) (h : L.size = 65536) : jmpE (yS2 L) 4095 = 0 ∧ jmpS (yS2 L) 4095 = yS3 := by
  have e : jmpE (yS2 L) 4095 = 0 := by unfold jmpE; rw [if_pos (by omega), y2_upto L h, if_neg (by omega)]
  exact ⟨e, by unfold jmpS; rw [if_pos e]; rfl⟩
theorem y3_ok : OkS yS3 := by
  have := ok_rs (y2_ok (vr 65536) (vr_size _)) (u := 4095) (by omega)
  exact this
theorem y3_upto : uptoV yS3 = 4096 := by
  have h1 := (upto_le y3_ok).2
  have h2 := upto_ge y3_ok (u := 4096) (fun k a b => by
    change (4095 : Int) ≤ k at a
    have : k = 4095 := by omega
    subst this
    rfl)
  omega
theorem y3_pre : (preV yS3).length = 1 := by
  have := pre_len y3_ok
  rw [y3_upto, show yS3.b = 4095 from rfl] at this
  omega
set_option maxHeartbeats 16000000 in
theorem full_law (w : World) : Calls Try.prog 10 #[] w (Yes w) := by
  have HWk := Lib.hid (fun W => works_any W)
  have HN := Lib.hid (fun W (hW : Below w.heap.size w W) => new_w w W hW)
  go_enter Try.func10, Try.ntmps10
  go_wp2_with fail
  go_at_call 13
  refine (HN.out w (Below.refl _ _)).mono ?_
  rintro e W1 ⟨sa, ma, rfl, hN1, _, _⟩
  have hA0 : Hid (WAt w sa ma (flS 0) W1) := Lib.hid hN1
  clear hN1
  go_wp2
  go_loopw [6] (fun i wr => ∃ k : Nat, k ≤ 4096 ∧ i = .int .i64 k ∧ WAt w sa ma (flS k) wr) (fun i _ => 4096 - nOf i)
  case atStart => exact ⟨0, Nat.zero_le _, rfl, hA0.out⟩
  case round =>
    clear hA0
    obtain ⟨k, hk, rfl, hA⟩ := hrel
    by_cases hlt : k < 4096
    · have i1 : decide ((k : Int) < 4096) = true := by simp; omega
      have hw : IntKind.i64.wrap ((k : Int) + 1) = (k : Int) + 1 := by rw [IntKind.wrap_i64]; omega
      have hE := (fl_facts k hk).2.2.2 hlt
      have hS : putS (flS k) k ⟨#[]⟩ = flS (k + 1) := rfl
      have HP := Lib.hid (hA.put k ⟨#[]⟩ hE hS)
      clear hE hS hA
      go_wp2_with (go_at_call 16; refine HP.out.mono ?_; rintro e W4 ⟨rfl, hA4, _⟩)
      go_roundw
      case rel => exact ⟨k + 1, by omega, by go_num, hA4⟩
      case measure => simp [nOf]; omega
    · have hk6 : k = 4096 := by omega
      subst hk6
      have i1 : decide (((4096 : Nat) : Int) < 4096) = false := by decide
      obtain ⟨hO, hb, _, _⟩ := fl_facts 4096 (Nat.le_refl _)
      have hU := fl_upto
      have hP := fl_pre
      have hG := gap_nil hO hU
      generalize flS 4096 = s at *
      have hO2 : OkS (rsS s 4096) := ok_rs hO (by omega)
      have hb2 : (rsS s 4096).b = 4096 := by show max s.b 4096 = _; rw [hb]; rfl
      have hU2 : uptoV (rsS s 4096) = 4096 := by have := upto_le hO2; rw [hb2] at this; omega
      have hP2 : (preV (rsS s 4096)).length = 0 := by have := pre_len hO2; rw [hU2, hb2] at this; omega
      have e1 : putE s 4096 ⟨#[]⟩ = 2 := put_arg (by omega)
      have e2 : forE s 4096 = 0 := by unfold forE; rw [if_pos (by omega), hU, if_neg (by omega)]
      have e3 : putE (rsS s 4096) 4095 ⟨#[]⟩ = 8 := by rw [put_val (by omega) (by decide), if_pos (by rw [hb2]; omega)]
      have e4 : jmpE (rsS s 4096) 4096 = 0 := by unfold jmpE; rw [if_pos (by omega), hU2, if_neg (by omega)]
      have H1 := Lib.hid (hA.upto hU)
      have H2 := Lib.hid (hA.prefixs rfl)
      have H3 := Lib.hid (fun W (h : WAt w sa ma s W) => h.gaps rfl)
      have H4 := Lib.hid (fun W (h : WAt w sa ma s W) => h.put 4096 ⟨#[]⟩ e1 (put_no (by rw [e1]; decide)))
      have H5 := Lib.hid (fun W (h : WAt w sa ma s W) => h.forget 4096 e2 (show forS s 4096 = rsS s 4096 by unfold forS; rw [if_pos e2]))
      have H6 := Lib.hid (fun W (h : WAt w sa ma (rsS s 4096) W) => h.base hb2)
      have H7 := Lib.hid (fun W (h : WAt w sa ma (rsS s 4096) W) => h.upto hU2)
      have H8 := Lib.hid (fun W (h : WAt w sa ma (rsS s 4096) W) => h.prefixs rfl)
      have H9 := Lib.hid (fun W (h : WAt w sa ma (rsS s 4096) W) => h.put 4095 ⟨#[]⟩ e3 (put_no (by rw [e3]; decide)))
      have H10 := Lib.hid (fun W (h : WAt w sa ma (rsS s 4096) W) => h.jump 4096 e4 rfl)
      replace hP := Lib.hid hP
      replace hP2 := Lib.hid hP2
      replace hG := Lib.hid hG
      clear hO hb hU hO2 hb2 hU2 e1 e2 e3 e4 hA hlt
      go_wp2_with fail
      go_at_call 25
      refine H1.out.mono ?_
      rintro e W3 ⟨rfl, rfl⟩
      go_wp2_with fail
      go_at_call 27
      refine H2.out.mono ?_
      rintro e W3 ⟨v3, rfl, hO3, h3, _⟩
      obtain ⟨a3, c3, rfl⟩ := rows_form hO3
      rw [hP.out]
      clear hO3
      go_wp2_with fail
      go_at_call 28
      refine (H3.out _ h3).mono ?_
      rintro e W4 ⟨v4, rfl, hO4, h4, _⟩
      obtain ⟨a4, c4, rfl⟩ := rows_form hO4
      rw [hG.out]
      clear hO4 h3
      go_wp2_with fail
      go_at_call 16
      refine (H4.out _ h4).mono ?_
      rintro e W5 ⟨rfl, h5, _⟩
      go_wp2_with fail
      go_at_call 18
      refine (H5.out _ h5).mono ?_
      rintro e W6 ⟨rfl, h6, _⟩
      clear h4 h5
      go_wp2_with fail
      go_at_call 26
      refine (H6.out _ h6).mono ?_
      rintro e W7 ⟨rfl, rfl⟩
      go_wp2_with fail
      go_at_call 25
      refine (H7.out _ h6).mono ?_
      rintro e W7 ⟨rfl, rfl⟩
      go_wp2_with fail
      go_at_call 27
      refine (H8.out _ h6).mono ?_
      rintro e W8 ⟨v8, rfl, hO8, h8, _⟩
      obtain ⟨a8, c8, rfl⟩ := rows_form hO8
      rw [hP2.out]
      clear hO8 h6
      go_wp2_with fail
      go_at_call 16
      refine (H9.out _ h8).mono ?_
      rintro e W9 ⟨rfl, h9, _⟩
      go_wp2_with fail
      go_at_call 20
      refine (H10.out _ h9).mono ?_
      rintro e W10 ⟨rfl, h10, _⟩
      have hbl := h10.bel
      clear h8 h9 h10 H1 H2 H3 H4 H5 H6 H7 H8 H9 H10 hP hP2 hG
      go_wp2_with fail
      go_at_call 13
      refine (HN.out _ hbl).mono ?_
      rintro e W11 ⟨sb, mb, rfl, h11, _, _⟩
      clear HN hbl
      go_wp2_with fail
      go_at_call 30
      refine (rep_any 65536 _ (by omega)).mono ?_
      rintro e W12 ⟨rfl, hb12⟩
      have h12 := h11.later hb12
      have hL := vr_size 65536
      generalize vr 65536 = L at *
      have hL2 : 65536 < (L ++ (⟨#[118]⟩ : ByteArray)).size := by rw [ByteArray.size_append, hL]; show 65536 < 65536 + 1; omega
      have hl63 : ¬ 9223372036854775807 < L.size + 1 := by omega
      have K1 := Lib.hid (fun W (h : WAt w sb mb newS W) => h.put 0 L (y1_put L hL).1 (y1_put L hL).2)
      have K2 := Lib.hid (fun W (h : WAt w sb mb (yS1 L) W) => h.put 1 (L ++ ⟨#[118]⟩) (put_long (by omega) hL2) (put_no (by rw [put_long (by omega) hL2]; decide)))
      have K3 := Lib.hid (fun W (h : WAt w sb mb (yS1 L) W) => h.put (-1) (L ++ ⟨#[118]⟩) (put_arg (by omega)) (put_no (by rw [put_arg (by omega)]; decide)))
      have K4 := Lib.hid (fun W (h : WAt w sb mb (yS1 L) W) => h.put 0 (L ++ ⟨#[118]⟩) (put_long (by omega) hL2) (put_no (by rw [put_long (by omega) hL2]; decide)))
      have K5 := Lib.hid (fun W (h : WAt w sb mb (yS1 L) W) => h.put 4095 ⟨#[122]⟩ (y2_put L hL).1 (y2_put L hL).2)
      have K6 := Lib.hid (fun W (h : WAt w sb mb (yS2 L) W) => h.gaps rfl)
      have K7 := Lib.hid (fun W (h : WAt w sb mb (yS2 L) W) => h.jump 4095 (y3_jump L hL).1 (y3_jump L hL).2)
      have K8 := Lib.hid (fun W (h : WAt w sb mb yS3 W) => h.upto y3_upto)
      have K9 := Lib.hid (fun W (h : WAt w sb mb yS3 W) => h.prefixs rfl)
      have K10 := Lib.hid (fun W (h : WAt w sb mb yS3 W) => h.put 0 (L ++ ⟨#[118]⟩) (put_long (by omega) hL2) (put_no (by rw [put_long (by omega) hL2]; decide)))
      have e8 : putE yS3 0 L = 8 := by rw [put_val (by omega) (by omega), if_pos (by show (0 : Int) < 4095; omega)]
      have K11 := Lib.hid (fun W (h : WAt w sb mb yS3 W) => h.put 0 L e8 (put_no (by rw [e8]; decide)))
      have hg2 := Lib.hid (y2_gap L)
      have hp3 := Lib.hid y3_pre
      clear h11 hb12 hL hL2 e8
      go_wp2_with fail
      go_at_call 16
      refine (K1.out _ h12).mono ?_
      rintro e V1 ⟨rfl, g1, _⟩
      go_wp2_with fail
      go_at_call 16
      refine (K2.out _ g1).mono ?_
      rintro e V2 ⟨rfl, g2, _⟩
      go_wp2_with fail
      go_at_call 16
      refine (K3.out _ g2).mono ?_
      rintro e V3 ⟨rfl, g3, _⟩
      go_wp2_with fail
      go_at_call 16
      refine (K4.out _ g3).mono ?_
      rintro e V4 ⟨rfl, g4, _⟩
      go_wp2_with fail
      go_at_call 16
      refine (K5.out _ g4).mono ?_
      rintro e V5 ⟨rfl, g5, _⟩
      clear h12 g1 g2 g3 g4
      go_wp2_with fail
      go_at_call 28
      refine (K6.out _ g5).mono ?_
      rintro e V6 ⟨v6, rfl, hO6, g6, _⟩
      obtain ⟨a6, c6, rfl⟩ := rows_form hO6
      rw [hg2.out]
      clear hO6 g5
      go_wp2_with fail
      go_at_call 20
      refine (K7.out _ g6).mono ?_
      rintro e V7 ⟨rfl, g7, _⟩
      go_wp2_with fail
      go_at_call 25
      refine (K8.out _ g7).mono ?_
      rintro e V8 ⟨rfl, rfl⟩
      go_wp2_with fail
      go_at_call 27
      refine (K9.out _ g7).mono ?_
      rintro e V9 ⟨v9, rfl, hO9, g9, _⟩
      obtain ⟨a9, c9, rfl⟩ := rows_form hO9
      rw [hp3.out]
      clear hO9 g7 g6
      go_wp2_with fail
      go_at_call 16
      refine (K10.out _ g9).mono ?_
      rintro e V10 ⟨rfl, g10, _⟩
      go_wp2_with fail
      go_at_call 16
      refine (K11.out _ g10).mono ?_
      rintro e V11 ⟨rfl, g11, _⟩
      have hbl := Lib.hid g11.bel
      clear g9 g10 g11 K1 K2 K3 K4 K5 K6 K7 K8 K9 K10 K11
      go_wp2_with (go_at_call 12; refine (HWk.out _).mono ?_; rintro e W16 ⟨rfl, hb16⟩)
      go_ret
      exact ⟨rfl, hbl.out.trans (hb16.mono hbl.out.size)⟩
end Go.Proofs.Ytgeejkedljhcoaa.Slt
