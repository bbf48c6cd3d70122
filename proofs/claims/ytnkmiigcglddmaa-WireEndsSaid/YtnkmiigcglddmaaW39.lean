/- The walk of WireEnds. -/
import Derived.Test.YtnkmiigcglddmaaW38
namespace Go.Proofs.Ytnkmiigcglddmaa.Wire
open Go.RowKit Go.ChangeShapes
set_option linter.unusedVariables false
set_option linter.unusedSimpArgs false

theorem Has.take {w0 W : World} {L : List Asrt} {v : Value} {l : List Nat} (ls : List Asrt) {m : List Asrt} (h : Has w0 W (ls ++ By v l :: m)) : ∃ F, Bs W F v l ∧ ∀ k, F k → k < W.heap.size := by
  obtain ⟨F, ⟨h1, h2⟩, _⟩ := (Has.pull ls h).fst
  exact ⟨F, h1, h2⟩
/-- One of the eight slices, none of which begins with a number. -/
theorem eight_at {w0 W : World} {L : List Asrt} {B : Nat} {t : TypeId} {v0 v1 v2 v3 v4 v5 v6 v7 : Value} {l0 l1 l2 l3 l4 l5 l6 l7 : List Nat}
    (h : Has w0 W (Bk B #[v0, v1, v2, v3, v4, v5, v6, v7] t :: By v7 l7 :: By v6 l6 :: By v5 l5 :: By v4 l4 :: By v3 l3 :: By v2 l2 :: By v1 l1 :: By v0 l0 :: L))
    (n0 : rdU l0 = none ∧ l0.length ≤ 100) (n1 : rdU l1 = none ∧ l1.length ≤ 100) (n2 : rdU l2 = none ∧ l2.length ≤ 100) (n3 : rdU l3 = none ∧ l3.length ≤ 100)
    (n4 : rdU l4 = none ∧ l4.length ≤ 100) (n5 : rdU l5 = none ∧ l5.length ≤ 100) (n6 : rdU l6 = none ∧ l6.length ≤ 100) (n7 : rdU l7 = none ∧ l7.length ≤ 100) {j : Nat} (hj : j < 8) :
    ∃ v l F, W.cell? ⟨B, j, none⟩ = some v ∧ Bs W F v l ∧ (∀ k, F k → k < W.heap.size) ∧ rdU l = none ∧ l.length ≤ 100 := by
  match j, hj with
  | 0, _ => obtain ⟨F, h1, h2⟩ := Has.take (L := L) [_, By v7 l7, By v6 l6, By v5 l5, By v4 l4, By v3 l3, By v2 l2, By v1 l1] h; exact ⟨v0, l0, F, blk_cell h.blk 0 _ rfl, h1, h2, n0⟩
  | 1, _ => obtain ⟨F, h1, h2⟩ := Has.take (L := L) [_, By v7 l7, By v6 l6, By v5 l5, By v4 l4, By v3 l3, By v2 l2] h; exact ⟨v1, l1, F, blk_cell h.blk 1 _ rfl, h1, h2, n1⟩
  | 2, _ => obtain ⟨F, h1, h2⟩ := Has.take (L := L) [_, By v7 l7, By v6 l6, By v5 l5, By v4 l4, By v3 l3] h; exact ⟨v2, l2, F, blk_cell h.blk 2 _ rfl, h1, h2, n2⟩
  | 3, _ => obtain ⟨F, h1, h2⟩ := Has.take (L := L) [_, By v7 l7, By v6 l6, By v5 l5, By v4 l4] h; exact ⟨v3, l3, F, blk_cell h.blk 3 _ rfl, h1, h2, n3⟩
  | 4, _ => obtain ⟨F, h1, h2⟩ := Has.take (L := L) [_, By v7 l7, By v6 l6, By v5 l5] h; exact ⟨v4, l4, F, blk_cell h.blk 4 _ rfl, h1, h2, n4⟩
  | 5, _ => obtain ⟨F, h1, h2⟩ := Has.take (L := L) [_, By v7 l7, By v6 l6] h; exact ⟨v5, l5, F, blk_cell h.blk 5 _ rfl, h1, h2, n5⟩
  | 6, _ => obtain ⟨F, h1, h2⟩ := Has.take (L := L) [_, By v7 l7] h; exact ⟨v6, l6, F, blk_cell h.blk 6 _ rfl, h1, h2, n6⟩
  | 7, _ => obtain ⟨F, h1, h2⟩ := Has.take (L := L) [_] h; exact ⟨v7, l7, F, blk_cell h.blk 7 _ rfl, h1, h2, n7⟩
theorem none0 : rdU [] = none ∧ ([] : List Nat).length ≤ 100 := ⟨rfl, by decide⟩
theorem none1 : rdU [128] = none ∧ [128].length ≤ 100 := ⟨rfl, by decide⟩
theorem none2 : rdU [128, 0] = none ∧ [128, 0].length ≤ 100 := ⟨rfl, by decide⟩
theorem none3 : rdU [255, 128, 0] = none ∧ [255, 128, 0].length ≤ 100 := ⟨rfl, by decide⟩
theorem none4 : rdU (List.replicate 10 255) = none ∧ (List.replicate 10 255).length ≤ 100 := ⟨rfl, by decide⟩
theorem none5 : rdU (List.replicate 9 255 ++ [2]) = none ∧ (List.replicate 9 255 ++ [2]).length ≤ 100 := ⟨by decide, by decide⟩
theorem none6 : rdU (List.replicate 9 128 ++ [0]) = none ∧ (List.replicate 9 128 ++ [0]).length ≤ 100 := ⟨by decide, by decide⟩
theorem none7 : rdU (List.replicate 10 128 ++ [1]) = none ∧ (List.replicate 10 128 ++ [1]).length ≤ 100 := ⟨by decide, by decide⟩
theorem lit_ok {l : List Nat} (h : l.all (· < 256) = true) : ∀ c ∈ l, c < 256 := fun c hc => of_decide_eq_true (List.all_eq_true.1 h c hc)
abbrev Eights (B : Nat) (g1 g2 g3 g4 c2 c3 c4 b0 b1 b2 b3 : Nat) : List Asrt :=
  [Bk B #[.slice (some ⟨b0, 0, none⟩) 0 0, .slice (some ⟨b1, 0, none⟩) 1 1, .slice (some ⟨b2, 0, none⟩) 2 2, .slice (some ⟨b3, 0, none⟩) 3 3, .slice (some ⟨g1, 0, none⟩) 10 10, .slice (some ⟨g2, 0, none⟩) 10 c2, .slice (some ⟨g3, 0, none⟩) 10 c3, .slice (some ⟨g4, 0, none⟩) 11 c4] 35,
    By (.slice (some ⟨g4, 0, none⟩) 11 c4) (List.replicate 10 128 ++ [1]), By (.slice (some ⟨g3, 0, none⟩) 10 c3) (List.replicate 9 128 ++ [0]), By (.slice (some ⟨g2, 0, none⟩) 10 c2) (List.replicate 9 255 ++ [2]), By (.slice (some ⟨g1, 0, none⟩) 10 10) (List.replicate 10 255),
    By (.slice (some ⟨b3, 0, none⟩) 3 3) [255, 128, 0], By (.slice (some ⟨b2, 0, none⟩) 2 2) [128, 0], By (.slice (some ⟨b1, 0, none⟩) 1 1) [128], By (.slice (some ⟨b0, 0, none⟩) 0 0) []]
set_option maxRecDepth 100000 in
set_option maxHeartbeats 4000000 in
theorem ends_go (w : World) :
    Calls Try.prog 11 #[] w fun e w' => e = .returned (.bool true) ∧ Below w.heap.size w w' := by
  have h5 := (((((Has.start w).lit [] (lit_ok rfl)).lit [128] (lit_ok rfl)).lit [128, 0] (lit_ok rfl)).lit [255, 128, 0] (lit_ok rfl)).lit [255] (lit_ok rfl)
  simp only [World.size_alloc] at h5
  have H := Lib.hid h5
  clear h5
  go_enter Try.func11, Try.ntmps11
  go_wp2_with fail
  refine (h_brep w _ _ _ 255 10 H.out (by decide) (by decide)).mono ?_
  rintro e w1 ⟨g1, rfl, h⟩
  have h6 := h.lit [255] (lit_ok rfl)
  have H := Lib.hid h6
  clear h h6
  go_wp2_with fail
  refine (h_brep w _ _ _ 255 9 H.out (by decide) (by decide)).mono ?_
  rintro e w2 ⟨g2, rfl, h⟩
  have H := Lib.hid (h.lit [2] (lit_ok rfl)).swap
  clear h
  go_wp2_with (refine wpList_append_full rfl _ _ rfl w _ g2 (List.replicate 9 255) [2] ⟨w2.heap.size, 0, none⟩ 9 1 1 rfl rfl rfl rfl H.out (by decide) (by decide) ?_; intro g2' c2 w3 h; have HA := Lib.hid h; clear h)
  have H := Lib.hid (HA.out.lit [128] (lit_ok rfl))
  clear HA
  refine (h_brep w _ _ _ 128 9 H.out (by decide) (by decide)).mono ?_
  rintro e w4 ⟨g3, rfl, h⟩
  have H := Lib.hid (h.lit [0] (lit_ok rfl)).swap
  clear h
  go_wp2_with (refine wpList_append_full rfl _ _ rfl w _ g3 (List.replicate 9 128) [0] ⟨w4.heap.size, 0, none⟩ 9 1 1 rfl rfl rfl rfl H.out (by decide) (by decide) ?_; intro g3' c3 w5 h; have HA := Lib.hid h; clear h)
  have H := Lib.hid (HA.out.lit [128] (lit_ok rfl))
  clear HA
  refine (h_brep w _ _ _ 128 10 H.out (by decide) (by decide)).mono ?_
  rintro e w6 ⟨g4, rfl, h⟩
  have H := Lib.hid (h.lit [1] (lit_ok rfl)).swap
  clear h
  go_wp2_with (refine wpList_append_full rfl _ _ rfl w _ g4 (List.replicate 10 128) [1] ⟨w6.heap.size, 0, none⟩ 10 1 1 rfl rfl rfl rfl H.out (by decide) (by decide) ?_; intro g4' c4 w7 h; have HA := Lib.hid h; clear h)
  have HX := Lib.hid (show Has w _ (Eights w7.heap.size g1 g2' g3' g4' c2 c3 c4 w.heap.size (w.heap.size + 1) (w.heap.size + 1 + 1) (w.heap.size + 1 + 1 + 1)) from HA.out.box #[.slice (some ⟨w.heap.size, 0, none⟩) 0 0, .slice (some ⟨w.heap.size + 1, 0, none⟩) 1 1, .slice (some ⟨w.heap.size + 1 + 1, 0, none⟩) 2 2, .slice (some ⟨w.heap.size + 1 + 1 + 1, 0, none⟩) 3 3, .slice (some ⟨g1, 0, none⟩) 10 10, .slice (some ⟨g2', 0, none⟩) 10 c2, .slice (some ⟨g3', 0, none⟩) 10 c3, .slice (some ⟨g4', 0, none⟩) 11 c4] 35)
  clear HA H
  generalize w7.heap.size = B7 at HX ⊢
  have HX0 := HX
  go_loopw [33] (fun i wr => ∃ (j : Nat), j ≤ 8 ∧ i = .int .i64 j ∧ Has w wr (Eights B7 g1 g2' g3' g4' c2 c3 c4 w.heap.size (w.heap.size + 1) (w.heap.size + 1 + 1) (w.heap.size + 1 + 1 + 1))) (fun i _ => 8 - (intOf i).toNat)
  case atStart => exact ⟨0, Nat.zero_le _, rfl, HX.out⟩
  case round =>
    obtain ⟨j, hj, rfl, h⟩ := hrel
    have H := Lib.hid h
    by_cases hlt : j < 8
    · obtain ⟨v, l, F, cv, hv, hF, hno, hll⟩ := eight_at h none0 none1 none2 none3 none4 none5 none6 none7 hlt
      have HV := Lib.hid hv
      have HF := Lib.hid hF
      have HS := Lib.hid (stepR_no (z := 0) hno)
      have HL := Lib.hid hll
      have e10 : endE none = 10 := rfl
      clear h HX0 hv hF hno hll
      go_wp2_with fail
      refine (h_read w _ _ F v l H.out HV.out HF.out (Nat.le_trans HL.out (by decide))).mono ?_
      rintro e w8 ⟨p, rfl, h, _⟩
      have H := Lib.hid h
      clear h
      go_wp2_with fail
      refine (h_ruint w _ _ p _ _ _ HS.out H.out (Nat.le_trans HL.out (by decide))).mono ?_
      rintro e w9 ⟨rfl, h⟩
      have H := Lib.hid h
      clear h
      go_wp2_with fail
      refine (h_end w _ _ p _ H.out).mono ?_
      rintro e w' ⟨rfl, rfl⟩
      rw [e10]
      go_wp2_with fail
      refine (h_left w _ _ p _ H.out).mono ?_
      rintro e w' ⟨rfl, rfl⟩
      have H := Lib.hid H.out.drop
      go_wp2
      go_roundw
      case rel => exact ⟨j + 1, by omega, by go_num, H.out⟩
      case measure => simp [intOf]; omega
    · obtain rfl : j = 8 := by omega
      have H := Lib.hid (show Has w wr [] from h.drop.drop.drop.drop.drop.drop.drop.drop.drop)
      clear h HX0
      have H := Lib.hid (H.out.lit [255] (lit_ok rfl))
      go_wp2_with fail
      refine (h_brep w _ _ _ 255 9 H.out (by decide) (by decide)).mono ?_
      rintro e w10 ⟨k1, rfl, h⟩
      have H := Lib.hid (h.lit [1, 7] (lit_ok rfl)).swap
      clear h
      go_wp2_with (refine wpList_append_full rfl _ _ rfl w _ k1 (List.replicate 9 255) [1, 7] ⟨w10.heap.size, 0, none⟩ 9 2 2 rfl rfl rfl rfl H.out (by decide) (by decide) ?_; intro k2 c5 w11 h; have HA := Lib.hid h; clear h)
      obtain ⟨F1, ⟨hF1, hl1⟩, _⟩ := HA.out.fst
      refine (h_read w _ _ F1 _ _ HA.out hF1 hl1 (by decide)).mono ?_
      rintro e w12 ⟨p, rfl, h, _⟩
      have H := Lib.hid (show Has w w12 [Rd TR mkP p (some (digs 18446744073709551615 ++ [7]))] from by
        have h2 := h.swap.drop
        rw [digs_top]
        exact h2)
      have HT := Lib.hid (stepR_yes (z := 0) (rdU_digs 18446744073709551615 (by decide) [7]))
      clear h hF1 hl1 HA
      have HL := Lib.hid (show ((some (digs 18446744073709551615 ++ [7])).getD []).length ≤ 1000000000 from by rw [digs_top]; decide)
      go_wp2_with fail
      refine (h_ruint w _ _ p _ _ _ HT.out H.out HL.out).mono ?_
      rintro e w13 ⟨rfl, h⟩
      have H := Lib.hid h
      clear h HT HL
      go_wp2_with fail
      refine (h_left w _ _ p _ H.out).mono ?_
      rintro e w' ⟨rfl, rfl⟩
      have H := Lib.hid (show Has w _ [] from H.out.drop)
      go_wp2_with fail
      refine (h_new w _ _ H.out).mono ?_
      rintro e w14 ⟨q, rfl, h⟩
      have H := Lib.hid h
      clear h
      go_wp2_with fail
      refine (h_int w _ _ q _ (-9223372036854775808) H.out (by unfold I64; omega) (by decide)).mono ?_
      rintro e w15 ⟨rfl, h⟩
      have H := Lib.hid (show Has w w15 [Wr TW q (List.replicate 9 255 ++ [1])] from by
        rw [zig_least, digs_top] at h
        exact h)
      clear h
      go_wp2_with fail
      refine (h_bytes w _ _ q _ H.out (by decide)).mono ?_
      rintro e w16 ⟨a16, c16, rfl, h⟩
      have H := Lib.hid (h.lit [255] (lit_ok rfl))
      clear h
      go_wp2_with fail
      refine (h_brep w _ _ _ 255 9 H.out (by decide) (by decide)).mono ?_
      rintro e w17 ⟨k3, rfl, h⟩
      have H := Lib.hid (h.lit [1] (lit_ok rfl)).swap
      clear h
      go_wp2_with (refine wpList_append_full rfl _ _ rfl w _ k3 (List.replicate 9 255) [1] ⟨w17.heap.size, 0, none⟩ 9 1 1 rfl rfl rfl rfl H.out (by decide) (by decide) ?_; intro k4 c6 w18 h; have HA := Lib.hid h; clear h)
      obtain ⟨F2, ⟨hF2, _⟩, _⟩ := HA.out.fst
      obtain ⟨F3, hF3, _⟩ := HA.out.swap.fst
      have HE := Lib.hid (equal_same F3 F2 _ _ (List.replicate 9 255 ++ [1]) _ (ow_bs hF3) hF2)
      clear hF2 hF3
      refine HE.out.mono ?_
      rintro e w' ⟨rfl, rfl⟩
      have H := Lib.hid (show Has w _ [] from HA.out.drop.drop.drop)
      clear HE HA
      go_wp2_with fail
      refine (h_new w _ _ H.out).mono ?_
      rintro e w19 ⟨q1, rfl, h⟩
      have H := Lib.hid h
      clear h
      go_wp2_with fail
      refine (h_new w _ _ H.out).mono ?_
      rintro e w20 ⟨q2, rfl, h⟩
      have H := Lib.hid h.swap
      clear h
      go_wp2_with fail
      refine (srep_any ⟨#[120]⟩ 65536 _ (by decide) (by decide)).mono ?_
      rintro e w21 ⟨rfl, hb⟩
      obtain ⟨s, hs⟩ : ∃ s : ByteArray, (⟨(Lib.repeatL (⟨#[120]⟩ : ByteArray).data.toList 65536).toArray⟩ : ByteArray) = s := ⟨_, rfl⟩
      have hsz : s.size = 65536 := by
        rw [← hs]
        show (Lib.repeatL _ _).toArray.size = _
        rw [List.size_toArray, Lib.repeatL_length]
        rfl
      rw [hs]
      have HSZ := Lib.hid hsz
      have H := Lib.hid (H.out.below hb)
      clear hs hb hsz
      go_wp2_with fail
      refine (h_text w _ _ q1 [] s H.out (by decide) (by have := HSZ.out; omega)).mono ?_
      rintro e w22 ⟨rfl, h⟩
      have H := Lib.hid h.swap
      clear h
      have hns : ¬ 9223372036854775807 < s.size + 1 := by have := HSZ.out; omega
      go_wp2_with fail
      obtain ⟨s2, hs2⟩ : ∃ s2 : ByteArray, s ++ ⟨#[120]⟩ = s2 := ⟨_, rfl⟩
      have hsz2 : s2.size = 65537 := by rw [← hs2, ByteArray.size_append, HSZ.out]; rfl
      rw [hs2]
      have HSZ2 := Lib.hid hsz2
      clear hs2 hsz2 hns
      refine (h_text w _ _ q2 [] s2 H.out (by decide) (by have := HSZ2.out; omega)).mono ?_
      rintro e w23 ⟨rfl, h⟩
      have hd := digs_ten s.size (by have := HSZ.out; omega)
      obtain ⟨l1, hl1⟩ : ∃ l1, digs s.size ++ sb s = l1 := ⟨_, rfl⟩
      obtain ⟨l2, hl2⟩ : ∃ l2, digs s2.size ++ sb s2 = l2 := ⟨_, rfl⟩
      have hn1 : l1.length ≤ 1000000 := by rw [← hl1, List.length_append, sb_len]; have := HSZ.out; omega
      have hn2 : l2.length = 65540 := by rw [← hl2, List.length_append, sb_len, HSZ2.out, digs_long]
      have ht1 := text_back s HSZ.out
      have ht2 := text_long s2 HSZ2.out
      rw [hl1] at ht1
      rw [hl2] at ht2
      have H := Lib.hid (show Has w w23 [Wr TW q1 l1, Wr TW q2 l2] from by
        have h2 := h.swap
        rw [← hl1, ← hl2]
        exact h2)
      have HN1 := Lib.hid hn1
      have HN2 := Lib.hid hn2
      have HT1 := Lib.hid ht1
      have HT2 := Lib.hid ht2
      clear h hd hl1 hl2 hn1 hn2 ht1 ht2
      go_wp2_with fail
      refine (h_bytes w _ _ q1 l1 H.out (by have := HN1.out; omega)).mono ?_
      rintro e w24 ⟨a24, c24, rfl, h⟩
      have H := Lib.hid h
      obtain ⟨F4, hF4, hlt4⟩ := h.fst
      have HB4 := Lib.hid (ow_bs hF4)
      have HLT4 := Lib.hid hlt4
      clear h hF4 hlt4
      go_wp2_with fail
      refine (h_read w _ _ F4 _ l1 H.out HB4.out HLT4.out (by have := HN1.out; omega)).mono ?_
      rintro e w25 ⟨p3, rfl, h, _⟩
      have H := Lib.hid (show Has w w25 [Wr TW q2 l2, Rd TR mkP p3 (some l1)] from h.swap.drop.swap.drop.swap)
      clear h HB4 HLT4
      go_wp2_with fail
      refine (h_bytes w _ _ q2 l2 H.out (by have := HN2.out; omega)).mono ?_
      rintro e w26 ⟨a26, c26, rfl, h⟩
      have H := Lib.hid h
      obtain ⟨F5, hF5, hlt5⟩ := h.fst
      have HB5 := Lib.hid (ow_bs hF5)
      have HLT5 := Lib.hid hlt5
      clear h hF5 hlt5
      go_wp2_with fail
      refine (h_read w _ _ F5 _ l2 H.out HB5.out HLT5.out (by have := HN2.out; omega)).mono ?_
      rintro e w27 ⟨p4, rfl, h, _⟩
      have H := Lib.hid (show Has w w27 [Rd TR mkP p3 (some l1), Rd TR mkP p4 (some l2), Wr TW q2 l2] from h.swap.drop.swap2.swap)
      clear h HB5 HLT5
      have e0 : endE (some []) = 0 := rfl
      have e10 : endE none = 10 := rfl
      have es : str [] = ⟨#[]⟩ := rfl
      go_wp2_with fail
      refine (h_rtext w _ _ p3 _ _ _ HT1.out H.out (by have := HN1.out; show l1.length ≤ _; omega)).mono ?_
      rintro e w28 ⟨rfl, h⟩
      rw [str_sb]
      have H := Lib.hid h
      clear h
      go_wp2_with fail
      refine (h_end w _ _ p3 _ H.out).mono ?_
      rintro e w' ⟨rfl, rfl⟩
      rw [e0]
      have H := Lib.hid H.out.swap
      go_wp2_with fail
      refine (h_rtext w _ _ p4 _ _ _ HT2.out H.out (by have := HN2.out; show l2.length ≤ _; omega)).mono ?_
      rintro e w29 ⟨rfl, h⟩
      rw [es]
      have H := Lib.hid h
      clear h
      go_wp2_with fail
      refine (h_end w _ _ p4 _ H.out).mono ?_
      rintro e w' ⟨rfl, rfl⟩
      rw [e10]
      go_wp2_with fail
      refine (h_len w _ _ q2 l2 H.out.up3).mono ?_
      rintro e w' ⟨rfl, rfl⟩
      rw [HN2.out]
      have H := Lib.hid ((show Has w _ [] from H.out.drop.drop.drop).lit [2] (lit_ok rfl))
      obtain ⟨F6, ⟨hF6, hlt6⟩, _⟩ := H.out.fst
      have HB6 := Lib.hid hF6
      have HLT6 := Lib.hid hlt6
      clear hF6 hlt6
      go_wp2_with fail
      refine (h_read w _ _ F6 _ [2] H.out HB6.out HLT6.out (by decide)).mono ?_
      rintro e w30 ⟨p5, rfl, h, _⟩
      have H := Lib.hid ((show Has w w30 [Rd TR mkP p5 (some [2])] from h.swap.drop).lit [3, 97, 98] (lit_ok rfl))
      clear h HB6 HLT6
      obtain ⟨F7, ⟨hF7, hlt7⟩, _⟩ := H.out.fst
      have HB7 := Lib.hid hF7
      have HLT7 := Lib.hid hlt7
      clear hF7 hlt7
      go_wp2_with fail
      refine (h_read w _ _ F7 _ [3, 97, 98] H.out HB7.out HLT7.out (by decide)).mono ?_
      rintro e w31 ⟨p6, rfl, h, _⟩
      have H := Lib.hid (show Has w w31 [Rd TR mkP p5 (some [2]), Rd TR mkP p6 (some [3, 97, 98])] from h.swap.drop.swap)
      clear h HB7 HLT7
      have t5 : stepR false rdB (some [2]) = (false, none) := rfl
      have t6 : stepR [] rdT (some [3, 97, 98]) = ([], none) := rfl
      have T5 := Lib.hid t5
      have T6 := Lib.hid t6
      clear t5 t6
      go_wp2_with fail
      refine (h_rbool w _ _ p5 _ _ _ T5.out H.out (by decide)).mono ?_
      rintro e w32 ⟨rfl, h⟩
      have H := Lib.hid h
      clear h
      go_wp2_with fail
      refine (h_end w _ _ p5 _ H.out).mono ?_
      rintro e w' ⟨rfl, rfl⟩
      rw [e10]
      have H := Lib.hid H.out.swap
      go_wp2_with fail
      refine (h_rtext w _ _ p6 _ _ _ T6.out H.out (by decide)).mono ?_
      rintro e w33 ⟨rfl, h⟩
      rw [es]
      have H := Lib.hid h
      clear h
      go_wp2_with fail
      refine (h_end w _ _ p6 _ H.out).mono ?_
      rintro e w' ⟨rfl, rfl⟩
      rw [e10]
      have H := Lib.hid (show Has w _ [] from H.out.drop.drop)
      go_wp2_with fail
      refine (h_read w _ _ (fun _ => False) (.slice none 0 0) [] H.out (Bs.nil _ _ _ _) (fun k hk => hk.elim) (by decide)).mono ?_
      rintro e w34 ⟨p7, rfl, h, _⟩
      have H := Lib.hid h
      clear h
      go_wp2_with fail
      refine (h_end w _ _ p7 _ H.out).mono ?_
      rintro e w' ⟨rfl, rfl⟩
      rw [e0]
      go_wp2_with fail
      refine (works_any _).mono ?_
      rintro e w35 ⟨rfl, hb⟩
      have H := Lib.hid (H.out.below hb)
      clear hb
      go_wp2
      go_ret
      exact ⟨rfl, H.out.bel⟩
theorem w_wireEnds (w : World) :
    Calls Try.prog 11 #[] w fun e w' => e = .returned (.bool true) ∧ Below w.heap.size w w' := ends_go w
end Go.Proofs.Ytnkmiigcglddmaa.Wire
