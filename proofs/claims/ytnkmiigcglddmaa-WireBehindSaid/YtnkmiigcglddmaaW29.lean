/- The walk of WireBehind. -/
import Derived.Test.YtnkmiigcglddmaaW28
namespace Go.Proofs.Ytnkmiigcglddmaa.Wire
open Go.RowKit Go.ChangeShapes
set_option linter.unusedVariables false
set_option linter.unusedSimpArgs false

set_option maxRecDepth 100000 in
set_option maxHeartbeats 4000000 in
theorem behind_go (a : Option Addr) (len cap : Nat) (xs : List Val) (m : Nat) (w : World) (h : IsVals w a len cap xs) (hm : m < 256) (hl : len ≤ 100) (ht : tot xs ≤ 100000) (hf : Calls Try.prog 12 #[.slice a len cap] w (Quiet w (.bool true))) :
    Calls Try.prog 9 #[.slice a len cap, .int .u8 (m : Nat)] w fun e w' => e = .returned (.bool true) ∧ Below w.heap.size w w' := by
  obtain ⟨K, hK⟩ : ∃ K, m % (len + 1) = K := ⟨_, rfl⟩
  have hKl : K ≤ len := by have := Nat.mod_lt m (show 0 < len + 1 by omega); omega
  have hmod : (m : Int) % ((len : Int) + 1) = (K : Int) := by rw [← hK, Int.natCast_emod]; rfl
  obtain ⟨M, hM⟩ : ∃ M, len - K = M := ⟨_, rfl⟩
  have hcap := h.2.1.1
  have u1 := fun w => vhead_run a len cap K (by omega) w
  have u2 := fun w => vtail_run a len cap K hKl w
  rw [hM] at u2
  have HV := Lib.hid (h.head K hKl)
  have ht2 := h.tail K hKl
  rw [hM] at ht2
  have HV2 := Lib.hid ht2
  have htt : tot (xs.drop K) ≤ 100000 := by
    have h2 := tot_append (xs.take K) (xs.drop K)
    rw [List.take_append_drop] at h2
    omega
  have HT := Lib.hid (Nat.le_trans (tot_le xs K) ht)
  have HT2 := Lib.hid htt
  have HS := Lib.hid (pvs_short HV.out (by omega) HT.out)
  have HS2 := Lib.hid (pvs_short HV2.out (by omega) htt)
  have HF := Lib.hid hf
  obtain ⟨ys, hys⟩ : ∃ ys, xs.take K = ys := ⟨_, rfl⟩
  obtain ⟨zs, hzs⟩ : ∃ zs, xs.drop K = zs := ⟨_, rfl⟩
  rw [hys] at HV HT HS
  rw [hzs] at HV2 HT2 HS2
  have hy : ys.length = K := HV.out.1
  have hz : zs.length = M := HV2.out.1
  have HY := Lib.hid hy
  have HZ := Lib.hid hz
  have hK2 : K ≤ 100 := by omega
  have hM2 : M ≤ 100 := by omega
  obtain ⟨a2, ha2⟩ : ∃ a2, cutV a cap K = a2 := ⟨_, rfl⟩
  obtain ⟨cap2, hcap2⟩ : ∃ cap2, cap - K = cap2 := ⟨_, rfl⟩
  rw [ha2, hcap2] at u2 HV2
  have hall : pvs (ys.take K) = pvs ys := by rw [← hy, List.take_length]
  have hall2 : pvs (zs.take M) = pvs zs := by rw [← hz, List.take_length]
  have HA := Lib.hid hall
  have HA2 := Lib.hid hall2
  clear h hf ht htt ht2 hy hz hall hall2 hys hzs ha2 hcap2 hM hK hcap
  go_enter Try.func9, Try.ntmps9
  go_wp2_with fail
  refine HF.out.mono ?_
  rintro e w1 ⟨rfl, hb⟩
  have H := Lib.hid ((Has.start w).below hb)
  clear hb
  go_wp2_with fail
  refine (h_new w _ _ H.out).mono ?_
  rintro e w2 ⟨p, rfl, h⟩
  have H := Lib.hid h
  clear h
  go_wp2_with fail
  refine (h_new w _ _ H.out).mono ?_
  rintro e w3 ⟨q1, rfl, h⟩
  have H := Lib.hid h
  clear h
  go_wp2_with fail
  refine (h_new w _ _ H.out).mono ?_
  rintro e w4 ⟨q2, rfl, h⟩
  have H := Lib.hid h.up3
  clear h hmod
  go_wp2
  clear u1
  go_loopw [32] (fun i wr => ∃ (j : Nat), j ≤ K ∧ i = .int .i64 j ∧ Has w wr [Wr TW p (pvs (ys.take j)), Wr TW q1 (pvs (ys.take j)), Wr TW q2 []]) (fun i _ => K - (intOf i).toNat)
  case atStart => exact ⟨0, Nat.zero_le _, rfl, H.out.swap2⟩
  case round =>
    obtain ⟨j, hj, rfl, h⟩ := hrel
    have H := Lib.hid h
    by_cases hlt : j < K
    · obtain ⟨b, off, ha, c0, c1, c2⟩ := HV.out.at_ h.bel hlt
      obtain ⟨hk, hn, _⟩ := HV.out.okAt hlt
      have hs := HV.out.size HT.out hlt
      have HN := Lib.hid (pvs_take ys j (by rw [HY.out]; exact hlt))
      have HS1 := Lib.hid (HS.out j)
      subst ha
      clear h
      generalize (ys.getD j zv).s = s at *
      generalize (ys.getD j zv).k = k at *
      generalize (ys.getD j zv).n = n at *
      generalize pvs (ys.take j) = l at *
      have H := Lib.hid (H.out.box #[.int .u8 (k : Nat), .int .u64 (n : Nat), .string s] TV).swap
      go_wp2_with fail
      refine (h_put w _ _ p l k n s H.out hk hn (by omega) (by have := HS1.out; omega)).mono ?_
      rintro e w5 ⟨rfl, h⟩
      rw [← HN.out] at h
      have b1 := h.swap.blk
      have b10 := blk_cell b1 0 _ rfl
      have b11 := blk_cell b1 1 _ rfl
      have b12 := blk_cell b1 2 _ rfl
      have H := Lib.hid h.up3
      clear h b1
      go_wp2_with fail
      refine (h_put w _ _ q1 l k n s H.out hk hn (by omega) (by have := HS1.out; omega)).mono ?_
      rintro e w6 ⟨rfl, h⟩
      rw [← HN.out] at h
      have H := Lib.hid h.last2
      clear h
      go_wp2
      go_roundw
      case rel => exact ⟨j + 1, by omega, by go_num, H.out⟩
      case measure => simp [intOf]; omega
    · obtain rfl : j = K := by omega
      have HS1 := Lib.hid (HS.out j)
      rw [HA.out] at h HS1
      generalize pvs ys = l1 at *
      have H := Lib.hid h
      clear h HS
      go_wp2_with fail
      refine (h_bytes w _ _ p l1 H.out (by have := HS1.out; omega)).mono ?_
      rintro e w7 ⟨a7, c7, rfl, h⟩
      have H := Lib.hid h
      clear h
      obtain ⟨F7, hF7, hlt7⟩ := H.out.fst
      have HB7 := Lib.hid (ow_bs hF7)
      have HLT7 := Lib.hid hlt7
      clear hF7 hlt7
      go_wp2_with fail
      refine (h_clone w _ _ F7 _ l1 H.out HB7.out HLT7.out (by have := HS1.out; omega)).mono ?_
      rintro e w8 ⟨a8, c8, rfl, h⟩
      have H := Lib.hid (show Has w w8 [Wr TW p l1, Wr TW q2 [], Wr TW q1 l1, Ow (.slice a8 l1.length c8) l1, Ow (.slice a7 l1.length c7) l1] from h.up4.up4.up5.swap)
      clear h HB7 HLT7
      go_wp2
      clear u2
      go_loopw [51] (fun i wr => ∃ (j2 : Nat), j2 ≤ M ∧ i = .int .i64 j2 ∧ Has w wr [Wr TW p (l1 ++ pvs (zs.take j2)), Wr TW q2 (pvs (zs.take j2)), Wr TW q1 l1, Ow (.slice a8 l1.length c8) l1, Ow (.slice a7 l1.length c7) l1]) (fun i _ => M - (intOf i).toNat)
      case atStart => exact ⟨0, Nat.zero_le _, rfl, by rw [List.take_zero]; show Has w _ [Wr TW p (l1 ++ []), _, _, _, _]; rw [List.append_nil]; exact H.out⟩
      case round =>
        obtain ⟨j2, hj2, rfl, h⟩ := hrel
        have H := Lib.hid h
        by_cases hlt2 : j2 < M
        · obtain ⟨b, off, ha, c0, c1, c2⟩ := HV2.out.at_ h.bel hlt2
          obtain ⟨hk, hn, _⟩ := HV2.out.okAt hlt2
          have hs := HV2.out.size HT2.out hlt2
          have HN := Lib.hid (pvs_take zs j2 (by rw [HZ.out]; exact hlt2))
          have HS3 := Lib.hid (HS2.out j2)
          have HS4 := Lib.hid (show (l1 ++ pvs (zs.take j2)).length ≤ 2000000 by have := HS1.out; have := HS3.out; rw [List.length_append]; omega)
          subst ha
          clear h
          generalize (zs.getD j2 zv).s = s at *
          generalize (zs.getD j2 zv).k = k at *
          generalize (zs.getD j2 zv).n = n at *
          generalize pvs (zs.take j2) = l at *
          have H := Lib.hid (H.out.box #[.int .u8 (k : Nat), .int .u64 (n : Nat), .string s] TV).swap
          go_wp2_with fail
          refine (h_put w _ _ p _ k n s H.out hk hn (by omega) (by have := HS4.out; omega)).mono ?_
          rintro e w9 ⟨rfl, h⟩
          rw [List.append_assoc, ← HN.out] at h
          have b1 := h.swap.blk
          have b10 := blk_cell b1 0 _ rfl
          have b11 := blk_cell b1 1 _ rfl
          have b12 := blk_cell b1 2 _ rfl
          have H := Lib.hid h.up3
          clear h b1
          go_wp2_with fail
          refine (h_put w _ _ q2 l k n s H.out hk hn (by omega) (by have := HS3.out; omega)).mono ?_
          rintro e w10 ⟨rfl, h⟩
          rw [← HN.out] at h
          have H := Lib.hid h.last2
          clear h
          go_wp2
          go_roundw
          case rel => exact ⟨j2 + 1, by omega, by go_num, H.out⟩
          case measure => simp [intOf]; omega
        · obtain rfl : j2 = M := by omega
          have HS3 := Lib.hid (HS2.out j2)
          rw [HA2.out] at h HS3
          generalize pvs zs = l2 at *
          obtain ⟨L, hL⟩ : ∃ L, l1 ++ l2 = L := ⟨_, rfl⟩
          rw [hL] at h
          have HL := Lib.hid hL
          have hlL : (L.length : Int) = (l1.length : Int) + (l2.length : Int) := by rw [← hL, List.length_append]; rfl
          have hq1 : l1.length ≤ 1000000 := HS1.out
          have hq2 : l2.length ≤ 1000000 := HS3.out
          have H := Lib.hid h
          obtain ⟨F5, hF5, _⟩ := h.up4.fst
          obtain ⟨F6, hF6, _⟩ := h.up5.fst
          have HE := Lib.hid (equal_same F5 F6 _ _ l1 _ (ow_bs hF5) (ow_bs hF6))
          clear h hL HS2 hF5 hF6 HA2 HA
          have HLL := Lib.hid hlL
          clear hlL
          go_wp2_with fail
          refine HE.out.mono ?_
          rintro e w' ⟨rfl, rfl⟩
          have HC := Lib.hid H.out.up5
          go_wp2_with (refine wpList_clear rfl _ rfl _ rfl w _ l1 HC.out ?_; intro w11 hc; have HD := Lib.hid hc; clear hc)
          go_wp2_with fail
          refine (h_bytes w _ _ p L HD.out (by have := HLL.out; omega)).mono ?_
          rintro e w12 ⟨a12, c12, rfl, h⟩
          have H := Lib.hid h.up4
          clear h
          go_wp2_with fail
          refine (h_bytes w _ _ q1 l1 H.out (by omega)).mono ?_
          rintro e w13 ⟨a13, c13, rfl, h⟩
          have H := Lib.hid h.up5
          clear h
          go_wp2_with fail
          refine (h_bytes w _ _ q2 l2 H.out (by omega)).mono ?_
          rintro e w14 ⟨a14, c14, rfl, h⟩
          have H := Lib.hid h.up3
          obtain ⟨F14, hF14, _⟩ := h.fst
          have HB := Lib.hid (ow_bs hF14)
          clear h hF14
          go_wp2_with (at_builtin; refine wpList_append_b rfl _ _ rfl 0 (.slice a13 l1.length c13) l1.length _ rfl H.out.own F14 a14 l2.length c14 l2 rfl HB.out (by omega) (Nat.zero_le _) ?_; intro v15 w15 ho hg hl15; have HP := Lib.hid (H.out.appended HB.out.1 rfl ho hg hl15); clear ho hg hl15)
          have h := HP.out
          rw [HL.out] at h
          obtain ⟨F15, hF15, _⟩ := h.fst
          obtain ⟨F16, hF16, _⟩ := h.up5.fst
          have HE := Lib.hid (equal_same F16 F15 _ _ L _ (ow_bs hF16) (ow_bs hF15))
          have H := Lib.hid h
          clear h hF15 hF16
          refine HE.out.mono ?_
          rintro e w' ⟨rfl, rfl⟩
          go_wp2_with fail
          refine (h_len w _ _ p L H.out.up6).mono ?_
          rintro e w' ⟨rfl, rfl⟩
          go_wp2_with fail
          refine (h_len w _ _ q1 l1 H.out.up4).mono ?_
          rintro e w' ⟨rfl, rfl⟩
          go_wp2_with fail
          refine (h_len w _ _ q2 l2 H.out.up3).mono ?_
          rintro e w' ⟨rfl, rfl⟩
          have hlL := HLL.out
          obtain ⟨c1, hc1⟩ : ∃ c, l1.length = c := ⟨_, rfl⟩
          obtain ⟨c2, hc2⟩ : ∃ c, l2.length = c := ⟨_, rfl⟩
          obtain ⟨c3, hc3⟩ : ∃ c, L.length = c := ⟨_, rfl⟩
          rw [hc1] at hq1 hlL
          rw [hc2] at hq2 hlL
          rw [hc3] at hlL
          simp only [hc1, hc2, hc3]
          clear hc1 hc2 hc3
          have hs3 : (c3 : Int) = (c1 : Int) + (c2 : Int) := hlL
          clear hlL
          go_wp2_with fail
          refine (works_any _).mono ?_
          rintro e w20 ⟨rfl, hb⟩
          have H := Lib.hid (H.out.below hb)
          clear hb
          go_wp2
          go_ret
          exact ⟨rfl, H.out.bel⟩
theorem behind_no (a : Option Addr) (len cap : Nat) (m : Int) (w : World) (hf : Calls Try.prog 12 #[.slice a len cap] w (Quiet w (.bool false))) :
    Calls Try.prog 9 #[.slice a len cap, .int .u8 m] w fun e w' => e = .returned (.bool true) ∧ Below w.heap.size w w' := by
  have HF := Lib.hid hf
  clear hf
  go_enter Try.func9, Try.ntmps9
  go_wp2_with fail
  refine HF.out.mono ?_
  rintro e w1 ⟨rfl, hb⟩
  have HB := Lib.hid hb
  clear hb
  go_wp2_with fail
  refine (works_any _).mono ?_
  rintro e w2 ⟨rfl, hb2⟩
  have HB2 := Lib.hid (HB.out.trans (hb2.mono HB.out.size))
  clear hb2
  go_wp2
  go_ret
  exact ⟨rfl, HB2.out⟩
theorem w_wireBehind (a0 : Option Addr) (len0 cap0 : Nat) (x0 : List Val) (a1 : Int) (w : World) (w0 : IsVals w a0 len0 cap0 x0) (w1 : (Lit.int .u8 a1).wf = true) :
    Calls Try.prog 9 #[.slice a0 len0 cap0, .int .u8 a1] w fun e w' => e = .returned (.bool true) ∧ Below w.heap.size w w' := by
  have b1 := bounds_u8 w1
  have z1 : ((a1.toNat : Nat) : Int) = a1 := Int.toNat_of_nonneg b1.1
  rcases few_any a0 len0 cap0 x0 w w w0 (Below.refl _ _) with ⟨hl, ht, hf⟩ | hf
  · have := behind_go a0 len0 cap0 x0 a1.toNat w w0 (by omega) hl ht hf
    rwa [z1] at this
  · exact behind_no a0 len0 cap0 a1 w hf
end Go.Proofs.Ytnkmiigcglddmaa.Wire
