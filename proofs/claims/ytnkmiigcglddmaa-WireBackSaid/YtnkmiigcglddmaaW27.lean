/- The walk of WireBack: the stage's theorem. -/
import Derived.Test.YtnkmiigcglddmaaW26
import Derived.Deep.RegionHeld3
namespace Go.Proofs.Ytnkmiigcglddmaa.Wire
open Go.RowKit Go.ChangeShapes
set_option linter.unusedVariables false
set_option linter.unusedSimpArgs false

theorem cut_len (xs : List Val) (j : Nat) : ((cutAt xs j).getD []).length ≤ (pvs xs).length := by
  unfold cutAt
  split
  · show (pvs (xs.drop j)).dropLast.length ≤ _
    have h := congrArg List.length (show pvs (xs.take j ++ xs.drop j) = pvs xs by rw [List.take_append_drop])
    rw [pvs_append, List.length_append] at h
    rw [List.length_dropLast]
    omega
  · exact Nat.zero_le _
theorem drop_len (xs : List Val) (j : Nat) : (pvs (xs.drop j)).length ≤ (pvs xs).length := by
  have h := congrArg List.length (show pvs (xs.take j ++ xs.drop j) = pvs xs by rw [List.take_append_drop])
  rw [pvs_append, List.length_append] at h
  omega
theorem cut_zero {xs : List Val} (h : 0 < xs.length) : cutAt xs 0 = some ((pvs xs).take ((pvs xs).length - 1)) := by
  unfold cutAt; rw [if_pos h, List.drop_zero, List.dropLast_eq_take]
theorem cut_all (xs : List Val) : cutAt xs xs.length = none := by unfold cutAt; rw [if_neg (Nat.lt_irrefl _)]
theorem upto_run' (a : Option Addr) (len cap hi : Nat) (x : Int) (hx : x = (hi : Int)) (h2 : hi ≤ cap) (w : World) :
    (Instr.slice 35 (.slice a len cap) none (some (.int .i64 x)) none).run Try.prog w = .ok (.slice a hi cap) w := by
  subst hx; exact upto_run a len cap hi h2 w
theorem IsVals.all {w : World} {a : Option Addr} {len cap : Nat} {xs : List Val} (h : IsVals w a len cap xs) (hs : ∀ i, i < len → (xs.getD i zv).s.size ≤ 65536) : ∀ i, i < xs.length → (xs.getD i zv).s.size ≤ 65536 := fun i hi => hs i (by rw [h.1] at hi; exact hi)
set_option maxRecDepth 100000 in
set_option maxHeartbeats 4000000 in
/-- Behind the writing. -/
theorem back_go (a : Option Addr) (len cap : Nat) (xs : List Val) (m : Nat) (w : World) (h : IsVals w a len cap xs) (hm : m < 256) (hl : len ≤ 100) (ht : tot xs ≤ 100000) (hf : Calls Try.prog 12 #[.slice a len cap] w (Quiet w (.bool true))) :
    Calls Try.prog 6 #[.slice a len cap, .int .u8 (m : Nat)] w fun e w' => e = .returned (.bool true) ∧ Below w.heap.size w w' := by
  have HV := Lib.hid h
  have HF := Lib.hid hf
  have HT := Lib.hid ht
  have HM := Lib.hid hm
  have HS := Lib.hid (pvs_short h hl ht)
  have hlen : xs.length = len := h.1
  have HL := Lib.hid hlen
  have hall : pvs (xs.take len) = pvs xs := by rw [← hlen, List.take_length]
  have hpl := HS.out len
  rw [hall] at hpl
  have HA := Lib.hid hall
  have HPL := Lib.hid hpl
  clear h hf ht hlen hall hpl
  go_enter Try.func6, Try.ntmps6
  go_wp2_with fail
  refine HF.out.mono ?_
  rintro e w1 ⟨rfl, hb⟩
  have H := Lib.hid ((Has.start w).below hb)
  clear hb
  go_wp2_with fail
  refine (h_new w _ _ H.out).mono ?_
  rintro e w2 ⟨p, rfl, h⟩
  have H := Lib.hid h
  clear h
  go_wp2
  go_loopw [23] (fun i wr => ∃ (j : Nat), j ≤ len ∧ i = .int .i64 j ∧ Has w wr [Wr TW p (pvs (xs.take j))] ∧ ∀ i, i < j → (xs.getD i zv).s.size ≤ 65536) (fun i _ => len - (intOf i).toNat)
  case atStart => exact ⟨0, Nat.zero_le _, rfl, H.out, fun i hi => absurd hi (by omega)⟩
  case round =>
    obtain ⟨j, hj, rfl, h, hsm⟩ := hrel
    have H := Lib.hid h
    have HSM := Lib.hid hsm
    by_cases hlt : j < len
    · obtain ⟨b, off, ha, c0, c1, c2⟩ := HV.out.at_ h.bel hlt
      obtain ⟨hk, hn, _⟩ := HV.out.okAt hlt
      have hs := HV.out.size HT.out hlt
      have HN := Lib.hid (pvs_take xs j (by rw [HL.out]; exact hlt))
      have HS1 := Lib.hid (HS.out j)
      subst ha
      clear h hsm
      obtain ⟨s, hse⟩ : ∃ s, (xs.getD j zv).s = s := ⟨_, rfl⟩
      have HSE := Lib.hid hse
      rw [hse] at c2 hs HN
      clear hse
      generalize (xs.getD j zv).k = k at *
      generalize (xs.getD j zv).n = n at *
      generalize pvs (xs.take j) = l at *
      have HH := Lib.hid (H.out.alloc (.cells #[.int .u8 (k : Nat), .int .u64 (n : Nat), .string s] TV))
      clear H
      by_cases hbig : 65536 < s.size
      · have hd : decide (65536 < (s.size : Int)) = true := decide_eq_true (by omega)
        clear hbig
        go_wp2_with fail
        refine (works_any _).mono ?_
        rintro e w3 ⟨rfl, hb⟩
        have H := Lib.hid (HH.out.below hb)
        clear hb
        go_wp2
        go_ret
        exact ⟨rfl, H.out.bel⟩
      · have hd : decide (65536 < (s.size : Int)) = false := decide_eq_false (by omega)
        have hsz : s.size ≤ 65536 := by omega
        clear hbig
        go_wp2_with fail
        refine (h_put w _ _ p l k n s HH.out hk hn (by omega) (by have := HS1.out; omega)).mono ?_
        rintro e w4 ⟨rfl, h⟩
        rw [← HN.out] at h
        have H := Lib.hid h
        clear h
        go_wp2
        go_roundw
        case rel => exact ⟨j + 1, by omega, by go_num, H.out, fun i hi => by
          by_cases hij : i < j
          · exact HSM.out i hij
          · obtain rfl : i = j := by omega
            rw [HSE.out]; exact hsz⟩
        case measure => simp [intOf]; omega
    · obtain rfl : j = len := by omega
      have HSM2 := Lib.hid (HV.out.all HSM.out)
      rw [HA.out] at h
      obtain ⟨l, hl0⟩ : ∃ l, pvs xs = l := ⟨_, rfl⟩
      rw [hl0] at h HPL
      have HL0 := Lib.hid hl0
      have H := Lib.hid h
      clear h hsm hl0 HSM
      go_wp2_with fail
      refine (h_bytes w _ _ p l H.out (by have := HPL.out; omega)).mono ?_
      rintro e w5 ⟨a5, c5, rfl, h⟩
      have H := Lib.hid h.swap.drop
      clear h
      obtain ⟨F5, hF5, hlt5⟩ := H.out.fst
      have HB5 := Lib.hid (ow_bs hF5)
      have HLT5 := Lib.hid hlt5
      clear hF5 hlt5
      go_wp2_with fail
      refine (h_read w _ _ F5 _ l H.out HB5.out HLT5.out (by have := HPL.out; omega)).mono ?_
      rintro e w6 ⟨p1, rfl, h, _⟩
      have H := Lib.hid h
      clear h HB5 HLT5
      obtain ⟨F6, hF6, hlt6⟩ := H.out.swap.fst
      have HB6 := Lib.hid (ow_bs hF6)
      have HLT6 := Lib.hid hlt6
      clear hF6 hlt6
      go_wp2_with fail
      refine (h_clone w _ _ F6 _ l H.out HB6.out HLT6.out (by have := HPL.out; omega)).mono ?_
      rintro e w7 ⟨a7, c7, rfl, h⟩
      have HO := Lib.hid (h.alloc (.cells #[.int .u8 (m : Nat)] 5))
      have HB := Lib.hid (bs_new w7 [m] (fun c hc => by obtain rfl := List.mem_singleton.1 hc; exact HM.out))
      clear h HB6 HLT6
      go_wp2_with (at_builtin; refine wpList_append_b rfl _ _ rfl 0 (.slice a7 l.length c7) l.length _ rfl HO.out.own (New w7 (w7.alloc (.cells #[.int .u8 (m : Nat)] 5))) (some ⟨w7.heap.size, 0, none⟩) 1 1 [m] rfl HB.out (by have := HPL.out; omega) (Nat.zero_le _) ?_; intro v8 w8 ho hg hl8; have HE := Lib.hid (HO.out.appended HB.out.1 rfl ho hg hl8); clear ho hg hl8)
      clear HO HB H
      obtain ⟨F8, hF8, hlt8⟩ := HE.out.fst
      have HB8 := Lib.hid (ow_bs hF8)
      have HLT8 := Lib.hid hlt8
      clear hF8 hlt8
      refine (h_read w _ _ F8 _ _ HE.out HB8.out HLT8.out (by have := HPL.out; simp; omega)).mono ?_
      rintro e w9 ⟨p2, rfl, h, _⟩
      have H := Lib.hid h.swap.drop
      clear h HB8 HLT8 HE
      go_wp2
      go_loopw [48] (fun i wr => ∃ (j2 : Nat), j2 ≤ j ∧ i = .int .i64 j2 ∧ Has w wr [Rd TR mkP p2 (some (pvs (xs.drop j2) ++ [m])), Rd TR mkP p1 (some (pvs (xs.drop j2))), Ow (.slice a5 l.length c5) l]) (fun i _ => j - (intOf i).toNat)
      case atStart => exact ⟨0, Nat.zero_le _, rfl, by rw [List.drop_zero, HL0.out]; exact H.out⟩
      case round =>
        obtain ⟨j2, hj2, rfl, h⟩ := hrel
        have H := Lib.hid h
        by_cases hlt2 : j2 < j
        · obtain ⟨b, off, ha, c0, c1, c2⟩ := HV.out.at_ h.bel hlt2
          obtain ⟨hk, hn, _⟩ := HV.out.okAt hlt2
          have hs := HSM2.out j2 (by rw [HL.out]; exact hlt2)
          have hpd := pvs_drop xs j2 (by rw [HL.out]; exact hlt2)
          have hdl := drop_len xs j2
          subst ha
          rw [hpd] at h hdl
          rw [HL0.out] at hdl
          clear H hpd
          generalize (xs.getD j2 zv).s = s at *
          generalize (xs.getD j2 zv).k = k at *
          generalize (xs.getD j2 zv).n = n at *
          obtain ⟨r, hr⟩ : ∃ r, pvs (xs.drop (j2 + 1)) = r := ⟨_, rfl⟩
          have HR := Lib.hid hr
          rw [hr] at h hdl
          have HDL := Lib.hid (Nat.le_trans hdl HPL.out)
          rw [List.append_assoc] at h
          have HG1 := Lib.hid (gv_pv k n s r hn hs)
          have HG2 := Lib.hid (gv_pv k n s (r ++ [m]) hn hs)
          have HP := Lib.hid (fun W => plain_any k n s W hk hn)
          have H := Lib.hid (h.box #[.int .u8 (k : Nat), .int .u64 (n : Nat), .string s] TV).drew
          obtain ⟨B, hB⟩ : ∃ B, wr.heap.size = B := ⟨_, rfl⟩
          rw [hB] at H
          have HBB := Lib.hid hB
          clear h hr hdl hs hB
          go_wp2
          rw [HBB.out]
          go_region_held3 (fun w' => w'.cell? ⟨B, 0, none⟩ = some (.int .u8 (k : Nat)) ∧ w'.cell? ⟨B, 1, none⟩ = some (.int .u64 (n : Nat)) ∧ w'.cell? ⟨B, 2, none⟩ = some (.string s))
            (exact ⟨blk_cell H.out.blk 0 _ rfl, blk_cell H.out.blk 1 _ rfl, blk_cell H.out.blk 2 _ rfl⟩)
            (first
              | (go_at_call_of 40 (Value.pointer (some ⟨p1, 0, none⟩)); refine (h_get w _ _ p1 _ k _ _ _ HG1.out H.out.up3 hk (by have := HDL.out; show (pv k n s ++ r).length ≤ _; omega)).mono ?_; rintro e w10 ⟨rfl, h⟩; rw [str_sb]; have H := Lib.hid h.down3; clear h)
              | (go_at_call_of 40 (Value.pointer (some ⟨p2, 0, none⟩)); refine (h_get w _ _ p2 _ k _ _ _ HG2.out H.out.swap hk (by have := HDL.out; show (pv k n s ++ (r ++ [m])).length ≤ _; rw [← List.append_assoc, List.length_append]; simp only [List.length_singleton]; omega)).mono ?_; rintro e w10 ⟨rfl, h⟩; rw [str_sb]; have H := Lib.hid h.swap; clear h)
              | (go_at_call 41; refine (HP.out _).mono ?_; rintro e w10 ⟨rfl, hb⟩; have H := Lib.hid (H.out.below hb); clear hb))
          have H := Lib.hid H.out.drop
          go_wp2
          go_roundw
          case rel => exact ⟨j2 + 1, by omega, by go_num, by rw [HR.out]; exact H.out⟩
          case measure => simp [intOf]; omega
        · obtain rfl : j2 = j := by omega
          have hz : pvs (xs.drop j2) = [] := by rw [← HL.out]; exact pvs_all xs
          rw [hz, List.nil_append] at h
          have H := Lib.hid h
          clear h hz
          have e1 : endE (some [m]) = 10 := rfl
          have e0 : endE (some []) = 0 := rfl
          go_wp2_with fail
          refine (h_left w _ _ p1 _ H.out.swap).mono ?_
          rintro e w' ⟨rfl, rfl⟩
          go_wp2_with fail
          refine (h_end w _ _ p1 _ H.out.swap).mono ?_
          rintro e w' ⟨rfl, rfl⟩
          rw [e0]
          go_wp2_with fail
          refine (h_left w _ _ p2 _ H.out).mono ?_
          rintro e w' ⟨rfl, rfl⟩
          go_wp2_with fail
          refine (h_end w _ _ p2 _ H.out).mono ?_
          rintro e w' ⟨rfl, rfl⟩
          rw [e1]
          clear e0 e1
          by_cases hz : j2 = 0
          · have hl0 : l = [] := by
              rw [← HL0.out, ← HA.out, hz]; rfl
            subst hl0
            subst hz
            go_wp2_with fail
            refine (works_any _).mono ?_
            rintro e w11 ⟨rfl, hb⟩
            have H := Lib.hid (H.out.below hb)
            clear hb
            go_wp2
            go_ret
            exact ⟨rfl, H.out.bel⟩
          · have hz0 : ((j2 : Int) == 0) = false := by rw [beq_eq_false_iff_ne]; omega
            obtain ⟨F5, hF5, hlt5⟩ := H.out.up3.fst
            have hb5 := ow_bs hF5
            have hcap : l.length ≤ c5 := by obtain ⟨_, _, _, hv, hc, _⟩ := hb5; injection hv; omega
            have hpos : 0 < l.length := by
              have h1 : xs ≠ [] := by
                intro e
                have h2 := HL.out
                rw [e] at h2
                exact hz h2.symm
              have h3 := pvs_pos h1
              rw [HL0.out] at h3
              exact List.length_pos_iff.2 h3
            have hc0 : cutAt xs 0 = some (l.take (l.length - 1)) := by rw [cut_zero (by rw [HL.out]; omega), HL0.out]
            obtain ⟨K, hK⟩ : ∃ K, l.length - 1 = K := ⟨_, rfl⟩
            rw [hK] at hc0
            have hu := fun w => upto_run' a5 l.length c5 K ((l.length : Int) - 1) (by omega) (by omega) w
            have HB5 := Lib.hid (hb5.upto K (by omega))
            have HLT5 := Lib.hid hlt5
            have HC0 := Lib.hid hc0
            have hl6 := HPL.out
            have htk : (l.take K).length ≤ 100000000 := by rw [List.length_take]; omega
            have HTK := Lib.hid htk
            clear hb5 hF5 hlt5 hcap hc0 hK htk hz
            go_wp2_with fail
            refine (h_read w _ _ F5 _ _ H.out HB5.out HLT5.out HTK.out).mono ?_
            rintro e w12 ⟨p3, rfl, h, _⟩
            rw [← HC0.out] at h
            have H := Lib.hid h
            clear h HB5 HLT5 hu
            go_wp2
            go_loopw [104] (fun i wr => ∃ (j3 : Nat), j3 ≤ j2 ∧ i = .int .i64 j3 ∧ Has w wr [Rd TR mkP p3 (cutAt xs j3)]) (fun i _ => j2 - (intOf i).toNat)
            case atStart => exact ⟨0, Nat.zero_le _, rfl, H.out.swap.drop.swap.drop.swap.drop⟩
            case round =>
              obtain ⟨j3, hj3, rfl, h⟩ := hrel
              have H := Lib.hid h
              by_cases hlt3 : j3 < j2
              · obtain ⟨b, off, ha, c0, c1, c2⟩ := HV.out.at_ h.bel hlt3
                obtain ⟨hk, hn, _⟩ := HV.out.okAt hlt3
                have hs := HSM2.out j3 (by rw [HL.out]; exact hlt3)
                have hcn := cut_next xs j3 (by rw [HL.out]; exact hlt3) hn hs
                have hcl := cut_len xs j3
                rw [HL0.out] at hcl
                have HCL := Lib.hid (Nat.le_trans hcl HPL.out)
                subst ha
                clear h hcl hs hl6
                generalize (xs.getD j3 zv).s = s at *
                generalize (xs.getD j3 zv).k = k at *
                generalize (xs.getD j3 zv).n = n at *
                obtain ⟨N, S, st, hg⟩ : ∃ N S st, gv k (cutAt xs j3) = (N, S, st) := ⟨_, _, _, rfl⟩
                rw [hg] at hcn
                have HG := Lib.hid hg
                have HCN := Lib.hid (show st = cutAt xs (j3 + 1) from hcn)
                have H := Lib.hid (H.out.alloc (.cells #[.int .u8 (k : Nat), .int .u64 (n : Nat), .string s] TV))
                clear hg hcn
                go_wp2_with fail
                refine (h_get w _ _ p3 _ k _ _ _ HG.out H.out hk (by have := HCL.out; omega)).mono ?_
                rintro e w13 ⟨rfl, h⟩
                have H := Lib.hid h
                clear h
                go_wp2
                go_roundw
                case rel => exact ⟨j3 + 1, by omega, by go_num, by rw [← HCN.out]; exact H.out⟩
                case measure => simp [intOf]; omega
              · obtain rfl : j3 = j2 := by omega
                have hz : cutAt xs j3 = none := by rw [← HL.out]; exact cut_all xs
                rw [hz] at h
                have H := Lib.hid h
                have e1 : endE none = 10 := rfl
                clear h hz hl6
                go_wp2_with fail
                refine (h_end w _ _ p3 _ H.out).mono ?_
                rintro e w' ⟨rfl, rfl⟩
                rw [e1]
                go_wp2_with fail
                refine (h_left w _ _ p3 _ H.out).mono ?_
                rintro e w' ⟨rfl, rfl⟩
                go_wp2_with fail
                refine (works_any _).mono ?_
                rintro e w14 ⟨rfl, hb⟩
                have H := Lib.hid (H.out.below hb)
                clear hb
                go_wp2
                go_ret
                exact ⟨rfl, H.out.bel⟩
theorem back_no (a : Option Addr) (len cap : Nat) (m : Int) (w : World) (hf : Calls Try.prog 12 #[.slice a len cap] w (Quiet w (.bool false))) :
    Calls Try.prog 6 #[.slice a len cap, .int .u8 m] w fun e w' => e = .returned (.bool true) ∧ Below w.heap.size w w' := by
  have HF := Lib.hid hf
  clear hf
  go_enter Try.func6, Try.ntmps6
  go_wp2_with fail
  refine HF.out.mono ?_
  rintro e w1 ⟨rfl, hb⟩
  have HB := Lib.hid hb
  clear hb
  go_wp2_with fail
  refine (works_any _).mono ?_
  rintro e w2 ⟨rfl, hb2⟩
  have HB2 := Lib.hid (HB.out.trans (hb2.mono HB.out.size))
  clear hb2
  go_wp2
  go_ret
  exact ⟨rfl, HB2.out⟩
theorem w_wireBack (a0 : Option Addr) (len0 cap0 : Nat) (x0 : List Val) (a1 : Int) (w : World) (w0 : IsVals w a0 len0 cap0 x0) (w1 : (Lit.int .u8 a1).wf = true) :
    Calls Try.prog 6 #[.slice a0 len0 cap0, .int .u8 a1] w fun e w' => e = .returned (.bool true) ∧ Below w.heap.size w w' := by
  have b1 := bounds_u8 w1
  have z1 : ((a1.toNat : Nat) : Int) = a1 := Int.toNat_of_nonneg b1.1
  rcases few_any a0 len0 cap0 x0 w w w0 (Below.refl _ _) with ⟨hl, ht, hf⟩ | hf
  · have := back_go a0 len0 cap0 x0 a1.toNat w w0 (by omega) hl ht hf
    rwa [z1] at this
  · exact back_no a0 len0 cap0 a1 w hf
end Go.Proofs.Ytnkmiigcglddmaa.Wire
