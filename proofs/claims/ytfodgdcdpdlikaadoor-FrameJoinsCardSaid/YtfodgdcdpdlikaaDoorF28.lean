/- The walk of FrameJoins. -/
import Derived.Test.YtfodgdcdpdlikaaDoorF27
import Derived.Test.YtfodgdcdpdlikaaDoorF20
namespace Go.Proofs.YtfodgdcdpdlikaaDoor.Frame
open Go.RowKit Go.ChangeShapes
open Crc (Hv more more_lt ret_u32)
set_option linter.unusedVariables false
set_option linter.unusedSimpArgs false

theorem joins_no (a b : Option Addr) (cap cap' : Nat) (L M : List (List Nat)) (w : World) (hv : Bss w (Old w) (.slice a L.length cap) L) (hv' : Bss w (Old w) (.slice b M.length cap') M) (hL : L.length ≤ 9223372036854775807) (hM : M.length ≤ 9223372036854775807) (hH : Hv w) (hf : ¬ Few L ∨ ¬ Few M) :
    Calls Tryd.prog 8 #[.slice a L.length cap, .slice b M.length cap'] w fun e w' => e = .returned (.bool true) ∧ Below w.heap.size w w' := by
  have H1 := few_any _ _ L w hv hL
  have H2 := few_any _ _ M w hv' hM
  have HW := Lib.hid (works_any w hH)
  by_cases hf0 : Few L
  · have hf1 : ¬ Few M := hf.elim (fun h => absurd hf0 h) id
    have hfew : fewB L = true := by unfold fewB; simpa using hf0
    have hfew' : fewB M = false := by unfold fewB; simpa using hf1
    rw [hfew] at H1
    rw [hfew'] at H2
    replace H1 := Lib.hid H1
    replace H2 := Lib.hid H2
    clear hfew hfew'
    go_enter Tryd.func8, Tryd.ntmps8
    go_wp2_with fail
    refine H1.out.mono ?_
    rintro e w' ⟨rfl, rfl⟩
    go_wp2_with fail
    refine H2.out.mono ?_
    rintro e w' ⟨rfl, rfl⟩
    go_wp2_with (go_at_call 11; refine HW.out.mono ?_; rintro e w1 ⟨rfl, hb⟩)
    go_ret
    exact ⟨rfl, hb⟩
  · have hfew : fewB L = false := by unfold fewB; simpa using hf0
    rw [hfew] at H1
    replace H1 := Lib.hid H1
    clear hfew H2
    go_enter Tryd.func8, Tryd.ntmps8
    go_wp2_with fail
    refine H1.out.mono ?_
    rintro e w' ⟨rfl, rfl⟩
    go_wp2_with (go_at_call 11; refine HW.out.mono ?_; rintro e w1 ⟨rfl, hb⟩)
    go_ret
    exact ⟨rfl, hb⟩
set_option maxRecDepth 100000 in
set_option maxHeartbeats 4000000 in
theorem joins_go (a b : Option Addr) (cap cap' : Nat) (L M : List (List Nat)) (w : World) (hv : Bss w (Old w) (.slice a L.length cap) L) (hv' : Bss w (Old w) (.slice b M.length cap') M) (hH : Hv w) (hf : Few L) (hg : Few M) :
    Calls Tryd.prog 8 #[.slice a L.length cap, .slice b M.length cap'] w fun e w' => e = .returned (.bool true) ∧ Below w.heap.size w w' := by
  obtain ⟨hs, hl4, htot⟩ := few_short hf
  obtain ⟨hs', hl4', htot'⟩ := few_short hg
  have hl20 : L.length ≤ 20 := hf.1
  have hl20' : M.length ≤ 20 := hg.1
  have hfew : fewB L = true := by unfold fewB; simpa using hf
  have hfew' : fewB M = true := by unfold fewB; simpa using hg
  have H1 := few_any _ _ L w hv (by omega)
  have H2 := few_any _ _ M w hv' (by omega)
  rw [hfew] at H1
  rw [hfew'] at H2
  replace H1 := Lib.hid H1
  replace H2 := Lib.hid H2
  have HJ := Lib.hid (join_ok _ _ L w hv (fun k hk => hk) hH hl4 hs)
  have HV := Lib.hid hv
  have HV' := Lib.hid hv'
  have hby := hv.byt
  have hby' := hv'.byt
  have hsN : ∀ c ∈ L ++ M, Short c := fun c hc => (List.mem_append.1 hc).elim (hs c) (hs' c)
  have hbN : ∀ c ∈ L ++ M, Byt c := fun c hc => (List.mem_append.1 hc).elim (hby c) (hby' c)
  have HWH := Lib.hid (fun k (hk : k < (L ++ M).length) => whole_at hbN hsN k hk)
  have HbN := Lib.hid hbN
  have HsN := Lib.hid hsN
  have hlN : (L ++ M).length = L.length + M.length := List.length_append
  have Hs' := Lib.hid hs'
  have hrN : (rcs (L ++ M)).length = tot (L ++ M) := rcs_len _
  have htN : tot (L ++ M) = tot L + tot M := tot_app _ _
  have hrL : (rcs L).length = tot L := rcs_len _
  have hrM : (rcs M).length = tot M := rcs_len _
  have hcat : str (rcs L) ++ str (rcs M) = str (rcs (L ++ M)) := by rw [str_app, rcs_app]
  have HCAT := Lib.hid hcat
  have HLs := Lib.hid (⟨hrN, htN, hrL, hrM⟩ : (rcs (L ++ M)).length = tot (L ++ M) ∧ tot (L ++ M) = tot L + tot M ∧ (rcs L).length = tot L ∧ (rcs M).length = tot M)
  have HlN := Lib.hid hlN
  clear hfew hfew' hv hv' hcat hrN htN hrL hrM hsN hbN hby hby' hs hs' hlN
  have hb0 := Below.refl w.heap.size w
  go_enter Tryd.func8, Tryd.ntmps8
  go_wp2_with fail
  refine H1.out.mono ?_
  rintro e w' ⟨rfl, rfl⟩
  go_wp2_with fail
  refine H2.out.mono ?_
  rintro e w' ⟨rfl, rfl⟩
  go_wp2_with fail
  refine HJ.out.mono ?_
  rintro e w1 ⟨v1, rfl, hm1, hb1⟩
  obtain ⟨a1, cap1, rfl⟩ := hm1.form
  have hv1' := HV'.out.later (fun k hk => hk) hb1
  go_wp2_with fail
  refine (join_ok _ _ M w1 hv1' (fun k hk => Nat.lt_of_lt_of_le hk hb1.size) (hv_later hH hb1) hl4' Hs'.out).mono ?_
  rintro e w2 ⟨v2, rfl, hm2, hb2⟩
  obtain ⟨a2, cap2, rfl⟩ := hm2.form
  have bel2 := hb1.trans (hb2.mono hb1.size)
  have HO := Lib.hid (World.ownsRow_made (base := w2.heap.size) (e := 22) (size := 1) w2 #[] 0 (Nat.le_refl _) (Nat.zero_le _) rfl)
  have hal : Below w2.heap.size w2 (w2.alloc (.cells #[] 22)) := (Below.refl _ _).alloc (Nat.le_refl _) _
  have bel3 := bel2.trans (hal.mono bel2.size)
  have HV3 := Lib.hid (HV.out.later (fun k hk => hk) bel3)
  have hm1 := Lib.hid (hm1.later hb2)
  replace hm2 := Lib.hid hm2
  clear hv1'
  go_wp2_with (first
    | (at_builtin; refine wpList_append_s rfl _ _ rfl w2.heap.size _ 0 [] rfl HO.out (Old w) a L.length cap L rfl HV3.out (by omega) (by simp) ?_; intro v4 w4 ys4 hys4 hown4 hg4; have hb34 : Below w2.heap.size w2 w4 := hal.grown hg4 (by simp) (fun k hk => (HO.out.lt k hk).1); have bel4 := bel2.trans (hb34.mono bel2.size); have HV4 := Lib.hid (HV'.out.later (fun k hk => hk) bel4); rw [List.nil_append, Nat.zero_add] at hown4; replace hown4 := Lib.hid hown4; replace hys4 := Lib.hid hys4)
    | (at_builtin; refine wpList_append_s rfl _ _ rfl w2.heap.size _ L.length _ rfl hown4.out (Old w) b M.length cap' M rfl HV4.out (by omega) hb34.size ?_; intro v5 w5 ys5 hys5 hown5 hg5; have hb35 : Below w2.heap.size w2 w5 := hb34.grown hg5 hb34.size (fun k hk => (hown4.out.lt k hk).1); have bel5 := bel2.trans (hb35.mono bel2.size); obtain ⟨a5, cap5, rfl⟩ := own_form hown5; replace hown5 := Lib.hid hown5; replace hys5 := Lib.hid hys5))
  have hB5 : Bss w5 (Old w5) (.slice a5 (L.length + M.length) cap5) (L ++ M) := by
    refine own_bss hown5.out (Sl.app ((hys4.out.kept fun k hk => (bel5.block k hk).trans (bel3.block k hk).symm).wide fun k hk => Nat.lt_of_lt_of_le hk bel5.size) ((hys5.out.kept fun k hk => (bel5.block k hk).trans (bel4.block k hk).symm).wide fun k hk => Nat.lt_of_lt_of_le hk bel5.size)) fun k hk => (hown5.out.lt k hk).2
  have hm1 := Lib.hid (hm1.out.later hb35)
  have hm2 := Lib.hid (hm2.out.later hb35)
  refine (join_ok _ _ (L ++ M) w5 hB5 (fun k hk => hk) (hv_later hH bel5) (by have := HlN.out; omega) HsN.out).mono ?_
  rintro e w6 ⟨v6, rfl, hm6, hb6⟩
  obtain ⟨a6, cap6, rfl⟩ := hm6.form
  have bel6 := bel5.trans (hb6.mono bel5.size)
  have cv1 := bs_str hm6.bs
  have cv2 := bs_str (hm1.out.later hb6).bs
  have cv3 := bs_str (hm2.out.later hb6).bs
  have hz1 : (str (rcs L)).size = (rcs L).length := by unfold str; simp [ByteArray.size]
  have hz2 : (str (rcs M)).size = (rcs M).length := by unfold str; simp [ByteArray.size]
  have hzz : ¬ 9223372036854775807 < (str (rcs L)).size + (str (rcs M)).size := by have := HLs.out; omega
  have hcat := HCAT.out
  replace hm6 := Lib.hid hm6
  clear hz1 hz2 hB5 hb34 hb35 bel4 bel3 hal hm1 hm2 HO HV3 HV4 hys4 hys5 hown4 hown5
  generalize str (rcs L) = sL at *
  generalize str (rcs M) = sM at *
  generalize str (rcs (L ++ M)) = sN at *
  go_wp2
  clear cv1 cv2 cv3 hzz hcat HCAT H1 H2 HJ
  obtain ⟨R, hR⟩ : ∃ R, (rcs (L ++ M)).length = R := ⟨_, rfl⟩
  rw [hR]
  rw [hR] at hm6
  have hRt : R = tot (L ++ M) := by rw [← hR]; exact rcs_len _
  have hRl : R ≤ 8320 := by have := HLs.out; omega
  replace hR := Lib.hid hR
  replace hRt := Lib.hid hRt
  go_loopw [11, 12] (fun p i wr => ∃ k : Nat, k ≤ L.length + M.length ∧ i = .int .i64 k ∧ p = .int .i64 (tot ((L ++ M).take k) : Nat) ∧ Below w6.heap.size w6 wr) (fun _ i _ => L.length + M.length - (intOf i).toNat)
  case atStart => exact ⟨0, Nat.zero_le _, rfl, rfl, Below.refl _ _⟩
  case round =>
    obtain ⟨k, hk, rfl, rfl, hbr⟩ := hrel
    have belr := bel6.trans (hbr.mono bel6.size)
    by_cases hkt : k < L.length + M.length
    · have hkN : k < (L ++ M).length := by rw [HlN.out]; exact hkt
      obtain ⟨hr0, hrc⟩ := HWH.out k hkN
      have htk : tot ((L ++ M).take k) ≤ R := by have := tot_take_le (L ++ M) k; have := hRt.out; omega
      have hnx := tot_take_succ (L ++ M) k hkN
      have hsh : ((L ++ M).getD k []).length ≤ 65536 := HsN.out _ (getD_mem hkN)
      have hN := next_at _ _ (rcs (L ++ M)) ((tot ((L ++ M).take k) : Nat) : Int) wr (hm6.out.later hbr).bs (fun k hk => hk.2) (hv_later hH belr) (by have := hR.out; omega)
      unfold NextA at hN
      rw [lkE_in (by rw [hR.out]; exact htk), Int.toNat_natCast, hr0, hrc] at hN
      by_cases hkL : k < L.length
      · obtain ⟨b2, off2, s, rfl, _, hsc, hb'⟩ := (HV.out.later (fun k hk => hk) belr).at_ k hkL
        have hgd : L.getD k [] = (L ++ M).getD k [] := by rw [List.getD_eq_getElem?_getD, List.getD_eq_getElem?_getD, List.getElem?_append_left hkL]
        rw [hgd] at hb'
        clear hgd hr0 hrc
        generalize (L ++ M).getD k [] = c at *
        generalize tot ((L ++ M).take k) = tk at *
        obtain ⟨_, a', cap', rfl, _⟩ := (show Bs wr (Old w) s c from hb')
        have cvw := bs_str hb'
        have HN := Lib.hid hN
        have HNX := Lib.hid hnx
        clear hN hnx hb'
        go_wp2_with fail
        refine HN.out.mono ?_
        rintro e w7 hNE
        obtain ⟨a7, cap7, rfl, hm7, hb7⟩ := nextE_zero hNE
        have hal : Below w7.heap.size w7 (w7.alloc (.cells #[.int .i64 (tk : Nat), .slice a7 c.length cap7] 32)) := (Below.refl _ _).alloc (Nat.le_refl _) _
        have hb8 := hbr.trans ((hb7.trans (hal.mono hb7.size)).mono hbr.size)
        have B7 : Blk (w7.alloc (.cells #[.int .i64 (tk : Nat), .slice a7 c.length cap7] 32)) w7.heap.size [.int .i64 (tk : Nat), .slice a7 c.length cap7] 32 := heap_alloc_new w7 _
        have c0 := B7.cell 0 _ rfl
        have c1 := B7.cell 1 _ rfl
        have cvc := bs_str (hm7.later hal).bs
        have hdl : decide ((tk : Int) + (8 + (c.length : Int)) ≤ (tk : Int)) = false := by simp; omega
        clear hNE hm7 B7 cvw
        go_wp2
        go_roundw
        case rel => exact ⟨k + 1, by omega, by go_num, by rw [HNX.out]; go_num, hb8⟩
        case measure => simp [intOf]; omega
      · obtain ⟨j, rfl⟩ : ∃ j, k = L.length + j := ⟨k - L.length, by omega⟩
        have hjM : j < M.length := by omega
        obtain ⟨b2, off2, s, rfl, _, hsc, hb'⟩ := (HV'.out.later (fun k hk => hk) belr).at_ j hjM
        have hsub : (L.length : Int) + (j : Int) - (L.length : Int) = (j : Int) := by omega
        have hdk : decide (L.length + j < L.length) = false := by simp
        have hgd : M.getD j [] = (L ++ M).getD (L.length + j) [] := by rw [List.getD_eq_getElem?_getD, List.getD_eq_getElem?_getD, List.getElem?_append_right (by omega), Nat.add_sub_cancel_left]
        rw [hgd] at hb'
        clear hgd hr0 hrc
        generalize (L ++ M).getD (L.length + j) [] = c at *
        generalize tot ((L ++ M).take (L.length + j)) = tk at *
        obtain ⟨_, a', cap', rfl, _⟩ := (show Bs wr (Old w) s c from hb')
        have cvw := bs_str hb'
        have HN := Lib.hid hN
        have HNX := Lib.hid hnx
        clear hN hnx hb'
        go_wp2_with fail
        refine HN.out.mono ?_
        rintro e w7 hNE
        obtain ⟨a7, cap7, rfl, hm7, hb7⟩ := nextE_zero hNE
        have hal : Below w7.heap.size w7 (w7.alloc (.cells #[.int .i64 (tk : Nat), .slice a7 c.length cap7] 32)) := (Below.refl _ _).alloc (Nat.le_refl _) _
        have hb8 := hbr.trans ((hb7.trans (hal.mono hb7.size)).mono hbr.size)
        have B7 : Blk (w7.alloc (.cells #[.int .i64 (tk : Nat), .slice a7 c.length cap7] 32)) w7.heap.size [.int .i64 (tk : Nat), .slice a7 c.length cap7] 32 := heap_alloc_new w7 _
        have c0 := B7.cell 0 _ rfl
        have c1 := B7.cell 1 _ rfl
        have cvc := bs_str (hm7.later hal).bs
        have hdl : decide ((tk : Int) + (8 + (c.length : Int)) ≤ (tk : Int)) = false := by simp; omega
        clear hNE hm7 B7 cvw
        go_wp2
        go_roundw
        case rel => exact ⟨L.length + j + 1, by omega, by go_num, by rw [HNX.out]; go_num, hb8⟩
        case measure => simp [intOf]; omega
    · obtain rfl : k = L.length + M.length := by omega
      have hpR : tot ((L ++ M).take (L.length + M.length)) = R := by rw [← HlN.out, List.take_length]; exact hRt.out.symm
      rw [hpR]
      have hRR : ((R : Int) == (R : Int)) = true := by simp
      go_wp2_with (go_at_call 11; refine (works_any _ (hv_later hH belr)).mono ?_; rintro e w8 ⟨rfl, hb8⟩)
      go_ret
      exact ⟨rfl, belr.trans (hb8.mono belr.size)⟩
theorem w_frameJoins (a : Option Addr) (len cap : Nat) (L : List (List Nat)) (b : Option Addr) (len' cap' : Nat) (M : List (List Nat)) (w : World) (w0 : L.length = len ∧ Bss w (Old w) (.slice a len cap) L ∧ len ≤ 9223372036854775807) (w1 : M.length = len' ∧ Bss w (Old w) (.slice b len' cap') M ∧ len' ≤ 9223372036854775807) (hH : Hv w) :
    Calls Tryd.prog 8 #[.slice a len cap, .slice b len' cap'] w fun e w' => e = .returned (.bool true) ∧ Below w.heap.size w w' := by
  obtain ⟨rfl, hv, hL⟩ := w0
  obtain ⟨rfl, hv', hM⟩ := w1
  by_cases h : ¬ Few L ∨ ¬ Few M
  · exact joins_no a b cap cap' L M w hv hv' hL hM hH h
  · obtain ⟨h1, h2⟩ := not_or.1 h
    exact joins_go a b cap cap' L M w hv hv' hH (Classical.not_not.1 h1) (Classical.not_not.1 h2)
end Go.Proofs.YtfodgdcdpdlikaaDoor.Frame
