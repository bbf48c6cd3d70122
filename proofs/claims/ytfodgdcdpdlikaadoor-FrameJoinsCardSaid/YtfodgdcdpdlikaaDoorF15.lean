/- The walk of FrameTorn. -/
import Derived.Test.YtfodgdcdpdlikaaDoorF14
namespace Go.Proofs.YtfodgdcdpdlikaaDoor.Frame
open Go.RowKit Go.ChangeShapes
open Crc (Hv more more_lt ret_u32)
set_option linter.unusedVariables false
set_option linter.unusedSimpArgs false

theorem flat_at : ∀ (zs : List Zz) (i : Nat) (h : i < zs.length), (flat zs)[i * 2]? = some (.int .i64 ((zs[i]).1 : Nat)) ∧ (flat zs)[i * 2 + 1]? = some (zs[i]).2.2
  | z :: zs, 0, _ => ⟨rfl, rfl⟩
  | z :: zs, i + 1, h => by
    have h' : i < zs.length := by simpa using h
    obtain ⟨h1, h2⟩ := flat_at zs i h'
    have e : flat (z :: zs) = .int .i64 (z.1 : Nat) :: z.2.2 :: flat zs := rfl
    rw [e, show (i + 1) * 2 = i * 2 + 1 + 1 by omega]
    exact ⟨by simpa using h1, by simpa using h2⟩
/-- A record of the slice that was found. -/
theorem Frs.at_ {T : TypeId} {w : World} {base n cap : Nat} {a : Option Addr} {L : List (List Nat)} (h : Frs T w base (.slice a n cap) L) (i : Nat) (hi : i < L.length) :
    ∃ g a' cap', a = some ⟨g, 0, none⟩ ∧ base ≤ g ∧ w.cell? ⟨g, i * 2, none⟩ = some (.int .i64 (tot (L.take i) : Nat)) ∧ w.cell? ⟨g, i * 2 + 1, none⟩ = some (.slice a' (L.getD i []).length cap') ∧ Mine w base (.slice a' (L.getD i []).length cap') (L.getD i []) := by
  obtain ⟨zs, how, hz1, hz2, hm⟩ := h.ex
  have hzl : zs.length = L.length := by rw [← hz1, List.length_map]
  have hiz : i < zs.length := by omega
  have hmz := hm _ (List.getElem_mem hiz)
  have hc : (zs[i]).2.1 = L.getD i [] := by
    rw [List.getD_eq_getElem?_getD, ← hz1, List.getElem?_map, List.getElem?_eq_getElem hiz]; rfl
  rw [hc] at hmz
  obtain ⟨a', cap', hv⟩ := hmz.form
  obtain ⟨f1, f2⟩ := flat_at zs i hiz
  rw [hz2 i hiz] at f1
  rw [hv] at f2 hmz
  rcases how.2 with ⟨_, h0⟩ | ⟨g, cap2, cur, e, hbg, hg, _, _, hsz, htake⟩
  · omega
  · injection e with e1 e2 e3
    refine ⟨g, a', cap', e1, hbg, ?_, ?_, hmz⟩
    · rw [← htake, List.getElem?_take_of_lt (by omega)] at f1
      exact blk_cell hg _ _ (by simpa using f1)
    · rw [← htake, List.getElem?_take_of_lt (by omega)] at f2
      exact blk_cell hg _ _ (by simpa using f2)
theorem Frs.later {T : TypeId} {w w' : World} {base : Nat} {v : Value} {L : List (List Nat)} (h : Frs T w base v L) (hb : Below w.heap.size w w') : Frs T w' base v L := by
  obtain ⟨zs, h1, h2, h3, h4⟩ := h.ex
  exact ⟨zs, rows_later h1 hb, h2, h3, fun z hz => (h4 z hz).later hb⟩

/-- What FrameTorn holds while it walks. -/
theorem torn_no (a : Option Addr) (cap : Nat) (L : List (List Nat)) (c : Int) (w : World) (hv : Bss w (Old w) (.slice a L.length cap) L) (hL : L.length ≤ 9223372036854775807) (hH : Hv w) (hf : ¬ Few L) :
    Calls Tryd.prog 5 #[.slice a L.length cap, .int .u16 c] w fun e w' => e = .returned (.bool true) ∧ Below w.heap.size w w' := by
  have hfew : fewB L = false := by unfold fewB; simpa using hf
  have H1 := Lib.hid (few_any _ _ L w hv hL)
  rw [hfew] at H1
  clear hfew
  go_enter Tryd.func5, Tryd.ntmps5
  go_wp2_with (first
    | (go_at_call 27; refine H1.out.mono ?_; rintro e w' ⟨rfl, rfl⟩)
    | (go_at_call 11; refine (works_any _ hH).mono ?_; rintro e w1 ⟨rfl, hb⟩))
  go_ret
  exact ⟨rfl, hb⟩
set_option maxRecDepth 100000 in
set_option maxHeartbeats 4000000 in
theorem torn_go (a : Option Addr) (cap : Nat) (L : List (List Nat)) (c : Int) (w : World) (hv : Bss w (Old w) (.slice a L.length cap) L) (hH : Hv w) (hf : Few L) (hc0 : 0 ≤ c) (hc1 : c ≤ 65535) :
    Calls Tryd.prog 5 #[.slice a L.length cap, .int .u16 c] w fun e w' => e = .returned (.bool true) ∧ Below w.heap.size w w' := by
  obtain ⟨hs, hl4, htot⟩ := few_short hf
  have hfew : fewB L = true := by unfold fewB; simpa using hf
  have H1 := Lib.hid (few_any _ _ L w hv (by omega))
  rw [hfew] at H1
  have HJ := Lib.hid (join_ok _ _ L w hv (fun k hk => hk) hH hl4 hs)
  have hbyt := hv.byt
  have hrl : (rcs L).length = tot L := rcs_len L
  obtain ⟨T, hT⟩ : ∃ T, tot L = T := ⟨_, rfl⟩
  rw [hT] at hrl htot
  have hw0 : IntKind.i64.wrap c = c := IntWalk.i64_in _ (by omega)
  have hw1 : IntKind.i64.wrap ((T : Int) + 1) = (T : Int) + 1 := IntWalk.i64_in _ (by omega)
  obtain ⟨n, hn⟩ : ∃ n : Nat, c % ((T : Int) + 1) = n := ⟨(c % ((T : Int) + 1)).toNat, by have := Int.emod_nonneg c (show (T : Int) + 1 ≠ 0 by omega); omega⟩
  have hnT : n ≤ T := by have := Int.emod_lt_of_pos c (show (0 : Int) < (T : Int) + 1 by omega); omega
  have htm : c.tmod ((T : Int) + 1) = (n : Int) := by rw [Int.tmod_eq_emod_of_nonneg hc0]; exact hn
  replace hfew := Lib.hid hfew
  replace hT := Lib.hid hT
  have Hs := Lib.hid hs
  have Hby := Lib.hid hbyt
  have HV := Lib.hid hv
  have Hrl := Lib.hid hrl
  clear hs hbyt hn hv hrl
  go_enter Tryd.func5, Tryd.ntmps5
  go_wp2_with (first
    | (go_at_call 27; refine H1.out.mono ?_; rintro e w' ⟨rfl, rfl⟩)
    | (go_at_call 14; refine HJ.out.mono ?_; rintro e w1 ⟨v1, rfl, hm1, hb1⟩; obtain ⟨a1, cap1, rfl⟩ := hm1.form; rw [Hrl.out]; rw [Hrl.out] at hm1; replace hm1 := Lib.hid hm1))
  have HV1 := Lib.hid (HV.out.later (fun k hk => hk) hb1)
  have hH1 := hv_later hH hb1
  have hcap1 : T ≤ cap1 := by obtain ⟨_, _, _, e, h, _⟩ := hm1.out.bs; injection e with _ e1 e2; rw [e2]; omega
  have tu := fun w => upto_run a1 T cap1 n (by omega) w
  go_loop [8, 9] (fun i t => ∃ k : Nat, k ≤ L.length ∧ i = .int .i64 k ∧ t = .int .i64 (tot (L.take k) : Nat) ∧ tot (L.take k) ≤ n) (fun i _ => L.length - (intOf i).toNat)
  case atStart => exact ⟨0, Nat.zero_le _, rfl, rfl, Nat.zero_le _⟩
  case round =>
    obtain ⟨k, hk, rfl, rfl, hfit⟩ := hrel
    by_cases hlt : k < L.length
    · obtain ⟨_, _, e1, _, hcc⟩ := HV1.out
      injection e1 with e1 _ e3
      subst e1 e3
      obtain ⟨b, off, rfl, hFb, hcell⟩ := hcc (by omega)
      obtain ⟨s, hs, hb⟩ := hcell k hlt
      have hn := tot_take_succ L k hlt
      have hm : (L.getD k []).length ≤ 65536 := Hs.out _ (getD_mem hlt)
      have hmax := fun (h : n < tot (L.take (k + 1))) => (⟨by omega, hfit, .inr h⟩ : Torn L n k)
      generalize L.getD k [] = d at *
      obtain ⟨_, a', cap', rfl, _⟩ := (show Bs w1 (Old w) s d from hb)
      generalize htk : tot (L.take k) = t at *
      generalize htk1 : tot (L.take (k + 1)) = t1 at *
      replace htk := Lib.hid htk
      replace htk1 := Lib.hid htk1
      have HN := Lib.hid hn
      by_cases hgo : t1 ≤ n
      · have hg2 : decide ((t : Int) + (8 + (d.length : Int)) ≤ (n : Int)) = true := by simp; omega
        clear hcell hcc hn
        go_wp2_with (go_at_call 16; refine (size_is _ _ d _ hb (by omega)).mono ?_; rintro e w' ⟨rfl, rfl⟩)
        go_round
        case rel =>
          exact ⟨k + 1, by omega, by go_num, by rw [htk1.out, HN.out]; go_num, by rw [htk1.out]; exact hgo⟩
        case measure => simp [intOf]; omega
      · have hg2 : decide ((t : Int) + (8 + (d.length : Int)) ≤ (n : Int)) = false := by simp; omega
        have hT1 := Lib.hid (hmax (by omega))
        replace hgo := Lib.hid hgo
        have hTk := htk
        clear hcell hcc hn hmax HN htk1 htk
        go_wp2_with (go_at_call 16; refine (size_is _ _ d _ hb (by omega)).mono ?_; rintro e w' ⟨rfl, rfl⟩)
        have hnL : n ≤ tot L := by have := hT.out; omega
        have hbt := (torn_chain Hby.out Hs.out hnL hT1.out).1
        have hce := torn_check Hby.out Hs.out hnL hT1.out
        have hlk : (L.take k).length = k := by rw [List.length_take]; have := hT1.out.le; omega
        have hbn := (hm1.out.bs.upto n (by have := Hrl.out; omega))
        have hA := all_is _ (.slice a1 n cap1) ((rcs L).take n) (L.take k) hbt w1 hbn (fun k hk => hk.2) hH1 (by rw [List.length_take]; have := Hrl.out; omega)
        rw [hlk] at hA
        have hcn : cutN (rcs L) (n : Nat) = k := by
          unfold cutN
          rw [if_neg (by have := Hrl.out; omega), Int.toNat_natCast, hbt, hlk]
        have hcz : cutE (rcs L) (n : Nat) = 0 := by
          unfold cutE
          rw [if_neg (by have := Hrl.out; omega)]
        have hCU := fun w2 (h : Below w1.heap.size w1 w2) => cut_any _ (.slice a1 T cap1) (rcs L) (n : Nat) w2 (hm1.out.later h).bs (fun k hk => hk.2) (hv_later hH1 h) (by have := Hrl.out; omega)
        rw [hcn, hcz] at hCU
        have hCK := fun w2 (h : Below w1.heap.size w1 w2) => check_is _ (.slice a1 n cap1) ((rcs L).take n) w2 ((hm1.out.later h).bs.upto n (by have := Hrl.out; omega)) (fun k hk => hk.2) (hv_later hH1 h) (by rw [List.length_take]; have := Hrl.out; omega)
        have hCA := fun w2 (h : Below w1.heap.size w1 w2) => check_is _ (.slice a1 T cap1) (rcs L) w2 (hm1.out.later h).bs (fun k hk => hk.2) (hv_later hH1 h) (by have := Hrl.out; omega)
        rw [check_all Hby.out Hs.out] at hCA
        rw [hTk.out] at hce hA
        generalize hCg : checkE ((rcs L).take n) = C at *
        have HA := Lib.hid hA
        have HCU := Lib.hid hCU
        have HCK := Lib.hid hCK
        have HCA := Lib.hid hCA
        have HCE := Lib.hid hce
        have Hlk := Lib.hid hlk
        clear hA hCU hCK hCA hce hbt hcn hcz hlk hbn hCg
        have hCt : (((C : Int) == 0) = true ∧ ((t : Int) == (n : Int)) = true) ∨ (((C : Int) == 0) = false ∧ ((t : Int) == (n : Int)) = false) := by
          by_cases h : t = n
          · left; have := HCE.out.2 h; constructor <;> simp <;> omega
          · right; have h2 : C ≠ 0 := fun h2 => h (HCE.out.1 h2); constructor <;> simp <;> omega
        refine HA.out.mono ?_
        rintro e w2 ⟨a2, cap2, rfl, hfr, hb2⟩
        have hb12 : Below w1.heap.size w1 w2 := hb2
        replace hfr := Lib.hid hfr
        go_wp2_with fail
        refine (HCU.out _ hb12).mono ?_
        rintro e w3 ⟨rfl, hb3⟩
        have hb13 := hb12.trans (hb3.mono hb12.size)
        rcases hCt with ⟨ht1, ht2⟩ | ⟨ht1, ht2⟩
        all_goals
          go_wp2_with fail
          refine (HCK.out _ hb13).mono ?_
          rintro e w4 ⟨rfl, hb4⟩
          have hb14 := hb13.trans (hb4.mono hb13.size)
          go_wp2_with fail
          refine (HCA.out _ hb14).mono ?_
          rintro e w5 ⟨rfl, hb5⟩
          have hb15 := hb14.trans (hb5.mono hb14.size)
          have hb25 := (hb3.trans (hb4.mono hb3.size)).trans (hb5.mono (hb3.trans (hb4.mono hb3.size)).size)
          have hfr5 := Lib.hid (hfr.out.later hb25)
          have HV5 := Lib.hid (HV1.out.later (fun k hk => Nat.lt_of_lt_of_le hk hb1.size) hb15)
          have hH5 := hv_later hH1 hb15
          have bel5 := hb1.trans (hb15.mono hb1.size)
          clear HA HCU HCK HCA hb2 hb3 hb4 hb5 hb12 hb13 hb14 hb25
          go_wp2_with fail
          go_loopw [11, 14] (fun u i wr => ∃ j : Nat, j ≤ k ∧ i = .int .i64 j ∧ u = .int .i64 (tot (L.take j) : Nat) ∧ Below w5.heap.size w5 wr) (fun _ i _ => k - (intOf i).toNat)
          case atStart => exact ⟨0, Nat.zero_le _, rfl, rfl, Below.refl _ _⟩
          case round =>
            obtain ⟨j, hj, rfl, rfl, hbj⟩ := hrel
            have hkL := hT1.out.le
            by_cases hltj : j < k
            · obtain ⟨g, a6, cap6, rfl, _, e0, e1, hm6⟩ := (hfr5.out.later hbj).at_ j (by rw [Hlk.out]; exact hltj)
              rw [List.take_take, Nat.min_eq_left hj] at e0
              have hgd : (L.take k).getD j [] = L.getD j [] := by rw [List.getD_eq_getElem?_getD, List.getElem?_take_of_lt hltj, ← List.getD_eq_getElem?_getD]
              rw [hgd] at e1 hm6
              obtain ⟨b2, off2, s, eb, _, hs', hb'⟩ := (HV5.out.later (fun k hk => Nat.lt_of_lt_of_le hk bel5.size) hbj).at_ j (by omega)
              cases eb
              have hnx := tot_take_succ L j (by omega)
              have hm' : (L.getD j []).length ≤ 65536 := Hs.out _ (getD_mem (by omega))
              have htj : tot (L.take j) ≤ 4160 := by have := tot_take_le L j; have := hT.out; omega
              generalize L.getD j [] = d' at *
              obtain ⟨_, a7, cap7, rfl, _⟩ := (show Bs wr (Old w) s d' from hb')
              generalize tot (L.take j) = tj at *
              have HNX := Lib.hid hnx
              have cv1 : ∀ q, (convert 22 9 (.slice a6 d'.length cap6)).run Tryd.prog (wr.drewN q) = .ok (.string (str d')) (wr.drewN q) := fun q => bs_str (show Bs (wr.drewN q) _ _ _ from hm6.bs)
              have cv2 : ∀ q, (convert 22 9 (.slice a7 d'.length cap7)).run Tryd.prog (wr.drewN q) = .ok (.string (str d')) (wr.drewN q) := fun q => bs_str (show Bs (wr.drewN q) _ _ _ from hb')
              have hbq : ∀ q, Bs (wr.drewN q) (Old w) (.slice a7 d'.length cap7) d' := fun q => hb'
              clear hnx hgd
              go_wp2
              go_quiet (fail)
              go_wp2_with (go_at_call 16; refine (size_is _ _ d' _ (hbq _) (by omega)).mono ?_; rintro e w' ⟨rfl, rfl⟩)
              go_roundw
              case rel => exact ⟨j + 1, by omega, by go_num, by rw [HNX.out]; go_num, drewN_b hbj _⟩
              case measure => simp [intOf]; omega
            · obtain rfl : j = k := by omega
              have hHr := hv_later hH5 hbj
              have belr := bel5.trans (hbj.mono bel5.size)
              go_wp2_with (go_at_call 11; refine (works_any _ hHr).mono ?_; rintro e w6 ⟨rfl, hb6⟩)
              go_ret
              exact ⟨rfl, belr.trans (hb6.mono belr.size)⟩
    · obtain rfl : k = L.length := by omega
      have hT1 := Lib.hid (⟨Nat.le_refl _, hfit, .inl rfl⟩ : Torn L n L.length)
      have hdk : decide (L.length < L.length) = false := by simp
      generalize htk : tot (L.take L.length) = t at *
      have hTk := Lib.hid htk
      clear htk
      go_wp2_with fail
      have hnL : n ≤ tot L := by have := hT.out; omega
      have hbt := (torn_chain Hby.out Hs.out hnL hT1.out).1
      have hce := torn_check Hby.out Hs.out hnL hT1.out
      have hlk : (L.take L.length).length = L.length := by rw [List.length_take]; have := hT1.out.le; omega
      have hbn := (hm1.out.bs.upto n (by have := Hrl.out; omega))
      have hA := all_is _ (.slice a1 n cap1) ((rcs L).take n) (L.take L.length) hbt w1 hbn (fun k hk => hk.2) hH1 (by rw [List.length_take]; have := Hrl.out; omega)
      rw [hlk] at hA
      have hcn : cutN (rcs L) (n : Nat) = L.length := by
        unfold cutN
        rw [if_neg (by have := Hrl.out; omega), Int.toNat_natCast, hbt, hlk]
      have hcz : cutE (rcs L) (n : Nat) = 0 := by
        unfold cutE
        rw [if_neg (by have := Hrl.out; omega)]
      have hCU := fun w2 (h : Below w1.heap.size w1 w2) => cut_any _ (.slice a1 T cap1) (rcs L) (n : Nat) w2 (hm1.out.later h).bs (fun k hk => hk.2) (hv_later hH1 h) (by have := Hrl.out; omega)
      rw [hcn, hcz] at hCU
      have hCK := fun w2 (h : Below w1.heap.size w1 w2) => check_is _ (.slice a1 n cap1) ((rcs L).take n) w2 ((hm1.out.later h).bs.upto n (by have := Hrl.out; omega)) (fun k hk => hk.2) (hv_later hH1 h) (by rw [List.length_take]; have := Hrl.out; omega)
      have hCA := fun w2 (h : Below w1.heap.size w1 w2) => check_is _ (.slice a1 T cap1) (rcs L) w2 (hm1.out.later h).bs (fun k hk => hk.2) (hv_later hH1 h) (by have := Hrl.out; omega)
      rw [check_all Hby.out Hs.out] at hCA
      rw [hTk.out] at hce hA
      generalize hCg : checkE ((rcs L).take n) = C at *
      have HA := Lib.hid hA
      have HCU := Lib.hid hCU
      have HCK := Lib.hid hCK
      have HCA := Lib.hid hCA
      have HCE := Lib.hid hce
      have Hlk := Lib.hid hlk
      clear hA hCU hCK hCA hce hbt hcn hcz hlk hbn hCg
      have hCt : (((C : Int) == 0) = true ∧ ((t : Int) == (n : Int)) = true) ∨ (((C : Int) == 0) = false ∧ ((t : Int) == (n : Int)) = false) := by
        by_cases h : t = n
        · left; have := HCE.out.2 h; constructor <;> simp <;> omega
        · right; have h2 : C ≠ 0 := fun h2 => h (HCE.out.1 h2); constructor <;> simp <;> omega
      refine HA.out.mono ?_
      rintro e w2 ⟨a2, cap2, rfl, hfr, hb2⟩
      have hb12 : Below w1.heap.size w1 w2 := hb2
      replace hfr := Lib.hid hfr
      go_wp2_with fail
      refine (HCU.out _ hb12).mono ?_
      rintro e w3 ⟨rfl, hb3⟩
      have hb13 := hb12.trans (hb3.mono hb12.size)
      rcases hCt with ⟨ht1, ht2⟩ | ⟨ht1, ht2⟩
      all_goals
        go_wp2_with fail
        refine (HCK.out _ hb13).mono ?_
        rintro e w4 ⟨rfl, hb4⟩
        have hb14 := hb13.trans (hb4.mono hb13.size)
        go_wp2_with fail
        refine (HCA.out _ hb14).mono ?_
        rintro e w5 ⟨rfl, hb5⟩
        have hb15 := hb14.trans (hb5.mono hb14.size)
        have hb25 := (hb3.trans (hb4.mono hb3.size)).trans (hb5.mono (hb3.trans (hb4.mono hb3.size)).size)
        have hfr5 := Lib.hid (hfr.out.later hb25)
        have HV5 := Lib.hid (HV1.out.later (fun k hk => Nat.lt_of_lt_of_le hk hb1.size) hb15)
        have hH5 := hv_later hH1 hb15
        have bel5 := hb1.trans (hb15.mono hb1.size)
        clear HA HCU HCK HCA hb2 hb3 hb4 hb5 hb12 hb13 hb14 hb25
        go_wp2_with fail
        go_loopw [11, 14] (fun u i wr => ∃ j : Nat, j ≤ L.length ∧ i = .int .i64 j ∧ u = .int .i64 (tot (L.take j) : Nat) ∧ Below w5.heap.size w5 wr) (fun _ i _ => L.length - (intOf i).toNat)
        case atStart => exact ⟨0, Nat.zero_le _, rfl, rfl, Below.refl _ _⟩
        case round =>
          obtain ⟨j, hj, rfl, rfl, hbj⟩ := hrel
          have hkL := hT1.out.le
          by_cases hltj : j < L.length
          · obtain ⟨g, a6, cap6, rfl, _, e0, e1, hm6⟩ := (hfr5.out.later hbj).at_ j (by rw [Hlk.out]; exact hltj)
            rw [List.take_take, Nat.min_eq_left hj] at e0
            have hgd : (L.take L.length).getD j [] = L.getD j [] := by rw [List.getD_eq_getElem?_getD, List.getElem?_take_of_lt hltj, ← List.getD_eq_getElem?_getD]
            rw [hgd] at e1 hm6
            obtain ⟨b2, off2, s, eb, _, hs', hb'⟩ := (HV5.out.later (fun k hk => Nat.lt_of_lt_of_le hk bel5.size) hbj).at_ j (by omega)
            cases eb
            have hnx := tot_take_succ L j (by omega)
            have hm' : (L.getD j []).length ≤ 65536 := Hs.out _ (getD_mem (by omega))
            have htj : tot (L.take j) ≤ 4160 := by have := tot_take_le L j; have := hT.out; omega
            generalize L.getD j [] = d' at *
            obtain ⟨_, a7, cap7, rfl, _⟩ := (show Bs wr (Old w) s d' from hb')
            generalize tot (L.take j) = tj at *
            have HNX := Lib.hid hnx
            have cv1 : ∀ q, (convert 22 9 (.slice a6 d'.length cap6)).run Tryd.prog (wr.drewN q) = .ok (.string (str d')) (wr.drewN q) := fun q => bs_str (show Bs (wr.drewN q) _ _ _ from hm6.bs)
            have cv2 : ∀ q, (convert 22 9 (.slice a7 d'.length cap7)).run Tryd.prog (wr.drewN q) = .ok (.string (str d')) (wr.drewN q) := fun q => bs_str (show Bs (wr.drewN q) _ _ _ from hb')
            have hbq : ∀ q, Bs (wr.drewN q) (Old w) (.slice a7 d'.length cap7) d' := fun q => hb'
            clear hnx hgd
            go_wp2
            go_quiet (fail)
            go_wp2_with (go_at_call 16; refine (size_is _ _ d' _ (hbq _) (by omega)).mono ?_; rintro e w' ⟨rfl, rfl⟩)
            go_roundw
            case rel => exact ⟨j + 1, by omega, by go_num, by rw [HNX.out]; go_num, drewN_b hbj _⟩
            case measure => simp [intOf]; omega
          · obtain rfl : j = L.length := by omega
            have hHr := hv_later hH5 hbj
            have belr := bel5.trans (hbj.mono bel5.size)
            go_wp2_with (go_at_call 11; refine (works_any _ hHr).mono ?_; rintro e w6 ⟨rfl, hb6⟩)
            go_ret
            exact ⟨rfl, belr.trans (hb6.mono belr.size)⟩
theorem w_frameTorn (a : Option Addr) (len cap : Nat) (L : List (List Nat)) (c : Int) (w : World) (w0 : L.length = len ∧ Bss w (Old w) (.slice a len cap) L ∧ len ≤ 9223372036854775807) (w1 : (Lit.int .u16 c).wf = true) (hH : Hv w) :
    Calls Tryd.prog 5 #[.slice a len cap, .int .u16 c] w fun e w' => e = .returned (.bool true) ∧ Below w.heap.size w w' := by
  obtain ⟨rfl, hv, hL⟩ := w0
  have hb := bounds_u16 w1
  by_cases h : Few L
  · exact torn_go a cap L c w hv hH h hb.1 (by omega)
  · exact torn_no a cap L c w hv hL hH h
end Go.Proofs.YtfodgdcdpdlikaaDoor.Frame
