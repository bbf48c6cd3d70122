/- The walk of FrameAny. -/
import Derived.Test.YtfodgdcdpdlikaaDoorF15
import Derived.Test.YtfodgdcdpdlikaaDoorF20
namespace Go.Proofs.YtfodgdcdpdlikaaDoor.Frame
open Go.RowKit Go.ChangeShapes
open Crc (Hv more more_lt ret_u32)
set_option linter.unusedVariables false
set_option linter.unusedSimpArgs false

theorem makeL_short {c : List Nat} (h : c.length ≤ 65536) : makeL c = rc c ∧ makeE c = 0 := by
  unfold makeL makeE
  rw [if_neg (by omega), if_neg (by omega)]
  exact ⟨rfl, rfl⟩
theorem mid_app (A R B : List Nat) : ((A ++ (R ++ B)).take (A.length + R.length)).drop A.length = R := by
  rw [← List.append_assoc, List.take_append_of_le_length (by rw [List.length_append]; exact Nat.le_refl _), List.take_of_length_le (by rw [List.length_append]; exact Nat.le_refl _), List.drop_append_of_le_length (Nat.le_refl _), List.drop_length, List.nil_append]
/-- A record among those that were found. -/
theorem found_at {b : List Nat} {C : List (List Nat)} (h : Found b C) (j : Nat) (hj : j < C.length) :
    (b.take (tot (C.take j) + (rc (C.getD j [])).length)).drop (tot (C.take j)) = rc (C.getD j []) ∧ tot (C.take j) + (rc (C.getD j [])).length ≤ b.length ∧ (C.getD j []).length ≤ 65536 := by
  obtain ⟨e, _, hs, hle⟩ := h
  have e1 : C = C.take j ++ C.drop j := (List.take_append_drop j C).symm
  have e2 : C.drop j = C.getD j [] :: C.drop (j + 1) := by
    rw [List.getD_eq_getElem?_getD, List.getElem?_eq_getElem hj]; exact List.drop_eq_getElem_cons hj
  have e3 : rcs C = rcs (C.take j) ++ (rc (C.getD j []) ++ rcs (C.drop (j + 1))) := by
    conv => lhs; rw [e1, rcs_app, e2]
    rfl
  have hl : (rcs (C.take j)).length = tot (C.take j) := rcs_len _
  have hb : b = rcs (C.take j) ++ (rc (C.getD j []) ++ (rcs (C.drop (j + 1)) ++ b.drop (tot C))) := by
    conv => lhs; rw [e, e3]
    rw [List.append_assoc, List.append_assoc]
  refine ⟨?_, ?_, (hs _ (getD_mem hj)).2⟩
  · have := mid_app (rcs (C.take j)) (rc (C.getD j [])) (rcs (C.drop (j + 1)) ++ b.drop (tot C))
    rw [← hb, hl] at this
    exact this
  · have h1 := tot_take_le C (j + 1)
    have h2 := tot_take_succ C j hj
    rw [rc_len]
    omega

theorem len_tot (L : List (List Nat)) : L.length ≤ tot L := by
  induction L with
  | nil => exact Nat.zero_le _
  | cons c L ih => show L.length + 1 ≤ 8 + c.length + tot L; omega

theorem any_long (a : Option Addr) (len cap : Nat) (w : World) (hH : Hv w) (h : 2000 < len) :
    Calls Tryd.prog 9 #[.slice a len cap] w fun e w' => e = .returned (.bool true) ∧ Below w.heap.size w w' := by
  have hd : decide ((2000 : Int) < (len : Int)) = true := by simp; omega
  go_enter Tryd.func9, Tryd.ntmps9
  go_wp2_with (go_at_call 11; refine (works_any _ hH).mono ?_; rintro e w1 ⟨rfl, hb⟩)
  go_ret
  exact ⟨rfl, hb⟩
set_option maxRecDepth 100000 in
set_option maxHeartbeats 4000000 in
theorem any_go (a : Option Addr) (cap : Nat) (b : List Nat) (w : World) (hv : Bs w (Old w) (.slice a b.length cap) b) (hH : Hv w) (h : b.length ≤ 2000) :
    Calls Tryd.prog 9 #[.slice a b.length cap] w fun e w' => e = .returned (.bool true) ∧ Below w.heap.size w w' := by
  have hd : decide ((2000 : Int) < (b.length : Int)) = false := by simp; omega
  have hcap : b.length ≤ cap := by obtain ⟨_, _, _, e, h, _⟩ := hv; injection e with _ _ e; omega
  have hfo := chain_eq b hv.1
  obtain ⟨C, hC⟩ : ∃ C, chain b = C := ⟨_, rfl⟩
  rw [hC] at hfo
  have HA := Lib.hid (all_is _ _ b C hC w hv (fun k hk => hk) hH (by omega))
  have Hfo := Lib.hid hfo
  have hTl : tot C ≤ b.length := hfo.2.2.2
  have hlkE : lkE b (tot C : Nat) = restE (b.drop (tot C)) := lkE_in hTl
  have hE0 : restE (b.drop (tot C)) ≠ 0 := hfo.2.1
  have hE5 : restE (b.drop (tot C)) = 5 ↔ tot C = b.length := by rw [restE_nil, List.length_drop]; omega
  have HNx := Lib.hid (fun (w2 : World) (h2 : Below w.heap.size w w2) => next_at _ (.slice a b.length cap) b (tot C : Nat) w2 (hv.kept (Same.of_below h2 (fun k hk => hk))) (fun k hk => Nat.lt_of_lt_of_le hk h2.size) (hv_later hH h2) (by omega))
  unfold NextA NextE at HNx
  rw [hlkE] at HNx
  generalize restE (b.drop (tot C)) = E at *
  have HV := Lib.hid hv
  have hCn : C.length ≤ 2000 := by have := len_tot C; omega
  obtain ⟨T, hT⟩ : ∃ T, tot C = T := ⟨_, rfl⟩
  rw [hT] at HA HNx hE5 hTl
  replace hT := Lib.hid hT
  clear hC hfo hv hlkE
  go_enter Tryd.func9, Tryd.ntmps9
  go_wp2_with fail
  refine HA.out.mono ?_
  rintro e w1 ⟨a1, cap1, rfl, hfr, hb1⟩
  replace hfr := Lib.hid hfr
  go_wp2
  go_loopw [5, 6] (fun u i wr => ∃ j : Nat, j ≤ C.length ∧ i = .int .i64 j ∧ u = .int .i64 (tot (C.take j) : Nat) ∧ Below w1.heap.size w1 wr) (fun _ i _ => C.length - (intOf i).toNat)
  case atStart => exact ⟨0, Nat.zero_le _, rfl, rfl, Below.refl _ _⟩
  case round =>
    obtain ⟨j, hj, rfl, rfl, hbj⟩ := hrel
    have belr := hb1.trans (hbj.mono hb1.size)
    by_cases hlt : j < C.length
    · obtain ⟨g, a6, cap6, rfl, _, e0, e1, hm6⟩ := (hfr.out.later hbj).at_ j hlt
      obtain ⟨f1, f2, f3⟩ := found_at Hfo.out j hlt
      have hnx := tot_take_succ C j hlt
      have hrl := rc_len (C.getD j [])
      have hmk := make_is _ _ _ _ _ (makeL_short f3).1 (makeL_short f3).2 wr hm6.bs (fun k hk => hk.2) (hv_later hH belr)
      generalize C.getD j [] = d at *
      generalize tot (C.take j) = t at *
      generalize rc d = R at *
      have HMK := Lib.hid hmk
      have HNX := Lib.hid hnx
      have HRL := Lib.hid hrl
      have F1 := Lib.hid f1
      have f2' := f2
      clear hmk hnx hrl f1
      go_wp2_with fail
      refine HMK.out.mono ?_
      rintro e w2 ⟨v2, rfl, hm2, hb2⟩
      obtain ⟨a7, cap7, rfl⟩ := hm2.form
      have bel2 := belr.trans (hb2.mono belr.size)
      have hb12 := hbj.trans (hb2.mono hbj.size)
      have e0 := (hb2.cell (p := ⟨g, j * 2, none⟩) (World.block_lt_of_cell? wr _ e0)).trans e0
      have hv2 := HV.out.kept (Same.of_below bel2 (fun k hk => hk))
      have hR8 : 8 ≤ R.length := by rw [HRL.out]; omega
      have hbm := hv2.mid t (t + R.length) (by omega) f2
      rw [F1.out, Nat.add_sub_cancel_left] at hbm
      obtain ⟨blk, off, rfl⟩ : ∃ blk off, a = some ⟨blk, off, none⟩ := by
        obtain ⟨_, _, _, e, _, hc⟩ := hv2
        injection e with e1 _ _
        obtain ⟨blk, off, ha, _⟩ := hc (by omega)
        exact ⟨blk, off, e1.trans ha⟩
      have hf2 : t + R.length ≤ b.length := f2
      have hcp : b.length ≤ cap := hcap
      have hlt2 : t < cap := by omega
      rw [cutA_some blk off cap t hlt2] at hbm
      have hct : ¬ cap = t := by omega
      have cv1 : ∀ q, (convert 22 9 (.slice (some ⟨blk, off + t, none⟩) R.length (cap - t))).run Tryd.prog (w2.drewN q) = .ok (.string (str R)) (w2.drewN q) := fun q => bs_str (show Bs (w2.drewN q) _ _ _ from hbm)
      have cv2 : ∀ q, (convert 22 9 (.slice a7 R.length cap7)).run Tryd.prog (w2.drewN q) = .ok (.string (str R)) (w2.drewN q) := fun q => bs_str (show Bs (w2.drewN q) _ _ _ from hm2.bs)
      have hs1 : IntKind.i64.wrap ((t : Int) + (R.length : Int)) = (t : Int) + (R.length : Int) := IntWalk.i64_in _ (by omega)
      have hdg : decide ((b.length : Int) < (t : Int) + (R.length : Int)) = false := by simp; omega
      go_wp2
      go_quiet (fail)
      clear hs1
      go_wp2
      go_roundw
      case rel => exact ⟨j + 1, by omega, by go_num, by rw [HNX.out, ← HRL.out]; go_num, drewN_b hb12 _⟩
      case measure => simp [intOf]; omega
    · obtain rfl : j = C.length := by omega
      rw [List.take_length, hT.out]
      have hE1 : ((E : Int) != 0) = true := by simp; omega
      have hEE : (((E : Int) == 5) = true ∧ ((T : Int) == (b.length : Int)) = true) ∨ (((E : Int) == 5) = false ∧ ((T : Int) == (b.length : Int)) = false) := by
        by_cases h : T = b.length
        · left; have := hE5.2 h; constructor <;> simp <;> omega
        · right; have h2 : E ≠ 5 := fun h2 => h (hE5.1 h2); constructor <;> simp <;> omega
      have hE5 := Lib.hid hE5
      go_wp2_with fail
      refine (HNx.out _ belr).mono ?_
      rintro e w2 ⟨v2, rfl, hm2, hb2⟩
      obtain ⟨a7, cap7, rfl⟩ := hm2.form
      have bel2 := belr.trans (hb2.mono belr.size)
      have hal : ∀ o, Below w.heap.size w (w2.alloc o) := fun o => bel2.alloc bel2.size o
      rcases hEE with ⟨q1, q2⟩ | ⟨q1, q2⟩
      all_goals
        go_wp2_with (go_at_call 11; refine (works_any _ (hv_later hH (hal _))).mono ?_; rintro e w6 ⟨rfl, hb6⟩)
        go_ret
        exact ⟨rfl, (hal _).trans (hb6.mono (hal _).size)⟩
theorem w_frameAny (a : Option Addr) (len cap : Nat) (z : List Int) (w : World) (w0 : IsRow .u8 w a len cap z) (hH : Hv w) :
    Calls Tryd.prog 9 #[.slice a len cap] w fun e w' => e = .returned (.bool true) ∧ Below w.heap.size w w' := by
  obtain ⟨l, rfl, hv⟩ := row_bs w0
  rcases Nat.lt_or_ge 2000 l.length with h | h
  · exact any_long a l.length cap w hH h
  · exact any_go a cap l w hv hH h
end Go.Proofs.YtfodgdcdpdlikaaDoor.Frame
