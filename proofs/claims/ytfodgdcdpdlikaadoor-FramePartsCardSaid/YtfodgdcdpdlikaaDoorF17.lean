/- The walk of FrameParts. -/
import Derived.Test.YtfodgdcdpdlikaaDoorF16
import Derived.StillTailTactics
namespace Go.Proofs.YtfodgdcdpdlikaaDoor.Frame
open Go.RowKit Go.ChangeShapes
open Crc (Hv more more_lt ret_u32)
set_option linter.unusedVariables false
set_option linter.unusedSimpArgs false

theorem parts_long (a : Option Addr) (len cap : Nat) (w : World) (hH : Hv w) (h : 1000 < len) :
    Calls Tryd.prog 7 #[.slice a len cap] w fun e w' => e = .returned (.bool true) ∧ Below w.heap.size w w' := by
  have hd : decide ((1000 : Int) < (len : Int)) = true := by simp; omega
  go_enter Tryd.func7, Tryd.ntmps7
  go_wp2_with (go_at_call 11; refine (works_any _ hH).mono ?_; rintro e w1 ⟨rfl, hb⟩)
  go_ret
  exact ⟨rfl, hb⟩
theorem rc_cells (d : List Nat) (i : Nat) (hi : i < 8) : (rc d).getD i 0 = (hd d).getD i 0 := by
  show ((hd d) ++ d).getD i 0 = _
  rw [List.getD_eq_getElem?_getD, List.getElem?_append_left (by rw [hd_len]; exact hi), ← List.getD_eq_getElem?_getD]
theorem i64_num (x0 x1 x2 x3 n : Nat) (b0 : x0 < 256) (b1 : x1 < 256) (b2 : x2 < 256) (b3 : x3 < 256) (hn : n = x0 * 16777216 + x1 * 65536 + x2 * 256 + x3) :
    bits .or .i64 (bits .or .i64 (bits .or .i64 ((x0 : Int) * 16777216) ((x1 : Int) * 65536)) ((x2 : Int) * 256)) (x3 : Int) = (n : Int) := by
  obtain ⟨o1, o2, o3⟩ := num_or x0 x1 x2 x3 b0 b1 b2 b3
  have q1 := i64_or_nat (x0 * 16777216) (x1 * 65536) (by omega) (by omega)
  have q2 := i64_or_nat (x0 * 16777216 + x1 * 65536) (x2 * 256) (by omega) (by omega)
  have q3 := i64_or_nat (x0 * 16777216 + x1 * 65536 + x2 * 256) x3 (by omega) (by omega)
  rw [o1] at q1; rw [o2] at q2; rw [o3] at q3
  rw [hn, ← q3, ← q2, ← q1]
  simp only [Int.natCast_mul]
  rfl
theorem u32_num (x0 x1 x2 x3 n : Nat) (b0 : x0 < 256) (b1 : x1 < 256) (b2 : x2 < 256) (b3 : x3 < 256) (hn : n = x0 * 16777216 + x1 * 65536 + x2 * 256 + x3) :
    bits .or .u32 (bits .or .u32 (bits .or .u32 ((x0 : Int) * 16777216) ((x1 : Int) * 65536)) ((x2 : Int) * 256)) (x3 : Int) = (n : Int) := by
  obtain ⟨o1, o2, o3⟩ := num_or x0 x1 x2 x3 b0 b1 b2 b3
  have q1 := u32_or_nat (x0 * 16777216) (x1 * 65536) (by omega) (by omega)
  have q2 := u32_or_nat (x0 * 16777216 + x1 * 65536) (x2 * 256) (by omega) (by omega)
  have q3 := u32_or_nat (x0 * 16777216 + x1 * 65536 + x2 * 256) x3 (by omega) (by omega)
  rw [o1] at q1; rw [o2] at q2; rw [o3] at q3
  rw [hn, ← q3, ← q2, ← q1]
  simp only [Int.natCast_mul]
  rfl
set_option maxRecDepth 100000 in
set_option maxHeartbeats 4000000 in
theorem parts_go (a : Option Addr) (cap : Nat) (d : List Nat) (w : World) (hv : Bs w (Old w) (.slice a d.length cap) d) (hH : Hv w) (h : d.length ≤ 1000) :
    Calls Tryd.prog 7 #[.slice a d.length cap] w fun e w' => e = .returned (.bool true) ∧ Below w.heap.size w w' := by
  have hdd : decide ((1000 : Int) < (d.length : Int)) = false := by simp; omega
  have hmk := make_is _ _ _ _ _ (makeL_short (show d.length ≤ 65536 by omega)).1 (makeL_short (show d.length ≤ 65536 by omega)).2 w hv (fun k hk => hk) hH
  have h8 := hv.1
  have ml := more_lt 0 d (by omega) h8
  obtain ⟨hok, hrc⟩ := rest_rc (show d.length ≤ 65536 by omega) h8 []
  rw [List.append_nil] at hok hrc
  have hrl := rc_len d
  have hR8 := rc_byt h8
  have hx : ∀ i, i < 8 → (rc d).getD i 0 = (hd d).getD i 0 := rc_cells d
  have hdr : (rc d).drop 8 = d := by
    show (hd d ++ d).drop 8 = d
    rw [List.drop_append_of_le_length (Nat.le_of_eq (hd_len d).symm), List.drop_eq_nil_of_le (Nat.le_of_eq (hd_len d)), List.nil_append]
  have hn0 : d.length = (rc d).getD 0 0 * 16777216 + (rc d).getD 1 0 * 65536 + (rc d).getD 2 0 * 256 + (rc d).getD 3 0 := by
    rw [hx 0 (by omega), hx 1 (by omega), hx 2 (by omega), hx 3 (by omega)]
    exact (num4_be4 d.length (by omega) []).symm
  have hn4 : more 0 d = (rc d).getD 4 0 * 16777216 + (rc d).getD 5 0 * 65536 + (rc d).getD 6 0 * 256 + (rc d).getD 7 0 := by
    rw [hx 4 (by omega), hx 5 (by omega), hx 6 (by omega), hx 7 (by omega)]
    exact (num4_be4 (more 0 d) ml []).symm
  generalize hM : more 0 d = M at *
  replace hM := Lib.hid hM
  generalize rc d = R at *
  clear hx
  have HMK := Lib.hid hmk
  have HOK := Lib.hid hok
  have HRC := Lib.hid hrc
  have HRL := Lib.hid hrl
  have HDR := Lib.hid hdr
  clear hmk hok hrc hdr
  have hRb : R.length = 8 + d.length := hrl
  have yb0 := byte_lt hR8 0
  have yb1 := byte_lt hR8 1
  have yb2 := byte_lt hR8 2
  have yb3 := byte_lt hR8 3
  have yb4 := byte_lt hR8 4
  have yb5 := byte_lt hR8 5
  have yb6 := byte_lt hR8 6
  have yb7 := byte_lt hR8 7
  have v0 := i64_num _ _ _ _ _ yb0 yb1 yb2 yb3 hn0
  have v4 := u32_num _ _ _ _ _ yb4 yb5 yb6 yb7 hn4
  clear hn0 hn4
  have hRge : 8 ≤ R.length := by rw [hRb]; exact Nat.le_add_right 8 _
  have hRle : R.length ≤ 1008 := by rw [hRb]; exact Nat.add_le_add_left h 8
  have hRn : ((R.length : Int) != 8 + (d.length : Int)) = false := by rw [hRb]; simp
  clear hrl hRb
  go_enter Tryd.func7, Tryd.ntmps7
  go_wp2_with fail
  refine HMK.out.mono ?_
  rintro e w1 ⟨v1, rfl, hm1, hb1⟩
  obtain ⟨a1, cap1, rfl⟩ := hm1.form
  have hH1 := hv_later hH hb1
  obtain ⟨h81, _, _, e1, hcap1, hc1⟩ := hm1.bs
  injection e1 with e1 _ e3
  subst e1 e3
  obtain ⟨blk, off, rfl, _, hcell⟩ := hc1 (Nat.lt_of_lt_of_le (by decide) hRge)
  have c0 := hcell 0 (Nat.lt_of_lt_of_le (by decide) hRge)
  rw [Nat.add_zero] at c0
  have c1 := hcell 1 (Nat.lt_of_lt_of_le (by decide) hRge)
  have c2 := hcell 2 (Nat.lt_of_lt_of_le (by decide) hRge)
  have c3 := hcell 3 (Nat.lt_of_lt_of_le (by decide) hRge)
  have c4 := hcell 4 (Nat.lt_of_lt_of_le (by decide) hRge)
  have c5 := hcell 5 (Nat.lt_of_lt_of_le (by decide) hRge)
  have c6 := hcell 6 (Nat.lt_of_lt_of_le (by decide) hRge)
  have c7 := hcell 7 (Nat.lt_of_lt_of_le (by decide) hRge)
  have Hm1 := Lib.hid hm1
  clear hcell hc1 hm1
  generalize R.getD 0 0 = x0 at *
  generalize R.getD 1 0 = x1 at *
  generalize R.getD 2 0 = x2 at *
  generalize R.getD 3 0 = x3 at *
  generalize R.getD 4 0 = x4 at *
  generalize R.getD 5 0 = x5 at *
  generalize R.getD 6 0 = x6 at *
  generalize R.getD 7 0 = x7 at *
  have V0 := Lib.hid v0
  have V4 := Lib.hid v4
  clear v0 v4
  go_wp2_with (go_at_call 16; refine (size_is _ _ d _ (hv.kept (Same.of_below hb1 (fun k hk => hk))) (Nat.le_trans h (by decide))).mono ?_; rintro e w' ⟨rfl, rfl⟩)
  go_quiet (fail)
  rw [V0.out]
  go_wp2
  go_quiet (fail)
  rw [V4.out]
  go_wp2_with fail
  have hmW : ∀ q, Mine (w1.drewN q) w.heap.size (.slice (some ⟨blk, off, none⟩) R.length cap1) R := fun q => ⟨Hm1.out.own, Hm1.out.h8⟩
  have hHW : ∀ q, Hv (w1.drewN q) := fun q => hH1
  have hbW : ∀ q, Below w.heap.size w (w1.drewN q) := fun q => drewN_b hb1 q
  have hR1 : R.length ≤ 100000000 := Nat.le_trans hRle (by decide)
  have l0 : lkE R 0 = 0 := by
    have e := lkE_in (b := R) (k := 0) (Nat.zero_le _)
    rw [List.drop_zero, of_ok HOK.out] at e
    exact e
  refine (next_is _ _ R 0 0 0 (R.length : Nat) d l0 rfl ?_ ?_ _ (hmW _).bs (fun k hk => hk.2) (hHW _) hR1).mono ?_
  · show lkN 0 0 (restC (R.drop 0)) = _
    unfold lkN
    rw [if_pos rfl, List.drop_zero, HRC.out, Nat.zero_add, HRL.out]
  · show lkC 0 (restC (R.drop 0)) = d
    unfold lkC
    rw [if_pos rfl, List.drop_zero, HRC.out]
  rintro e w2 ⟨a2, cap2, rfl, hm2, hb2⟩
  have bel2 := (hbW _).trans (hb2.mono (hbW _).size)
  have hmR2 := (hmW _).later hb2
  have hal2 : Below w2.heap.size w2 (w2.alloc (.cells #[.int .i64 0, .slice a2 d.length cap2] 32)) := (Below.refl _ _).alloc (Nat.le_refl _) _
  have bel3 := bel2.trans (hal2.mono bel2.size)
  have hmR3 := hmR2.later hal2
  have hmd3 := hm2.later hal2
  have B3 : Blk (w2.alloc (.cells #[.int .i64 0, .slice a2 d.length cap2] 32)) w2.heap.size [.int .i64 0, .slice a2 d.length cap2] 32 := heap_alloc_new w2 _
  have l5 : lkE R (R.length : Nat) = 5 := by
    rw [lkE_in (Nat.le_refl _)]
    exact restE_nil.2 (by rw [List.drop_length]; rfl)
  have N5 := Lib.hid (next_is _ _ R (R.length : Nat) 5 0 0 [] l5 rfl rfl rfl _ hmR3.bs (fun k hk => hk.2) (hv_later hH bel3) hR1)
  have B3 := Lib.hid B3
  have hmd3 := Lib.hid hmd3
  clear hm2 hmR2 hb2 hal2
  go_wp2_with fail
  refine N5.out.mono ?_
  rintro e w4 ⟨a4, cap4, rfl, _, hb4⟩
  have hal4 : Below w4.heap.size w4 (w4.alloc (.cells #[.int .i64 0, .slice a4 0 cap4] 32)) := (Below.refl _ _).alloc (Nat.le_refl _) _
  have hb5 := hb4.trans (hal4.mono hb4.size)
  have bel5 := bel3.trans (hb5.mono bel3.size)
  have hmR5 := hmR3.later hb5
  have l3 : lkE R ((R.length : Int) + 1) = 3 := lkE_out (.inr (by rw [Int.lt_iff_add_one_le]; exact Int.le_refl _))
  have N3 := Lib.hid (next_is _ _ R ((R.length : Int) + 1) 3 0 0 [] l3 rfl rfl rfl _ hmR5.bs (fun k hk => hk.2) (hv_later hH bel5) hR1)
  have B5 := Lib.hid (B3.out.later hb5)
  have hmd5 := Lib.hid (hmd3.out.later hb5)
  have hmR5 := Lib.hid hmR5
  clear N5 hmR3 B3 hmd3
  go_wp2_with fail
  refine N3.out.mono ?_
  rintro e w6 ⟨a6, cap6, rfl, _, hb6⟩
  have hal6 : Below w6.heap.size w6 (w6.alloc (.cells #[.int .i64 0, .slice a6 0 cap6] 32)) := (Below.refl _ _).alloc (Nat.le_refl _) _
  have hb7 := hb6.trans (hal6.mono hb6.size)
  have bel7 := bel5.trans (hb7.mono bel5.size)
  have hmR7 := hmR5.out.later hb7
  have B7 := B5.out.later hb7
  have hmd7 := hmd5.out.later hb7
  have hHz := hv_later hH bel7
  have hv7 := hv.kept (Same.of_below bel7 (fun k hk => hk))
  clear N3 B5 hmd5 hmR5
  go_wp2_with fail
  generalize hW7 : w6.alloc (.cells #[.int .i64 0, .slice a6 0 cap6] 32) = W7 at *
  have SA := (sum_any _ _ d W7.drew (show Bs W7.drew (Old w) (.slice a d.length cap) d from hv7) (Nat.le_trans h (by decide)) hHz).mono (R' := fun e w' => e = .returned (.int .u32 (M : Nat)) ∧ w' = W7.drew) fun _ _ ⟨x, y⟩ => ⟨by rw [x, hM.out], y.symm⟩
  have hbt := hmR7.bs.tail 8 hRge
  have hRd : R.length - 8 = d.length := by rw [HRL.out]; exact Nat.add_sub_cancel_left 8 _
  rw [HDR.out, hRd] at hbt
  have ts : (Instr.slice 22 (.slice (some ⟨blk, off, none⟩) R.length cap1) (some (.int .i64 8)) none none).run Tryd.prog W7.drew = .ok (.slice (cutA (some ⟨blk, off, none⟩) cap1 8) d.length (cap1 - 8)) W7.drew := by
    have := tail_run (some ⟨blk, off, none⟩) R.length cap1 8 hRge W7.drew
    rw [hRd] at this
    exact this
  generalize cutA (some ⟨blk, off, none⟩) cap1 8 = a8 at *
  have cv1 : (convert 22 9 (.slice a8 d.length (cap1 - 8))).run Tryd.prog W7.drew = .ok (.string (str d)) W7.drew := bs_str (show Bs W7.drew _ _ _ from hbt)
  have cv2 : (convert 22 9 (.slice a d.length cap)).run Tryd.prog W7.drew = .ok (.string (str d)) W7.drew := bs_str (show Bs W7.drew _ _ _ from hv7)
  have cv3 : (convert 22 9 (.slice a2 d.length cap2)).run Tryd.prog W7.drew = .ok (.string (str d)) W7.drew := bs_str (show Bs W7.drew _ _ _ from hmd7.bs)
  have d0 : W7.drew.cell? ⟨w2.heap.size, 0, none⟩ = some (.int .i64 0) := B7.cell 0 _ rfl
  have d1 : W7.drew.cell? ⟨w2.heap.size, 1, none⟩ = some (.slice a2 d.length cap2) := B7.cell 1 _ rfl
  replace SA := Lib.hid SA
  clear hRd
  go_still_tail 45, (by kernel_rfl)
  still_call SA.out
  repeat still_step
  refine wpStill_nil ?_
  change wpList _ _ _ _ _ W7.drew
  go_wp2_with (go_at_call 11; refine (works_any W7.drew hHz).mono ?_; rintro e w8 ⟨rfl, hb8⟩)
  go_ret
  exact ⟨rfl, bel7.drew.trans (hb8.mono bel7.size)⟩
theorem w_frameParts (a : Option Addr) (len cap : Nat) (z : List Int) (w : World) (w0 : IsRow .u8 w a len cap z) (hH : Hv w) :
    Calls Tryd.prog 7 #[.slice a len cap] w fun e w' => e = .returned (.bool true) ∧ Below w.heap.size w w' := by
  obtain ⟨l, rfl, hv⟩ := row_bs w0
  rcases Nat.lt_or_ge 1000 l.length with h | h
  · exact parts_long a l.length cap w hH h
  · exact parts_go a cap l w hv hH h
end Go.Proofs.YtfodgdcdpdlikaaDoor.Frame
