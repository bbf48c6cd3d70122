/- The document's reader: Uint. -/
import Derived.Test.YtnkmiigcglddmaaW31
namespace Go.Proofs.Ytnkmiigcglddmaa.Wire
open Go.RowKit Go.ChangeShapes
set_option linter.unusedVariables false
set_option linter.unusedSimpArgs false

set_option maxRecDepth 100000 in
set_option maxHeartbeats 2000000 in
theorem quint_pos (p : Nat) (F : Nat → Prop) (b off cap : Nat) (l : List Nat) (w : World) (h : RdAt TR' mkR w p F (.slice (some ⟨b, off, none⟩) l.length cap) (some l)) (hlen : l.length ≤ 1000000000) (hcap : l.length ≤ cap)
    (hcell : ∀ i, i < l.length → w.cell? ⟨b, off + i, none⟩ = some (.int .u8 (l.getD i 0 : Nat))) :
    Calls Try.prog 53 #[.pointer (some ⟨p, 0, none⟩)] w (Took TR' mkR w p F (encU (stepR 0 rdU (some l)).1) (stepR 0 rdU (some l)).2) := by
  have hc := h.rmade
  have c1 := h.rrest
  have c2 := h.rfail
  have f1 := h.frozen 1
  have H8 := Lib.hid (show ∀ c ∈ l, c < 256 from h.bs.1)
  have HH := Lib.hid h
  have HC := Lib.hid hcell
  obtain ⟨m, hm⟩ : ∃ m, min l.length 10 = m := ⟨_, rfl⟩
  have hml : m ≤ l.length := by omega
  have hm10 : m ≤ 10 := by omega
  have HM := Lib.hid hm
  obtain ⟨X, hX⟩ : ∃ X, stepR 0 rdU (some l) = X := ⟨_, rfl⟩
  rw [hX]
  have HX := Lib.hid hX
  clear h hcell hX hm
  go_enter Try.func53, Try.ntmps53
  go_wp2_with (go_at_call 52; refine (qvalid_any p true _ hc).mono ?_; rintro e w' ⟨rfl, rfl⟩)
  go_loop [3, 4] (fun t i => ∃ k : Nat, k ≤ m ∧ i = .int .i64 k ∧ t = .int .u64 (low l k : Nat) ∧ On l k) (fun _ i => m - (intOf i).toNat)
  case atStart => exact ⟨0, Nat.zero_le _, rfl, by rw [low_zero]; rfl, On.zero l⟩
  case round =>
    obtain ⟨k, hk, rfl, rfl, hon⟩ := hrel
    by_cases hlt : k < m
    · have hcell := HC.out k (by omega)
      have hd := byte_lt H8.out k
      have hst := Lib.hid (fun h => hon.same H8.out (show k < l.length by omega) (show k ≤ 9 by omega) h)
      have hnx := Lib.hid (fun h => hon.succ (show k < l.length by omega) h)
      have hadd := add_step (low l k) (l.getD k 0) k
      rw [low_succ l k (by omega) (by omega)] at hadd
      have hll : low l (k + 1) < 18446744073709551616 := Nat.mod_lt _ (by omega)
      have q1 : decide ((k : Int) < (l.length : Int)) = true := decide_eq_true (by omega)
      have q2 : decide ((k : Int) < 10) = true := decide_eq_true (by omega)
      have HON := Lib.hid hon
      clear hon
      generalize hu1 : low l (k + 1) = u at *
      have HU1 := Lib.hid hu1
      clear hu1
      generalize low l k = u0 at *
      generalize l.getD k 0 = d at *
      by_cases hd1 : d < 128
      · have qd : decide ((d : Int) < 128) = true := decide_eq_true (by omega)
        have hb := Lib.hid ((show Bs w (fun k => F k ∧ k ≠ p) (.slice (some ⟨b, off, none⟩) l.length cap) l from HH.out.bs).upto (k + 1) (by omega))
        have HLT := Lib.hid HH.out.lt
        have hu := fun w => upto_at (some ⟨b, off, none⟩) l.length cap (k + 1) ((k : Int) + 1) (by omega) (by omega) w
        have hwr : IntKind.i64.wrap ((k : Int) + 1) = (k : Int) + 1 := by rw [IntKind.wrap_i64]; omega
        have hbd : Bs w.drew (fun k => F k ∧ k ≠ p) (.slice (some ⟨b, off, none⟩) (k + 1) cap) (l.take (k + 1)) := hb.out
        have HBD := Lib.hid hbd
        have tk : (l.take (k + 1)).length = k + 1 := by rw [List.length_take]; omega
        have HTK := Lib.hid tk
        have hcv0 := bs_str hbd
        have c1d : w.drew.cell? ⟨p, 1, none⟩ = some (.slice (some ⟨b, off, none⟩) l.length cap) := c1
        have HP := Lib.hid (show p < w.drew.heap.size from HH.out.lt p HH.out.fp)
        clear hbd tk
        go_wp2
        refine wp_region_held_drew (S := fun w' => w'.cell? ⟨p, 1, none⟩ = some (.slice (some ⟨b, off, none⟩) l.length cap) ∧ Bs w' (fun k => F k ∧ k ≠ p) (.slice (some ⟨b, off, none⟩) (k + 1) cap) (l.take (k + 1))) (by kernel_rfl) ⟨c1d, HBD.out⟩ (fun hS => ?_)
        refine wpAnyH_take (i := 0) (v := .int .u64 (u : Nat)) rfl (by kernel_rfl) (by kernel_rfl) (by kernel_rfl) (fun _ _ _ h => h) (Or.inl ⟨by rfl, by intro w' hSw; obtain ⟨s1, s2⟩ := hSw; go_simp⟩) hS ?_
        try simp only [Act.put, List.setIfInBounds_toArray, List.set_cons_zero, List.set_cons_succ]
        refine wpAnyH_take (i := 3) (v := .pointer (some ⟨p, 0, none⟩)) rfl (by kernel_rfl) (by kernel_rfl) (by kernel_rfl) (fun _ _ _ h => h) (Or.inl ⟨by rfl, by intro w' hSw; obtain ⟨s1, s2⟩ := hSw; go_simp⟩) hS ?_
        try simp only [Act.put, List.setIfInBounds_toArray, List.set_cons_zero, List.set_cons_succ]
        refine wpAnyH_take (i := 4) (v := .pointer (some ⟨p, 0, none⟩)) rfl (by kernel_rfl) (by kernel_rfl) (by kernel_rfl) (fun _ _ _ h => h) (Or.inl ⟨by rfl, by intro w' hSw; obtain ⟨s1, s2⟩ := hSw; go_simp⟩) hS ?_
        try simp only [Act.put, List.setIfInBounds_toArray, List.set_cons_zero, List.set_cons_succ]
        refine wpAnyH_take (i := 5) (v := .pointer (some ⟨p, 1, none⟩)) rfl (by kernel_rfl) (by kernel_rfl) (by kernel_rfl) (fun _ _ _ h => h) (Or.inl ⟨by rfl, by intro w' hSw; obtain ⟨s1, s2⟩ := hSw; go_simp⟩) hS ?_
        try simp only [Act.put, List.setIfInBounds_toArray, List.set_cons_zero, List.set_cons_succ]
        refine wpAnyH_take (i := 6) (v := .slice (some ⟨b, off, none⟩) l.length cap) rfl (by kernel_rfl) (by kernel_rfl) (by kernel_rfl) (fun _ _ _ h => h) (Or.inl ⟨by rfl, by intro w' hSw; obtain ⟨s1, s2⟩ := hSw; go_simp⟩) hS ?_
        try simp only [Act.put, List.setIfInBounds_toArray, List.set_cons_zero, List.set_cons_succ]
        refine wpAnyH_take (i := 7) (v := .int .i64 (k : Nat)) rfl (by kernel_rfl) (by kernel_rfl) (by kernel_rfl) (fun _ _ _ h => h) (Or.inl ⟨by rfl, by intro w' hSw; obtain ⟨s1, s2⟩ := hSw; go_simp⟩) hS ?_
        try simp only [Act.put, List.setIfInBounds_toArray, List.set_cons_zero, List.set_cons_succ]
        refine wpAnyH_take (i := 8) (v := .int .i64 ((k : Int) + 1)) rfl (by kernel_rfl) (by kernel_rfl) (by kernel_rfl) (fun _ _ _ h => h) (Or.inl ⟨by rfl, by intro w' hSw; obtain ⟨s1, s2⟩ := hSw; go_simp⟩) hS ?_
        try simp only [Act.put, List.setIfInBounds_toArray, List.set_cons_zero, List.set_cons_succ]
        refine wpAnyH_take (i := 9) (v := .slice (some ⟨b, off, none⟩) (k + 1) cap) rfl (by kernel_rfl) (by kernel_rfl) (by kernel_rfl) (fun _ _ _ h => h) (Or.inl ⟨by rfl, by intro w' hSw; obtain ⟨s1, s2⟩ := hSw; go_simp⟩) hS ?_
        try simp only [Act.put, List.setIfInBounds_toArray, List.set_cons_zero, List.set_cons_succ]
        refine wpAnyH_take (i := 10) (v := .string (str (l.take (k + 1)))) rfl (by kernel_rfl) (by kernel_rfl) (by kernel_rfl) (fun _ _ _ h => h) (Or.inl ⟨by rfl, by intro w' hSw; obtain ⟨s1, s2⟩ := hSw; have hcv := bs_str s2; go_simp⟩) hS ?_
        try simp only [Act.put, List.setIfInBounds_toArray, List.set_cons_zero, List.set_cons_succ]
        refine wpAnyH_ready (rs := [1]) (by kernel_rfl) (by simp) ?_
        refine AllReadyH.cons rfl (fun K hK => ?_) AllReadyH.nil
        go_simp
        go_at_call 76
        refine (number_any u u _ (Nat.le_refl _) hll).mono ?_
        rintro e w1 ⟨v1, rfl, ho, hbel⟩
        have c1e := (hbel.cell (p := ⟨p, 1, none⟩) HP.out).trans c1d
        have HBE := Lib.hid (HBD.out.kept (Same.of_below hbel fun i hi => HLT.out i hi.1))
        have HBL := Lib.hid ((Below.refl _ w).drew.trans hbel)
        have HH1 := Lib.hid (HH.out.below HBL.out)
        have f1e := HH1.out.frozen 1
        obtain ⟨a1, cc1, hv1⟩ := own_form ho
        subst hv1
        have hcv2 := bs_str (own_bs ho (digs_lt _))
        clear ho hbel
        refine hK.out _ _ ⟨c1e, HBE.out⟩ (fun _ => ?_)
        clear hK K
        try simp only [Act.put, List.setIfInBounds_toArray, List.set_cons_zero, List.set_cons_succ]
        refine wpAnyH_ready (rs := [2]) (by kernel_rfl) (by simp) ?_
        refine AllReadyH.cons rfl (fun K hK => ?_) AllReadyH.nil
        go_simp
        refine hK.out _ _ ⟨c1e, HBE.out⟩ (fun _ => ?_)
        clear hK K
        try simp only [Act.put, List.setIfInBounds_toArray, List.set_cons_zero, List.set_cons_succ]
        refine wpAnyH_ready (rs := [11]) (by kernel_rfl) (by simp) ?_
        refine AllReadyH.cons rfl (fun K hK => ?_) AllReadyH.nil
        go_simp
        refine hK.out _ _ ⟨c1e, HBE.out⟩ (fun _ => ?_)
        clear hK K
        try simp only [Act.put, List.setIfInBounds_toArray, List.set_cons_zero, List.set_cons_succ]
        refine wpAnyH_done (by kernel_rfl) ?_ _
        clear hS
        all_goals
          have HFA := Lib.hid (qfail_any p F _ _ w1 HH1.out)
          have htl := fun w => tail_at (some ⟨b, off, none⟩) l.length cap (k + 1) ((k : Int) + 1) (by omega) (by omega) w
          clear hu hwr hcv0 hcv2 c1d hcell
          by_cases hq : str (digs u) = str (l.take (k + 1))
          · have hx0 := hst.out hd1
            rw [if_pos hq] at hx0
            have E1 := Lib.hid (stepR_yes (z := 0) hx0)
            rw [str_same hq, Bool.not_true]
            clear hq hx0
            go_wp2
            go_ret
            have hx := HX.out.symm.trans E1.out
            subst hx
            exact ⟨rfl, ⟨_, HH1.out.turn (fun k hk => set_other _ _ _ _ k hk) (by rw [set_size]; exact Nat.le_refl _) (blk_set HH1.out.blk 1 _) (HH1.out.bs.tail (k + 1) (show k + 1 ≤ l.length by omega))⟩, (Keeps.of_below HBL.out).setCell (p := ⟨p, 1, none⟩) (.inl HH.out.fp) _⟩
          · have hx0 := hst.out hd1
            rw [if_neg hq] at hx0
            have E1 := Lib.hid (stepR_no (z := 0) hx0)
            rw [str_ne hq, Bool.not_false]
            clear hq hx0
            go_wp2_with (go_at_call 57; refine HFA.out.mono ?_; rintro e w2 ⟨rfl, hw2, hk2⟩)
            go_ret
            have hx := HX.out.symm.trans E1.out
            subst hx
            exact ⟨rfl, hw2, (Keeps.of_below HBL.out).trans hk2 fun i h _ => h⟩
      · have qd : decide ((d : Int) < 128) = false := decide_eq_false (by omega)
        go_wp2
        go_round
        case rel => exact ⟨k + 1, by omega, by go_num, by rw [HU1.out], hnx.out (by omega)⟩
        case measure => simp [intOf]; omega
    · obtain rfl : k = m := by omega
      have hno := hon.out HM.out
      have E1 := Lib.hid (stepR_no (z := 0) hno)
      have HFA := Lib.hid (qfail_any p F _ _ w HH.out)
      clear hno hon
      by_cases h1 : k < l.length
      · have h2 : ¬ k < 10 := by have := HM.out; omega
        have q1 : decide ((k : Int) < (l.length : Int)) = true := decide_eq_true (by omega)
        have q2 : decide ((k : Int) < 10) = false := decide_eq_false (by omega)
        go_wp2_with (go_at_call 57; refine HFA.out.mono ?_; rintro e w1 ⟨rfl, hw1, hk1⟩)
        go_ret
        have hx := HX.out.symm.trans E1.out
        subst hx
        exact ⟨rfl, hw1, hk1⟩
      · have q1 : decide ((k : Int) < (l.length : Int)) = false := decide_eq_false (by omega)
        go_wp2_with (go_at_call 57; refine HFA.out.mono ?_; rintro e w1 ⟨rfl, hw1, hk1⟩)
        go_ret
        have hx := HX.out.symm.trans E1.out
        subst hx
        exact ⟨rfl, hw1, hk1⟩
end Go.Proofs.Ytnkmiigcglddmaa.Wire
