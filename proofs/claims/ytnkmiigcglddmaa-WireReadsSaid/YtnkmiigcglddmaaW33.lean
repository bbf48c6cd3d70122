/- The document's reader: Uint, Int, Text, Bool, each state of it. -/
import Derived.Test.YtnkmiigcglddmaaW32
namespace Go.Proofs.Ytnkmiigcglddmaa.Wire
open Go.RowKit Go.ChangeShapes
set_option linter.unusedVariables false
set_option linter.unusedSimpArgs false

theorem Took.after {T : TypeId} {mk : Bool → Value → Array Value} {w w1 w2 : World} {p : Nat} {F : Nat → Prop} {x : Value} {st : Option (List Nat)} {e : Ending} (hk : Keeps F w w1) (h : Took T mk w1 p F x st e w2) : Took T mk w p F x st e w2 :=
  ⟨h.1, h.2.1, hk.trans h.2.2 fun i h _ => h⟩
theorem quint_any (p : Nat) (F : Nat → Prop) (v : Value) (st : Option (List Nat)) (w : World) (h : RdAt TR' mkR w p F v st) (hl : (st.getD []).length ≤ 1000000000) :
    Calls Try.prog 53 #[.pointer (some ⟨p, 0, none⟩)] w (Took TR' mkR w p F (encU (stepR 0 rdU st).1) (stepR 0 rdU st).2) := by
  cases st with
  | none =>
    have hc := h.rmade
    have c1 := h.rrest
    have c2 := h.rfail
    have HH := Lib.hid h
    obtain ⟨a, cap, hv, _⟩ := h.form
    subst hv
    clear h
    show Calls _ _ _ _ (Took TR' mkR w p F (.int .u64 0) none)
    go_enter Try.func53, Try.ntmps53
    go_wp2_with (go_at_call 52; refine (qvalid_any p true _ hc).mono ?_; rintro e w' ⟨rfl, rfl⟩)
    go_ret
    exact ⟨rfl, ⟨_, HH.out⟩, Keeps.refl _ _⟩
  | some l =>
    rcases Nat.eq_zero_or_pos l.length with h0 | h0
    · have hl0 := List.eq_nil_of_length_eq_zero h0
      subst hl0
      have hc := h.rmade
      have c1 := h.rrest
      have c2 := h.rfail
      have HFA := Lib.hid (qfail_any p F _ _ w h)
      obtain ⟨a, cap, hv, _⟩ := h.form
      subst hv
      clear h h0
      show Calls _ _ _ _ (Took TR' mkR w p F (.int .u64 0) none)
      go_enter Try.func53, Try.ntmps53
      go_wp2_with (go_at_call 52; refine (qvalid_any p true _ hc).mono ?_; rintro e w' ⟨rfl, rfl⟩)
      refine wp_loop_rounds 1 ?_
      rw [rounds_succ]
      go_wp2_with (go_at_call 57; refine HFA.out.mono ?_; rintro e w1 ⟨rfl, hw1, hk1⟩)
      go_ret
      exact ⟨rfl, hw1, hk1⟩
    · have hb := h.bs
      obtain ⟨_, a, cap, hv, hcap, hc⟩ := hb
      obtain ⟨b, off, rfl, _, hcell⟩ := hc h0
      subst hv
      exact quint_pos p F b off cap l w h hl hcap hcell
theorem stepU_lt (st : Option (List Nat)) : (stepR 0 rdU st).1 < 18446744073709551616 := by
  cases st with
  | none => show 0 < _; omega
  | some l =>
    cases h : rdU l with
    | none => rw [stepR_no h]; show 0 < _; omega
    | some x => obtain ⟨n, r⟩ := x; rw [stepR_yes h]; exact rdU_lt h
theorem stepU_left (st : Option (List Nat)) : left (stepR 0 rdU st).2 ≤ left st := stepR_left (fun _ _ _ => rdU_len) st
theorem stepI_is (st : Option (List Nat)) : stepR 0 rdI st = (zag (stepR 0 rdU st).1, (stepR 0 rdU st).2) := by
  have e0 : zag 0 = 0 := rfl
  cases st with
  | none => show _ = (zag 0, none); rw [e0]; rfl
  | some l =>
    cases h : rdU l with
    | none =>
      have h2 : rdI l = none := by unfold rdI; rw [h]; rfl
      rw [stepR_no h2, stepR_no h]; show _ = (zag 0, none); rw [e0]
    | some x =>
      obtain ⟨n, r⟩ := x
      have h2 : rdI l = some (zag n, r) := by unfold rdI; rw [h]; rfl
      rw [stepR_yes h2, stepR_yes h]
theorem stepU_none {st : Option (List Nat)} {n : Nat} (h : stepR 0 rdU st = (n, none)) : n = 0 ∧ stepR [] rdT st = ([], none) ∧ stepR false rdB st = (false, none) := by
  cases st with
  | none =>
    have e : (0, (none : Option (List Nat))) = (n, none) := h
    cases e
    exact ⟨rfl, rfl, rfl⟩
  | some l =>
    cases h2 : rdU l with
    | none =>
      rw [stepR_no h2] at h
      cases h
      exact ⟨rfl, stepR_no (by unfold rdT; rw [h2]), stepR_no (by unfold rdB; rw [h2])⟩
    | some x => obtain ⟨n', r⟩ := x; rw [stepR_yes h2] at h; cases h
theorem stepU_some {st : Option (List Nat)} {n : Nat} {r : List Nat} (h : stepR 0 rdU st = (n, some r)) :
    stepR [] rdT st = (if n ≤ 65536 ∧ n ≤ r.length then (r.take n, some (r.drop n)) else ([], none)) ∧ stepR false rdB st = (if n ≤ 1 then (decide (n = 1), some r) else (false, none)) := by
  cases st with
  | none => cases h
  | some l =>
    cases h2 : rdU l with
    | none => rw [stepR_no h2] at h; cases h
    | some x =>
      obtain ⟨n', r'⟩ := x
      rw [stepR_yes h2] at h
      cases h
      constructor
      · by_cases h3 : n ≤ 65536 ∧ n ≤ r.length
        · rw [if_pos h3]; exact stepR_yes (by unfold rdT; rw [h2]; dsimp only; rw [if_pos h3])
        · rw [if_neg h3]; exact stepR_no (by unfold rdT; rw [h2]; dsimp only; rw [if_neg h3])
      · by_cases h3 : n ≤ 1
        · rw [if_pos h3]; exact stepR_yes (by unfold rdB; rw [h2]; dsimp only; rw [if_pos h3])
        · rw [if_neg h3]; exact stepR_no (by unfold rdB; rw [h2]; dsimp only; rw [if_neg h3])
theorem qint_any (p : Nat) (F : Nat → Prop) (v : Value) (st : Option (List Nat)) (w : World) (h : RdAt TR' mkR w p F v st) (hl : (st.getD []).length ≤ 1000000000) :
    Calls Try.prog 54 #[.pointer (some ⟨p, 0, none⟩)] w (Took TR' mkR w p F (encI (stepR 0 rdI st).1) (stepR 0 rdI st).2) := by
  have H := Lib.hid (quint_any p F v st w h hl)
  have HU := Lib.hid (stepU_lt st)
  rw [stepI_is]
  clear h hl
  generalize (stepR 0 rdU st).1 = u at *
  generalize (stepR 0 rdU st).2 = st' at *
  unfold encU at H
  unfold encI
  go_enter Try.func54, Try.ntmps54
  go_wp2_with fail
  refine H.out.mono ?_
  rintro e w1 ⟨rfl, hw1, hk1⟩
  go_wp2_with fail
  refine (rzag_any u _ HU.out).mono ?_
  rintro e w' ⟨rfl, rfl⟩
  go_wp2
  go_ret
  exact ⟨rfl, hw1, hk1⟩
theorem qbool_any (p : Nat) (F : Nat → Prop) (v : Value) (st : Option (List Nat)) (w : World) (h : RdAt TR' mkR w p F v st) (hl : (st.getD []).length ≤ 1000000000) :
    Calls Try.prog 56 #[.pointer (some ⟨p, 0, none⟩)] w (Took TR' mkR w p F (encB (stepR false rdB st).1) (stepR false rdB st).2) := by
  have H := Lib.hid (quint_any p F v st w h hl)
  obtain ⟨n, st1, hu⟩ : ∃ n st1, stepR 0 rdU st = (n, st1) := ⟨_, _, rfl⟩
  rw [hu] at H
  unfold encU at H
  unfold encB
  clear h hl
  cases st1 with
  | none =>
    obtain ⟨rfl, _, hb⟩ := stepU_none hu
    rw [hb]
    clear hu hb
    go_enter Try.func56, Try.ntmps56
    go_wp2_with fail
    refine H.out.mono ?_
    rintro e w1 ⟨rfl, hw1, hk1⟩
    go_wp2
    go_ret
    exact ⟨rfl, hw1, hk1⟩
  | some r =>
    obtain ⟨_, hb⟩ := stepU_some hu
    rw [hb]
    clear hu hb
    by_cases h1 : n ≤ 1
    · have d1 : decide (1 < (n : Int)) = false := decide_eq_false (by omega)
      have d2 : ((n : Int) == 1) = decide (n = 1) := by rw [Bool.eq_iff_iff, beq_iff_eq, decide_eq_true_iff]; omega
      rw [if_pos h1]
      go_enter Try.func56, Try.ntmps56
      go_wp2_with fail
      refine H.out.mono ?_
      rintro e w1 ⟨rfl, hw1, hk1⟩
      go_wp2
      go_ret
      exact ⟨rfl, hw1, hk1⟩
    · have d1 : decide (1 < (n : Int)) = true := decide_eq_true (by omega)
      rw [if_neg h1]
      go_enter Try.func56, Try.ntmps56
      go_wp2_with fail
      refine H.out.mono ?_
      rintro e w1 ⟨rfl, ⟨v1, hw1⟩, hk1⟩
      have HFA := Lib.hid (qfail_any p F _ _ w1 hw1)
      go_wp2_with (go_at_call 57; refine HFA.out.mono ?_; rintro e w2 ⟨rfl, hw2, hk2⟩)
      go_ret
      exact ⟨rfl, hw2, hk1.trans hk2 fun i h _ => h⟩
set_option maxRecDepth 100000 in
theorem qtext_any (p : Nat) (F : Nat → Prop) (v : Value) (st : Option (List Nat)) (w : World) (h : RdAt TR' mkR w p F v st) (hl : (st.getD []).length ≤ 1000000000) :
    Calls Try.prog 55 #[.pointer (some ⟨p, 0, none⟩)] w (Took TR' mkR w p F (encT (stepR [] rdT st).1) (stepR [] rdT st).2) := by
  have H := Lib.hid (quint_any p F v st w h hl)
  have HL := Lib.hid (Nat.le_trans (stepU_left st) hl)
  have HU := Lib.hid (stepU_lt st)
  obtain ⟨n, st1, hu⟩ : ∃ n st1, stepR 0 rdU st = (n, st1) := ⟨_, _, rfl⟩
  rw [hu] at H HL HU
  unfold encU at H
  unfold encT
  have es : str [] = ⟨#[]⟩ := rfl
  clear h hl
  cases st1 with
  | none =>
    obtain ⟨rfl, hb, _⟩ := stepU_none hu
    rw [hb, es]
    clear hu hb es
    go_enter Try.func55, Try.ntmps55
    go_wp2_with fail
    refine H.out.mono ?_
    rintro e w1 ⟨rfl, ⟨v1, hw1⟩, hk1⟩
    have c0 := hw1.rmade
    have c2 := hw1.rfail
    have HW := Lib.hid hw1
    clear hw1
    go_wp2_with (go_at_call 52; refine (qvalid_any p true _ c0).mono ?_; rintro e w' ⟨rfl, rfl⟩)
    go_ret
    exact ⟨rfl, ⟨_, HW.out⟩, hk1⟩
  | some r =>
    obtain ⟨hb, _⟩ := stepU_some hu
    rw [hb]
    have hrl : r.length ≤ 1000000000 := HL.out
    clear hu hb
    by_cases h1 : n ≤ 65536 ∧ n ≤ r.length
    · rw [if_pos h1]
      obtain ⟨h2, h3⟩ := h1
      have d1 : decide (65536 < (n : Int)) = false := decide_eq_false (by omega)
      have d2 : decide ((r.length : Int) < (n : Int)) = false := decide_eq_false (by omega)
      go_enter Try.func55, Try.ntmps55
      go_wp2_with fail
      refine H.out.mono ?_
      rintro e w1 ⟨rfl, ⟨v1, hw1⟩, hk1⟩
      have c0 := hw1.rmade
      have c1 := hw1.rrest
      have c2 := hw1.rfail
      have f1 := hw1.frozen 1
      have HW := Lib.hid hw1
      obtain ⟨a, cap, hv, hcap⟩ := hw1.form
      subst hv
      have hcp : r.length ≤ cap := hcap
      have hh := fun w => head_run .u64 a r.length cap n (by omega) w
      rw [cutA_zero] at hh
      have ht := fun w => tail_run_u a r.length cap n h3 w
      have hcv := bs_str ((show Bs w1 (fun k => F k ∧ k ≠ p) (.slice a r.length cap) r from hw1.bs).upto n h3)
      clear hw1 hcap
      go_wp2_with (go_at_call 52; refine (qvalid_any p true _ c0).mono ?_; rintro e w' ⟨rfl, rfl⟩)
      go_ret
      exact ⟨rfl, ⟨_, HW.out.turn (fun k hk => set_other _ _ _ _ k hk) (by rw [set_size]; exact Nat.le_refl _) (blk_set HW.out.blk 1 _) (HW.out.bs.tail n h3)⟩, hk1.setCell (p := ⟨p, 1, none⟩) (.inl HW.out.fp) _⟩
    · rw [if_neg h1, es]
      clear es
      by_cases h2 : n ≤ 65536
      · have h3 : r.length < n := by
          rcases Nat.lt_or_ge r.length n with h4 | h4
          · exact h4
          · exact absurd ⟨h2, h4⟩ h1
        have d1 : decide (65536 < (n : Int)) = false := decide_eq_false (by omega)
        have d2 : decide ((r.length : Int) < (n : Int)) = true := decide_eq_true (by omega)
        clear h1
        go_enter Try.func55, Try.ntmps55
        go_wp2_with fail
        refine H.out.mono ?_
        rintro e w1 ⟨rfl, ⟨v1, hw1⟩, hk1⟩
        have c0 := hw1.rmade
        have c1 := hw1.rrest
        have c2 := hw1.rfail
        have HFA := Lib.hid (qfail_any p F _ _ w1 hw1)
        obtain ⟨a, cap, hv, hcap⟩ := hw1.form
        subst hv
        clear hw1 hcap
        go_wp2_with (first
          | (go_at_call 52; refine (qvalid_any p true _ c0).mono ?_; rintro e w' ⟨rfl, rfl⟩)
          | (go_at_call 57; refine HFA.out.mono ?_; rintro e w2 ⟨rfl, hw2, hk2⟩))
        go_ret
        exact ⟨rfl, hw2, hk1.trans hk2 fun i h _ => h⟩
      · have d1 : decide (65536 < (n : Int)) = true := decide_eq_true (by omega)
        clear h1
        go_enter Try.func55, Try.ntmps55
        go_wp2_with fail
        refine H.out.mono ?_
        rintro e w1 ⟨rfl, ⟨v1, hw1⟩, hk1⟩
        have c0 := hw1.rmade
        have c1 := hw1.rrest
        have c2 := hw1.rfail
        have HFA := Lib.hid (qfail_any p F _ _ w1 hw1)
        obtain ⟨a, cap, hv, hcap⟩ := hw1.form
        subst hv
        clear hw1 hcap
        go_wp2_with (first
          | (go_at_call 52; refine (qvalid_any p true _ c0).mono ?_; rintro e w' ⟨rfl, rfl⟩)
          | (go_at_call 57; refine HFA.out.mono ?_; rintro e w2 ⟨rfl, hw2, hk2⟩))
        go_ret
        exact ⟨rfl, hw2, hk1.trans hk2 fun i h _ => h⟩
end Go.Proofs.Ytnkmiigcglddmaa.Wire
