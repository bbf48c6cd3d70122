/- The walk of WireOne. -/
import Derived.Test.YtnkmiigcglddmaaW16
namespace Go.Proofs.Ytnkmiigcglddmaa.Wire
open Go.RowKit Go.ChangeShapes
set_option linter.unusedVariables false
set_option linter.unusedSimpArgs false

/-- What get reads to the end of it is what writing it leads to. -/
theorem gv_one {k : Nat} {l r S : List Nat} {N : Nat} (h8 : ∀ c ∈ l, c < 256) (h : gv k (some l) = (N, S, some r)) : l = pv k N (str S) ++ r := by
  unfold gv at h
  unfold pv
  split at h
  · rename_i hk
    rw [if_pos hk]
    cases h2 : rdU l with
    | none => rw [stepR_no h2] at h; cases h
    | some x => obtain ⟨n, r'⟩ := x; rw [stepR_yes h2] at h; cases h; exact (rdU_some h8 h2).1
  · rename_i hk
    rw [if_neg hk]
    split at h
    · rename_i hk1
      rw [if_pos hk1]
      cases h2 : rdU l with
      | none => rw [stepR_no (by unfold rdI; rw [h2]; rfl)] at h; cases h
      | some x =>
        obtain ⟨n, r'⟩ := x
        have hr := rdU_some h8 h2
        rw [stepR_yes (x := zag n) (r := r') (by unfold rdI; rw [h2]; rfl)] at h
        cases h
        dsimp only
        rw [i64_u64 (zag_in hr.2), zig_zag]
        exact hr.1
    · rename_i hk1
      rw [if_neg hk1]
      split at h
      · rename_i hk2
        rw [if_pos hk2]
        cases h2 : rdU l with
        | none => rw [stepR_no (by unfold rdT; rw [h2])] at h; cases h
        | some x =>
          obtain ⟨n, r'⟩ := x
          have hr := rdU_some h8 h2
          by_cases h3 : n ≤ 65536 ∧ n ≤ r'.length
          · rw [stepR_yes (x := r'.take n) (r := r'.drop n) (by unfold rdT; rw [h2]; dsimp only; rw [if_pos h3])] at h
            cases h
            dsimp only
            have hs8 : ∀ c ∈ r'.take n, c < 256 := fun c hc => h8 c (by rw [hr.1]; exact List.mem_append.2 (.inr (List.mem_of_mem_take hc)))
            rw [str_size, sb_str _ hs8, List.length_take, Nat.min_eq_left h3.2, List.append_assoc, List.take_append_drop]
            exact hr.1
          · rw [stepR_no (by unfold rdT; rw [h2]; dsimp only; rw [if_neg h3])] at h; cases h
      · rename_i hk2
        rw [if_neg hk2]
        cases h2 : rdU l with
        | none => rw [stepR_no (by unfold rdB; rw [h2])] at h; cases h
        | some x =>
          obtain ⟨n, r'⟩ := x
          have hr := rdU_some h8 h2
          by_cases h3 : n ≤ 1
          · rw [stepR_yes (x := decide (n = 1)) (r := r') (by unfold rdB; rw [h2]; dsimp only; rw [if_pos h3])] at h
            cases h
            have hn : n = 0 ∨ n = 1 := by omega
            rcases hn with rfl | rfl
            · exact hr.1
            · exact hr.1
          · rw [stepR_no (by unfold rdB; rw [h2]; dsimp only; rw [if_neg h3])] at h; cases h
theorem gv_failed {k : Nat} {st : Option (List Nat)} {S : List Nat} {N : Nat} (h : gv k st = (N, S, none)) : N = 0 ∧ S = [] := by
  have no : ∀ {α : Type} {z : α} {rd : List Nat → Option (α × List Nat)}, (stepR z rd st).2 = none → (stepR z rd st).1 = z := by
    intro α z rd h
    cases st with
    | none => rfl
    | some l =>
      cases h2 : rd l with
      | none => rw [stepR_no h2]
      | some x => obtain ⟨x, r⟩ := x; rw [stepR_yes h2] at h; cases h
  unfold gv at h
  split at h
  · injection h with h1 h2; injection h2 with h2 h3
    exact ⟨h1.symm.trans (no h3), h2.symm⟩
  · split at h
    · injection h with h1 h2; injection h2 with h2 h3
      exact ⟨by rw [← h1, no h3]; rfl, h2.symm⟩
    · split at h
      · injection h with h1 h2; injection h2 with h2 h3
        exact ⟨h1.symm, h2.symm.trans (no h3)⟩
      · injection h with h1 h2; injection h2 with h2 h3
        exact ⟨by rw [← h1, no h3]; rfl, h2.symm⟩
theorem pv_zero (k : Nat) : pv k 0 (str []) = [0] := by
  have h0 : digs 0 = [0] := digs_small (by omega)
  unfold pv
  split
  · exact h0
  · split
    · exact h0
    · split
      · show digs 0 ++ sb (str []) = [0]
        rw [h0]; rfl
      · exact h0
theorem gv_n {k : Nat} {st st' : Option (List Nat)} {S : List Nat} {N : Nat} (h : gv k st = (N, S, st')) : N < 18446744073709551616 := by
  unfold gv at h
  split at h
  · injection h with h1 h2
    rw [← h1]
    cases st with
    | none => show 0 < 18446744073709551616; omega
    | some l =>
      cases h2 : rdU l with
      | none => rw [stepR_no h2]; omega
      | some x => obtain ⟨n, r'⟩ := x; rw [stepR_yes h2]; exact rdU_lt h2
  · split at h
    · injection h with h1 h2
      rw [← h1]
      exact u64_lt (stepI_in st)
    · split at h
      · injection h with h1 h2; omega
      · injection h with h1 h2
        rw [← h1]; split <;> omega
theorem gv_s {k : Nat} {st st' : Option (List Nat)} {S : List Nat} {N : Nat} (h : gv k st = (N, S, st')) : S.length ≤ 65536 := by
  unfold gv at h
  split at h
  · injection h with h1 h2; injection h2 with h2 h3; rw [← h2]; simp
  · split at h
    · injection h with h1 h2; injection h2 with h2 h3; rw [← h2]; simp
    · split at h
      · injection h with h1 h2; injection h2 with h2 h3
        rw [← h2]
        cases st with
        | none => show ([] : List Nat).length ≤ 65536; simp
        | some l =>
          cases h2 : rdU l with
          | none => rw [stepR_no (by unfold rdT; rw [h2])]; simp
          | some x =>
            obtain ⟨n, r'⟩ := x
            by_cases h3 : n ≤ 65536 ∧ n ≤ r'.length
            · rw [stepR_yes (x := r'.take n) (r := r'.drop n) (by unfold rdT; rw [h2]; dsimp only; rw [if_pos h3])]
              rw [List.length_take]; omega
            · rw [stepR_no (by unfold rdT; rw [h2]; dsimp only; rw [if_neg h3])]; simp
      · injection h with h1 h2; injection h2 with h2 h3; rw [← h2]; simp

/-- Between two rounds: what was read was written. -/
def OneAt (l0 lw : List Nat) (st : Option (List Nat)) : Prop := lw.length + left st ≤ 2001 ∧ ∀ r, st = some r → l0 = lw ++ r
theorem OneAt.next {l0 lw : List Nat} {st st' : Option (List Nat)} {k N : Nat} {S : List Nat} (h8 : ∀ c ∈ l0, c < 256) (hl : l0.length ≤ 2000) (h : OneAt l0 lw st) (hp : 0 < left st) (hg : gv k st = (N, S, st')) : OneAt l0 (lw ++ pv k N (str S)) st' := by
  cases st with
  | none => exact absurd hp (Nat.lt_irrefl 0)
  | some l =>
    have e := h.2 l rfl
    have h8' : ∀ c ∈ l, c < 256 := fun c hc => h8 c (by rw [e]; exact List.mem_append.2 (.inr hc))
    have hle : lw.length + l.length = l0.length := by rw [e, List.length_append]
    cases st' with
    | none =>
      obtain ⟨rfl, rfl⟩ := gv_failed hg
      rw [pv_zero]
      refine ⟨?_, fun r hr => by cases hr⟩
      have : 0 < l.length := hp
      show (lw ++ [0]).length + 0 ≤ 2001
      simp; omega
    | some r =>
      have e2 := gv_one h8' hg
      have e3 : l0 = (lw ++ pv k N (str S)) ++ r := by rw [List.append_assoc, ← e2]; exact e
      refine ⟨?_, fun r' hr => by cases hr; exact e3⟩
      have := congrArg List.length e3
      rw [List.length_append] at this
      show _ + r.length ≤ 2001
      omega

theorem equal_same (F G : Nat → Prop) (v u : Value) (l : List Nat) (w : World) (hv : Bs w F v l) (hu : Bs w G u l) :
    Calls Try.prog 19 #[v, u] w fun e w' => e = .returned (.bool true) ∧ w = w' := by
  have := equal_any F G v u l l w hv hu
  rwa [decide_eq_true rfl] at this
set_option maxRecDepth 100000 in
set_option maxHeartbeats 2000000 in
theorem one_go (a0 : Option Addr) (cap0 : Nat) (l0 : List Nat) (a1 : Option Addr) (cap1 : Nat) (l1 : List Nat) (w : World)
    (h0 : Bs w (Old w) (.slice a0 l0.length cap0) l0) (h1 : Bs w (Old w) (.slice a1 l1.length cap1) l1) (hl : l0.length ≤ 2000) (hk0 : 0 < l1.length) (hk1 : l1.length ≤ 100) :
    Calls Try.prog 7 #[.slice a0 l0.length cap0, .slice a1 l1.length cap1] w fun e w' => e = .returned (.bool true) ∧ Below w.heap.size w w' := by
  have hd : decide (2000 < (l0.length : Int)) = false := decide_eq_false (by omega)
  have hd1 : ((l1.length : Int) == 0) = false := by rw [beq_eq_false_iff_ne]; omega
  have hd2 : decide (100 < (l1.length : Int)) = false := decide_eq_false (by omega)
  have B0 := Lib.hid h0
  have B1 := Lib.hid h1
  have H := Lib.hid (Has.start w)
  clear h0 h1
  go_enter Try.func7, Try.ntmps7
  go_wp2_with fail
  refine (h_read w _ _ (Old w) _ l0 H.out B0.out (fun k hk => hk) (by omega)).mono ?_
  rintro e w1 ⟨p, rfl, h, _⟩
  have H := Lib.hid h
  clear h
  go_wp2_with fail
  refine (h_new w _ _ H.out).mono ?_
  rintro e w2 ⟨q, rfl, h⟩
  have H := Lib.hid h
  clear h
  go_wp2
  go_loopw [7] (fun i wr => ∃ (j : Nat) (st : Option (List Nat)) (lw : List Nat), j ≤ 2000 ∧ i = .int .i64 j ∧ OneAt l0 lw st ∧ Has w wr [Wr TW q lw, Rd TR mkP p st]) (fun i _ => 2000 - (intOf i).toNat)
  case atStart => exact ⟨0, some l0, [], Nat.zero_le _, rfl, ⟨by show 0 + l0.length ≤ 2001; omega, fun r hr => by cases hr; rfl⟩, H.out⟩
  case round =>
    obtain ⟨j, st, lw, hj, rfl, hone, h⟩ := hrel
    have H := Lib.hid h.swap
    have HO := Lib.hid hone
    by_cases hgo : 0 < left st ∧ j < 2000
    · obtain ⟨hp, hj2⟩ := hgo
      have HP := Lib.hid hp
      have dp : decide (0 < ((left st : Nat) : Int)) = true := decide_eq_true (by omega)
      have hx : j % l1.length < l1.length := Nat.mod_lt _ hk0
      have em : (j : Int) % (l1.length : Int) = ((j % l1.length : Nat) : Int) := by omega
      generalize j % l1.length = x at *
      obtain ⟨b, off, ha, hcell⟩ := (B1.out.late h.bel).at_ hx
      have hk := byte_lt B1.out.1 x
      subst ha
      clear h hone hp
      generalize l1.getD x 0 = k at *
      obtain ⟨N, S, st', hg⟩ : ∃ N S st', gv k st = (N, S, st') := ⟨_, _, _, rfl⟩
      have HG := Lib.hid hg
      clear hg
      go_wp2_with fail
      refine (h_left w _ _ p st H.out).mono ?_
      rintro e w' ⟨rfl, rfl⟩
      have el : ((st.getD []).length : Int) = ((left st : Nat) : Int) := rfl
      rw [el]
      clear el
      go_wp2_with fail
      refine (h_get w _ _ p st k N S st' HG.out H.out hk (by have := HO.out.1; show left st ≤ _; omega)).mono ?_
      rintro e w3 ⟨rfl, h⟩
      have H := Lib.hid h.swap
      clear h
      go_wp2_with fail
      refine (h_put w _ _ q lw k N (str S) H.out hk (gv_n HG.out) (by rw [str_size]; have := gv_s HG.out; omega) (by have := HO.out.1; omega)).mono ?_
      rintro e w4 ⟨rfl, h⟩
      have H := Lib.hid h
      clear h
      go_wp2
      go_roundw
      case rel => exact ⟨j + 1, st', _, by omega, by go_num, HO.out.next B0.out.1 hl HP.out HG.out, H.out⟩
      case measure => simp [intOf]; omega
    · by_cases hp : 0 < left st
      · skip
        have hj2 : 2000 ≤ j := by omega
        clear hgo h hone
        go_wp2_with fail
        refine (h_left w _ _ p st H.out).mono ?_
        rintro e w' ⟨rfl, rfl⟩
        have el : ((st.getD []).length : Int) = ((left st : Nat) : Int) := rfl
        rw [el]
        clear el
        go_wp2_with fail
        refine (h_end w _ _ p st H.out).mono ?_
        rintro e w' ⟨rfl, rfl⟩
        by_cases hz : st = some []
        · have e0 : endE st = 0 := by rw [hz]; rfl
          have e1 : lw = l0 := by have := HO.out.2 [] hz; rw [List.append_nil] at this; exact this.symm
          rw [e0]
          have H2 := Lib.hid (show Has w wr [Wr TW q l0, Rd TR mkP p st] by rw [← e1]; exact H.out.swap)
          clear e0 hz e1 H
          go_wp2_with fail
          refine (h_bytes w _ _ q l0 H2.out (by omega)).mono ?_
          rintro e w5 ⟨a5, c5, rfl, h⟩
          obtain ⟨F5, hF5, _⟩ := h.fst
          have HE := Lib.hid (equal_same F5 (Old w) _ _ l0 _ (ow_bs hF5) (B0.out.late h.bel))
          have H := Lib.hid h
          clear h hF5
          go_wp2_with fail
          refine HE.out.mono ?_
          rintro e w' ⟨rfl, rfl⟩
          go_wp2_with fail
          refine (works_any _).mono ?_
          rintro e w6 ⟨rfl, hb⟩
          have H := Lib.hid (H.out.below hb)
          clear hb
          go_wp2
          go_ret
          exact ⟨rfl, H.out.bel⟩
        · have e0 : endE st = 10 := by unfold endE; rw [if_neg hz]
          rw [e0]
          clear e0 hz
          go_wp2_with fail
          refine (works_any _).mono ?_
          rintro e w6 ⟨rfl, hb⟩
          have H := Lib.hid (H.out.below hb)
          clear hb
          go_wp2
          go_ret
          exact ⟨rfl, H.out.bel⟩
      · have hp0 : left st = 0 := by omega
        clear hgo hp h hone
        go_wp2_with fail
        refine (h_left w _ _ p st H.out).mono ?_
        rintro e w' ⟨rfl, rfl⟩
        have el : ((st.getD []).length : Int) = ((left st : Nat) : Int) := rfl
        rw [el]
        clear el
        go_wp2_with fail
        refine (h_end w _ _ p st H.out).mono ?_
        rintro e w' ⟨rfl, rfl⟩
        by_cases hz : st = some []
        · have e0 : endE st = 0 := by rw [hz]; rfl
          have e1 : lw = l0 := by have := HO.out.2 [] hz; rw [List.append_nil] at this; exact this.symm
          rw [e0]
          have H2 := Lib.hid (show Has w wr [Wr TW q l0, Rd TR mkP p st] by rw [← e1]; exact H.out.swap)
          clear e0 hz e1 H
          go_wp2_with fail
          refine (h_bytes w _ _ q l0 H2.out (by omega)).mono ?_
          rintro e w5 ⟨a5, c5, rfl, h⟩
          obtain ⟨F5, hF5, _⟩ := h.fst
          have HE := Lib.hid (equal_same F5 (Old w) _ _ l0 _ (ow_bs hF5) (B0.out.late h.bel))
          have H := Lib.hid h
          clear h hF5
          go_wp2_with fail
          refine HE.out.mono ?_
          rintro e w' ⟨rfl, rfl⟩
          go_wp2_with fail
          refine (works_any _).mono ?_
          rintro e w6 ⟨rfl, hb⟩
          have H := Lib.hid (H.out.below hb)
          clear hb
          go_wp2
          go_ret
          exact ⟨rfl, H.out.bel⟩
        · have e0 : endE st = 10 := by unfold endE; rw [if_neg hz]
          rw [e0]
          clear e0 hz
          go_wp2_with fail
          refine (works_any _).mono ?_
          rintro e w6 ⟨rfl, hb⟩
          have H := Lib.hid (H.out.below hb)
          clear hb
          go_wp2
          go_ret
          exact ⟨rfl, H.out.bel⟩

theorem one_long (a0 : Option Addr) (len0 cap0 : Nat) (a1 : Option Addr) (len1 cap1 : Nat) (w : World) (hl : 2000 < len0 ∨ len1 = 0 ∨ 100 < len1) :
    Calls Try.prog 7 #[.slice a0 len0 cap0, .slice a1 len1 cap1] w fun e w' => e = .returned (.bool true) ∧ Below w.heap.size w w' := by
  by_cases h0 : 2000 < len0
  · have hd : decide (2000 < (len0 : Int)) = true := decide_eq_true (by omega)
    go_enter Try.func7, Try.ntmps7
    go_wp2_with (go_at_call 13; refine (works_any _).mono ?_; rintro e w1 ⟨rfl, hb⟩)
    go_ret
    exact ⟨rfl, hb⟩
  · have hd : decide (2000 < (len0 : Int)) = false := decide_eq_false (by omega)
    by_cases h1 : len1 = 0
    · subst h1
      go_enter Try.func7, Try.ntmps7
      go_wp2_with (go_at_call 13; refine (works_any _).mono ?_; rintro e w1 ⟨rfl, hb⟩)
      go_ret
      exact ⟨rfl, hb⟩
    · have hd1 : ((len1 : Int) == 0) = false := by rw [beq_eq_false_iff_ne]; omega
      have hd2 : decide (100 < (len1 : Int)) = true := decide_eq_true (by omega)
      clear h1 hl
      go_enter Try.func7, Try.ntmps7
      go_wp2_with (go_at_call 13; refine (works_any _).mono ?_; rintro e w1 ⟨rfl, hb⟩)
      go_ret
      exact ⟨rfl, hb⟩
theorem w_wireOne (a0 : Option Addr) (len0 cap0 : Nat) (z0 : List Int) (a1 : Option Addr) (len1 cap1 : Nat) (z1 : List Int) (w : World) (w0 : IsRow .u8 w a0 len0 cap0 z0) (w1 : IsRow .u8 w a1 len1 cap1 z1) :
    Calls Try.prog 7 #[.slice a0 len0 cap0, .slice a1 len1 cap1] w fun e w' => e = .returned (.bool true) ∧ Below w.heap.size w w' := by
  obtain ⟨l0, hl0, h0⟩ := row_bs w0
  obtain ⟨l1, hl1, h1⟩ := row_bs w1
  by_cases h : 2000 < len0 ∨ len1 = 0 ∨ 100 < len1
  · exact one_long a0 len0 cap0 a1 len1 cap1 w h
  · subst hl0 hl1
    exact one_go a0 cap0 l0 a1 cap1 l1 w h0 h1 (by omega) (by omega) (by omega)
end Go.Proofs.Ytnkmiigcglddmaa.Wire
