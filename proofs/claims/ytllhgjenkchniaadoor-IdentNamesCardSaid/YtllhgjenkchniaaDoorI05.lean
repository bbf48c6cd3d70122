/- The reader: number, phase. -/
import Derived.Test.YtllhgjenkchniaaDoorI04
namespace Go.Proofs.YtllhgjenkchniaaDoor.Ident
open Go.RowKit Go.Lib
set_option linter.unusedVariables false
set_option linter.unusedSimpArgs false

theorem isDig_bytes {c : UInt8} : (isDig c = true → decide ((48 : Int) ≤ (c.toNat : Int)) = true ∧ decide ((c.toNat : Int) ≤ 57) = true) ∧
    (isDig c = false → decide ((48 : Int) ≤ (c.toNat : Int)) = false ∨ (decide ((48 : Int) ≤ (c.toNat : Int)) = true ∧ decide ((c.toNat : Int) ≤ 57) = false)) := by
  unfold isDig
  simp only [decide_eq_true_iff, decide_eq_false_iff_not]
  constructor
  · intro h; omega
  · intro h; omega
/-- What is known behind the digits. -/
def NumTo (w : World) (b : Nat) (r : Rd) (e : Ending) (w' : World) : Prop := e = .returned (.int .i64 (numV r.rest)) ∧ RdAt w' b (numR r) ∧ But b w w'
set_option maxRecDepth 20000 in
theorem number_any (b : Nat) (r : Rd) (w : World) (hr : RdAt w b r) (hH : Hv w) (hf : Far b) (hl : r.rest.length ≤ 100000000) :
    Calls Tryd.prog 62 #[.pointer (some ⟨b, 0, none⟩)] w (NumTo w b r) := by
  have c0 := hr.c0
  have f0 := hr.fr 0
  have hnl := num_len r.rest
  have hsz := tx_size r.rest
  have hcd := cut_d r.rest
  have hce := cut_e r.rest
  have hset := hr.set0 (numE r.rest)
  have hA := fun w hH => atoi_any (numD r.rest) (by omega) w hH
  have hI := fun w hH => itoa_int (atV (numD r.rest)) (atV_ok _).1 (atV_ok _).2 w hH
  have hbq := tx_beq (itoa (atV (numD r.rest))) (numD r.rest)
  have hdig := take_dig r.rest
  have hstop := stop_dig r.rest
  have hget : ∀ (k : Nat) (h : k < (tx r.rest).size) (h2 : k < r.rest.length), (tx r.rest)[k]'h = r.rest[k]'h2 := fun k h _ => tx_get r.rest k h
  have hK : numK r.rest = (atK (numD r.rest) && decide (itoa (atV (numD r.rest)) = numD r.rest)) := by
    unfold numK atK atV
    cases atoiAll (numD r.rest) <;> simp
  have hV : atV (numD r.rest) = numV r.rest := rfl
  unfold NumTo numR
  rw [← hV, hK]
  clear hV hK
  have hset2 : ∀ x : Bool, RdAt ((w.setCell ⟨b, 0, none⟩ (.string (tx (numE r.rest))))) b ⟨numE r.rest, r.wrong⟩ := fun _ => hset
  generalize hD : numD r.rest = D at *
  generalize hE : numE r.rest = E at *
  generalize hs : tx r.rest = s at *
  generalize hv : atV D = v at *
  have hsl : D.length ≤ s.size := by omega
  rw [hsz] at hce
  have HG := Lib.hid hget
  have HDG := Lib.hid hdig
  have HST := Lib.hid hstop
  replace hA := Lib.hid hA
  replace hI := Lib.hid hI
  replace hset := Lib.hid hset
  clear hget hdig hstop hset2 hs hD hE hv hr
  generalize hn : D.length = n at *
  clear hn
  go_enter Tryd.func62, Tryd.ntmps62
  go_wp2
  go_loop [3] (fun i => ∃ k : Nat, k ≤ n ∧ i = .int .i64 k) (fun i => n - (intOf i).toNat)
  case atStart => exact ⟨0, Nat.zero_le _, rfl⟩
  case round =>
    obtain ⟨k, hk, rfl⟩ := hrel
    by_cases hlt : k < n
    · have hks : k < s.size := by omega
      obtain ⟨hk1, hkd⟩ := HDG.out k hlt
      rw [← HG.out k hks hk1] at hkd
      obtain ⟨b1, b2⟩ := isDig_bytes.1 hkd
      clear hkd
      go_wp2
      go_round
      case rel => exact ⟨k + 1, by omega, by go_num⟩
      case measure => simp [intOf]; omega
    · obtain rfl : k = n := by omega
      have hHs : Hv (w.setCell ⟨b, 0, none⟩ (.string (tx E))) := hH.but ((But.refl _ _).setCell _ _) hf
      replace hHs := Lib.hid hHs
      have hstp : k < s.size → (decide ((48 : Int) ≤ ((s.get! k).toNat : Int)) = true → True) := fun _ _ => trivial
      have hsplit : ¬ k < s.size ∨ ∃ h : k < s.size, (decide ((48 : Int) ≤ ((s[k]'h).toNat : Int)) = false ∨ (decide ((48 : Int) ≤ ((s[k]'h).toNat : Int)) = true ∧ decide (((s[k]'h).toNat : Int) ≤ 57) = false)) := by
        by_cases h : k < s.size
        · right
          refine ⟨h, ?_⟩
          have h2 := HST.out (by omega)
          rw [← HG.out k h (by omega)] at h2
          exact isDig_bytes.2 h2
        · exact .inl h
      clear HG HST HDG hlt hstp
      rcases hsplit with h0 | ⟨h0, b1 | ⟨b1, b2⟩⟩
      all_goals
        go_wp2_with (go_at_call 74; refine (hA.out _ hHs.out).mono ?_; rintro e w1 ⟨ev, rfl, hcase, hb1⟩)
        have hr1 := hset.out.later hb1
        have hbut : But b w w1 := ((But.refl b w).setCell 0 _).trans (But.of_below hb1)
        have hH1 := Lib.hid (hHs.out.later hb1)
        have c1 := hr1.c1
        have f1 := hr1.fr 1
        have hs1 := hr1.set1 true
        replace hr1 := Lib.hid hr1
        replace hs1 := Lib.hid hs1
        replace hb1 := Lib.hid hb1
        replace hbut := Lib.hid hbut
        replace hcase := Lib.hid hcase
        clear hcd hce c0 f0
        rcases hcase.out with ⟨hk1, rfl⟩ | ⟨hk1, t, p, rfl⟩
        all_goals (replace hk1 := Lib.hid hk1)
        all_goals clear hcase
        · by_cases he : itoa v = D
          · have hq : ((tx (itoa v)).toList == (tx D).toList) = true := by rw [hbq]; simpa using he
            clear hbq
            go_wp2_with (go_at_call 39; refine (hI.out _ hH1.out).mono ?_; rintro e w2 ⟨rfl, hb2⟩)
            go_ret
            refine ⟨rfl, ?_, hbut.out.trans (But.of_below hb2)⟩
            rw [show (r.wrong || !(atK D && decide (itoa v = D))) = r.wrong by rw [hk1.out, decide_eq_true he]; simp]
            exact hr1.out.later hb2
          · have hq : ((tx (itoa v)).toList == (tx D).toList) = false := by rw [hbq]; simpa using he
            clear hbq
            go_wp2_with (go_at_call 39; refine (hI.out _ hH1.out).mono ?_; rintro e w2 ⟨rfl, hb2⟩; have hr2 := hr1.out.later hb2; have c2 := hr2.c1; have f2 := hr2.fr 1; have hs2 := hr2.set1 true)
            go_ret
            refine ⟨rfl, ?_, (hbut.out.trans (But.of_below hb2)).setCell _ _⟩
            rw [show (r.wrong || !(atK D && decide (itoa v = D))) = true by rw [decide_eq_false he]; simp]
            exact hs2
        · clear hbq
          go_wp2
          go_ret
          refine ⟨rfl, ?_, hbut.out.setCell _ _⟩
          rw [show (r.wrong || !(atK D && decide (itoa v = D))) = true by rw [hk1.out]; simp]
          exact hs1.out
end Go.Proofs.YtllhgjenkchniaaDoor.Ident
