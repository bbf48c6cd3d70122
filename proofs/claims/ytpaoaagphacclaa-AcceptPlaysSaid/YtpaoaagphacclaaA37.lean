/- The document's acceptor: Forget Accepted. -/
import Derived.Test.YtpaoaagphacclaaA36
namespace Go.Proofs.Ytpaoaagphacclaa.Acc
open Go.RowKit Go.Maps Go.Lib
open Bal (TB bOk ckB ordV eqB eqB_t eqB_f eq_b alloc_b)
set_option linter.unusedVariables false
set_option linter.unusedSimpArgs false
set_option maxRecDepth 20000

def RFor (w : World) (rb : Nat) (s : St) (u : Int) (e : Ending) (w' : World) : Prop :=
  e = .returned (.int .i64 (forE u)) ∧ ∃ vl, Rx w' rb (forS s u) vl ∧ Keeps (fun i => i = rb) w w'
theorem fr_low {s : St} (h : OkS s) {u : Int} (hu : u ≤ s.b) : frM s.M u = s.M := by
  unfold frM
  rw [List.filter_eq_self]
  intro e he
  exact decide_eq_true (Int.le_trans hu (h.ent e he).1)
set_option maxHeartbeats 4000000 in
theorem rforget_any {rb : Nat} {s : St} {vl : Value} (u : Int) (w : World) (x : Rx w rb s vl) :
    Calls Try.prog 22 #[.pointer (some ⟨rb, 0, none⟩), .int .i64 u] w (RFor w rb s u) := by
  have HV := Lib.hid (rvalid_any w x)
  by_cases hu : 0 ≤ u ∧ u ≤ 4096
  · have b0 : decide (u < 0) = false := by simp; omega
    have b1 : decide (4096 < u) = false := by simp; omega
    have he : forE u = 0 := if_pos hu
    have hs : forS s u = ⟨s.n, s.r, s.m, max s.b u, frM s.M u⟩ := if_pos hu
    have hok := ok_for x.ok u
    by_cases hb : s.b < u
    · have b2 : decide (s.b < u) = true := decide_eq_true hb
      have hm : max s.b u = u := by omega
      rw [hs, hm] at hok
      have hfin : Hid (∀ W vl', Rx W rb ⟨s.n, s.r, s.m, u, frM s.M u⟩ vl' → Keeps (fun i => i = rb) w W → RFor w rb s u (.returned (.int .i64 0)) W) := Lib.hid fun W vl' h1 h2 => ⟨by rw [he], vl', by rw [hs, hm]; exact h1, h2⟩
      have HL := Lib.hid (rlist_any u w x)
      obtain ⟨_, _, _, _, c4, c5⟩ := x.cells
      have hX := Lib.hid x
      replace hok := Lib.hid hok
      clear x hu he hs hb hm
      go_enter Try.func22, Try.ntmps22
      go_wp2_with (first
        | (go_at_call 42; refine HV.out.mono ?_; rintro e w' ⟨rfl, rfl⟩)
        | (go_at_call 32; refine HL.out.mono ?_; rintro e w1 ⟨v1, rfl, hO1, hb1⟩; obtain ⟨a1, q1, rfl⟩ := rows_form hO1; have x1 := Lib.hid (hX.out.later hb1); have f4 := x1.out.frozen 4; have f5 := x1.out.frozen 5; obtain ⟨_, _, _, _, c4', c5'⟩ := x1.out.cells; replace hO1 := Lib.hid hO1; replace hb1 := Lib.hid hb1))
      go_ret
      have k1 : Keeps (fun i => i = rb) w1 ((w1.setCell ⟨rb, 4, none⟩ (.slice a1 (frM s.M u).length q1)).setCell ⟨rb, 5, none⟩ (.int .i64 u)) :=
        ((Keeps.refl (fun i => i = rb) w1).setCell (p := ⟨rb, 4, none⟩) (.inl rfl) _).setCell (p := ⟨rb, 5, none⟩) (.inl rfl) _
      have hlt := hX.out.lt
      refine hfin.out _ _ ⟨Go.heap_setCell_same _ rb 5 _ TRA (.int .i64 u) (Go.heap_setCell_same w1 rb 4 _ TRA _ x1.out.box), rows_base (rows_kept hO1.out fun i hi => k1.block i (World.ownsRow.lt hO1.out i hi).2 (by have := (World.ownsRow.lt hO1.out i hi).1; omega)) (Nat.zero_le _), hok.out⟩ (keeps_set hb1.out k1)
    · have b2 : decide (s.b < u) = false := decide_eq_false hb
      have hfin : Hid (RFor w rb s u (.returned (.int .i64 0)) w) := Lib.hid ⟨by rw [he], vl, by rw [hs, fr_low x.ok (by omega), show max s.b u = s.b by omega]; exact x, Keeps.refl _ _⟩
      obtain ⟨_, _, _, _, c4, c5⟩ := x.cells
      clear x hu he hs hb hok
      go_enter Try.func22, Try.ntmps22
      go_wp2_with (go_at_call 42; refine HV.out.mono ?_; rintro e w' ⟨rfl, rfl⟩)
      go_ret
      exact hfin.out
  · have hfin : Hid (RFor w rb s u (.returned (.int .i64 2)) w) := Lib.hid ⟨by rw [show forE u = 2 from if_neg hu], vl, by rw [show forS s u = s from if_neg hu]; exact x, Keeps.refl _ _⟩
    clear x
    by_cases h0 : u < 0
    · have b0 : decide (u < 0) = true := decide_eq_true h0
      clear hu h0
      go_enter Try.func22, Try.ntmps22
      go_wp2_with (go_at_call 42; refine HV.out.mono ?_; rintro e w' ⟨rfl, rfl⟩)
      go_ret
      exact hfin.out
    · have b0 : decide (u < 0) = false := decide_eq_false h0
      have b1 : decide (4096 < u) = true := by simp; omega
      clear hu h0
      go_enter Try.func22, Try.ntmps22
      go_wp2_with (go_at_call 42; refine HV.out.mono ?_; rintro e w' ⟨rfl, rfl⟩)
      go_ret
      exact hfin.out
end Go.Proofs.Ytpaoaagphacclaa.Acc
