/- The reader: phase; an effect; ParseEffect. -/
import Derived.Test.YtllhgjenkchniaaDoorI05
namespace Go.Proofs.YtllhgjenkchniaaDoor.Ident
open Go.RowKit Go.Lib
set_option linter.unusedVariables false
set_option linter.unusedSimpArgs false
set_option maxRecDepth 20000

theorem trim_no {l p : List UInt8} (h : hasPrefix l p = false) : trimPrefix l p = l := by unfold trimPrefix; rw [h]; rfl
theorem trim_yes {l p : List UInt8} (h : hasPrefix l p = true) : trimPrefix l p = l.drop p.length := by unfold trimPrefix; rw [if_pos h]
/-- What the letters before the k-th say. -/
def noLet (l : List UInt8) (k : Nat) : Prop := (1 ≤ k → hasPrefix l [102] = false) ∧ (2 ≤ k → hasPrefix l [117] = false) ∧ (3 ≤ k → hasPrefix l [114] = false)
theorem phP_at (l : List UInt8) (k : Nat) (hk : k < 3) (h : noLet l k) (hm : hasPrefix l [letB (k + 1)] = true) : phP l = k + 1 := by
  obtain ⟨h1, h2, h3⟩ := h
  obtain rfl | rfl | rfl : k = 0 ∨ k = 1 ∨ k = 2 := by omega
  · unfold phP; rw [if_pos (show hasPrefix l [102] = true from hm)]
  · unfold phP; rw [h1 (by omega), if_neg (by simp), if_pos (show hasPrefix l [117] = true from hm)]
  · unfold phP; rw [h1 (by omega), if_neg (by simp), h2 (by omega), if_neg (by simp), if_pos (show hasPrefix l [114] = true from hm)]
theorem phP_no (l : List UInt8) (h : noLet l 3) : phP l = 0 := by
  obtain ⟨h1, h2, h3⟩ := h
  unfold phP; rw [h1 (by omega), if_neg (by simp), h2 (by omega), if_neg (by simp), h3 (by omega), if_neg (by simp)]
theorem noLet_succ (l : List UInt8) (k : Nat) (hk : k < 3) (h : noLet l k) (hm : hasPrefix l [letB (k + 1)] = false) : noLet l (k + 1) := by
  obtain ⟨h1, h2, h3⟩ := h
  obtain rfl | rfl | rfl : k = 0 ∨ k = 1 ∨ k = 2 := by omega
  · exact ⟨fun _ => hm, fun h => by omega, fun h => by omega⟩
  · exact ⟨fun _ => h1 (by omega), fun _ => hm, fun h => by omega⟩
  · exact ⟨fun _ => h1 (by omega), fun _ => h2 (by omega), fun _ => hm⟩
theorem let_cut (k : Nat) (hk : k < 3) (w : World) : (Instr.slice 9 (.string ⟨#[102, 117, 114]⟩) (some (.int .i64 k)) (some (.int .i64 ((k : Int) + 1))) none).run Tryd.prog w = .ok (.string (tx [letB (k + 1)])) w := by
  rw [run_slice_string _ _ _ _ _ _ _ Tryd.underlying9 (by omega) (by omega) (by show ((k : Int) + 1) ≤ 3; omega)]
  obtain rfl | rfl | rfl : k = 0 ∨ k = 1 ∨ k = 2 := by omega
  all_goals rfl
theorem let_cut_ex (k : Nat) (hk : k < 3) : (ByteArray.mk #[102, 117, 114]).extract k (k + 1) = tx [letB (k + 1)] := by
  obtain rfl | rfl | rfl : k = 0 ∨ k = 1 ∨ k = 2 := by omega
  all_goals rfl

theorem ret_i64 {a b : Int} (h : a = b) : Ending.returned (.int .i64 a) = .returned (.int .i64 b) := by rw [h]
theorem phase_any (b : Nat) (r : Rd) (w : World) (hr : RdAt w b r) :
    Calls Tryd.prog 64 #[.pointer (some ⟨b, 0, none⟩)] w fun e w' => e = .returned (.int .i64 (phP r.rest : Nat)) ∧ RdAt w' b (phR r) ∧ But b w w' := by
  have HR := Lib.hid hr
  clear hr
  go_enter Tryd.func64, Tryd.ntmps64
  go_wp2
  go_loopw [3, 4] (fun _ i wr => ∃ k : Nat, k ≤ 3 ∧ i = .int .i64 k ∧ noLet r.rest k ∧ RdAt wr b r ∧ But b w wr) (fun _ i _ => 3 - (intOf i).toNat)
  case atStart => exact ⟨0, by omega, rfl, ⟨fun h => by omega, fun h => by omega, fun h => by omega⟩, HR.out, But.refl _ _⟩
  case round =>
    obtain ⟨k, hk, rfl, hno, hr, hbut⟩ := hrel
    by_cases hlt : k < 3
    · have hcut := let_cut k hlt
      have hw1 : IntKind.i64.wrap ((k : Int) + 1) = (k : Int) + 1 := by rw [IntKind.wrap_i64]; omega
      cases hm : hasPrefix r.rest [letB (k + 1)] with
      | true =>
        have hp := phP_at _ k hlt hno hm
        have hR : phR r = ⟨trimPrefix r.rest [letB (k + 1)], r.wrong⟩ := by unfold phR; rw [hp, if_neg (by omega), trim_yes hm]; rfl
        have hsk := skip_any b r [letB (k + 1)]
        rw [hm] at hsk
        replace hsk := Lib.hid hsk
        replace hR := Lib.hid hR
        replace hp := Lib.hid hp
        replace hno := Lib.hid hno
        clear hm
        go_wp2_with (go_at_call 65; refine (hsk.out _ hr).mono ?_; rintro e w1 ⟨rfl, hr1, hb1⟩)
        go_ret
        exact ⟨ret_i64 (by have := hp.out; omega), by rw [hR.out]; exact hr1, hbut.trans hb1⟩
      | false =>
        have hsk := skip_any b r [letB (k + 1)]
        rw [hm, trim_no hm] at hsk
        replace hsk := Lib.hid hsk
        have hn := Lib.hid (noLet_succ _ k hlt hno hm)
        clear hm hno
        go_wp2_with (go_at_call 65; refine (hsk.out _ hr).mono ?_; rintro e w1 ⟨rfl, hr1, hb1⟩)
        go_roundw
        case rel => exact ⟨k + 1, by omega, by go_num, hn.out, hr1, hbut.trans hb1⟩
        case measure => simp [intOf]; omega
    · obtain rfl : k = 3 := by omega
      have hp := phP_no _ hno
      have hR : phR r = ⟨r.rest, true⟩ := by unfold phR; rw [hp, if_pos rfl]
      replace hR := Lib.hid hR
      replace hp := Lib.hid hp
      have c1 := hr.c1
      have f1 := hr.fr 1
      have hs := hr.set1 true
      clear hno
      go_wp2
      go_ret
      exact ⟨ret_i64 (by have := hp.out; omega), by rw [hR.out]; exact hs, hbut.setCell _ _⟩
end Go.Proofs.YtllhgjenkchniaaDoor.Ident
