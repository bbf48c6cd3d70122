/- The document's Check, Cut; same. -/
import Derived.Test.YtfodgdcdpdlikaaDoorF22
import Derived.Test.YtfodgdcdpdlikaaDoorF15
namespace Go.Proofs.YtfodgdcdpdlikaaDoor.Frame
open Go.RowKit Go.ChangeShapes
open Crc (Hv more more_lt ret_u32)
set_option linter.unusedVariables false
set_option linter.unusedSimpArgs false

theorem next_err {w : World} {k E : Nat} {c : List Nat} {e : Ending} {w' : World} (h : NextE w k E c e w') : ∃ x v y, e = .returned (.tuple #[.agg #[.int .i64 x, v], .int .i64 y, .int .i64 (E : Nat)]) ∧ (∃ a n cap, v = .slice a n cap) ∧ Below w.heap.size w w' := by
  obtain ⟨v, h1, h2, h3⟩ := h
  obtain ⟨a, cap, e⟩ := h2.form
  exact ⟨_, v, _, h1, ⟨a, _, cap, e⟩, h3⟩
set_option maxHeartbeats 2000000 in
theorem rcheck_is (F : Nat → Prop) (v : Value) (b : List Nat) (w : World) (hv : Bs w F v b) (hF : ∀ k, F k → k < w.heap.size) (hlen : b.length ≤ 100000000) :
    Calls Tryd.prog 26 #[v] w fun e w' => e = .returned (.int .i64 (checkE b : Nat)) ∧ Below w.heap.size w w' := by
  have HV := Lib.hid hv
  obtain ⟨h8, a, cap, rfl, _⟩ := hv
  have htot := chain_tot b h8
  have hce : checkE b = if tot (chain b) = b.length then 0 else restE (b.drop (tot (chain b))) := rfl
  have HA := rall_any F _ b w HV.out hF hlen
  generalize checkE b = C at *
  have hlk := fun w1 (h : Below w.heap.size w w1) => rnext_at F (.slice a b.length cap) b ((tot (chain b) : Nat) : Int) w1 (HV.out.kept (Same.of_below h hF)) (fun k hk => Nat.lt_of_lt_of_le (hF k hk) h.size) hlen
  unfold NextA at hlk
  rw [lkE_in htot, Int.toNat_natCast] at hlk
  generalize chain b = L at *
  generalize tot L = T at *
  have HA2 := Lib.hid HA
  have HC := Lib.hid hce
  have HL := Lib.hid hlk
  clear HA hce hlk
  go_enter Tryd.func26, Tryd.ntmps26
  go_wp2_with fail
  refine HA2.out.mono ?_
  rintro e w1 ⟨u, rfl, hfr, hb1⟩
  by_cases hT : T = b.length
  · have hC0 : C = 0 := by rw [HC.out, if_pos hT]
    subst hC0
    have hT2 : ((T : Int) == (b.length : Int)) = true := by simp; omega
    replace hT := Lib.hid hT
    go_wp2
    go_ret
    exact ⟨rfl, hb1⟩
  · have hC0 : C = restE (b.drop T) := by rw [HC.out, if_neg hT]
    have hT2 : ((T : Int) == (b.length : Int)) = false := by simp; omega
    replace hT := Lib.hid hT
    rw [← hC0] at HL
    clear hC0 HC
    go_wp2_with fail
    refine (HL.out _ hb1).mono ?_
    rintro e w2 hN
    obtain ⟨x, v, y, rfl, ⟨a2, n2, cap2, rfl⟩, hb2⟩ := next_err hN
    have hb3 : Below w.heap.size w (w2.alloc (.cells #[.int .i64 x, .slice a2 n2 cap2] TRF)) := hb1.trans ((hb2.trans (((Below.refl _ _).alloc (Nat.le_refl _) _).mono hb2.size)).mono hb1.size)
    clear hN
    go_wp2
    go_ret
    exact ⟨rfl, hb3⟩
theorem rcut_any (F : Nat → Prop) (v : Value) (b : List Nat) (n : Int) (w : World) (hv : Bs w F v b) (hF : ∀ k, F k → k < w.heap.size) (hlen : b.length ≤ 100000000) :
    Calls Tryd.prog 23 #[v, .int .i64 n] w fun e w' => e = .returned (.tuple #[.int .i64 (cutN b n : Nat), .int .i64 (cutE b n : Nat)]) ∧ Below w.heap.size w w' := by
  have hv0 := hv
  obtain ⟨_, a, cap, rfl, hcap, _⟩ := hv0
  by_cases h : n < 0 ∨ (b.length : Int) < n
  · unfold cutN cutE
    rw [if_pos h, if_pos h]
    by_cases h0 : n < 0
    · have hd : decide (n < 0) = true := by simpa using h0
      go_enter Tryd.func23, Tryd.ntmps23
      go_wp2
      go_ret2
      exact ⟨rfl, Below.refl _ _⟩
    · have hd : decide (n < 0) = false := by simpa using h0
      have hd2 : decide ((b.length : Int) < n) = true := by simp; omega
      go_enter Tryd.func23, Tryd.ntmps23
      go_wp2
      go_ret2
      exact ⟨rfl, Below.refl _ _⟩
  · obtain ⟨m, rfl⟩ := Int.eq_ofNat_of_zero_le (show 0 ≤ n by omega)
    unfold cutN cutE
    rw [if_neg h, if_neg h, Int.toNat_natCast]
    have hm : m ≤ b.length := by omega
    have hd : decide (((m : Nat) : Int) < 0) = false := by simp
    have hd2 : decide (b.length < m) = false := by simp; omega
    have tu := fun w => upto_run a b.length cap m (by omega) w
    have HA := Lib.hid (rall_any F _ (b.take m) w (hv.upto m hm) hF (by rw [List.length_take]; omega))
    generalize chain (b.take m) = L at *
    go_enter Tryd.func23, Tryd.ntmps23
    go_wp2_with fail
    refine HA.out.mono ?_
    rintro e w1 ⟨u, rfl, hfr, hb1⟩
    obtain ⟨a1, cap1, rfl⟩ := hfr.form
    go_wp2
    go_ret2
    exact ⟨rfl, hb1⟩
set_option maxRecDepth 100000 in
set_option maxHeartbeats 2000000 in
theorem same_is (T1 T2 : TypeId) (u1 u2 : Value) (B : Nat) (L : List (List Nat)) (w : World) (h1 : Frs T1 w B u1 L) (h2 : Frs T2 w B u2 L) (hL : L.length ≤ 100000000) :
    Calls Tryd.prog 24 #[u1, u2] w fun e w' => e = .returned (.bool true) ∧ Below w.heap.size w w' := by
  obtain ⟨a1, cap1, rfl⟩ := h1.form
  obtain ⟨a2, cap2, rfl⟩ := h2.form
  have H1 := Lib.hid h1
  have H2 := Lib.hid h2
  clear h1 h2
  go_enter Tryd.func24, Tryd.ntmps24
  go_wp2
  go_loopw [5] (fun i wr => ∃ j : Nat, j ≤ L.length ∧ i = .int .i64 j ∧ Below w.heap.size w wr) (fun i _ => L.length - (intOf i).toNat)
  case atStart => exact ⟨0, Nat.zero_le _, rfl, Below.refl _ _⟩
  case round =>
    obtain ⟨j, hj, rfl, hbj⟩ := hrel
    by_cases hlt : j < L.length
    · obtain ⟨g, a6, cap6, rfl, _, e0, e1, hm6⟩ := (H1.out.later hbj).at_ j hlt
      obtain ⟨g', a7, cap7, rfl, _, e2, e3, hm7⟩ := (H2.out.later hbj).at_ j hlt
      generalize L.getD j [] = d' at *
      generalize tot (L.take j) = tj at *
      have cv1 : ∀ q, (convert 22 9 (.slice a6 d'.length cap6)).run Tryd.prog (wr.drewN q) = .ok (.string (str d')) (wr.drewN q) := fun q => bs_str (show Bs (wr.drewN q) _ _ _ from hm6.bs)
      have cv2 : ∀ q, (convert 22 9 (.slice a7 d'.length cap7)).run Tryd.prog (wr.drewN q) = .ok (.string (str d')) (wr.drewN q) := fun q => bs_str (show Bs (wr.drewN q) _ _ _ from hm7.bs)
      go_wp2
      go_quiet (fail)
      go_wp2
      go_roundw
      case rel => exact ⟨j + 1, by omega, by go_num, drewN_b hbj _⟩
      case measure => simp [intOf]; omega
    · obtain rfl : j = L.length := by omega
      go_wp2
      go_ret
      exact ⟨rfl, hbj⟩
end Go.Proofs.YtfodgdcdpdlikaaDoor.Frame
