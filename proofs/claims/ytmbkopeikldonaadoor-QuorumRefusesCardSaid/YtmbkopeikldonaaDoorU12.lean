/- Plain facts on sets of a group; the walks of QuorumCrashes and QuorumGrows. -/
import Derived.Test.YtmbkopeikldonaaDoorU11
namespace Go.Proofs.YtmbkopeikldonaaDoor.Quo
open Go.RowKit Go.Lib Go.Shelf
set_option linter.unusedVariables false
set_option linter.unusedSimpArgs false
set_option maxRecDepth 20000

theorem pc_compl : ∀ n, n < 8 → ∀ x, x < 128 → x ≤ all1 n → pc (all1 n - x) = n - pc x ∧ pc x ≤ n := by decide +kernel
theorem ck_in {n x : Nat} (h1 : 1 ≤ n) (h7 : n ≤ 7) (h : x ≤ all1 n) : ckI n [x] = 0 := by rw [ckI_in h1 h7]; exact ckL1_t h
theorem sv_in {n x : Nat} (h1 : 1 ≤ n) (h7 : n ≤ 7) (h : x ≤ all1 n) : svV n x = decide (n / 2 < n - pc x) := by
  have h2 := all1_7 h7
  unfold svV
  rw [ck_in h1 h7 h, Int.toNat_natCast, (pc_compl n (by omega) x (by omega) h).1]
  simp
theorem is_in {n x : Nat} (h1 : 1 ≤ n) (h7 : n ≤ 7) (h : x ≤ all1 n) : isV n x = decide (n / 2 < pc x) := by
  unfold isV
  rw [ck_in h1 h7 h, Int.toNat_natCast]
  simp
theorem w_quorumCrashes (a0 a1 : Int) (w0 : (Lit.int .u8 a0).wf = true) (w1 : (Lit.int .u8 a1).wf = true) (w : World) (hH : Hv w) :
    Calls Tryd.prog 10 #[.int .u8 a0, .int .u8 a1] w fun e w' => e = .returned (.bool true) ∧ Below w.heap.size w w' := by
  have b0 := bounds_u8 w0
  have b1 := bounds_u8 w1
  obtain ⟨a, rfl⟩ := Int.eq_ofNat_of_zero_le b0.1
  obtain ⟨b, rfl⟩ := Int.eq_ofNat_of_zero_le b1.1
  have hG := fun W => group_any a b (by omega) (by omega) W
  have hn := grN_in a
  have hx := grX_in a b
  generalize grX a b = x at *
  generalize grN a = n at *
  have h7 := all1_7 hn.2
  have hS := Lib.hid (fun W => size_ok n hn.1 hn.2 W)
  have hV := fun W => survives_any x (by omega) n W
  rw [sv_in hn.1 hn.2 hx, ck_in hn.1 hn.2 hx] at hV
  have hC := Lib.hid (fun W => count_any x (by omega) W)
  have hc := (pc_compl n (by omega) x (by omega) hx).2
  generalize pc x = c at *
  obtain ⟨m, hm⟩ : ∃ m, n / 2 + 1 = m := ⟨_, rfl⟩
  rw [hm] at hS
  obtain ⟨B, hB⟩ : ∃ B, decide (n / 2 < n - c) = B := ⟨_, rfl⟩
  rw [hB] at hV
  have hB2 : decide ((c : Int) ≤ (n : Int) - (m : Int)) = B := by
    rw [← hB, decide_eq_decide]; omega
  have hm1 : m ≤ 4 := by omega
  have hn1 : n ≤ 7 := hn.2
  replace hG := Lib.hid hG
  replace hV := Lib.hid hV
  clear hB hm hx h7 hn w0 w1 b0 b1
  cases B <;>
  · go_enter Tryd.func10, Tryd.ntmps10
    go_wp2_with fail
    refine (hG.out _).mono ?_
    rintro e w1 ⟨rfl, hb1⟩
    replace hb1 := Lib.hid hb1
    go_wp2_with fail
    refine (hS.out _).mono ?_
    rintro e w' ⟨rfl, rfl⟩
    go_wp2_with fail
    refine (hV.out _).mono ?_
    rintro e w2 ⟨rfl, hb2⟩
    replace hb2 := Lib.hid (below2 hb1.out hb2)
    clear hb1
    go_wp2_with fail
    refine (hC.out _).mono ?_
    rintro e w' ⟨rfl, rfl⟩
    go_wp2_with fail
    refine (works_any _ (hH.later hb2.out)).mono ?_
    rintro e w3 ⟨rfl, hb3⟩
    replace hb3 := Lib.hid (below2 hb2.out hb3)
    go_wp2
    go_ret
    exact ⟨rfl, hb3.out⟩
end Go.Proofs.YtmbkopeikldonaaDoor.Quo
