/- The walks of BallotNodes and BallotNext. -/
import Derived.Test.YtabfpdlnljkgpaaDoorB07
namespace Go.Proofs.YtabfpdlnljkgpaaDoor.Bal
open Go.RowKit Go.Lib
set_option linter.unusedVariables false
set_option linter.unusedSimpArgs false
set_option maxRecDepth 20000

theorem made_ok (r k n : Nat) (hn : 1 ≤ n ∧ n ≤ 7) : bOk n (mdA r) (mdB r k n) := by
  unfold bOk mdA mdB
  have := Nat.mod_lt k (y := n) (by omega)
  by_cases h : r % 1073741825 = 0
  · rw [if_pos h]; omega
  · rw [if_neg h]; omega
theorem nodes_go (r k : Nat) (hr : r < 4294967296) (hk : k < 256) (n : Int) (w : World) (hH : Hv w) :
    Calls Tryd.prog 11 #[.int .u32 r, .int .u8 k, .int .i64 n] w fun e w' => e = .returned (.bool true) ∧ Below w.heap.size w w' := by
  have hM := fun W => made_any r k 7 hr hk (by omega) W
  have ho := made_ok r k 7 (by omega)
  generalize mdA r = R at *
  generalize mdB r k 7 = M at *
  replace ho : bOk 7 R M := ho
  have hC := fun W => check_any R M n W
  have hN := fun W => number_any R M n W
  have hck : ckB R M n = if (1 ≤ n ∧ n ≤ 7) ∧ ((R = 0 ∧ M = 0) ∨ M < n) then 0 else 2 := by
    unfold ckB bOk
    unfold bOk at ho
    by_cases h : (1 ≤ n ∧ n ≤ 7) ∧ ((R = 0 ∧ M = 0) ∨ M < n)
    · rw [if_pos h, if_pos (by omega)]
    · rw [if_neg h, if_neg (by omega)]
  have hq := fun W => eq_b R M 0 0 W
  generalize nmV R M n = V at *
  generalize ckB R M n = C at *
  replace hM := Lib.hid hM
  replace hC := Lib.hid hC
  replace hN := Lib.hid hN
  clear ho
  by_cases h1 : 1 ≤ n
  · by_cases h2 : n ≤ 7
    · by_cases h3 : R = 0 ∧ M = 0
      · obtain rfl : C = 0 := by rw [hck, if_pos ⟨⟨h1, h2⟩, .inl h3⟩]
        rw [eqB_t h3] at hq
        clear hck h3
        go_enter Tryd.func11, Tryd.ntmps11
        go_wp2_with fail
        refine (hM.out _).mono ?_
        rintro e w1 ⟨rfl, hb1⟩
        have A1 := bx_at hb1 R M
        obtain ⟨a0, a1, _, _⟩ := A1.cells
        clear hb1
        go_wp2_with fail
        refine (hN.out _).mono ?_
        rintro e w2 ⟨rfl, hb2⟩
        have A2 := A1.later hb2
        obtain ⟨b0, b1, _, _⟩ := A2.cells
        clear a0 a1 A1 hb2
        go_wp2_with fail
        refine (hC.out _).mono ?_
        rintro e w3 ⟨rfl, hb3⟩
        have A3 := below2 A2.bel hb3
        clear b0 b1 A2 hb3
        go_wp2_with fail
        refine (works_any _ (hH.later A3)).mono ?_
        rintro e w4 ⟨rfl, hb4⟩
        go_wp2
        go_ret
        exact ⟨rfl, below2 A3 hb4⟩
      · rw [eqB_f h3] at hq
        by_cases h4 : M < n
        · obtain rfl : C = 0 := by rw [hck, if_pos ⟨⟨h1, h2⟩, .inr h4⟩]
          clear hck h3
          go_enter Tryd.func11, Tryd.ntmps11
          go_wp2_with fail
          refine (hM.out _).mono ?_
          rintro e w1 ⟨rfl, hb1⟩
          have A1 := bx_at hb1 R M
          obtain ⟨a0, a1, _, _⟩ := A1.cells
          clear hb1
          go_wp2_with fail
          refine (hN.out _).mono ?_
          rintro e w2 ⟨rfl, hb2⟩
          have A2 := A1.later hb2
          obtain ⟨b0, b1, _, _⟩ := A2.cells
          clear a0 a1 A1 hb2
          go_wp2_with fail
          refine (hC.out _).mono ?_
          rintro e w3 ⟨rfl, hb3⟩
          have A3 := below2 A2.bel hb3
          clear b0 b1 A2 hb3
          go_wp2_with fail
          refine (works_any _ (hH.later A3)).mono ?_
          rintro e w4 ⟨rfl, hb4⟩
          go_wp2
          go_ret
          exact ⟨rfl, below2 A3 hb4⟩
        · obtain rfl : C = 2 := by rw [hck, if_neg (by rintro ⟨_, h | h⟩; exact h3 h; exact h4 h)]
          clear hck h3
          go_enter Tryd.func11, Tryd.ntmps11
          go_wp2_with fail
          refine (hM.out _).mono ?_
          rintro e w1 ⟨rfl, hb1⟩
          have A1 := bx_at hb1 R M
          obtain ⟨a0, a1, _, _⟩ := A1.cells
          clear hb1
          go_wp2_with fail
          refine (hN.out _).mono ?_
          rintro e w2 ⟨rfl, hb2⟩
          have A2 := A1.later hb2
          obtain ⟨b0, b1, _, _⟩ := A2.cells
          clear a0 a1 A1 hb2
          go_wp2_with fail
          refine (hC.out _).mono ?_
          rintro e w3 ⟨rfl, hb3⟩
          have A3 := below2 A2.bel hb3
          clear b0 b1 A2 hb3
          go_wp2_with fail
          refine (works_any _ (hH.later A3)).mono ?_
          rintro e w4 ⟨rfl, hb4⟩
          go_wp2
          go_ret
          exact ⟨rfl, below2 A3 hb4⟩
    · obtain rfl : C = 2 := by rw [hck, if_neg (fun h => h2 h.1.2)]
      clear hck
      go_enter Tryd.func11, Tryd.ntmps11
      go_wp2_with fail
      refine (hM.out _).mono ?_
      rintro e w1 ⟨rfl, hb1⟩
      have A1 := bx_at hb1 R M
      obtain ⟨a0, a1, _, _⟩ := A1.cells
      clear hb1
      go_wp2_with fail
      refine (hN.out _).mono ?_
      rintro e w2 ⟨rfl, hb2⟩
      have A2 := A1.later hb2
      obtain ⟨b0, b1, _, _⟩ := A2.cells
      clear a0 a1 A1 hb2
      go_wp2_with fail
      refine (hC.out _).mono ?_
      rintro e w3 ⟨rfl, hb3⟩
      have A3 := below2 A2.bel hb3
      clear b0 b1 A2 hb3
      go_wp2_with fail
      refine (works_any _ (hH.later A3)).mono ?_
      rintro e w4 ⟨rfl, hb4⟩
      go_wp2
      go_ret
      exact ⟨rfl, below2 A3 hb4⟩
  · obtain rfl : C = 2 := by rw [hck, if_neg (fun h => h1 h.1.1)]
    clear hck
    go_enter Tryd.func11, Tryd.ntmps11
    go_wp2_with fail
    refine (hM.out _).mono ?_
    rintro e w1 ⟨rfl, hb1⟩
    have A1 := bx_at hb1 R M
    obtain ⟨a0, a1, _, _⟩ := A1.cells
    clear hb1
    go_wp2_with fail
    refine (hN.out _).mono ?_
    rintro e w2 ⟨rfl, hb2⟩
    have A2 := A1.later hb2
    obtain ⟨b0, b1, _, _⟩ := A2.cells
    clear a0 a1 A1 hb2
    go_wp2_with fail
    refine (hC.out _).mono ?_
    rintro e w3 ⟨rfl, hb3⟩
    have A3 := below2 A2.bel hb3
    clear b0 b1 A2 hb3
    go_wp2_with fail
    refine (works_any _ (hH.later A3)).mono ?_
    rintro e w4 ⟨rfl, hb4⟩
    go_wp2
    go_ret
    exact ⟨rfl, below2 A3 hb4⟩
theorem w_ballotNodes (a0 a1 a2 : Int) (w0 : (Lit.int .u32 a0).wf = true) (w1 : (Lit.int .u8 a1).wf = true) (w2 : (Lit.int .i64 a2).wf = true) (w : World) (hH : Hv w) :
    Calls Tryd.prog 11 #[.int .u32 a0, .int .u8 a1, .int .i64 a2] w fun e w' => e = .returned (.bool true) ∧ Below w.heap.size w w' := by
  have b0 := bounds_u32 w0
  have b1 := bounds_u8 w1
  obtain ⟨n, rfl⟩ := Int.eq_ofNat_of_zero_le b0.1
  obtain ⟨m, rfl⟩ := Int.eq_ofNat_of_zero_le b1.1
  exact nodes_go n m (by omega) (by omega) a2 w hH
end Go.Proofs.YtabfpdlnljkgpaaDoor.Bal
