/- The walks of QuorumSets, QuorumMeets, QuorumSizes. -/
import Derived.Test.YtmbkopeikldonaaDoorU16
namespace Go.Proofs.YtmbkopeikldonaaDoor.Quo
open Go.RowKit Go.Lib Go.Shelf
set_option linter.unusedVariables false
set_option linter.unusedSimpArgs false
set_option maxRecDepth 20000

set_option maxHeartbeats 1000000 in
theorem w_quorumSets (a0 a1 a2 : Int) (w0 : (Lit.int .u64 a0).wf = true) (w1 : (Lit.int .i64 a1).wf = true) (w2 : (Lit.int .i64 a2).wf = true) (w : World) (hH : Hv w) :
    Calls Tryd.prog 3 #[.int .u64 a0, .int .i64 a1, .int .i64 a2] w fun e w' => e = .returned (.bool true) ∧ Below w.heap.size w w' := by
  have b0 := bounds_u64 w0
  obtain ⟨x, rfl⟩ := Int.eq_ofNat_of_zero_le b0.1
  have hx : x < 18446744073709551616 := by omega
  have h1 := fun W => is_any x hx a2 W
  have h2 := fun W => ris_any x hx a2 W
  have h3 := fun W => survives_any x hx a2 W
  have h4 := fun W => rsurvives_any x hx a2 W
  have h5 := fun W => with_any x hx a1 a2 W
  have h6 := fun W => rwith_any x hx a1 a2 W
  generalize isV a2 x = B1 at *
  generalize svV a2 x = B2 at *
  generalize ckI a2 [x] = c at *
  generalize wiV x a1 a2 = v at *
  generalize wiE x a1 a2 = d at *
  replace h1 := Lib.hid h1
  replace h2 := Lib.hid h2
  replace h3 := Lib.hid h3
  replace h4 := Lib.hid h4
  replace h5 := Lib.hid h5
  replace h6 := Lib.hid h6
  clear w0 w1 w2 b0
  go_enter Tryd.func3, Tryd.ntmps3
  go_wp2_with fail
  refine (h1.out _).mono ?_
  rintro e w1 ⟨rfl, hb1⟩
  replace hb1 := Lib.hid hb1
  go_wp2_with fail
  refine (h2.out _).mono ?_
  rintro e w2 ⟨rfl, hb2⟩
  replace hb2 := Lib.hid (below2 hb1.out hb2)
  clear hb1
  go_wp2_with fail
  refine (h3.out _).mono ?_
  rintro e w3 ⟨rfl, hb3⟩
  replace hb3 := Lib.hid (below2 hb2.out hb3)
  clear hb2
  go_wp2_with fail
  refine (h4.out _).mono ?_
  rintro e w4 ⟨rfl, hb4⟩
  replace hb4 := Lib.hid (below2 hb3.out hb4)
  clear hb3
  go_wp2_with fail
  refine (h5.out _).mono ?_
  rintro e w5 ⟨rfl, hb5⟩
  replace hb5 := Lib.hid (below2 hb4.out hb5)
  clear hb4
  go_wp2_with fail
  refine (h6.out _).mono ?_
  rintro e w6 ⟨rfl, hb6⟩
  replace hb6 := Lib.hid (below2 hb5.out hb6)
  clear hb5
  go_wp2_with fail
  refine (works_any _ (hH.later hb6.out)).mono ?_
  rintro e w7 ⟨rfl, hb7⟩
  replace hb7 := Lib.hid (below2 hb6.out hb7)
  go_wp2
  go_ret
  exact ⟨rfl, hb7.out⟩
theorem w_quorumMeets (a0 a1 a2 : Int) (w0 : (Lit.int .u64 a0).wf = true) (w1 : (Lit.int .u64 a1).wf = true) (w2 : (Lit.int .i64 a2).wf = true) (w : World) (hH : Hv w) :
    Calls Tryd.prog 4 #[.int .u64 a0, .int .u64 a1, .int .i64 a2] w fun e w' => e = .returned (.bool true) ∧ Below w.heap.size w w' := by
  have b0 := bounds_u64 w0
  have b1 := bounds_u64 w1
  obtain ⟨x, rfl⟩ := Int.eq_ofNat_of_zero_le b0.1
  obtain ⟨y, rfl⟩ := Int.eq_ofNat_of_zero_le b1.1
  have h1 := fun W h => meet_any x y a2 (by omega) (by omega) W h
  have h2 := fun W => rmeet_any x y a2 (by omega) (by omega) W
  generalize mtV a2 x y = v at *
  generalize mtB a2 x y = B at *
  generalize ckI a2 [x, y] = c at *
  replace h1 := Lib.hid h1
  replace h2 := Lib.hid h2
  clear w0 w1 w2 b0 b1
  go_enter Tryd.func4, Tryd.ntmps4
  go_wp2_with fail
  refine (h1.out _ hH).mono ?_
  rintro e w1 ⟨rfl, hb1⟩
  replace hb1 := Lib.hid hb1
  go_wp2_with fail
  refine (h2.out _).mono ?_
  rintro e w2 ⟨rfl, hb2⟩
  replace hb2 := Lib.hid (below2 hb1.out hb2)
  clear hb1
  go_wp2_with fail
  refine (works_any _ (hH.later hb2.out)).mono ?_
  rintro e w7 ⟨rfl, hb7⟩
  replace hb7 := Lib.hid (below2 hb2.out hb7)
  go_wp2
  go_ret
  exact ⟨rfl, hb7.out⟩
/-- What both Alls give back: slices that read as one list. -/
def AllV (n : Int) (l : List Nat) (c : Int) (w : World) (e : Ending) (w' : World) : Prop := ∃ v, e = .returned (.tuple #[v, .int .i64 c]) ∧ IsNs .u64 w' v l ∧ Below w.heap.size w w'
def szV (n : Int) : Int := if 1 ≤ n ∧ n ≤ 7 then ((n.toNat / 2 + 1 : Nat) : Int) else 0
def szL (n : Int) : List Nat := if 1 ≤ n ∧ n ≤ 7 then allL n.toNat else []
theorem sizes_any (n : Int) (w : World) :
    (Calls Tryd.prog 21 #[.int .i64 n] w fun e w' => e = .returned (.tuple #[.int .i64 (szV n), .int .i64 (ckI n [])]) ∧ w = w') ∧
    (Calls Tryd.prog 22 #[.int .i64 n] w fun e w' => e = .returned (.tuple #[.int .i64 (szV n), .int .i64 (ckI n [])]) ∧ w = w') ∧
    Calls Tryd.prog 23 #[.int .i64 n] w (AllV n (szL n) (ckI n []) w) ∧ Calls Tryd.prog 24 #[.int .i64 n] w (AllV n (szL n) (ckI n []) w) := by
  unfold szV szL
  by_cases hn : 1 ≤ n ∧ n ≤ 7
  · obtain ⟨k, rfl⟩ := Int.eq_ofNat_of_zero_le (show 0 ≤ n by omega)
    have h0 : ckI k [] = 0 := by rw [ckI_in (by omega) (by omega)]; rfl
    rw [if_pos hn, if_pos hn, h0, Int.toNat_natCast]
    refine ⟨size_ok k (by omega) (by omega) w, rsize_ok k (by omega) (by omega) w, (all_ok k (by omega) (by omega) w).mono ?_, (rall_ok k (by omega) (by omega) w).mono ?_⟩
    · rintro e w' ⟨v, h1, h2, h3⟩; exact ⟨v, h1, h2.ns, h3⟩
    · rintro e w' ⟨v, h1, h2, h3⟩; exact ⟨v, h1, h2.ns, h3⟩
  · have h0 : ckI n [] = 2 := ckI_bad (by omega) _
    rw [if_neg hn, if_neg hn, h0]
    refine ⟨size_bad n (by omega) w, rsize_bad n (by omega) w, (all_bad n (by omega) w).mono ?_, (rall_bad n (by omega) w).mono ?_⟩
    · rintro e w' ⟨h1, rfl⟩; exact ⟨_, h1, ns_nil _ _, Below.refl _ _⟩
    · rintro e w' ⟨h1, rfl⟩; exact ⟨_, h1, ns_nil _ _, Below.refl _ _⟩
theorem szL_len (n : Int) : (szL n).length ≤ 128 := by
  unfold szL
  split
  · unfold allL
    have h := upL_len (n.toNat / 2 + 1) (2 ^ n.toNat)
    have : 2 ^ n.toNat ≤ 2 ^ 7 := Nat.pow_le_pow_right (by decide) (by omega)
    omega
  · simp
set_option maxHeartbeats 1000000 in
theorem w_quorumSizes (a0 a1 : Int) (w0 : (Lit.int .i64 a0).wf = true) (w1 : (Lit.int .u64 a1).wf = true) (w : World) (hH : Hv w) :
    Calls Tryd.prog 5 #[.int .i64 a0, .int .u64 a1] w fun e w' => e = .returned (.bool true) ∧ Below w.heap.size w w' := by
  have b1 := bounds_u64 w1
  obtain ⟨x, rfl⟩ := Int.eq_ofNat_of_zero_le b1.1
  have hx : x < 18446744073709551616 := by omega
  have h1 := fun W => (sizes_any a0 W).1
  have h2 := fun W => (sizes_any a0 W).2.1
  have h3 := fun W => (sizes_any a0 W).2.2.1
  have h4 := fun W => (sizes_any a0 W).2.2.2
  have hl := szL_len a0
  have h5 := fun W => count_any x hx W
  have h6 := fun W => rcount_any x hx W
  have h7 := fun W h => nodes_any x hx W h
  have h8 := fun W => rnodes_any x hx W
  have hl2 := bits_lt x
  generalize szV a0 = s at *
  generalize szL a0 = L at *
  generalize ckI a0 [] = c at *
  generalize pc x = p at *
  generalize bitsOf x = M at *
  replace h1 := Lib.hid h1
  replace h2 := Lib.hid h2
  replace h3 := Lib.hid h3
  replace h4 := Lib.hid h4
  replace h5 := Lib.hid h5
  replace h6 := Lib.hid h6
  replace h7 := Lib.hid h7
  replace h8 := Lib.hid h8
  clear w0 w1 b1
  go_enter Tryd.func5, Tryd.ntmps5
  go_wp2_with fail
  refine (h1.out _).mono ?_
  rintro e w' ⟨rfl, rfl⟩
  go_wp2_with fail
  refine (h2.out _).mono ?_
  rintro e w' ⟨rfl, rfl⟩
  go_wp2_with fail
  refine (h3.out _).mono ?_
  rintro e w1 ⟨v1, rfl, hs1, hb1⟩
  have hv1 := hs1
  obtain ⟨a1, cap1, rfl, _⟩ := hv1
  replace hs1 := Lib.hid hs1
  replace hb1 := Lib.hid hb1
  go_wp2_with fail
  refine (h4.out _).mono ?_
  rintro e w2 ⟨v2, rfl, hs2, hb2⟩
  have hv2 := hs2
  obtain ⟨a2, cap2, rfl, _⟩ := hv2
  replace hs1 := Lib.hid (hs1.out.later hb2)
  replace hs2 := Lib.hid hs2
  replace hb2 := Lib.hid (below2 hb1.out hb2)
  clear hb1
  go_wp2_with fail
  refine (eqA_U _ _ L L _ hs1.out hs2.out (by omega) (by omega)).mono ?_
  rw [eqL_t]
  rintro e w3 ⟨rfl, hb3⟩
  replace hb3 := Lib.hid (below2 hb2.out hb3)
  clear hb2 hs1 hs2
  go_wp2_with fail
  refine (h5.out _).mono ?_
  rintro e w' ⟨rfl, rfl⟩
  go_wp2_with fail
  refine (h6.out _).mono ?_
  rintro e w4 ⟨rfl, hb4⟩
  replace hb4 := Lib.hid (below2 hb3.out hb4)
  clear hb3
  go_wp2_with fail
  refine (h7.out _ (hH.later hb4.out)).mono ?_
  rintro e w5 ⟨v5, rfl, ho5, hb5⟩
  obtain ⟨a5, cap5, rfl⟩ := ho5.form
  have hs5 := Lib.hid ho5.ns
  replace hb5 := Lib.hid (below2 hb4.out hb5)
  clear hb4 ho5
  go_wp2_with fail
  refine (h8.out _).mono ?_
  rintro e w6 ⟨v6, rfl, ho6, hb6⟩
  obtain ⟨a6, cap6, rfl⟩ := ho6.form
  have hs6 := Lib.hid ho6.ns
  replace hs5 := Lib.hid (hs5.out.later hb6)
  replace hb6 := Lib.hid (below2 hb5.out hb6)
  clear hb5 ho6
  go_wp2_with fail
  refine (eqA_I _ _ M M _ hs5.out hs6.out (by omega) (by omega)).mono ?_
  rw [eqL_t]
  rintro e w7 ⟨rfl, hb7⟩
  replace hb7 := Lib.hid (below2 hb6.out hb7)
  clear hb6 hs5 hs6
  go_wp2_with fail
  refine (works_any _ (hH.later hb7.out)).mono ?_
  rintro e w8 ⟨rfl, hb8⟩
  replace hb8 := Lib.hid (below2 hb7.out hb8)
  go_wp2
  go_ret
  exact ⟨rfl, hb8.out⟩
end Go.Proofs.YtmbkopeikldonaaDoor.Quo
