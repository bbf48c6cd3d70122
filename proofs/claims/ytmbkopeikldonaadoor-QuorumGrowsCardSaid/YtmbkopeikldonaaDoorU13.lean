/- The walk of QuorumGrows. -/
import Derived.Test.YtmbkopeikldonaaDoorU12
namespace Go.Proofs.YtmbkopeikldonaaDoor.Quo
open Go.RowKit Go.Lib Go.Shelf
set_option linter.unusedVariables false
set_option linter.unusedSimpArgs false
set_option maxRecDepth 20000

theorem more_pc : ∀ x, x < 128 → ∀ k, k < 7 → pc x ≤ pc (x ||| 2 ^ k) ∧ pc (x ||| 2 ^ k) = pc x + (18446744073709551615 - x) / 2 ^ k % 2 ∧ (x ||| 2 ^ k) ||| 2 ^ k = x ||| 2 ^ k := by decide +kernel
theorem more_in : ∀ n, n < 8 → ∀ x, x < 128 → x ≤ all1 n → ∀ k, k < 7 → k < n → x ||| 2 ^ k ≤ all1 n := by decide +kernel
theorem wi_in {n x k : Nat} (h1 : 1 ≤ n) (h7 : n ≤ 7) (h : x ≤ all1 n) (hk : k < n) : wiV x k n = x ||| 2 ^ k ∧ wiE x k n = 0 := by
  have ho : wiO x k n := ⟨ck_in h1 h7 h, by omega, by omega⟩
  unfold wiV wiE
  rw [if_pos ho, if_pos ho, Int.toNat_natCast]
  exact ⟨rfl, rfl⟩
theorem not_u : ∀ x, x < 128 → bits .xor .u64 IntKind.u64.max (x : Nat) = ((18446744073709551615 - x : Nat) : Int) := by decide +kernel
theorem shr_nat (x k : Nat) : (x : Int) / 2 ^ k = ((x / 2 ^ k : Nat) : Int) := by
  rw [show (2 : Int) ^ k = ((2 ^ k : Nat) : Int) by rw [Int.natCast_pow]; rfl, ← Int.natCast_ediv]
theorem and_1 (x : Nat) (h : x < 18446744073709551616) : bits .and .u64 (x : Int) 1 = ((x % 2 : Nat) : Int) := by
  have := bits_and_u64_nat x 1 h (by omega)
  refine Eq.trans this ?_
  rw [show (1 : Nat) = 2 ^ 1 - 1 from rfl, and_low]
set_option maxHeartbeats 1000000 in
theorem w_quorumGrows (a0 a1 a2 : Int) (w0 : (Lit.int .u8 a0).wf = true) (w1 : (Lit.int .u8 a1).wf = true) (w2 : (Lit.int .u8 a2).wf = true) (w : World) (hH : Hv w) :
    Calls Tryd.prog 7 #[.int .u8 a0, .int .u8 a1, .int .u8 a2] w fun e w' => e = .returned (.bool true) ∧ Below w.heap.size w w' := by
  have b0 := bounds_u8 w0
  have b1 := bounds_u8 w1
  have b2 := bounds_u8 w2
  obtain ⟨a, rfl⟩ := Int.eq_ofNat_of_zero_le b0.1
  obtain ⟨b, rfl⟩ := Int.eq_ofNat_of_zero_le b1.1
  obtain ⟨c, rfl⟩ := Int.eq_ofNat_of_zero_le b2.1
  have hG := Lib.hid (fun W => group_any a b (by omega) (by omega) W)
  have hn := grN_in a
  have hx := grX_in a b
  generalize grX a b = x at *
  generalize grN a = n at *
  have h7 := all1_7 hn.2
  obtain ⟨hn1, hn7⟩ := hn
  have d1 : IntKind.i64.wrap (c : Int) = c := wr (by omega) (by omega)
  have d2 : (c : Int).tmod (n : Int) = ((c % n : Nat) : Int) := (Int.ofNat_tmod c n).symm
  have d3 : (c : Int) % (n : Int) = ((c % n : Nat) : Int) := (Int.natCast_emod _ _).symm
  have hk := Nat.mod_lt c (y := n) (by omega)
  generalize c % n = k at *
  have hW1 := fun W => with_any x (by omega) k n W
  obtain ⟨v1, v2⟩ := wi_in hn1 hn7 hx hk
  rw [v1, v2] at hW1
  have hy := more_in n (by omega) x (by omega) hx k (by omega) hk
  obtain ⟨p1, p2, p3⟩ := more_pc x (by omega) k (by omega)
  have hor := bits_or_u64_nat x (2 ^ k) (by omega) (pow_lt k (by omega))
  have hsh := pow_in k (by omega)
  have hnot := not_u x (by omega)
  have hsr := shr_nat (18446744073709551615 - x) k
  have hs1 : (18446744073709551615 - x) / 2 ^ k < 18446744073709551616 := Nat.lt_of_le_of_lt (Nat.div_le_self _ _) (by omega)
  generalize x ||| 2 ^ k = y at *
  have hW2 := fun W => with_any y (by omega) k n W
  obtain ⟨v3, v4⟩ := wi_in hn1 hn7 hy hk
  rw [v3, v4, p3] at hW2
  have hI1 := fun W => is_any x (by omega) n W
  rw [is_in hn1 hn7 hx, ck_in hn1 hn7 hx] at hI1
  have hI2 := fun W => is_any y (by omega) n W
  rw [is_in hn1 hn7 hy, ck_in hn1 hn7 hy] at hI2
  have hC1 := fun W => count_any x (by omega) W
  have hC2 := fun W => count_any y (by omega) W
  have hl1 := pc_le x
  have hl2 := pc_le y
  generalize pc x = cx at *
  generalize pc y = cy at *
  generalize 18446744073709551615 - x = z at *
  generalize z / 2 ^ k = zk at *
  generalize 2 ^ k = q at *
  have ha1 := and_1 zk hs1
  generalize zk % 2 = r at *
  have hr : r ≤ 64 := by omega
  have hr2 : IntKind.i64.wrap (r : Int) = r := wr (by omega) (by omega)
  obtain ⟨P, hP⟩ : ∃ P, decide (n / 2 < cx) = P := ⟨_, rfl⟩
  obtain ⟨Q, hQ⟩ : ∃ Q, decide (n / 2 < cy) = Q := ⟨_, rfl⟩
  rw [hP] at hI1
  rw [hQ] at hI2
  have hsg : IntKind.u64.signed = false := rfl
  have hPQ : (P = false ∧ Q = false) ∨ (P = false ∧ Q = true) ∨ (P = true ∧ Q = true) := by
    have h : P = true → Q = true := by
      rw [← hP, ← hQ, decide_eq_true_iff, decide_eq_true_iff]; omega
    cases P
    · cases Q <;> simp
    · rw [h rfl]; simp
  have hsub : (cy : Int) - (cx : Int) = (r : Int) := by omega
  replace hsub : IntKind.i64.wrap ((cy : Int) - (cx : Int)) = (r : Int) := by rw [hsub]; exact hr2
  have k0 : 0 ≤ (k : Int) := by omega
  have k1 : (k : Int) < 64 := by omega
  have h6 : ¬ (n : Int) = 0 := by omega
  have h8 : ((n : Int) == 0) = false := by simpa using h6
  have h9 : ¬ n = 0 := by omega
  replace hW1 := Lib.hid hW1
  replace hW2 := Lib.hid hW2
  replace hI1 := Lib.hid hI1
  replace hI2 := Lib.hid hI2
  replace hC1 := Lib.hid hC1
  replace hC2 := Lib.hid hC2
  clear hP hQ w0 w1 w2 v1 v2 v3 v4 p1 p2 p3 hx hy h7 hl1 hl2 hs1 hr
  go_enter Tryd.func7, Tryd.ntmps7
  go_wp2_with fail
  refine (hG.out _).mono ?_
  rintro e w1 ⟨rfl, hb1⟩
  replace hb1 := Lib.hid hb1
  go_wp2_with fail
  refine (hW1.out _).mono ?_
  rintro e w2 ⟨rfl, hb2⟩
  replace hb2 := Lib.hid (below2 hb1.out hb2)
  clear hb1
  go_wp2_with fail
  refine (hW2.out _).mono ?_
  rintro e w3 ⟨rfl, hb3⟩
  replace hb3 := Lib.hid (below2 hb2.out hb3)
  clear hb2
  go_wp2_with fail
  refine (hI1.out _).mono ?_
  rintro e w4 ⟨rfl, hb4⟩
  replace hb4 := Lib.hid (below2 hb3.out hb4)
  clear hb3
  go_wp2_with fail
  refine (hI2.out _).mono ?_
  rintro e w5 ⟨rfl, hb5⟩
  replace hb5 := Lib.hid (below2 hb4.out hb5)
  clear hb4
  rcases hPQ with ⟨rfl, rfl⟩ | ⟨rfl, rfl⟩ | ⟨rfl, rfl⟩ <;>
  · go_wp2_with fail
    refine (hC2.out _).mono ?_
    rintro e w' ⟨rfl, rfl⟩
    go_wp2_with fail
    refine (hC1.out _).mono ?_
    rintro e w' ⟨rfl, rfl⟩
    go_wp2_with fail
    refine (works_any _ (hH.later hb5.out)).mono ?_
    rintro e w6 ⟨rfl, hb6⟩
    replace hb6 := Lib.hid (below2 hb5.out hb6)
    go_wp2
    go_ret
    exact ⟨rfl, hb6.out⟩
end Go.Proofs.YtmbkopeikldonaaDoor.Quo
