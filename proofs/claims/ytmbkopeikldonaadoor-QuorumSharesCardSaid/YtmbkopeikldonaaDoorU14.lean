/- The walk of QuorumShares. -/
import Derived.Test.YtmbkopeikldonaaDoorU13
namespace Go.Proofs.YtmbkopeikldonaaDoor.Quo
open Go.RowKit Go.Lib Go.Shelf
set_option linter.unusedVariables false
set_option linter.unusedSimpArgs false
set_option maxRecDepth 20000

theorem head_bit : ∀ z, z < 128 → z ≠ 0 → z.testBit ((bitsOf z).headD 0) = true ∧ z % 2 ^ (bitsOf z).headD 0 = 0 ∧ (bitsOf z).isEmpty = false := by decide +kernel
theorem filter_both (p q : Nat → Bool) (l : List Nat) : (l.filter p).length + (l.filter q).length = (l.filter fun i => p i || q i).length + (l.filter fun i => p i && q i).length := by
  induction l with
  | nil => rfl
  | cons i l ih =>
    rw [List.filter_cons, List.filter_cons, List.filter_cons, List.filter_cons]
    cases p i <;> cases q i <;> simp <;> omega
theorem pc_both (x y : Nat) : pc x + pc y = pc (x ||| y) + pc (x &&& y) := by
  have h := filter_both (fun i => x.testBit i) (fun i => y.testBit i) (List.range 64)
  have e1 : (fun i => (x ||| y).testBit i) = fun i => x.testBit i || y.testBit i := funext fun i => Nat.testBit_or _ _ _
  have e2 : (fun i => (x &&& y).testBit i) = fun i => x.testBit i && y.testBit i := funext fun i => Nat.testBit_and _ _ _
  unfold pc bitsOf
  rw [e1, e2]
  exact h
theorem pc_zero : pc 0 = 0 := by decide +kernel
theorem or_in {n x y : Nat} (hx : x ≤ all1 n) (hy : y ≤ all1 n) : x ||| y ≤ all1 n := by
  have hp := Nat.two_pow_pos n
  have := Nat.or_lt_two_pow (n := n) (x := x) (y := y) (by unfold all1 at hx; omega) (by unfold all1 at hy; omega)
  unfold all1
  omega
/-- What is known of the node that two sets share. -/
structure Meets (n x y k : Nat) : Prop where
  lt : k < n
  bx : x / 2 ^ k % 2 = 1
  bY : y / 2 ^ k % 2 = 1
  low : (x &&& y) % 2 ^ k = 0
theorem meets_of {n x y : Nat} (h7 : n ≤ 7) (hx : x ≤ all1 n) (hz : x &&& y ≠ 0) : Meets n x y ((bitsOf (x &&& y)).headD 0) := by
  have h := all1_7 h7
  have hle : x &&& y ≤ x := Nat.and_le_left
  obtain ⟨h1, h2, _⟩ := head_bit (x &&& y) (by omega) hz
  generalize (bitsOf (x &&& y)).headD 0 = k at *
  have h3 : x.testBit k = true ∧ y.testBit k = true := by rw [Nat.testBit_and] at h1; simpa using h1
  refine ⟨?_, (test_mod x k).1 h3.1, (test_mod y k).1 h3.2, h2⟩
  apply Classical.byContradiction
  intro hn
  have h4 : x < 2 ^ k := Nat.lt_of_lt_of_le (by have := Nat.two_pow_pos n; unfold all1 at hx; omega) (Nat.pow_le_pow_right (n := 2) (by decide) (show n ≤ k by omega))
  rw [Nat.testBit_lt_two_pow h4] at h3
  simp at h3
theorem ck2_in {n x y : Nat} (h1 : 1 ≤ n) (h7 : n ≤ 7) (hx : x ≤ all1 n) (hy : y ≤ all1 n) : ckI n [x, y] = 0 := by
  rw [ckI_in h1 h7]
  refine ckL_t ?_
  rw [inAll2]
  simp [hx, hy]
set_option maxHeartbeats 1000000 in
theorem shares_go (a b c n x y : Nat) (hn1 : 1 ≤ n) (hn7 : n ≤ 7) (hx : x ≤ all1 n) (hy : y ≤ all1 n) (P Q R M : Bool) (k : Nat)
    (hG1 : Hid (∀ W, Calls Tryd.prog 31 #[.int .u8 a, .int .u8 b] W fun e w' => e = .returned (.tuple #[.int .i64 n, .int .u64 x]) ∧ Below W.heap.size W w'))
    (hG2 : Hid (∀ W, Calls Tryd.prog 31 #[.int .u8 a, .int .u8 c] W fun e w' => e = .returned (.tuple #[.int .i64 n, .int .u64 y]) ∧ Below W.heap.size W w'))
    (hI1 : Hid (∀ W, Calls Tryd.prog 12 #[.int .u64 x, .int .i64 n] W fun e w' => e = .returned (.tuple #[.bool P, .int .i64 0]) ∧ Below W.heap.size W w'))
    (hI2 : Hid (∀ W, Calls Tryd.prog 12 #[.int .u64 y, .int .i64 n] W fun e w' => e = .returned (.tuple #[.bool Q, .int .i64 0]) ∧ Below W.heap.size W w'))
    (hI3 : Hid (∀ W, Calls Tryd.prog 12 #[.int .u64 (all1 n - x : Nat), .int .i64 n] W fun e w' => e = .returned (.tuple #[.bool R, .int .i64 0]) ∧ Below W.heap.size W w'))
    (hS : Hid (∀ W, Calls Tryd.prog 14 #[.int .u64 x, .int .i64 n] W fun e w' => e = .returned (.tuple #[.bool R, .int .i64 0]) ∧ Below W.heap.size W w'))
    (hM : Hid (∀ W, Hv W → Calls Tryd.prog 19 #[.int .u64 x, .int .u64 y, .int .i64 n] W fun e w' => e = .returned (.tuple #[.int .i64 k, .bool M, .int .i64 0]) ∧ Below W.heap.size W w'))
    (hPQ : Hid ((P && Q) = true → M = true)) (hPR : Hid ((P && R) = false))
    (hK : Hid (M = true → Meets n x y k)) (hN : Hid (M = false → x &&& y = 0 ∧ k = 0)) (w : World) (hH : Hv w) :
    Calls Tryd.prog 6 #[.int .u8 a, .int .u8 b, .int .u8 c] w fun e w' => e = .returned (.bool true) ∧ Below w.heap.size w w' := by
  have h7 := all1_7 hn7
  have hs := pow_in n (by omega)
  have hs2 := all_in n (by omega)
  have hs3 : IntKind.u64.wrap ((all1 n : Int) - (x : Int)) = ((all1 n - x : Nat) : Int) := by
    rw [show (all1 n : Int) - (x : Int) = ((all1 n - x : Nat) : Int) by omega]; exact wu (by omega)
  have hz := bits_and_u64_nat x y (by omega) (by omega)
  have hz1 : x &&& y ≤ x := Nat.and_le_left
  have n0 : 0 ≤ (n : Int) := by omega
  have n1 : (n : Int) < 64 := by omega
  have hx7 : x < 128 := by omega
  have hy7 : y < 128 := by omega
  have hZ : ∀ z, x &&& y = z → z < 128 := fun z e => by omega
  clear hx hy h7
  generalize all1 n - x = u at *
  generalize all1 n = m at *
  generalize 2 ^ n = N at *
  obtain ⟨z, hz2⟩ : ∃ z, x &&& y = z := ⟨_, rfl⟩
  have hz7 := hZ z hz2
  rw [hz2] at hz
  have HZ := Lib.hid hz2
  clear hz1 hZ hz2
  go_enter Tryd.func6, Tryd.ntmps6
  go_wp2_with fail
  refine (hG1.out _).mono ?_
  rintro e w1 ⟨rfl, hb1⟩
  replace hb1 := Lib.hid hb1
  go_wp2_with fail
  refine (hG2.out _).mono ?_
  rintro e w2 ⟨rfl, hb2⟩
  replace hb2 := Lib.hid (below2 hb1.out hb2)
  clear hb1
  go_wp2_with fail
  refine (hI1.out _).mono ?_
  rintro e w3 ⟨rfl, hb3⟩
  replace hb3 := Lib.hid (below2 hb2.out hb3)
  clear hb2
  go_wp2_with fail
  refine (hI2.out _).mono ?_
  rintro e w4 ⟨rfl, hb4⟩
  replace hb4 := Lib.hid (below2 hb3.out hb4)
  clear hb3
  go_wp2_with fail
  refine (hM.out _ (hH.later hb4.out)).mono ?_
  rintro e w5 ⟨rfl, hb5⟩
  replace hb5 := Lib.hid (below2 hb4.out hb5)
  clear hb4
  cases M
  · obtain ⟨z0, rfl⟩ := hN.out rfl
    obtain rfl : z = 0 := by rw [← HZ.out]; exact z0
    have hPQ2 : (P && Q) = false := by
      cases h : (P && Q)
      · rfl
      · exact absurd (hPQ.out h) (by simp)
    clear z0 hK
    cases P
    · clear hPQ2
      go_wp2_with fail
      refine (hI3.out _).mono ?_
      rintro e w6 ⟨rfl, hb6⟩
      replace hb6 := Lib.hid (below2 hb5.out hb6)
      go_wp2_with fail
      refine (hS.out _).mono ?_
      rintro e w7 ⟨rfl, hb7⟩
      replace hb7 := Lib.hid (below2 hb6.out hb7)
      go_wp2_with fail
      refine (works_any _ (hH.later hb7.out)).mono ?_
      rintro e w8 ⟨rfl, hb8⟩
      replace hb8 := Lib.hid (below2 hb7.out hb8)
      go_wp2
      go_ret
      exact ⟨rfl, hb8.out⟩
    · obtain rfl : Q = false := by simpa using hPQ2
      obtain rfl : R = false := by simpa using hPR.out
      clear hPQ2
      go_wp2_with fail
      refine (hI3.out _).mono ?_
      rintro e w6 ⟨rfl, hb6⟩
      replace hb6 := Lib.hid (below2 hb5.out hb6)
      go_wp2_with fail
      refine (hS.out _).mono ?_
      rintro e w7 ⟨rfl, hb7⟩
      replace hb7 := Lib.hid (below2 hb6.out hb7)
      go_wp2_with fail
      refine (works_any _ (hH.later hb7.out)).mono ?_
      rintro e w8 ⟨rfl, hb8⟩
      replace hb8 := Lib.hid (below2 hb7.out hb8)
      go_wp2
      go_ret
      exact ⟨rfl, hb8.out⟩
  · have hm := hK.out rfl
    have l0 : k < 64 := by have := hm.lt; omega
    have k0 : 0 ≤ (k : Int) := by omega
    have k1 : (k : Int) < 64 := by omega
    have k2 : decide ((k : Int) < 0) = false := by simp
    have k3 : decide ((n : Int) ≤ (k : Int)) = false := by have := hm.lt; simp; omega
    have k4 : decide (n ≤ k) = false := by have := hm.lt; simp; omega
    have kx := shr_nat x k
    have ky := shr_nat y k
    have kx2 := and_1 (x / 2 ^ k) (Nat.lt_of_le_of_lt (Nat.div_le_self _ _) (by omega))
    have ky2 := and_1 (y / 2 ^ k) (Nat.lt_of_le_of_lt (Nat.div_le_self _ _) (by omega))
    rw [hm.bx] at kx2
    rw [hm.bY] at ky2
    have q1 := pow_in k l0
    have q2 := all_in k l0
    have q3 := bits_and_u64_nat z (all1 k) (by omega) (all1_lt k l0)
    have q4 : z &&& all1 k = 0 := by unfold all1; rw [and_low, ← HZ.out]; exact hm.low
    rw [q4] at q3
    clear q4 l0 hm hN
    generalize x / 2 ^ k = xk at *
    generalize y / 2 ^ k = yk at *
    generalize all1 k = p at *
    generalize 2 ^ k = q at *
    cases P
    · go_wp2_with fail
      refine (hI3.out _).mono ?_
      rintro e w6 ⟨rfl, hb6⟩
      replace hb6 := Lib.hid (below2 hb5.out hb6)
      go_wp2_with fail
      refine (hS.out _).mono ?_
      rintro e w7 ⟨rfl, hb7⟩
      replace hb7 := Lib.hid (below2 hb6.out hb7)
      go_wp2_with fail
      refine (works_any _ (hH.later hb7.out)).mono ?_
      rintro e w8 ⟨rfl, hb8⟩
      replace hb8 := Lib.hid (below2 hb7.out hb8)
      go_wp2
      go_ret
      exact ⟨rfl, hb8.out⟩
    · obtain rfl : R = false := by simpa using hPR.out
      cases Q
      · go_wp2_with fail
        refine (hI3.out _).mono ?_
        rintro e w6 ⟨rfl, hb6⟩
        replace hb6 := Lib.hid (below2 hb5.out hb6)
        go_wp2_with fail
        refine (hS.out _).mono ?_
        rintro e w7 ⟨rfl, hb7⟩
        replace hb7 := Lib.hid (below2 hb6.out hb7)
        go_wp2_with fail
        refine (works_any _ (hH.later hb7.out)).mono ?_
        rintro e w8 ⟨rfl, hb8⟩
        replace hb8 := Lib.hid (below2 hb7.out hb8)
        go_wp2
        go_ret
        exact ⟨rfl, hb8.out⟩
      · go_wp2_with fail
        refine (hI3.out _).mono ?_
        rintro e w6 ⟨rfl, hb6⟩
        replace hb6 := Lib.hid (below2 hb5.out hb6)
        go_wp2_with fail
        refine (hS.out _).mono ?_
        rintro e w7 ⟨rfl, hb7⟩
        replace hb7 := Lib.hid (below2 hb6.out hb7)
        go_wp2_with fail
        refine (works_any _ (hH.later hb7.out)).mono ?_
        rintro e w8 ⟨rfl, hb8⟩
        replace hb8 := Lib.hid (below2 hb7.out hb8)
        go_wp2
        go_ret
        exact ⟨rfl, hb8.out⟩
theorem pc_le_n {n x : Nat} (h7 : n ≤ 7) (hx : x ≤ all1 n) : pc x ≤ n := by
  have := all1_7 h7
  exact (pc_compl n (by omega) x (by omega) hx).2
theorem w_quorumShares (a0 a1 a2 : Int) (w0 : (Lit.int .u8 a0).wf = true) (w1 : (Lit.int .u8 a1).wf = true) (w2 : (Lit.int .u8 a2).wf = true) (w : World) (hH : Hv w) :
    Calls Tryd.prog 6 #[.int .u8 a0, .int .u8 a1, .int .u8 a2] w fun e w' => e = .returned (.bool true) ∧ Below w.heap.size w w' := by
  have b0 := bounds_u8 w0
  have b1 := bounds_u8 w1
  have b2 := bounds_u8 w2
  obtain ⟨a, rfl⟩ := Int.eq_ofNat_of_zero_le b0.1
  obtain ⟨b, rfl⟩ := Int.eq_ofNat_of_zero_le b1.1
  obtain ⟨c, rfl⟩ := Int.eq_ofNat_of_zero_le b2.1
  have hG1 := fun W => group_any a b (by omega) (by omega) W
  have hG2 := fun W => group_any a c (by omega) (by omega) W
  have hn := grN_in a
  have hx := grX_in a b
  have hy := grX_in a c
  generalize grX a b = x at *
  generalize grX a c = y at *
  generalize grN a = n at *
  obtain ⟨hn1, hn7⟩ := hn
  have h7 := all1_7 hn7
  have hu : all1 n - x ≤ all1 n := by omega
  have hI1 := fun W => is_any x (by omega) n W
  rw [is_in hn1 hn7 hx, ck_in hn1 hn7 hx] at hI1
  have hI2 := fun W => is_any y (by omega) n W
  rw [is_in hn1 hn7 hy, ck_in hn1 hn7 hy] at hI2
  have hI3 := fun W => is_any (all1 n - x) (by omega) n W
  rw [is_in hn1 hn7 hu, ck_in hn1 hn7 hu, (pc_compl n (by omega) x (by omega) hx).1] at hI3
  have hS := fun W => survives_any x (by omega) n W
  rw [sv_in hn1 hn7 hx, ck_in hn1 hn7 hx] at hS
  have hM := fun W h => meet_any x y n (by omega) (by omega) W h
  have hck := ck2_in hn1 hn7 hx hy
  have hz7 : x &&& y ≤ x := Nat.and_le_left
  have e1 : mtV n x y = (bitsOf (x &&& y)).headD 0 := by unfold mtV mtL; rw [if_pos hck]
  have e2 : mtB n x y = !(bitsOf (x &&& y)).isEmpty := by unfold mtB mtL; rw [if_pos hck]
  rw [e1, e2, hck] at hM
  have hb := pc_both x y
  have hor := pc_le_n hn7 (or_in hx hy)
  have hpx := pc_le_n hn7 hx
  refine shares_go a b c n x y hn1 hn7 hx hy _ _ _ _ _ (Lib.hid hG1) (Lib.hid hG2) (Lib.hid hI1) (Lib.hid hI2) (Lib.hid hI3) (Lib.hid hS) (Lib.hid hM) (Lib.hid ?_) (Lib.hid ?_) (Lib.hid ?_) (Lib.hid ?_) w hH
  · intro h
    rw [Bool.and_eq_true, decide_eq_true_iff, decide_eq_true_iff] at h
    have hz : x &&& y ≠ 0 := by
      intro e
      rw [e, pc_zero] at hb
      omega
    rw [(head_bit _ (by omega) hz).2.2]
    rfl
  · rw [Bool.and_eq_false_iff, decide_eq_false_iff_not, decide_eq_false_iff_not]
    omega
  · intro h
    refine meets_of hn7 hx ?_
    intro e
    rw [e, bits_zero] at h
    simp at h
  · intro h
    have hz : x &&& y = 0 := by
      apply Classical.byContradiction
      intro hz
      rw [(head_bit _ (by omega) hz).2.2] at h
      simp at h
    exact ⟨hz, by rw [hz, bits_zero]; rfl⟩
end Go.Proofs.YtmbkopeikldonaaDoor.Quo
