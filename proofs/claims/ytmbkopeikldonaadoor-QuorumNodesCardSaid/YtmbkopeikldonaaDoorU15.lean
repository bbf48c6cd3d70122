/- The walk of QuorumNodes. -/
import Derived.Test.YtmbkopeikldonaaDoorU12
namespace Go.Proofs.YtmbkopeikldonaaDoor.Quo
open Go.RowKit Go.Lib Go.Shelf
set_option linter.unusedVariables false
set_option linter.unusedSimpArgs false
set_option maxRecDepth 20000

def orL (l : List Nat) : Nat := l.foldl (fun b j => b ||| 2 ^ j) 0
theorem orL_app (l : List Nat) (k : Nat) : orL (l ++ [k]) = orL l ||| 2 ^ k := by unfold orL; rw [List.foldl_append]; rfl
theorem fold_bit (l : List Nat) : ∀ b i, (l.foldl (fun b j => b ||| 2 ^ j) b).testBit i = (b.testBit i || decide (i ∈ l)) := by
  induction l with
  | nil => intro b i; simp
  | cons j l ih =>
    intro b i
    rw [List.foldl_cons, ih, Nat.testBit_or, Nat.testBit_two_pow]
    by_cases h : j = i
    · subst h; simp
    · have h2 : ¬ i = j := fun e => h e.symm
      simp [h, h2]
theorem orL_bits (x : Nat) (hx : x < 18446744073709551616) : orL (bitsOf x) = x := by
  apply Nat.eq_of_testBit_eq
  intro i
  unfold orL
  rw [fold_bit, Nat.zero_testBit, Bool.false_or]
  by_cases h : i < 64
  · cases hb : x.testBit i
    · exact decide_eq_false (fun hm => by have := ((bits_mem x i).1 hm).2; rw [hb] at this; cases this)
    · exact decide_eq_true ((bits_mem x i).2 ⟨h, hb⟩)
  · have h64 : (18446744073709551616 : Nat) = 2 ^ 64 := by decide +kernel
    have hp : 2 ^ 64 ≤ 2 ^ i := Nat.pow_le_pow_right (by decide) (by omega)
    have h2 : x.testBit i = false := Nat.testBit_lt_two_pow (Nat.lt_of_lt_of_le hx (by rw [h64]; exact hp))
    rw [h2]
    exact decide_eq_false (fun hm => h ((bits_mem x i).1 hm).1)
theorem fold_lt (l : List Nat) : ∀ b, b < 2 ^ 64 → (∀ j ∈ l, j < 64) → l.foldl (fun b j => b ||| 2 ^ j) b < 2 ^ 64 := by
  induction l with
  | nil => intro b h _; exact h
  | cons j l ih =>
    intro b h hl
    rw [List.foldl_cons]
    exact ih _ (Nat.or_lt_two_pow h (Nat.pow_lt_pow_right (by decide) (hl j List.mem_cons_self))) (fun i hi => hl i (List.mem_cons_of_mem _ hi))
theorem orL_lt (l : List Nat) (h : ∀ j ∈ l, j < 64) : orL l < 18446744073709551616 := fold_lt l 0 (by decide) h
def lastI (l : List Nat) (k : Nat) : Int := if k = 0 then -1 else (l.getD (k - 1) 0 : Nat)
theorem last_lt {l : List Nat} (hs : l.Pairwise (· < ·)) {k : Nat} (hk : k < l.length) : lastI l k < (l.getD k 0 : Nat) := by
  unfold lastI
  split
  · omega
  · have := List.pairwise_iff_getElem.1 hs (k - 1) k (by omega) hk (by omega)
    rw [List.getD_eq_getElem?_getD, List.getD_eq_getElem?_getD, List.getElem?_eq_getElem hk, List.getElem?_eq_getElem (show k - 1 < l.length by omega)]
    simp only [Option.getD_some]
    omega
theorem last_ge (l : List Nat) (k : Nat) : -1 ≤ lastI l k := by unfold lastI; split <;> omega
set_option maxHeartbeats 1000000 in
theorem w_quorumNodes (a0 : Int) (w0 : (Lit.int .u64 a0).wf = true) (w : World) (hH : Hv w) :
    Calls Tryd.prog 9 #[.int .u64 a0] w fun e w' => e = .returned (.bool true) ∧ Below w.heap.size w w' := by
  have b0 := bounds_u64 w0
  obtain ⟨x, rfl⟩ := Int.eq_ofNat_of_zero_le b0.1
  have hx : x < 18446744073709551616 := by omega
  have hO := Lib.hid (fun W h => nodes_any x hx W h)
  have hC := Lib.hid (fun W => count_any x hx W)
  have hC2 := Lib.hid (fun W => ones_any x hx W)
  have hor := orL_bits x hx
  have hsort := bits_sorted x
  have hm := fun j h => ((bits_mem x j).1 h).1
  have hlen : (bitsOf x).length = pc x := rfl
  have hle := pc_le x
  generalize pc x = c at *
  generalize bitsOf x = L at *
  have hL : Hid (L.length = c) := Lib.hid hlen
  replace hor := Lib.hid hor
  replace hsort := Lib.hid hsort
  replace hm := Lib.hid hm
  clear w0 b0
  go_enter Tryd.func9, Tryd.ntmps9
  go_wp2_with fail
  refine (hO.out _ hH).mono ?_
  rintro e w1 ⟨v, rfl, ho, hb⟩
  have hH1 := hH.later hb
  obtain ⟨a, cap, hv, hd⟩ := ho.ns
  subst hv
  rw [hlen] at hd ⊢
  replace hd := Lib.hid hd
  replace hb := Lib.hid hb
  clear ho hlen
  go_wp2
  go_loop [3, 4, 10] (fun o t i => ∃ k : Nat, k ≤ c ∧ i = .int .i64 k ∧ o = .int .u64 (orL (L.take k) : Nat) ∧ t = .int .i64 (lastI L k)) (fun _ _ i => c - (intOf i).toNat)
  case atStart => exact ⟨0, Nat.zero_le _, rfl, rfl, rfl⟩
  case round =>
    obtain ⟨k, hk, rfl, rfl, rfl⟩ := hrel
    by_cases hlt : k < c
    · have hkl : k < L.length := by rw [hL.out]; exact hlt
      obtain ⟨b, off, rfl, hcell⟩ := hd.out (by omega)
      have c0 := hcell k hlt
      have h1 := last_lt hsort.out hkl
      have h2 := last_ge L k
      have h3 : L.getD k 0 < 64 := by
        rw [List.getD_eq_getElem?_getD, List.getElem?_eq_getElem hkl]
        exact hm.out _ (List.getElem_mem hkl)
      have h4 := orL_lt (L.take k) (fun j hj => hm.out j (List.mem_of_mem_take hj))
      have h5 : orL (L.take (k + 1)) = orL (L.take k) ||| 2 ^ L.getD k 0 := by
        rw [List.take_succ_eq_append_getElem hkl, orL_app, List.getD_eq_getElem?_getD, List.getElem?_eq_getElem hkl]
        rfl
      have h6 : lastI L (k + 1) = (L.getD k 0 : Nat) := by unfold lastI; rw [if_neg (by omega)]; rfl
      have h7 := bits_or_u64_nat (orL (L.take k)) (2 ^ L.getD k 0) h4 (pow_lt _ h3)
      have h8 := pow_in _ h3
      rw [← h5] at h7
      replace h5 := Lib.hid h6
      have h9 : Hid (∃ u, orL (L.take (k + 1)) = u) := Lib.hid ⟨_, rfl⟩
      obtain ⟨u, hu⟩ := h9.out
      rw [hu] at h7
      replace hu := Lib.hid hu
      generalize lastI L k = t at *
      generalize hy : L.getD k 0 = y at *
      generalize orL (L.take k) = o at *
      generalize 2 ^ y = q at *
      have d1 : decide ((y : Int) ≤ t) = false := by simp; omega
      have d2 : decide ((63 : Int) < (y : Int)) = false := by simp; omega
      have d3 : decide (63 < y) = false := by simp; omega
      have y0 : 0 ≤ (y : Int) := by omega
      have y1 : (y : Int) < 64 := by omega
      clear h1 h2 h4 h6 h9 hcell hkl hy
      go_wp2
      go_round
      case rel => exact ⟨k + 1, by omega, by go_num, by rw [hu.out], by rw [h5.out]⟩
      case measure => simp [intOf]; omega
    · obtain rfl : k = c := by omega
      have he : orL (L.take k) = x := by rw [← hL.out, List.take_length]; exact hor.out
      rw [he]
      clear he
      go_wp2_with fail
      refine (hC.out _).mono ?_
      rintro e w' ⟨rfl, rfl⟩
      go_wp2_with fail
      refine (hC2.out _).mono ?_
      rintro e w' ⟨rfl, rfl⟩
      go_wp2_with fail
      refine (hO.out _ hH1).mono ?_
      rintro e w2 ⟨v2, rfl, ho2, hb2⟩
      obtain ⟨a2, cap2, rfl⟩ := ho2.form
      rw [hL.out]
      replace hb2 := Lib.hid (below2 hb.out hb2)
      clear ho2
      go_wp2_with fail
      refine (hC.out _).mono ?_
      rintro e w' ⟨rfl, rfl⟩
      go_wp2_with fail
      refine (works_any _ (hH.later hb2.out)).mono ?_
      rintro e w3 ⟨rfl, hb3⟩
      replace hb3 := Lib.hid (below2 hb2.out hb3)
      go_wp2
      go_ret
      exact ⟨rfl, hb3.out⟩
end Go.Proofs.YtmbkopeikldonaaDoor.Quo
