/- The document's Check, Size, Nodes, Count, Is, Survives, With, All. -/
import Derived.Test.YtmbkopeikldonaaDoorU06
namespace Go.Proofs.YtmbkopeikldonaaDoor.Quo
open Go.RowKit Go.Lib
set_option linter.unusedVariables false
set_option linter.unusedSimpArgs false
set_option maxRecDepth 20000

theorem rcheck_any (x : Nat) (hx : x < 18446744073709551616) (n : Int) (w : World) :
    Calls Tryd.prog 35 #[.int .u64 x, .int .i64 n] w fun e w' => e = .returned (.int .i64 (ckI n [x])) ∧ w = w' := by
  by_cases h1 : n < 1
  · rw [ckI_bad (.inl h1)]
    have b1 : decide (n < 1) = true := by simpa using h1
    clear h1
    go_enter Tryd.func35, Tryd.ntmps35
    go_wp2
    go_ret
    exact ⟨rfl, rfl⟩
  · have b1 : decide (n < 1) = false := by simpa using h1
    by_cases h7 : 7 < n
    · rw [ckI_bad (.inr h7)]
      have b2 : decide (7 < n) = true := by simpa using h7
      clear h1 h7
      go_enter Tryd.func35, Tryd.ntmps35
      go_wp2
      go_ret
      exact ⟨rfl, rfl⟩
    · obtain ⟨k, rfl⟩ := Int.eq_ofNat_of_zero_le (show 0 ≤ n by omega)
      have b2 : decide (7 < (k : Int)) = false := by simp; omega
      have b3 : decide (7 < k) = false := by simp; omega
      have b4 : decide (k < 1) = false := by simp; omega
      have hp := pow_in k (by omega)
      have hk := Nat.two_pow_pos k
      rw [ckI_in (by omega) (by omega)]
      have ha : all1 k + 1 = 2 ^ k := by unfold all1; omega
      by_cases hc : x ≤ all1 k
      · rw [ckL1_t hc]
        generalize 2 ^ k = q at *
        have b5 : decide ((q : Int) ≤ (x : Int)) = false := by simp; omega
        have b6 : decide (q ≤ x) = false := by simp; omega
        have n0 : 0 ≤ (k : Int) := by omega
        have n1 : (k : Int) < 64 := by omega
        clear h1 h7 hc ha hk
        go_enter Tryd.func35, Tryd.ntmps35
        go_wp2
        go_ret
        exact ⟨rfl, rfl⟩
      · rw [ckL1_f hc]
        generalize 2 ^ k = q at *
        have b5 : decide ((q : Int) ≤ (x : Int)) = true := by simp; omega
        have b6 : decide (q ≤ x) = true := by simp; omega
        have n0 : 0 ≤ (k : Int) := by omega
        have n1 : (k : Int) < 64 := by omega
        clear h1 h7 hc ha hk
        go_enter Tryd.func35, Tryd.ntmps35
        go_wp2
        go_ret
        exact ⟨rfl, rfl⟩
theorem ckI0 (n : Nat) (h1 : 1 ≤ n) (h7 : n ≤ 7) : ckI n [0] = 0 := by rw [ckI_in h1 h7]; exact ckL1_t (by omega)
theorem rsize_bad (n : Int) (hn : n < 1 ∨ 7 < n) (w : World) :
    Calls Tryd.prog 22 #[.int .i64 n] w fun e w' => e = .returned (.tuple #[.int .i64 0, .int .i64 2]) ∧ w = w' := by
  have hC := Lib.hid (fun W => rcheck_any 0 (by omega) n W)
  rw [ckI_bad hn] at hC
  clear hn
  go_enter Tryd.func22, Tryd.ntmps22
  go_wp2_with (go_at_call 35; refine (hC.out _).mono ?_; rintro e w' ⟨rfl, rfl⟩)
  go_ret2
  exact ⟨rfl, rfl⟩
theorem rsize_ok (n : Nat) (h1 : 1 ≤ n) (h7 : n ≤ 7) (w : World) :
    Calls Tryd.prog 22 #[.int .i64 n] w fun e w' => e = .returned (.tuple #[.int .i64 (n / 2 + 1 : Nat), .int .i64 0]) ∧ w = w' := by
  have hC := Lib.hid (fun W => rcheck_any 0 (by omega) n W)
  rw [ckI0 n h1 h7] at hC
  obtain ⟨m, hm⟩ : ∃ m, n / 2 + 1 = m := ⟨_, rfl⟩
  rw [hm]
  replace hm := Lib.hid hm
  go_enter Tryd.func22, Tryd.ntmps22
  go_wp2_with (go_at_call 35; refine (hC.out _).mono ?_; rintro e w' ⟨rfl, rfl⟩)
  go_loop [5] (fun s => ∃ k : Nat, k ≤ m ∧ s = .int .i64 k) (fun s => m - (intOf s).toNat)
  case atStart => exact ⟨0, Nat.zero_le _, rfl⟩
  case round =>
    obtain ⟨k, hk, rfl⟩ := hrel
    by_cases hlt : k < m
    · have b1 : decide (2 * (k : Int) ≤ (n : Int)) = true := by have := hm.out; simp; omega
      have hk2 : k ≤ 10 := by have := hm.out; omega
      go_wp2
      go_round
      case rel => exact ⟨k + 1, by omega, by go_num⟩
      case measure => simp [intOf]; omega
    · obtain rfl : k = m := by omega
      have b1 : decide (2 * (k : Int) ≤ (n : Int)) = false := by have := hm.out; simp; omega
      have hk2 : k ≤ 10 := by have := hm.out; omega
      go_wp2
      go_ret2
      exact ⟨rfl, rfl⟩

/-! The document's Nodes and Count. -/
def bitsTo (x k : Nat) : List Nat := (List.range k).filter fun i => x.testBit i
theorem bitsTo_len (x k : Nat) : (bitsTo x k).length ≤ k := by
  have := List.length_filter_le (fun i => x.testBit i) (List.range k)
  rwa [List.length_range] at this
theorem bitsTo_yes {x k : Nat} (h : x.testBit k = true) : bitsTo x (k + 1) = bitsTo x k ++ [k] := by
  unfold bitsTo; rw [List.range_succ, List.filter_append, List.filter_cons, if_pos h]; rfl
theorem bitsTo_no {x k : Nat} (h : ¬ x.testBit k = true) : bitsTo x (k + 1) = bitsTo x k := by
  unfold bitsTo; rw [List.range_succ, List.filter_append, List.filter_cons, if_neg h]; simp
theorem test_mod (x k : Nat) : x.testBit k = true ↔ x / 2 ^ k % 2 = 1 := by
  rw [Nat.testBit_eq_decide_div_mod_eq, decide_eq_true_iff]
def OwnI (l : List Nat) (w : World) (e : Ending) (w' : World) : Prop := ∃ v, e = .returned v ∧ OwI w.heap.size l v w' ∧ Below w.heap.size w w'
set_option maxHeartbeats 1000000 in
theorem rnodes_any (x : Nat) (hx : x < 18446744073709551616) (w : World) :
    Calls Tryd.prog 30 #[.int .u64 x] w (OwnI (bitsOf x) w) := by
  have hB : bitsTo x 64 = bitsOf x := rfl
  rw [← hB]
  clear hB
  go_enter Tryd.func30, Tryd.ntmps30
  go_wp2
  go_loopw [3, 4] (fun l i wr => ∃ k : Nat, k ≤ 64 ∧ i = .int .i64 k ∧ OwI w.heap.size (bitsTo x k) l wr ∧ Below w.heap.size w wr) (fun _ i _ => 64 - (intOf i).toNat)
  case atStart => exact ⟨0, Nat.zero_le _, rfl, OwI.nil _ _, Below.refl _ _⟩
  case round =>
    obtain ⟨k, hk, rfl, ho, hb⟩ := hrel
    obtain ⟨a1, cap, rfl⟩ := ho.form
    have hlen := bitsTo_len x k
    replace hb := Lib.hid hb
    by_cases hlt : k < 64
    · have e1 : (x : Int) / 2 ^ k = ((x / 2 ^ k : Nat) : Int) := by
        rw [show (2 : Int) ^ k = ((2 ^ k : Nat) : Int) by rw [Int.natCast_pow]; rfl, ← Int.natCast_ediv]
      have ht := test_mod x k
      have hyl : x / 2 ^ k < 18446744073709551616 := Nat.lt_of_le_of_lt (Nat.div_le_self _ _) hx
      generalize x / 2 ^ k = y at *
      by_cases hc : x.testBit k = true
      · have hup := bitsTo_yes hc
        have hy := ht.1 hc
        have b1 : ((y : Int) % 2 == 1) = true := by simp; omega
        have b2 : (y : Int) % 2 = 1 := by omega
        have b3 : y % 2 = 1 := hy
        have ho2 := ho.later (alloc_b wr (.cells #[.int .i64 k] TI))
        have hcell : (wr.alloc (.cells #[.int .i64 k] TI)).cell? ⟨wr.heap.size, 0, none⟩ = some (.int .i64 k) := cell_of_row _ _ 0 _ _ _ (heap_alloc_new wr _)
        have hbs : w.heap.size ≤ (wr.alloc (.cells #[.int .i64 k] TI)).heap.size := Nat.le_trans hb.out.size (alloc_b wr _).size
        have HO := Lib.hid ho
        have HO2 := Lib.hid ho2
        have HU := Lib.hid hup
        have hll : (bitsTo x k).length ≤ 100000 := by omega
        clear ho ho2 hup hc ht hy hlen
        generalize bitsTo x k = L at *
        go_wp2_with (at_builtin; refine wpList_append_I rfl _ _ rfl w.heap.size _ L rfl HO2.out wr.heap.size 1 k rfl hcell hll hbs ?_; intro v' w1 ho3 hg3)
        have hb3 := Lib.hid (owBI HO.out hg3 hb.out)
        replace ho3 := Lib.hid ho3
        clear hg3
        go_roundw
        case rel => exact ⟨k + 1, by omega, by go_num, by rw [HU.out]; exact ho3.out, hb3.out⟩
        case measure => simp [intOf]; omega
      · have HU := Lib.hid (bitsTo_no hc)
        have hy : ¬ y % 2 = 1 := fun h => hc (ht.2 h)
        have b1 : ((y : Int) % 2 == 1) = false := by simp; omega
        have b2 : ¬ (y : Int) % 2 = 1 := by omega
        replace ho := Lib.hid ho
        clear hc ht
        generalize bitsTo x k = L at *
        go_wp2
        go_roundw
        case rel => exact ⟨k + 1, by omega, by go_num, by rw [HU.out]; exact ho.out, hb.out⟩
        case measure => simp [intOf]; omega
    · obtain rfl : k = 64 := by omega
      replace ho := Lib.hid ho
      go_wp2
      go_ret
      exact ⟨_, rfl, ho.out, hb.out⟩
theorem rcount_any (x : Nat) (hx : x < 18446744073709551616) (w : World) :
    Calls Tryd.prog 27 #[.int .u64 x] w fun e w' => e = .returned (.int .i64 (pc x : Nat)) ∧ Below w.heap.size w w' := by
  have hO := Lib.hid (fun W => rnodes_any x hx W)
  have hn : (bitsOf x).length = pc x := rfl
  generalize pc x = n at *
  generalize bitsOf x = l at *
  subst hn
  clear hx
  go_enter Tryd.func27, Tryd.ntmps27
  go_wp2_with (go_at_call 30; refine (hO.out _).mono ?_; rintro e w1 ⟨v, rfl, ho, hb⟩; obtain ⟨a, cap, rfl⟩ := ho.form)
  go_ret
  exact ⟨rfl, hb⟩
end Go.Proofs.YtmbkopeikldonaaDoor.Quo
