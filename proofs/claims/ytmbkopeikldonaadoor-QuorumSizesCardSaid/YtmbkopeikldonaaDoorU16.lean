/- The document's Is, Survives, With, Meet, All. -/
import Derived.Test.YtmbkopeikldonaaDoorU12
namespace Go.Proofs.YtmbkopeikldonaaDoor.Quo
open Go.RowKit Go.Lib Go.Shelf
set_option linter.unusedVariables false
set_option linter.unusedSimpArgs false
set_option maxRecDepth 20000

theorem rnot0 {c : Int} (h : ¬ c = 0) : ((c == 0) = false ∧ (c != 0) = true) := by simp [h]
theorem ckI_two (n : Int) (l : List Nat) : ckI n l = 0 ∨ ckI n l = 2 := by
  unfold ckI ckL
  split
  · cases inAll n.toNat l <;> simp
  · exact .inr rfl
theorem ris_any (x : Nat) (hx : x < 18446744073709551616) (n : Int) (w : World) :
    Calls Tryd.prog 13 #[.int .u64 x, .int .i64 n] w fun e w' => e = .returned (.tuple #[.bool (isV n x), .int .i64 (ckI n [x])]) ∧ Below w.heap.size w w' := by
  have hC := fun W => rcheck_any x hx n W
  have hO := Lib.hid (fun W => rcount_any x hx W)
  have hl := pc_le x
  rcases ckI_two n [x] with h | h
  · have hn : 1 ≤ n ∧ n ≤ 7 := by
      apply Classical.byContradiction
      intro hn
      rw [ckI_bad (by omega)] at h
      omega
    obtain ⟨k, rfl⟩ := Int.eq_ofNat_of_zero_le (show 0 ≤ n by omega)
    have hI : isV k x = decide ((k : Int) < 2 * (pc x : Int)) := by
      unfold isV
      rw [h, Int.toNat_natCast]
      simp only [true_and]
      rw [decide_eq_decide]
      omega
    rw [hI]
    rw [h] at hC ⊢
    generalize pc x = c at *
    replace hC := Lib.hid hC
    clear hI h
    go_enter Tryd.func13, Tryd.ntmps13
    go_wp2_with (first
      | (go_at_call 35; refine (hC.out _).mono ?_; rintro e w' ⟨rfl, rfl⟩)
      | (go_at_call 27; refine (hO.out _).mono ?_; rintro e w1 ⟨rfl, hb⟩))
    go_ret2
    exact ⟨rfl, hb⟩
  · have hI : isV n x = false := by unfold isV; rw [h]; simp
    rw [hI]
    rw [h] at hC ⊢
    replace hC := Lib.hid hC
    clear hI h
    go_enter Tryd.func13, Tryd.ntmps13
    go_wp2_with (go_at_call 35; refine (hC.out _).mono ?_; rintro e w' ⟨rfl, rfl⟩)
    go_ret2
    exact ⟨rfl, Below.refl _ _⟩
theorem ck_parts {n : Int} {x : Nat} (h : ckI n [x] = 0) : ∃ k : Nat, n = k ∧ 1 ≤ k ∧ k ≤ 7 ∧ x ≤ all1 k := by
  have hn : 1 ≤ n ∧ n ≤ 7 := by
    apply Classical.byContradiction
    intro hn
    rw [ckI_bad (by omega)] at h
    omega
  obtain ⟨k, rfl⟩ := Int.eq_ofNat_of_zero_le (show 0 ≤ n by omega)
  refine ⟨k, rfl, by omega, by omega, ?_⟩
  apply Classical.byContradiction
  intro hx
  rw [ckI_in (by omega) (by omega), ckL1_f hx] at h
  omega
theorem rsurvives_any (x : Nat) (hx : x < 18446744073709551616) (n : Int) (w : World) :
    Calls Tryd.prog 15 #[.int .u64 x, .int .i64 n] w fun e w' => e = .returned (.tuple #[.bool (svV n x), .int .i64 (ckI n [x])]) ∧ Below w.heap.size w w' := by
  have hC := fun W => rcheck_any x hx n W
  rcases ckI_two n [x] with h | h
  · obtain ⟨k, rfl, h1, h7, hxa⟩ := ck_parts h
    have hs := pow_in k (by omega)
    have hs2 := all_in k (by omega)
    have hs3 : IntKind.u64.wrap ((all1 k : Int) - (x : Int)) = ((all1 k - x : Nat) : Int) := by
      rw [show (all1 k : Int) - (x : Int) = ((all1 k - x : Nat) : Int) by omega]; exact wu (by have := all1_7 h7; omega)
    have ha := all1_7 h7
    have hI := fun W => ris_any (all1 k - x) (by omega) k W
    have hu : all1 k - x ≤ all1 k := by omega
    rw [is_in h1 h7 hu, ck_in h1 h7 hu, (pc_compl k (by omega) x (by omega) hxa).1] at hI
    rw [sv_in h1 h7 hxa]
    rw [h] at hC ⊢
    generalize decide (k / 2 < k - pc x) = B at *
    generalize all1 k - x = u at *
    generalize all1 k = m at *
    generalize 2 ^ k = N at *
    have n0 : 0 ≤ (k : Int) := by omega
    have n1 : (k : Int) < 64 := by omega
    replace hC := Lib.hid hC
    replace hI := Lib.hid hI
    clear h hxa ha hu
    go_enter Tryd.func15, Tryd.ntmps15
    go_wp2_with (first
      | (go_at_call 35; refine (hC.out _).mono ?_; rintro e w' ⟨rfl, rfl⟩)
      | (go_at_call 13; refine (hI.out _).mono ?_; rintro e w1 ⟨rfl, hb⟩))
    go_ret2
    exact ⟨rfl, hb⟩
  · have hI : svV n x = false := by unfold svV; rw [h]; simp
    rw [hI]
    rw [h] at hC ⊢
    replace hC := Lib.hid hC
    clear hI h
    go_enter Tryd.func15, Tryd.ntmps15
    go_wp2_with (go_at_call 35; refine (hC.out _).mono ?_; rintro e w' ⟨rfl, rfl⟩)
    go_ret2
    exact ⟨rfl, Below.refl _ _⟩
theorem wi_in' {n x k : Nat} (h1 : 1 ≤ n) (h7 : n ≤ 7) (h : x ≤ all1 n) (hk : k < n) : wiV x k n = x ||| 2 ^ k ∧ wiE x k n = 0 := by
  have ho : wiO x k n := ⟨ck_in h1 h7 h, by omega, by omega⟩
  unfold wiV wiE
  rw [if_pos ho, if_pos ho, Int.toNat_natCast]
  exact ⟨rfl, rfl⟩
theorem rwith_any (x : Nat) (hx : x < 18446744073709551616) (k n : Int) (w : World) :
    Calls Tryd.prog 17 #[.int .u64 x, .int .i64 k, .int .i64 n] w fun e w' => e = .returned (.tuple #[.int .u64 (wiV x k n : Nat), .int .i64 (wiE x k n)]) ∧ Below w.heap.size w w' := by
  have hC := fun W => rcheck_any x hx n W
  rcases ckI_two n [x] with h | h
  · obtain ⟨m, rfl, h1, h7, hxa⟩ := ck_parts h
    by_cases hk : 0 ≤ k ∧ k < m
    · obtain ⟨j, rfl⟩ := Int.eq_ofNat_of_zero_le hk.1
      obtain ⟨e1, e2⟩ := wi_in' h1 h7 hxa (show j < m by omega)
      rw [e1, e2]
      rw [h] at hC
      have hs := pow_in j (by omega)
      have hor := bits_or_u64_nat x (2 ^ j) hx (pow_lt j (by omega))
      have b1 : decide ((j : Int) < 0) = false := by simp
      have b2 : decide ((m : Int) ≤ (j : Int)) = false := by simp; omega
      have b3 : decide (m ≤ j) = false := by simp; omega
      have n0 : 0 ≤ (j : Int) := by omega
      have n1 : (j : Int) < 64 := by omega
      generalize x ||| 2 ^ j = z at *
      generalize 2 ^ j = q at *
      replace hC := Lib.hid hC
      clear e1 e2 hk h hxa h1 h7
      go_enter Tryd.func17, Tryd.ntmps17
      go_wp2_with (go_at_call 35; refine (hC.out _).mono ?_; rintro e w' ⟨rfl, rfl⟩)
      go_ret2
      exact ⟨rfl, Below.refl _ _⟩
    · have ho : ¬ wiO x k m := fun h => hk h.2
      have e1 : wiV x k m = 0 := if_neg ho
      have e2 : wiE x k m = 2 := if_neg ho
      rw [e1, e2]
      rw [h] at hC
      replace hC := Lib.hid hC
      by_cases h0 : k < 0
      · have b1 : decide (k < 0) = true := by simpa using h0
        clear e1 e2 ho hk h h1 h7 h0 hxa
        go_enter Tryd.func17, Tryd.ntmps17
        go_wp2_with (go_at_call 35; refine (hC.out _).mono ?_; rintro e w' ⟨rfl, rfl⟩)
        go_ret2
        exact ⟨rfl, Below.refl _ _⟩
      · have b1 : decide (k < 0) = false := by simpa using h0
        have b2 : decide ((m : Int) ≤ k) = true := by simp; omega
        clear e1 e2 ho hk h h1 h7 h0 hxa
        go_enter Tryd.func17, Tryd.ntmps17
        go_wp2_with (go_at_call 35; refine (hC.out _).mono ?_; rintro e w' ⟨rfl, rfl⟩)
        go_ret2
        exact ⟨rfl, Below.refl _ _⟩
  · have ho : ¬ wiO x k n := fun hh => by have := hh.1; rw [h] at this; omega
    have e1 : wiV x k n = 0 := if_neg ho
    have e2 : wiE x k n = 2 := if_neg ho
    rw [e1, e2]
    rw [h] at hC
    replace hC := Lib.hid hC
    clear e1 e2 ho h
    go_enter Tryd.func17, Tryd.ntmps17
    go_wp2_with (go_at_call 35; refine (hC.out _).mono ?_; rintro e w' ⟨rfl, rfl⟩)
    go_ret2
    exact ⟨rfl, Below.refl _ _⟩
theorem ck_both (n : Int) (a b : Nat) : ckI n [a, b] = if ckI n [a] = 0 ∧ ckI n [b] = 0 then 0 else 2 := by
  by_cases hn : 1 ≤ n ∧ n ≤ 7
  · obtain ⟨k, rfl⟩ := Int.eq_ofNat_of_zero_le (show 0 ≤ n by omega)
    rw [ckI_in (by omega) (by omega), ckI_in (by omega) (by omega), ckI_in (by omega) (by omega)]
    unfold ckL
    rw [inAll2, inAll1, inAll1]
    by_cases h1 : a ≤ all1 k <;> by_cases h2 : b ≤ all1 k <;> simp [h1, h2]
  · rw [ckI_bad (by omega), ckI_bad (by omega)]
    simp
theorem rmeet_any (a b : Nat) (n : Int) (ha : a < 18446744073709551616) (hb : b < 18446744073709551616) (w : World) :
    Calls Tryd.prog 20 #[.int .u64 a, .int .u64 b, .int .i64 n] w fun e w' => e = .returned (.tuple #[.int .i64 (mtV n a b : Nat), .bool (mtB n a b), .int .i64 (ckI n [a, b])]) ∧ Below w.heap.size w w' := by
  have hA := fun W => rcheck_any a ha n W
  have hB := fun W => rcheck_any b hb n W
  have hz := bits_and_u64_nat a b ha hb
  have hzl : a &&& b ≤ a := Nat.and_le_left
  have hO := Lib.hid (fun W => rnodes_any (a &&& b) (by omega) W)
  have hl := bits_lt (a &&& b)
  have hck := ck_both n a b
  unfold mtV mtB mtL
  rcases ckI_two n [a] with h1 | h1
  · rcases ckI_two n [b] with h2 | h2
    · rw [if_pos ⟨h1, h2⟩] at hck
      rw [hck, if_pos rfl]
      rw [h1] at hA
      rw [h2] at hB
      generalize a &&& b = z at *
      generalize bitsOf z = L at *
      replace hA := Lib.hid hA
      replace hB := Lib.hid hB
      clear h1 h2 hck hzl
      cases L with
      | nil =>
        go_enter Tryd.func20, Tryd.ntmps20
        go_wp2_with fail
        refine (hA.out _).mono ?_
        rintro e w' ⟨rfl, rfl⟩
        go_wp2_with fail
        refine (hB.out _).mono ?_
        rintro e w' ⟨rfl, rfl⟩
        go_wp2_with (go_at_call 30; refine (hO.out _).mono ?_; rintro e w1 ⟨v, rfl, ho, hb1⟩; obtain ⟨aa, cap, rfl⟩ := ho.form)
        go_ret3
        exact ⟨rfl, hb1⟩
      | cons y L =>
        have hl2 : L.length ≤ 63 := by simpa using hl
        go_enter Tryd.func20, Tryd.ntmps20
        go_wp2_with fail
        refine (hA.out _).mono ?_
        rintro e w' ⟨rfl, rfl⟩
        go_wp2_with fail
        refine (hB.out _).mono ?_
        rintro e w' ⟨rfl, rfl⟩
        go_wp2_with fail
        refine (hO.out _).mono ?_
        rintro e w1 ⟨v, rfl, ho, hb1⟩
        obtain ⟨aa, cap, rfl, hd1⟩ := ho.ns
        obtain ⟨g, off, rfl, hd⟩ := hd1 (by simp)
        have c0 : w1.cell? ⟨g, off, none⟩ = some (.int .i64 (y : Nat)) := hd 0 (by simp)
        have hll : (y :: L).length = L.length + 1 := rfl
        rw [hll]
        clear hd hd1 ho hll hl
        go_wp2
        go_ret3
        exact ⟨rfl, hb1⟩
    · rw [if_neg (by rw [h2]; omega)] at hck
      rw [hck, if_neg (by decide)]
      rw [h1] at hA
      rw [h2] at hB
      replace hA := Lib.hid hA
      replace hB := Lib.hid hB
      clear h1 h2 hck
      go_enter Tryd.func20, Tryd.ntmps20
      go_wp2_with fail
      refine (hA.out _).mono ?_
      rintro e w' ⟨rfl, rfl⟩
      go_wp2_with fail
      refine (hB.out _).mono ?_
      rintro e w' ⟨rfl, rfl⟩
      go_wp2
      go_ret3
      exact ⟨rfl, Below.refl _ _⟩
  · rw [if_neg (by rw [h1]; omega)] at hck
    rw [hck, if_neg (by decide)]
    rw [h1] at hA
    replace hA := Lib.hid hA
    clear h1 hck
    go_enter Tryd.func20, Tryd.ntmps20
    go_wp2_with fail
    refine (hA.out _).mono ?_
    rintro e w' ⟨rfl, rfl⟩
    go_wp2
    go_ret3
    exact ⟨rfl, Below.refl _ _⟩

/-! The document's All. -/
theorem rall_bad (n : Int) (hn : n < 1 ∨ 7 < n) (w : World) :
    Calls Tryd.prog 24 #[.int .i64 n] w fun e w' => e = .returned (.tuple #[.slice none 0 0, .int .i64 2]) ∧ w = w' := by
  have hC := Lib.hid (fun W => rsize_bad n hn W)
  clear hn
  go_enter Tryd.func24, Tryd.ntmps24
  go_wp2_with (go_at_call 22; refine (hC.out _).mono ?_; rintro e w' ⟨rfl, rfl⟩)
  go_ret2
  exact ⟨rfl, rfl⟩
set_option maxHeartbeats 1000000 in
theorem rall_ok (n : Nat) (h1 : 1 ≤ n) (h7 : n ≤ 7) (w : World) :
    Calls Tryd.prog 24 #[.int .i64 n] w (AllIs (allL n) w) := by
  have hS := Lib.hid (fun W => rsize_ok n h1 h7 W)
  have hC := Lib.hid (fun (x : Nat) (hx : x < 200) W => rcount_any x (by omega) W)
  have hp := pow_in n (by omega)
  have hq : 2 ^ n ≤ 128 := Nat.pow_le_pow_right (n := 2) (by decide) h7
  unfold allL
  have hm : n / 2 + 1 < 100 := by omega
  generalize n / 2 + 1 = m at *
  generalize 2 ^ n = q at *
  have n0 : 0 ≤ (n : Int) := by omega
  have n1 : (n : Int) < 64 := by omega
  clear h1 h7
  go_enter Tryd.func24, Tryd.ntmps24
  go_wp2_with (go_at_call 22; refine (hS.out _).mono ?_; rintro e w' ⟨rfl, rfl⟩)
  go_loopw [6, 7] (fun l i wr => ∃ k : Nat, k ≤ q ∧ i = .int .u64 k ∧ OwU w.heap.size (upL m k) l wr ∧ Below w.heap.size w wr) (fun _ i _ => q - (intOf i).toNat)
  case atStart => exact ⟨0, Nat.zero_le _, rfl, OwU.nil _ _, Below.refl _ _⟩
  case round =>
    obtain ⟨k, hk, rfl, ho, hb⟩ := hrel
    obtain ⟨a1, cap, rfl⟩ := ho.form
    have hlen := upL_len m k
    replace hb := Lib.hid hb
    by_cases hlt : k < q
    · have b1 : decide ((k : Int) < (q : Int)) = true := by simpa using hlt
      have b2 : decide (k < q) = true := by simpa using hlt
      have e1 : IntKind.u64.wrap ((k : Int) + 1) = ((k + 1 : Nat) : Int) := wu1 k (by omega)
      have hCk := Lib.hid (fun W => hC.out k (by omega) W)
      have hpc := pc_le k
      replace ho := Lib.hid ho
      by_cases hc : pc k = m
      · have hup := upL_yes hc
        rw [hc] at hCk
        have HU := Lib.hid hup
        have hll : (upL m k).length ≤ 100000 := by omega
        clear hup hc hpc hlen
        generalize upL m k = L at *
        go_wp2_with fail
        refine (hCk.out _).mono ?_
        rintro e w2 ⟨rfl, hb2⟩
        have ho2 := ho.out.later hb2
        have HO := Lib.hid ho2
        have ho3 := Lib.hid (ho2.later (alloc_b w2 (.cells #[.int .u64 k] TU)))
        have hB2 := Lib.hid (below2 hb.out hb2)
        have hcell : (w2.alloc (.cells #[.int .u64 k] TU)).cell? ⟨w2.heap.size, 0, none⟩ = some (.int .u64 k) := cell_of_row _ _ 0 _ _ _ (heap_alloc_new w2 _)
        have hbs : w.heap.size ≤ (w2.alloc (.cells #[.int .u64 k] TU)).heap.size := Nat.le_trans hB2.out.size (alloc_b w2 _).size
        clear ho2 hb2
        go_wp2_with (at_builtin; refine wpList_append_U rfl _ _ rfl w.heap.size _ L rfl ho3.out w2.heap.size 1 k rfl hcell hll hbs ?_; intro v' w3 ho4 hg4)
        have hb4 := Lib.hid (owBU HO.out hg4 hB2.out)
        replace ho4 := Lib.hid ho4
        clear hg4
        go_roundw
        case rel => exact ⟨k + 1, by omega, by go_num, by rw [HU.out]; exact ho4.out, hb4.out⟩
        case measure => simp [intOf]; omega
      · have HU := Lib.hid (upL_no hc)
        have b3 : ((pc k : Int) == (m : Int)) = false := by simp; omega
        have b4 : ¬ (pc k : Int) = (m : Int) := by omega
        generalize pc k = c at *
        generalize upL m k = L at *
        go_wp2_with fail
        refine (hCk.out _).mono ?_
        rintro e w2 ⟨rfl, hb2⟩
        have ho2 := Lib.hid (ho.out.later hb2)
        have hB2 := Lib.hid (below2 hb.out hb2)
        clear hb2
        go_wp2
        go_roundw
        case rel => exact ⟨k + 1, by omega, by go_num, by rw [HU.out]; exact ho2.out, hB2.out⟩
        case measure => simp [intOf]; omega
    · obtain rfl : k = q := by omega
      replace ho := Lib.hid ho
      go_wp2
      go_ret2
      exact ⟨_, rfl, ho.out, hb.out⟩
end Go.Proofs.YtmbkopeikldonaaDoor.Quo
