/- Contracts of Join: the program's. -/
import Derived.Test.YtnpkdieblejliaaDoorK05
import Derived.BigQuiet
import Derived.Maps.RangeWalk
import Derived.Deep.QuietTactic
namespace Go.Proofs.YtnpkdieblejliaaDoor.Crc
open Go.RowKit Go.ChangeShapes
set_option linter.unusedVariables false

theorem i64_and1 (m : Nat) (h : m < 9223372036854775808) : bits .and .i64 (m : Int) 1 = ((m % 2 : Nat) : Int) := by
  show IntKind.i64.wrap ((BitVec.ofInt 64 (m : Int) &&& BitVec.ofInt 64 1).toNat : Int) = _
  have h1 : BitVec.ofInt 64 (1 : Int) = BitVec.ofNat 64 1 := by decide
  rw [BitVec.toNat_and, ofInt_u64 m (by omega), h1, BitVec.toNat_ofNat]
  have h2 : m &&& 1 % 2 ^ 64 = m % 2 := Nat.and_two_pow_sub_one_eq_mod m 1
  rw [h2, IntKind.wrap_i64]
  omega

theorem join_neg (a b : Nat) (n : Int) (h : n < 0) (w : World) :
    Calls Tryd.prog 20 #[.int .u32 a, .int .u32 b, .int .i64 n] w fun e w' => e = .returned (.tuple #[.int .u32 0, .int .i64 2]) ∧ Below w.heap.size w w' := by
  have hd : decide (n < 0) = true := by simpa using h
  go_enter Tryd.func20, Tryd.ntmps20
  go_wp2
  go_ret2
  exact ⟨rfl, Below.refl _ _⟩
theorem join_great (a b : Nat) (n : Int) (h : 2147483648 < n) (w : World) :
    Calls Tryd.prog 20 #[.int .u32 a, .int .u32 b, .int .i64 n] w fun e w' => e = .returned (.tuple #[.int .u32 0, .int .i64 2]) ∧ Below w.heap.size w w' := by
  have hd : decide (n < 0) = false := by simp; omega
  have hd2 : decide (2147483648 < n) = true := by simp; omega
  go_enter Tryd.func20, Tryd.ntmps20
  go_wp2
  go_ret2
  exact ⟨rfl, Below.refl _ _⟩

/-- Where steps are made: the block g holds the columns of E steps. -/
structure JAt (w : World) (g E : Nat) (wr : World) : Prop where
  blk : Blk wr g (cols E) 48
  bel : Below w.heap.size w wr
  hv : Hv wr
  ge : w.heap.size ≤ g
theorem JAt.later {w wr w1 : World} {g E : Nat} (h : JAt w g E wr) (hb : Below wr.heap.size wr w1) : JAt w g E w1 :=
  ⟨h.blk.later hb, h.bel.trans (hb.mono h.bel.size), h.hv.later hb, h.ge⟩
theorem JAt.row {w wr : World} {g E E' : Nat} (h : JAt w g E wr) (hg : 0 < w.heap.size) : JAt w g E' (wr.setRow g (cols E')) :=
  ⟨h.blk.row, below_setRow h.bel h.ge _, fun i hi => by
    rw [cell_setRow_other _ _ _ _ (by have := h.ge; show 0 ≠ g; omega)]; exact h.hv i hi, h.ge⟩
theorem cols_hi (E : Nat) : (Tryd.prog.info? 48).map (·.size) = some (cols E).size := fill_hi _
theorem cols_size (E E' : Nat) : (cols E).size = (cols E').size := by unfold cols; rw [fill_size, fill_size]
theorem cols_one (E : Nat) : (cols E).all (·.oneCell') = true := fill_one _ _ _

theorem cols_32 (E : Nat) : (cols E).size = 32 := by unfold cols; rw [fill_size]

theorem half_odd {A E M S : Nat} (h : A + E * M = S) (ho : M % 2 = 1) : A + E + (E + E) * (M / 2) = S := by
  have e : M = 2 * (M / 2) + 1 := by omega
  generalize M / 2 = k at *
  subst e
  rw [Nat.mul_add, Nat.mul_one, Nat.mul_left_comm] at h
  rw [Nat.add_mul]
  omega
theorem half_even {A E M S : Nat} (h : A + E * M = S) (ho : ¬ M % 2 = 1) : A + (E + E) * (M / 2) = S := by
  have e : M = 2 * (M / 2) := by omega
  generalize M / 2 = k at *
  subst e
  rw [Nat.mul_left_comm] at h
  rw [Nat.add_mul]
  omega
theorem join_yes (a b n : Nat) (ha : a < 4294967296) (hbb : b < 4294967296) (hn : n ≤ 2147483648) (w : World) (hH : Hv w) :
    Calls Tryd.prog 20 #[.int .u32 a, .int .u32 b, .int .i64 n] w fun e w' => e = .returned (.tuple #[.int .u32 (stps (8 * n) a ^^^ b : Nat), .int .i64 0]) ∧ Below w.heap.size w w' := by
  have hd : decide ((n : Int) < 0) = false := by simp
  have hd2 : decide (2147483648 < (n : Int)) = false := by simp; omega
  have hg := hH.lt
  go_enter Tryd.func20, Tryd.ntmps20
  go_wp2_with (first
    | (go_at_call 30; refine (byteSteps_any _ hH).mono ?_; rintro e w1 ⟨rfl, hb⟩)
    | (refine wpList_store_row rfl 48 _ _ rfl w1.heap.size _ rfl rfl 48 _ (heap_alloc_new w1 _) (cols_hi 8) (by first | (rw [cols_32]; done) | (rw [cols_32]; rfl)) (cols_one 8) ?_))
  have hj : JAt w w1.heap.size 8 ((w1.alloc (.cells (fill (fun _ => 0) 32 0) 48)).setRow w1.heap.size (cols 8)) := by
    refine ⟨Blk.row (heap_alloc_new w1 _), below_setRow (hb.alloc hb.size _) hb.size _, ?_, hb.size⟩
    intro i hi
    rw [cell_setRow_other _ _ _ _ (by have := hb.size; show 0 ≠ w1.heap.size; omega)]
    exact (hH.later (hb.alloc hb.size (.cells (fill (fun _ => 0) 32 0) 48))) i hi
  have Hj := Lib.hid hj
  have hge := hb.size
  clear hj hb
  go_frame
  go_loopw [0, 2] (fun t m wr => ∃ M A E : Nat, M ≤ 2147483648 ∧ m = .int .i64 M ∧ t = .int .u32 (stps A a : Nat) ∧ A + E * M = 8 * n ∧ JAt w w1.heap.size E wr) (fun _ m _ => (intOf m).toNat)
  case atStart => exact ⟨n, 0, 8, hn, rfl, rfl, by omega, Hj.out⟩
  case round =>
    obtain ⟨M, A, E, hM, rfl, rfl, hsum, hj⟩ := hrel
    have HS := Lib.hid hsum
    have HJ := Lib.hid hj
    clear hsum hj Hj
    by_cases hlt : 0 < M
    · have hal := stps_lt A a ha
      have hm := i64_and1 M (by omega)
      have hgt : decide (0 < (M : Int)) = true := by simp; omega
      by_cases hodd : M % 2 = 1
      · have hb1 : (bits .and .i64 (M : Int) 1 == 1) = true := by rw [hm, hodd]; rfl
        have hsum := half_odd HS.out hodd
        have hnew := stps_add A E a
        have hq : ∀ q, q = stps A a → q < 4294967296 := fun q e => by rw [e]; exact hal
        have HS := Lib.hid hsum
        have HN := Lib.hid hnew
        clear hm hodd hsum hnew hq
        generalize stps A a = q at *
        go_wp2_with (first
          | (refine wpList_load_row rfl 48 _ rfl w1.heap.size rfl 48 _ (0, 0) _ HJ.out.blk Tryd.underlying48 rfl (cols_hi E) ?_)
          | (go_at_call 31; refine (of_stps E q hal _).mono ?_; rintro e w2 ⟨rfl, hb2⟩; have HJ := Lib.hid (HJ.out.later hb2))
          | (go_at_call 32; refine (twice_any E _ HJ.out.hv).mono ?_; rintro e w3 ⟨rfl, hb3⟩; have HJ := Lib.hid (HJ.out.later hb3))
          | (refine wpList_store_row rfl 48 _ _ rfl w1.heap.size _ rfl rfl 48 _ HJ.out.blk (cols_hi (E + E)) (cols_size E (E + E)) (cols_one (E + E)) ?_))
        try go_frame
        go_wp2
        go_roundw
        case rel => exact ⟨M / 2, A + E, E + E, by omega, by go_num, by rw [HN.out], HS.out, HJ.out.row hg⟩
        case measure => simp [intOf]; omega
      · have hb1 : (bits .and .i64 (M : Int) 1 == 1) = false := by rw [hm, beq_eq_false_iff_ne]; omega
        have hsum := half_even HS.out hodd
        have HS := Lib.hid hsum
        clear hm hodd hsum
        generalize hq : stps A a = q at *
        have Hq := Lib.hid hq
        clear hq
        go_wp2_with (first
          | (refine wpList_load_row rfl 48 _ rfl w1.heap.size rfl 48 _ (0, 0) _ HJ.out.blk Tryd.underlying48 rfl (cols_hi E) ?_)
          | (go_at_call 32; refine (twice_any E _ HJ.out.hv).mono ?_; rintro e w3 ⟨rfl, hb3⟩; have HJ := Lib.hid (HJ.out.later hb3))
          | (refine wpList_store_row rfl 48 _ _ rfl w1.heap.size _ rfl rfl 48 _ HJ.out.blk (cols_hi (E + E)) (cols_size E (E + E)) (cols_one (E + E)) ?_))
        try go_frame
        go_wp2
        go_roundw
        case rel => exact ⟨M / 2, A, E + E, by omega, by go_num, by rw [Hq.out], HS.out, HJ.out.row hg⟩
        case measure => simp [intOf]; omega
    · obtain rfl : M = 0 := by omega
      have hA : A = 8 * n := by have := HS.out; omega
      subst hA
      have hal := stps_lt (8 * n) a ha
      generalize hq : stps (8 * n) a = q at *
      have Hq := Lib.hid hq
      clear hq
      have hx := u32_xor_nat q b hal hbb
      go_wp2
      go_ret2
      exact ⟨by rw [Hq.out]; rfl, HJ.out.bel⟩
end Go.Proofs.YtnpkdieblejliaaDoor.Crc
