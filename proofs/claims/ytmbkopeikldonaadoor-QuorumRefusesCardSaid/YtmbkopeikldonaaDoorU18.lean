/- The walk of QuorumRefuses. -/
import Derived.Test.YtmbkopeikldonaaDoorU12
namespace Go.Proofs.YtmbkopeikldonaaDoor.Quo
open Go.RowKit Go.Lib Go.Shelf
set_option linter.unusedVariables false
set_option linter.unusedSimpArgs false
set_option maxRecDepth 20000

theorem bad_gt {n x s : Nat} (h : n ≤ s) : all1 n < x ||| 2 ^ s := by
  have h1 : 2 ^ s ≤ x ||| 2 ^ s := Nat.right_le_or
  have h2 : 2 ^ n ≤ 2 ^ s := Nat.pow_le_pow_right (by decide) h
  have h3 := Nat.two_pow_pos n
  unfold all1
  omega
theorem ck_no {n x : Nat} (h1 : 1 ≤ n) (h7 : n ≤ 7) (h : all1 n < x) : ckI n [x] = 2 := by rw [ckI_in h1 h7]; exact ckL1_f (by omega)
theorem ck2_no {n x y : Nat} (h1 : 1 ≤ n) (h7 : n ≤ 7) (h : all1 n < x ∨ all1 n < y) : ckI n [x, y] = 2 := by
  rw [ckI_in h1 h7]
  refine ckL_f ?_
  rw [inAll2]
  rcases h with h | h
  · rw [show decide (x ≤ all1 n) = false from decide_eq_false (by omega)]; rfl
  · rw [show decide (y ≤ all1 n) = false from decide_eq_false (by omega), Bool.and_false]
def row7 : Array Value := #[.int .i64 2, .int .i64 2, .int .i64 2, .int .i64 2, .int .i64 2, .int .i64 2, .int .i64 2]
theorem row7_at (W : World) (t : TypeId) (k : Nat) (hk : k < 7) : (W.alloc (.cells row7 t)).cell? ⟨W.heap.size, k, none⟩ = some (.int .i64 2) := by
  refine cell_of_row _ _ k row7 t _ (heap_alloc_new W _) |>.trans ?_
  match k, hk with
  | 0, _ => rfl
  | 1, _ => rfl
  | 2, _ => rfl
  | 3, _ => rfl
  | 4, _ => rfl
  | 5, _ => rfl
  | 6, _ => rfl
def row5 (b : Nat) : Array Value := #[.int .i64 0, .int .i64 (-1 - (b : Int)), .int .i64 (8 + (b : Int)), .int .i64 (-9223372036854775808), .int .i64 9223372036854775807]
theorem row5_at (W : World) (t : TypeId) (b k : Nat) (hk : k < 5) : ∃ m : Int, (m < 1 ∨ 7 < m) ∧ (W.alloc (.cells (row5 b) t)).cell? ⟨W.heap.size, k, none⟩ = some (.int .i64 m) := by
  have h := fun i v (hv : (row5 b)[i]? = some v) => (cell_of_row _ _ i (row5 b) t _ (heap_alloc_new W (.cells (row5 b) t))).trans hv
  match k, hk with
  | 0, _ => exact ⟨0, by omega, h 0 _ rfl⟩
  | 1, _ => exact ⟨-1 - (b : Int), by omega, h 1 _ rfl⟩
  | 2, _ => exact ⟨8 + (b : Int), by omega, h 2 _ rfl⟩
  | 3, _ => exact ⟨-9223372036854775808, by omega, h 3 _ rfl⟩
  | 4, _ => exact ⟨9223372036854775807, by omega, h 4 _ rfl⟩
set_option maxHeartbeats 2000000 in
theorem w_quorumRefuses (a0 a1 a2 : Int) (w0 : (Lit.int .u8 a0).wf = true) (w1 : (Lit.int .u8 a1).wf = true) (w2 : (Lit.int .u64 a2).wf = true) (w : World) (hH : Hv w) :
    Calls Tryd.prog 11 #[.int .u8 a0, .int .u8 a1, .int .u64 a2] w fun e w' => e = .returned (.bool true) ∧ Below w.heap.size w w' := by
  have b0 := bounds_u8 w0
  have b1 := bounds_u8 w1
  have b2 := bounds_u64 w2
  obtain ⟨a, rfl⟩ := Int.eq_ofNat_of_zero_le b0.1
  obtain ⟨b, rfl⟩ := Int.eq_ofNat_of_zero_le b1.1
  obtain ⟨c, rfl⟩ := Int.eq_ofNat_of_zero_le b2.1
  have d0 : IntKind.u8.wrap (c : Int) = ((c % 256 : Nat) : Int) := by rw [IntKind.wrap_u8]; omega
  have d00 : (c : Int) % 256 = ((c % 256 : Nat) : Int) := by omega
  have hG := Lib.hid (fun W => group_any a (c % 256) (by omega) (by omega) W)
  have hn := grN_in a
  have hx := grX_in a (c % 256)
  generalize grX a (c % 256) = x at *
  generalize grN a = n at *
  generalize c % 256 = u at *
  have h7 := all1_7 hn.2
  obtain ⟨hn1, hn7⟩ := hn
  have d1 : IntKind.i64.wrap (b : Int) = b := wr (by omega) (by omega)
  obtain ⟨d, hd⟩ : ∃ d : Nat, 64 - n = d := ⟨_, rfl⟩
  have d2 : 64 - (n : Int) = (d : Int) := by omega
  have d3 : (b : Int).tmod (d : Int) = ((b % d : Nat) : Int) := (Int.ofNat_tmod b d).symm
  have d4 : (b : Int) % (d : Int) = ((b % d : Nat) : Int) := (Int.natCast_emod _ _).symm
  have hr := Nat.mod_lt b (y := d) (by omega)
  generalize b % d = r at *
  obtain ⟨s, hs⟩ : ∃ s : Nat, n + r = s := ⟨_, rfl⟩
  have d5 : (n : Int) + (r : Int) = (s : Int) := by omega
  have hsn : n ≤ s := by omega
  have hs64 : s < 64 := by omega
  have hsh := pow_in s hs64
  have hor := bits_or_u64_nat x (2 ^ s) (by omega) (pow_lt s hs64)
  have hz := bad_gt (x := x) hsn
  have hz64 : x ||| 2 ^ s < 18446744073709551616 := Nat.or_lt_two_pow (n := 64) (by omega) (pow_lt s hs64)
  generalize x ||| 2 ^ s = z at *
  generalize 2 ^ s = q at *
  have hI := fun W => is_any z hz64 n W
  have hV := fun W => survives_any z hz64 n W
  have hck := ck_no hn1 hn7 hz
  rw [hck] at hI hV
  have hW0 := fun W => with_any z hz64 0 n W
  rw [show wiE z 0 n = 2 from if_neg (fun h => by have := h.1; rw [hck] at this; omega)] at hW0
  have hW1 := fun W => with_any x (by omega) ((n : Int) + (b : Int)) n W
  rw [show wiE x ((n : Int) + (b : Int)) n = 2 from if_neg (fun h => by have := h.2.2; omega)] at hW1
  have hW2 := fun W => with_any x (by omega) (-1 - (b : Int)) n W
  rw [show wiE x (-1 - (b : Int)) n = 2 from if_neg (fun h => by have := h.2.1; omega)] at hW2
  have hM1 := fun W h => meet_any z x n hz64 (by omega) W h
  have hM2 := fun W h => meet_any x z n (by omega) hz64 W h
  rw [ck2_no hn1 hn7 (.inl hz)] at hM1
  rw [ck2_no hn1 hn7 (.inr hz)] at hM2
  generalize isV n z = B1 at *
  generalize svV n z = B2 at *
  generalize wiV z 0 n = v0 at *
  generalize wiV x ((n : Int) + (b : Int)) n = v1 at *
  generalize wiV x (-1 - (b : Int)) n = v2 at *
  generalize mtV n z x = m1 at *
  generalize mtB n z x = B3 at *
  generalize mtV n x z = m2 at *
  generalize mtB n x z = B4 at *
  replace hI := Lib.hid hI
  replace hV := Lib.hid hV
  replace hW0 := Lib.hid hW0
  replace hW1 := Lib.hid hW1
  replace hW2 := Lib.hid hW2
  replace hM1 := Lib.hid hM1
  replace hM2 := Lib.hid hM2
  have hb255 : b ≤ 255 := by omega
  have h6 : ¬ (d : Int) = 0 := by omega
  have h8 : ((d : Int) == 0) = false := by simpa using h6
  have h9 : ¬ d = 0 := by omega
  have n0 : 0 ≤ (s : Int) := by omega
  have n1 : (s : Int) < 64 := by omega
  have n2 : 0 ≤ (b : Int) := by omega
  have n3 : (b : Int) ≤ 255 := by omega
  have d6 : IntKind.i64.wrap (d : Int) = d := wr (by omega) (by omega)
  have d7 : IntKind.i64.wrap (s : Int) = s := wr (by omega) (by omega)
  clear w0 w1 w2 b0 b1 b2 hck hz hx h7 hr hs hd hz64 hsn
  go_enter Tryd.func11, Tryd.ntmps11
  go_wp2_with fail
  refine (hG.out _).mono ?_
  rintro e w1 ⟨rfl, hb1⟩
  replace hb1 := Lib.hid hb1
  go_wp2_with fail
  refine (hI.out _).mono ?_
  rintro e w2 ⟨rfl, hb2⟩
  replace hb2 := Lib.hid (below2 hb1.out hb2)
  clear hb1
  go_wp2_with fail
  refine (hV.out _).mono ?_
  rintro e w3 ⟨rfl, hb3⟩
  replace hb3 := Lib.hid (below2 hb2.out hb3)
  clear hb2
  go_wp2_with fail
  refine (hW0.out _).mono ?_
  rintro e w4 ⟨rfl, hb4⟩
  replace hb4 := Lib.hid (below2 hb3.out hb4)
  clear hb3
  go_wp2_with fail
  refine (hW1.out _).mono ?_
  rintro e w5 ⟨rfl, hb5⟩
  replace hb5 := Lib.hid (below2 hb4.out hb5)
  clear hb4
  go_wp2_with fail
  refine (hW2.out _).mono ?_
  rintro e w6 ⟨rfl, hb6⟩
  replace hb6 := Lib.hid (below2 hb5.out hb6)
  clear hb5
  go_wp2_with fail
  refine (hM1.out _ (hH.later hb6.out)).mono ?_
  rintro e w7 ⟨rfl, hb7⟩
  replace hb7 := Lib.hid (below2 hb6.out hb7)
  clear hb6
  go_wp2_with fail
  refine (hM2.out _ (hH.later hb7.out)).mono ?_
  rintro e w8 ⟨rfl, hb8⟩
  replace hb8 := Lib.hid (below2 hb7.out hb8)
  have hA := Lib.hid (alloc_b w8 (.cells row7 23))
  have hB := Lib.hid (below2 hb8.out hA.out)
  have h7 := Lib.hid (row7_at w8 23)
  clear hb7 hA
  go_wp2
  unfold row7 at h7 hB
  go_loop [117] (fun i => ∃ k : Nat, k ≤ 7 ∧ i = .int .i64 k) (fun i => 7 - (intOf i).toNat)
  case atStart => exact ⟨0, Nat.zero_le _, rfl⟩
  case round =>
    obtain ⟨k, hk, rfl⟩ := hrel
    by_cases hlt : k < 7
    · have c0 := h7.out k hlt
      go_wp2
      go_round
      case rel => exact ⟨k + 1, by omega, by go_num⟩
      case measure => simp [intOf]; omega
    · obtain rfl : k = 7 := by omega
      clear h7
      have g5 := row5_at (w8.alloc (.cells row7 23)) TI b
      have hB2 := Lib.hid (below2 hB.out (alloc_b (w8.alloc (.cells row7 23)) (.cells (row5 b) TI)))
      rw [World.size_alloc] at g5
      unfold row7 row5 at g5 hB2
      replace g5 := Lib.hid g5
      clear hB hb8
      go_wp2
      go_loopw [132] (fun i wr => ∃ k : Nat, k ≤ 5 ∧ i = .int .i64 k ∧ Below w.heap.size w wr ∧ ∀ j, j < 5 → ∃ m : Int, (m < 1 ∨ 7 < m) ∧ wr.cell? ⟨w8.heap.size + 1, j, none⟩ = some (.int .i64 m)) (fun i _ => 5 - (intOf i).toNat)
      case atStart => exact ⟨0, Nat.zero_le _, rfl, hB2.out, g5.out⟩
      case round =>
        obtain ⟨k, hk, rfl, hbr, hcell⟩ := hrel
        clear g5 hB2
        replace hbr := Lib.hid hbr
        by_cases hlt : k < 5
        · obtain ⟨m, hm, c0⟩ := hcell k hlt
          have s1 := Lib.hid (fun W => size_bad m hm W)
          have s2 := Lib.hid (fun W => all_bad m hm W)
          have s3 := fun W => is_any 0 (by omega) m W
          have s4 := fun W => survives_any 0 (by omega) m W
          rw [ckI_bad hm] at s3 s4
          generalize isV m 0 = C1 at *
          generalize svV m 0 = C2 at *
          replace s3 := Lib.hid s3
          replace s4 := Lib.hid s4
          replace hcell := Lib.hid hcell
          clear hm
          go_wp2_with fail
          refine (s1.out _).mono ?_
          rintro e w' ⟨rfl, rfl⟩
          go_wp2_with fail
          refine (s2.out _).mono ?_
          rintro e w' ⟨rfl, rfl⟩
          go_wp2_with fail
          refine (s3.out _).mono ?_
          rintro e wa ⟨rfl, hba⟩
          replace hba := Lib.hid hba
          go_wp2_with fail
          refine (s4.out _).mono ?_
          rintro e wb ⟨rfl, hbb⟩
          have hab := below2 hba.out hbb
          have hfin := Lib.hid (below2 hbr.out hab)
          have hcf : Hid (∀ j, j < 5 → ∃ m : Int, (m < 1 ∨ 7 < m) ∧ wb.cell? ⟨w8.heap.size + 1, j, none⟩ = some (.int .i64 m)) := Lib.hid fun j hj => by
            obtain ⟨m, hm, hc⟩ := hcell.out j hj
            exact ⟨m, hm, (hab.cell (p := ⟨w8.heap.size + 1, j, none⟩) (World.block_lt_of_cell? _ _ hc)).trans hc⟩
          clear hba hbb hab
          go_wp2
          go_roundw
          case rel => exact ⟨k + 1, by omega, by go_num, hfin.out, hcf.out⟩
          case measure => simp [intOf]; omega
        · obtain rfl : k = 5 := by omega
          clear hcell
          go_wp2_with fail
          refine (works_any _ (hH.later hbr.out)).mono ?_
          rintro e w9 ⟨rfl, hb9⟩
          replace hb9 := Lib.hid (below2 hbr.out hb9)
          go_wp2
          go_ret
          exact ⟨rfl, hb9.out⟩
end Go.Proofs.YtmbkopeikldonaaDoor.Quo
