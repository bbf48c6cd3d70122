/- The walk of QuorumLeast. -/
import Derived.Test.YtmbkopeikldonaaDoorU19
namespace Go.Proofs.YtmbkopeikldonaaDoor.Quo
open Go.RowKit Go.Lib Go.Shelf
set_option linter.unusedVariables false
set_option linter.unusedSimpArgs false
set_option maxRecDepth 100000

/-- What is known of one of the smallest majorities. -/
structure Lea (n m s : Nat) : Prop where
  lt : s < 128
  pcm : pc s = m
  each : ∀ k ∈ bitsOf s, k < n ∧ bits .andNot .u64 (s : Nat) (2 ^ k : Nat) = ((s - 2 ^ k : Nat) : Int) ∧ s - 2 ^ k ≤ all1 n ∧ pc (s - 2 ^ k) = n / 2
def anyTo (L : List Nat) (x k : Nat) : Bool := (L.take k).any fun s => decide (x &&& s = s)
theorem anyTo_succ {L : List Nat} {x k : Nat} (h : k < L.length) : anyTo L x (k + 1) = (anyTo L x k || decide (x &&& L.getD k 0 = L.getD k 0)) := by
  unfold anyTo
  rw [List.take_succ_eq_append_getElem h, List.any_append, List.getD_eq_getElem?_getD, List.getElem?_eq_getElem h]
  simp
theorem getD_at {L : List Nat} {k : Nat} (h : k < L.length) : L.getD k 0 = L[k] := by rw [List.getD_eq_getElem?_getD, List.getElem?_eq_getElem h]; rfl
set_option maxHeartbeats 4000000 in
theorem least_go (a b n x m : Nat) (L : List Nat) (P : Bool) (hn1 : 1 ≤ n) (hn7 : n ≤ 7) (hm : m = n / 2 + 1) (hx : x < 128) (hl : L.length ≤ 128)
    (hG : Hid (∀ W, Calls Tryd.prog 31 #[.int .u8 a, .int .u8 b] W fun e w' => e = .returned (.tuple #[.int .i64 n, .int .u64 x]) ∧ Below W.heap.size W w'))
    (hS : Hid (∀ W, Calls Tryd.prog 21 #[.int .i64 n] W fun e w' => e = .returned (.tuple #[.int .i64 m, .int .i64 0]) ∧ W = w'))
    (hA : Hid (∀ W, Calls Tryd.prog 23 #[.int .i64 n] W (AllIs L W)))
    (hI : Hid (∀ W, Calls Tryd.prog 12 #[.int .u64 x, .int .i64 n] W fun e w' => e = .returned (.tuple #[.bool P, .int .i64 0]) ∧ Below W.heap.size W w'))
    (hsort : Hid (L.Pairwise (· < ·))) (hE : Hid (∀ s ∈ L, Lea n m s)) (hP : Hid (anyTo L x L.length = P)) (hC : Hid (L.length = ch n m)) (w : World) (hH : Hv w) :
    Calls Tryd.prog 8 #[.int .u8 a, .int .u8 b] w fun e w' => e = .returned (.bool true) ∧ Below w.heap.size w w' := by
  have q1 : decide (2 * (m : Int) ≤ (n : Int)) = false := by simp; omega
  have q2 : decide ((n : Int) < 2 * ((m : Int) - 1)) = false := by simp; omega
  have hm4 : m ≤ 4 := by omega
  have hm1 : 1 ≤ m := by omega
  replace hm := Lib.hid hm
  go_enter Tryd.func8, Tryd.ntmps8
  go_wp2_with fail
  refine (hG.out _).mono ?_
  rintro e w1 ⟨rfl, hb1⟩
  replace hb1 := Lib.hid hb1
  go_wp2_with fail
  refine (hS.out _).mono ?_
  rintro e w' ⟨rfl, rfl⟩
  go_wp2_with fail
  refine (hA.out _).mono ?_
  rintro e w2 ⟨v, rfl, ho2, hb2⟩
  have hs2 := ho2.ns
  obtain ⟨aa, cap, rfl, hd2⟩ := id hs2
  replace hs2 := Lib.hid hs2
  replace hb2 := Lib.hid (below2 hb1.out hb2)
  clear hb1 ho2 hd2
  go_wp2_with fail
  refine (hI.out _).mono ?_
  rintro e w3 ⟨rfl, hb3⟩
  replace hs2 := Lib.hid (hs2.out.later hb3)
  replace hb3 := Lib.hid (below2 hb2.out hb3)
  clear hb2
  go_wp2_with fail
  refine (sorted_any _ L _ hs2.out hsort.out (by omega)).mono ?_
  rintro e w4 ⟨rfl, hb4⟩
  replace hs2 := Lib.hid (hs2.out.later hb4)
  replace hb4 := Lib.hid (below2 hb3.out hb4)
  clear hb3
  clear q1 q2
  go_wp2
  go_loopw [13, 74] (fun c i wr => ∃ k : Nat, k ≤ L.length ∧ i = .int .i64 k ∧ c = .bool (anyTo L x k) ∧ IsNs .u64 wr (.slice aa L.length cap) L ∧ Below w.heap.size w wr) (fun _ i _ => L.length - (intOf i).toNat)
  case atStart => exact ⟨0, Nat.zero_le _, rfl, rfl, hs2.out, hb4.out⟩
  case round =>
    obtain ⟨k, hk, rfl, rfl, hsr, hbr⟩ := hrel
    clear hs2 hb4
    by_cases hlt : k < L.length
    · obtain ⟨_, _, he1, hd⟩ := id hsr
      injection he1 with he1 _ he3
      subst he1 he3
      obtain ⟨g, off, rfl, hcell⟩ := hd (by omega)
      have c0 := hcell k hlt
      have hLe := hE.out _ (by rw [getD_at hlt]; exact List.getElem_mem hlt : L.getD k 0 ∈ L)
      have hup := Lib.hid (anyTo_succ (x := x) hlt)
      have cprev : 0 < k → ∃ y, wr.cell? ⟨g, off + (k - 1), none⟩ = some (.int .u64 (y : Nat)) ∧ y ≠ L.getD k 0 := fun h0 => by
        refine ⟨L.getD (k - 1) 0, hcell (k - 1) (by omega), ?_⟩
        have hp := List.pairwise_iff_getElem.1 hsort.out (k - 1) k (by omega) hlt (by omega)
        rw [getD_at hlt, getD_at (show k - 1 < L.length by omega)]
        omega
      generalize L.getD k 0 = s at *
      have hs128 := hLe.lt
      have hCs := fun W => count_any s (by omega) W
      rw [hLe.pcm] at hCs
      have hNs := Lib.hid (fun W h => nodes_any s (by omega) W h)
      have hbl := bits_lt s
      have hz := bits_and_u64_nat x s (by omega) (by omega)
      have hEa := Lib.hid hLe.each
      generalize anyTo L x k = B at *
      generalize bitsOf s = M at *
      generalize x &&& s = z at *
      replace hCs := Lib.hid hCs
      replace hsr := Lib.hid hsr
      replace hbr := Lib.hid hbr
      clear hcell hd hLe
      by_cases hk0 : k = 0
      · have d0 : decide ((0 : Int) < (k : Int)) = false := by simp; omega
        have d1 : decide (0 < k) = false := by simp; omega
        clear cprev hk0
        go_wp2_with fail
        refine (hCs.out _).mono ?_
        rintro e w' ⟨rfl, rfl⟩
        go_wp2_with fail
        refine (hNs.out _ (hH.later hbr.out)).mono ?_
        rintro e w6 ⟨v6, rfl, ho6, hb6⟩
        obtain ⟨a6, cap6, rfl⟩ := ho6.form
        have hn6 := Lib.hid ho6.ns
        have hs6 := Lib.hid (hsr.out.later hb6)
        have hB6 := Lib.hid (below2 hbr.out hb6)
        clear ho6 hb6
        clear d0 d1
        go_wp2
        go_loopw [99] (fun j wi => ∃ t : Nat, t ≤ M.length ∧ j = .int .i64 t ∧ IsNs .i64 wi (.slice a6 M.length cap6) M ∧ IsNs .u64 wi (.slice (some ⟨g, off, none⟩) L.length cap) L ∧ Below w.heap.size w wi) (fun j _ => M.length - (intOf j).toNat)
        case atStart => exact ⟨0, Nat.zero_le _, rfl, hn6.out, hs6.out, hB6.out⟩
        case round =>
          obtain ⟨t, ht, rfl, hni, hsi, hbi⟩ := hrel
          clear hn6 hs6 hB6
          by_cases htl : t < M.length
          · obtain ⟨_, _, hf1, hdm⟩ := id hni
            injection hf1 with hf1 _ hf3
            subst hf1 hf3
            obtain ⟨gm, om, rfl, hcm⟩ := hdm (by omega)
            have c1 := hcm t htl
            obtain ⟨y1, y2, y3, y4⟩ := hEa.out _ (by rw [getD_at htl]; exact List.getElem_mem htl : M.getD t 0 ∈ M)
            generalize M.getD t 0 = y at *
            have sh := pow_in y (by omega)
            generalize s - 2 ^ y = u at *
            have hIu := fun W => is_any u (by have := all1_7 hn7; omega) n W
            rw [is_in hn1 hn7 y3, ck_in hn1 hn7 y3, y4, show decide (n / 2 < n / 2) = false by simp] at hIu
            generalize 2 ^ y = q at *
            have f1 : decide ((y : Int) < 0) = false := by simp
            have f2 : decide ((n : Int) ≤ (y : Int)) = false := by simp; omega
            have f3 : decide (n ≤ y) = false := by simp; omega
            have f4 : 0 ≤ (y : Int) := by omega
            have f5 : (y : Int) < 64 := by omega
            replace hIu := Lib.hid hIu
            replace hni := Lib.hid hni
            replace hsi := Lib.hid hsi
            replace hbi := Lib.hid hbi
            clear hcm hdm y3 y4
            go_wp2_with fail
            refine (hIu.out _).mono ?_
            rintro e w7 ⟨rfl, hb7⟩
            have r1 := Lib.hid (hni.out.later hb7)
            have r2 := Lib.hid (hsi.out.later hb7)
            have r3 := Lib.hid (below2 hbi.out hb7)
            clear hb7 y1 f5
            go_wp2
            go_roundw
            case rel => exact ⟨t + 1, by omega, by go_num, r1.out, r2.out, r3.out⟩
            case measure => simp [intOf]; omega
          · obtain rfl : t = M.length := by omega
            replace hsi := Lib.hid hsi
            replace hbi := Lib.hid hbi
            clear hni
            cases B
            · by_cases hzs : z = s
              · have z1 : ((z : Int) == (s : Int)) = true := by simp; omega
                have z2 : (z : Int) = (s : Int) := by omega
                have hu2 : Hid (anyTo L x (k + 1) = true) := Lib.hid (by rw [hup.out, hzs]; simp)
                clear hzs
                go_wp2
                go_roundw
                case rel => exact ⟨k + 1, by omega, by go_num, by rw [hu2.out], hsi.out, hbi.out⟩
                case measure => simp [intOf]; omega
              · have z1 : ((z : Int) == (s : Int)) = false := by simp; omega
                have z2 : ¬ (z : Int) = (s : Int) := by omega
                have hu2 : Hid (anyTo L x (k + 1) = false) := Lib.hid (by rw [hup.out]; simp [hzs])
                clear hzs
                go_wp2
                go_roundw
                case rel => exact ⟨k + 1, by omega, by go_num, by rw [hu2.out], hsi.out, hbi.out⟩
                case measure => simp [intOf]; omega
            · have hu2 : Hid (anyTo L x (k + 1) = true) := Lib.hid (by rw [hup.out]; rfl)
              go_wp2
              go_roundw
              case rel => exact ⟨k + 1, by omega, by go_num, by rw [hu2.out], hsi.out, hbi.out⟩
              case measure => simp [intOf]; omega
      · obtain ⟨yp, cp, hyp⟩ := cprev (by omega)
        have d0 : decide ((0 : Int) < (k : Int)) = true := by simp; omega
        have d1 : decide (0 < k) = true := by simp; omega
        have d2 : 0 ≤ (k : Int) - 1 := by omega
        have d3 : (k : Int) - 1 < (L.length : Int) := by omega
        have d4 : ((k : Int) - 1).toNat = k - 1 := by omega
        have d5 : ((yp : Int) == (s : Int)) = false := by simp; omega
        have d6 : 1 ≤ k := by omega
        clear cprev hk0 hyp
        go_wp2_with fail
        refine (hCs.out _).mono ?_
        rintro e w' ⟨rfl, rfl⟩
        go_wp2_with fail
        refine (hNs.out _ (hH.later hbr.out)).mono ?_
        rintro e w6 ⟨v6, rfl, ho6, hb6⟩
        obtain ⟨a6, cap6, rfl⟩ := ho6.form
        have hn6 := Lib.hid ho6.ns
        have hs6 := Lib.hid (hsr.out.later hb6)
        have hB6 := Lib.hid (below2 hbr.out hb6)
        clear ho6 hb6
        clear d0 d1 d2 d3 d4 d5 d6 cp
        go_wp2
        go_loopw [99] (fun j wi => ∃ t : Nat, t ≤ M.length ∧ j = .int .i64 t ∧ IsNs .i64 wi (.slice a6 M.length cap6) M ∧ IsNs .u64 wi (.slice (some ⟨g, off, none⟩) L.length cap) L ∧ Below w.heap.size w wi) (fun j _ => M.length - (intOf j).toNat)
        case atStart => exact ⟨0, Nat.zero_le _, rfl, hn6.out, hs6.out, hB6.out⟩
        case round =>
          obtain ⟨t, ht, rfl, hni, hsi, hbi⟩ := hrel
          clear hn6 hs6 hB6
          by_cases htl : t < M.length
          · obtain ⟨_, _, hf1, hdm⟩ := id hni
            injection hf1 with hf1 _ hf3
            subst hf1 hf3
            obtain ⟨gm, om, rfl, hcm⟩ := hdm (by omega)
            have c1 := hcm t htl
            obtain ⟨y1, y2, y3, y4⟩ := hEa.out _ (by rw [getD_at htl]; exact List.getElem_mem htl : M.getD t 0 ∈ M)
            generalize M.getD t 0 = y at *
            have sh := pow_in y (by omega)
            generalize s - 2 ^ y = u at *
            have hIu := fun W => is_any u (by have := all1_7 hn7; omega) n W
            rw [is_in hn1 hn7 y3, ck_in hn1 hn7 y3, y4, show decide (n / 2 < n / 2) = false by simp] at hIu
            generalize 2 ^ y = q at *
            have f1 : decide ((y : Int) < 0) = false := by simp
            have f2 : decide ((n : Int) ≤ (y : Int)) = false := by simp; omega
            have f3 : decide (n ≤ y) = false := by simp; omega
            have f4 : 0 ≤ (y : Int) := by omega
            have f5 : (y : Int) < 64 := by omega
            replace hIu := Lib.hid hIu
            replace hni := Lib.hid hni
            replace hsi := Lib.hid hsi
            replace hbi := Lib.hid hbi
            clear hcm hdm y3 y4
            go_wp2_with fail
            refine (hIu.out _).mono ?_
            rintro e w7 ⟨rfl, hb7⟩
            have r1 := Lib.hid (hni.out.later hb7)
            have r2 := Lib.hid (hsi.out.later hb7)
            have r3 := Lib.hid (below2 hbi.out hb7)
            clear hb7 y1 f5
            go_wp2
            go_roundw
            case rel => exact ⟨t + 1, by omega, by go_num, r1.out, r2.out, r3.out⟩
            case measure => simp [intOf]; omega
          · obtain rfl : t = M.length := by omega
            replace hsi := Lib.hid hsi
            replace hbi := Lib.hid hbi
            clear hni
            cases B
            · by_cases hzs : z = s
              · have z1 : ((z : Int) == (s : Int)) = true := by simp; omega
                have z2 : (z : Int) = (s : Int) := by omega
                have hu2 : Hid (anyTo L x (k + 1) = true) := Lib.hid (by rw [hup.out, hzs]; simp)
                clear hzs
                go_wp2
                go_roundw
                case rel => exact ⟨k + 1, by omega, by go_num, by rw [hu2.out], hsi.out, hbi.out⟩
                case measure => simp [intOf]; omega
              · have z1 : ((z : Int) == (s : Int)) = false := by simp; omega
                have z2 : ¬ (z : Int) = (s : Int) := by omega
                have hu2 : Hid (anyTo L x (k + 1) = false) := Lib.hid (by rw [hup.out]; simp [hzs])
                clear hzs
                go_wp2
                go_roundw
                case rel => exact ⟨k + 1, by omega, by go_num, by rw [hu2.out], hsi.out, hbi.out⟩
                case measure => simp [intOf]; omega
            · have hu2 : Hid (anyTo L x (k + 1) = true) := Lib.hid (by rw [hup.out]; rfl)
              go_wp2
              go_roundw
              case rel => exact ⟨k + 1, by omega, by go_num, by rw [hu2.out], hsi.out, hbi.out⟩
              case measure => simp [intOf]; omega
    · obtain rfl : k = L.length := by omega
      rw [hP.out]
      replace hbr := Lib.hid hbr
      clear hsr
      go_wp2
      go_loop [20, 135] (fun c i => ∃ k : Nat, k ≤ m ∧ i = .int .i64 k ∧ c = .int .i64 (ch n k : Nat)) (fun _ i => m - (intOf i).toNat)
      case atStart => exact ⟨0, Nat.zero_le _, rfl, rfl⟩
      case round =>
        obtain ⟨k, hk, rfl, rfl⟩ := hrel
        by_cases hlt : k < m
        · obtain ⟨l1, l2⟩ := ch_lt n (by omega) k (by omega)
          have hkn : k ≤ n := by have := hm.out; omega
          have hn2 : Hid (ch n (k + 1) = ch n k * (n - k) / (k + 1)) := Lib.hid rfl
          have e1 : (n : Int) - (k : Int) = ((n - k : Nat) : Int) := by omega
          generalize ch n k = c at *
          generalize n - k = pp at *
          have e2 : (c : Int) * (pp : Int) = ((c * pp : Nat) : Int) := (Int.natCast_mul _ _).symm
          have e3 : ((c * pp : Nat) : Int).tdiv ((k : Int) + 1) = ((c * pp / (k + 1) : Nat) : Int) := (Int.ofNat_tdiv (c * pp) (k + 1)).symm
          have e4 : ((c * pp : Nat) : Int) / ((k : Int) + 1) = ((c * pp / (k + 1) : Nat) : Int) := (Int.natCast_ediv (c * pp) (k + 1)).symm
          have l3 : c * pp / (k + 1) ≤ c * pp := Nat.div_le_self _ _
          generalize c * pp / (k + 1) = c2 at *
          generalize c * pp = cp at *
          have e5 : ¬ (k : Int) + 1 = 0 := by omega
          have e6 : (((k : Int) + 1) == 0) = false := by simpa using e5
          have e7 : IntKind.i64.wrap (cp : Int) = cp := Quo.wr (by omega) (by omega)
          go_wp2
          go_round
          case rel => exact ⟨k + 1, by omega, by go_num, by rw [hn2.out]⟩
          case measure => simp [intOf]; omega
        · obtain rfl : k = m := by omega
          rw [← hC.out]
          go_wp2_with fail
          refine (works_any _ (hH.later hbr.out)).mono ?_
          rintro e w9 ⟨rfl, hb9⟩
          replace hb9 := Lib.hid (below2 hbr.out hb9)
          go_wp2
          go_ret
          exact ⟨rfl, hb9.out⟩
theorem w_quorumLeast (a0 a1 : Int) (w0 : (Lit.int .u8 a0).wf = true) (w1 : (Lit.int .u8 a1).wf = true) (w : World) (hH : Hv w) :
    Calls Tryd.prog 8 #[.int .u8 a0, .int .u8 a1] w fun e w' => e = .returned (.bool true) ∧ Below w.heap.size w w' := by
  have b0 := bounds_u8 w0
  have b1 := bounds_u8 w1
  obtain ⟨a, rfl⟩ := Int.eq_ofNat_of_zero_le b0.1
  obtain ⟨b, rfl⟩ := Int.eq_ofNat_of_zero_le b1.1
  have hG := fun W => group_any a b (by omega) (by omega) W
  have hn := grN_in a
  have hx := grX_in a b
  generalize grX a b = x at *
  generalize grN a = n at *
  obtain ⟨hn1, hn7⟩ := hn
  have h7 := all1_7 hn7
  have hI := fun W => is_any x (by omega) n W
  rw [is_in hn1 hn7 hx, ck_in hn1 hn7 hx] at hI
  have hA := fun W => all_ok n hn1 hn7 W
  rw [all_lit hn1 hn7] at hA
  have hl : (lit n).length ≤ 128 := by rw [← all_lit hn1 hn7]; exact Nat.le_trans (upL_len _ _) (Nat.pow_le_pow_right (n := 2) (by decide) hn7)
  refine least_go a b n x (n / 2 + 1) (lit n) _ hn1 hn7 rfl (by omega) hl (Lib.hid hG) (Lib.hid fun W => size_ok n hn1 hn7 W) (Lib.hid hA) (Lib.hid hI) (Lib.hid (lit_sorted n (by omega))) (Lib.hid ?_) (Lib.hid ?_) (Lib.hid (lit_len n (by omega) hn1)) w hH
  · intro s hs
    obtain ⟨h1, h2, h3, h4⟩ := lit_each n (by omega) s hs
    exact ⟨h1, h3, h4⟩
  · unfold anyTo
    rw [List.take_length]
    exact lit_any n (by omega) x (by omega) hx hn1
end Go.Proofs.YtmbkopeikldonaaDoor.Quo
