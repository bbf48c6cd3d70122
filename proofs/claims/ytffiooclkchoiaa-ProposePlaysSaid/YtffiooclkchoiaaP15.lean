/- Plain facts on promises that are added; ProposeEnough. -/
import Derived.Test.YtffiooclkchoiaaP13
namespace Go.Proofs.Ytffiooclkchoiaa.Prp
open Go.RowKit Go.Lib
open Bal (TB bOk ckB ordV eqB eqB_t eqB_f eq_b alloc_b check_any order_any)
set_option linter.unusedVariables false
set_option linter.unusedSimpArgs false
set_option maxRecDepth 20000

theorem nodes_upd (P : Nat → Pm) {k : Nat} (hk : k < 7) (x : Pm) (hx : x.a = true) : nodesK (updP P k x) 7 = nodesK P 7 ||| 2 ^ k := by
  refine Nat.eq_of_testBit_eq fun i => ?_
  rw [nodes_bit, Nat.testBit_or, nodes_bit, Nat.testBit_two_pow]
  by_cases e : i = k
  · subst e
    rw [updP_same, hx]
    simp [hk]
  · rw [updP_other _ _ e]
    simp [show ¬ k = i from fun h => e h.symm]
theorem up_mem (P : Nat → Pm) {k j : Nat} (h : j < k) : (P j).u ≤ upK P k := by
  induction k with
  | zero => omega
  | succ k ih =>
    unfold upK
    by_cases e : j = k
    · subst e; omega
    · have := ih (by omega); omega
theorem up_lim (P : Nat → Pm) {u : Int} (h0 : 0 ≤ u) : ∀ k, (∀ j, j < k → (P j).u ≤ u) → upK P k ≤ u
  | 0, _ => h0
  | k + 1, h => by
    have h1 := up_lim P h0 k (fun j hj => h j (by omega))
    have h2 := h k (by omega)
    unfold upK
    omega
theorem all_nil (P : Nat → Pm) (h : ∀ j, (P j).l = []) : ∀ k, allK P k = []
  | 0 => rfl
  | k + 1 => by unfold allK; rw [all_nil P h k, h k]; rfl
theorem pc_or : ∀ x, x < 128 → ∀ k, k < 7 → x.testBit k = false → Quo.pc (x ||| 2 ^ k) = Quo.pc x + 1 := by decide +kernel
theorem pc_7 : ∀ x, x < 128 → Quo.pc x ≤ 7 := by decide +kernel
theorem pc_zero : Quo.pc 0 = 0 := by decide +kernel
theorem isV_pc {n x : Nat} (h1 : 1 ≤ n) (h7 : n ≤ 7) (h : x ≤ Quo.all1 n) : Quo.isV n x = decide (n < 2 * Quo.pc x) := by
  unfold Quo.isV
  rw [ck_set h1 h7 h, Int.toNat_natCast]
  exact decide_eq_decide.2 ⟨fun h => by have := h.2; omega, fun h => ⟨rfl, by omega⟩⟩
theorem rdy_pc {s : St} (h : OkS s) : rdy s = decide (s.n < 2 * (Quo.pc (nodesK s.P 7) : Int)) := by
  obtain ⟨m, hm⟩ := Int.eq_ofNat_of_zero_le (show 0 ≤ s.n by have := h.n1; omega)
  have h1 := h.n1
  have h7 := h.n7
  have hN := nodes_in h 7
  unfold rdy
  rw [hm] at h1 h7 hN ⊢
  rw [Int.toNat_natCast] at hN
  rw [isV_pc (by omega) (by omega) hN]
  exact decide_eq_decide.2 (by omega)
theorem nodes_128 {s : St} (h : OkS s) : nodesK s.P 7 < 128 := nodes_lt s.P 7
/-- A promise that is added without entries. -/
theorem add_new {s : St} {k : Nat} {u : Int} (hk : (k : Int) < s.n) (hu : 0 ≤ u ∧ u ≤ 4096) (ha : (s.P k).a = false) : addE s k [] u = 0 ∧ addS s k [] u = ⟨s.n, s.r, s.m, s.f, updP s.P k ⟨true, [], u⟩⟩ ∧ addB s k [] u = rdy ⟨s.n, s.r, s.m, s.f, updP s.P k ⟨true, [], u⟩⟩ := by
  have hA : argOk s k [] u = true := by
    unfold argOk
    rw [decide_eq_true (show 0 ≤ (k : Int) ∧ (k : Int) < s.n from ⟨by omega, hk⟩), decide_eq_true hu]
    rfl
  have hE : addE s k [] u = 0 := by
    unfold addE
    rw [hA, Int.toNat_natCast, ha]
    rfl
  have hS : addS s k [] u = ⟨s.n, s.r, s.m, s.f, updP s.P k ⟨true, [], u⟩⟩ := by
    unfold addS
    rw [if_pos hE, Int.toNat_natCast]
  refine ⟨hE, hS, ?_⟩
  unfold addB
  rw [if_pos hE, hS]
theorem add_old {s : St} {k : Nat} {u : Int} (hk : (k : Int) < s.n) (hu : 0 ≤ u ∧ u ≤ 4096) (ha : (s.P k).a = true) : addE s k [] u = 6 ∧ addS s k [] u = s ∧ addB s k [] u = false := by
  have hA : argOk s k [] u = true := by
    unfold argOk
    rw [decide_eq_true (show 0 ≤ (k : Int) ∧ (k : Int) < s.n from ⟨by omega, hk⟩), decide_eq_true hu]
    rfl
  have hE : addE s k [] u = 6 := by
    unfold addE
    rw [hA, Int.toNat_natCast, ha]
    rfl
  exact ⟨hE, if_neg (by rw [hE]; decide), if_neg (by rw [hE]; decide)⟩
theorem shr_nat (x k : Nat) : (x : Int) / 2 ^ k = ((x / 2 ^ k : Nat) : Int) := by
  rw [show (2 : Int) ^ k = ((2 ^ k : Nat) : Int) by rw [Int.natCast_pow]; rfl, ← Int.natCast_ediv]
theorem and_1 (x : Nat) (h : x < 18446744073709551616) : bits .and .u64 (x : Int) 1 = ((x % 2 : Nat) : Int) := by
  have := bits_and_u64_nat x 1 h (by omega)
  refine Eq.trans this ?_
  rw [show (1 : Nat) = 2 ^ 1 - 1 from rfl, Quo.and_low]
theorem bit_at {x k : Nat} (h : x < 128) : bits .and .u64 ((x : Int) / 2 ^ k) 1 = if x.testBit k then 1 else 0 := by
  rw [shr_nat, and_1 _ (Nat.lt_of_le_of_lt (Nat.div_le_self _ _) (by omega)), Nat.testBit_eq_decide_div_mod_eq]
  have : x / 2 ^ k % 2 < 2 := Nat.mod_lt _ (by omega)
  by_cases e : x / 2 ^ k % 2 = 1
  · rw [e]; rfl
  · have e0 : x / 2 ^ k % 2 = 0 := by omega
    rw [e0]; rfl
/-- The proposer of ProposeEnough. -/
structure En (n : Nat) (i : Int) (s : St) : Prop where
  hn : s.n = n
  ok : OkS s
  l : ∀ j, (s.P j).l = []
  u : ∀ j, (s.P j).u ≤ i
theorem en_val {n : Nat} {i : Int} {s : St} (h : En n i s) : valL s = [] := by
  unfold valL valsOf
  rw [all_nil s.P h.l 7]
  split <;> rfl
theorem en_add {n : Nat} {i : Int} {s : St} (h : En n i s) (h0 : 0 ≤ i ∧ i ≤ 4096) {k : Nat} (hk : k < n) (hn7 : n ≤ 7) (ha : (s.P k).a = false) : En n (i + 1) ⟨s.n, s.r, s.m, s.f, updP s.P k ⟨true, [], i⟩⟩ ∧ upK (updP s.P k ⟨true, [], i⟩) 7 = i := by
  have hok := h.ok.add k [] i
  rw [(add_new (by rw [h.hn]; omega) h0 ha).2.1] at hok
  have hu : ∀ j, (updP s.P k ⟨true, [], i⟩ j).u ≤ i := fun j => by
    by_cases e : j = k
    · subst e; rw [updP_same]; exact Int.le_refl _
    · rw [updP_other _ _ e]; exact h.u j
  refine ⟨⟨h.hn, hok, fun j => ?_, fun j => by have := hu j; simp only; omega⟩, ?_⟩
  · by_cases e : j = k
    · subst e; simp only [updP_same]
    · simp only [updP_other _ _ e]; exact h.l j
  · have h1 := up_lim (updP s.P k ⟨true, [], i⟩) h0.1 7 (fun j _ => hu j)
    have h2 := up_mem (updP s.P k ⟨true, [], i⟩) (k := 7) (j := k) (by omega)
    rw [updP_same] at h2
    simp only at h2
    omega
theorem IsU.at {w W : World} {a : Option Addr} {len cap : Nat} {S : Nat → Nat} (h : IsU w a len cap S) (hb : Below w.heap.size w W) {i : Nat} (hi : i < len) : ∃ b off, a = some ⟨b, off, Option.none⟩ ∧ W.cell? ⟨b, off + i, Option.none⟩ = some (.int .u8 (S i : Nat)) := by
  obtain ⟨b, off, rfl, hlt, hc⟩ := h.cell (by omega)
  exact ⟨b, off, rfl, (hb.cell (p := ⟨b, off + i, Option.none⟩) hlt).trans (hc i hi)⟩
set_option maxRecDepth 100000 in
set_option maxHeartbeats 8000000 in
theorem enough_go (a0 : Nat) (a1 : Option Addr) (len1 cap1 : Nat) (S : Nat → Nat) (w : World) (h0 : a0 ≤ 255) (h1 : IsU w a1 len1 cap1 S) :
    Calls Try.prog 8 #[.int .u8 (a0 : Nat), .slice a1 len1 cap1] w (Yes w) := by
  have HW := Lib.hid (fun W => works_any W)
  obtain ⟨n, hn⟩ : ∃ n, n = 1 + a0 % 7 := ⟨_, rfl⟩
  have hn1 : 1 ≤ n := by omega
  have hn7 : n ≤ 7 := by omega
  have f1 : IntKind.i64.wrap (a0 : Nat) = (a0 : Nat) := by rw [IntKind.wrap_i64]; omega
  have f2 : (a0 : Int).tmod 7 = ((a0 % 7 : Nat) : Int) := (Int.ofNat_tmod a0 7).symm
  have f3 : IntKind.i64.wrap (1 + ((a0 % 7 : Nat) : Int)) = (n : Nat) := by rw [hn, IntKind.wrap_i64]; omega
  have hnm : ∀ W, Below w.heap.size w W → Calls Try.prog 12 #[.int .i64 (n : Nat), .agg #[.int .i64 1, .int .i64 0], .int .i64 0] W fun e W' => ∃ b, e = .returned (.tuple #[.pointer (some ⟨b, 0, none⟩), .int .i64 0]) ∧ PAt w b (newS (n : Nat) 1 0 0) W' ∧ W.heap.size ≤ b ∧ Below W.heap.size W W' := fun W hb => new_at (n : Nat) 1 0 0 ⟨by omega, ⟨by decide, by decide, by decide, by omega⟩, by decide, by decide⟩ w W hb
  have HN := Lib.hid (hnm w (Below.refl _ _))
  have hE0 : Hid (En n 0 (newS (n : Nat) 1 0 0)) := Lib.hid ⟨rfl, ok_new ⟨by omega, ⟨by decide, by decide, by decide, by omega⟩, by decide, by decide⟩, fun _ => rfl, fun _ => Int.le_refl 0⟩
  clear hnm
  generalize hd : a0 % 7 = d at *
  clear hd hn
  by_cases hl : len1 ≤ 100
  · have b1 : decide (100 < (len1 : Int)) = false := by simp; omega
    have b2 : ¬ (100 : Int) < (len1 : Int) := by omega
    go_enter Try.func8, Try.ntmps8
    go_wp2_with (go_at_call 12; refine HN.out.mono ?_; rintro e w1 ⟨b, rfl, hp1, _, _⟩)
    clear f1 f2 f3
    go_loopw [8, 9, 10] (fun t c i wr => ∃ (j : Nat) (s : St), j ≤ len1 ∧ i = .int .i64 j ∧ t = .int .u64 (nodesK s.P 7 : Nat) ∧ c = .int .i64 (Quo.pc (nodesK s.P 7) : Nat) ∧ En n j s ∧ PAt w b s wr) (fun _ _ i _ => len1 - nOf i)
    case atStart => exact ⟨0, newS (n : Nat) 1 0 0, by omega, rfl, rfl, (congrArg (fun x : Nat => Value.int .i64 (x : Int)) pc_zero.symm), hE0.out, hp1⟩
    case round =>
      clear hp1
      obtain ⟨j, s, hj, rfl, rfl, rfl, hE, hp⟩ := hrel
      by_cases hlt : j < len1
      · obtain ⟨q, off, rfl, hc⟩ := h1.at hp.bel hlt
        have hS := h1.rng j
        generalize S j = x at *
        obtain ⟨k, hk⟩ : ∃ k, k = x % n := ⟨_, rfl⟩
        have hkn : k < n := by rw [hk]; exact Nat.mod_lt _ (by omega)
        have g1 : IntKind.i64.wrap (x : Nat) = (x : Nat) := by rw [IntKind.wrap_i64]; omega
        have g2 : (x : Int).tmod (n : Nat) = (k : Nat) := by rw [hk]; exact (Int.ofNat_tmod x n).symm
        have f12 : ((n : Int) == 0) = false := by simp; omega
        have f14 : ¬ (n : Int) = 0 := by omega
        have f15 : ¬ n = 0 := by omega
        have i2 : (j : Int) < (len1 : Nat) := by omega
        have i3 : decide ((j : Int) < (len1 : Int)) = true := by simpa using i2
        have i4 : (0 : Int) ≤ (j : Nat) := by omega
        have hx128 := nodes_128 hE.ok
        have hbit := bit_at (k := k) hx128
        rw [nodes_bit] at hbit
        rw [decide_eq_true (show k < 7 by omega), Bool.true_and] at hbit
        have hpc := pc_7 _ hx128
        clear hk
        have k1 : (0 : Int) ≤ (k : Nat) := by omega
        have k2 : ¬ (k : Int) < 0 := by omega
        cases ha : (s.P k).a with
        | true =>
          rw [ha] at hbit
          simp only [if_true] at hbit
          obtain ⟨e1, e2, e3⟩ := add_old (s := s) (k := k) (u := j) (by rw [hE.hn]; omega) ⟨by omega, by omega⟩ ha
          have hA := hp.add k (.slice none 0 0) j [] (is_nil _) (by decide)
          rw [e1, e2, e3] at hA
          have hE2 : Hid (En n ((j + 1 : Nat) : Int) s) := Lib.hid ⟨hE.hn, hE.ok, hE.l, fun i => by have := hE.u i; omega⟩
          have hrd := rdy_pc hE.ok
          rw [hE.hn] at hrd
          have hV := fun W (h : PAt w b s W) => h.values
          rw [en_val hE] at hV
          unfold valE at hV
          have hRd := fun W (h : PAt w b s W) => h.ready
          have hNd := fun W (h : PAt w b s W) => h.nodes
          have hpc' := pc_7 _ (nodes_128 hE.ok)
          generalize hNs : nodesK s.P 7 = N at *
          generalize hCs : Quo.pc N = C at *
          replace hNs := Lib.hid hNs
          replace hCs := Lib.hid hCs
          have w2 : IntKind.i64.wrap (2 * (C : Int)) = 2 * C := by rw [IntKind.wrap_i64]; omega
          replace hA := Lib.hid hA
          replace hp := Lib.hid hp
          generalize rdy s = R at *
          replace hrd := hrd.symm
          cases R with
          | false =>
            have hV2 : Hid (∀ W, PAt w b s W → Calls Try.prog 16 #[.pointer (some ⟨b, 0, none⟩)] W fun e W' => ∃ a c, e = .returned (.tuple #[.slice a 0 c, .int .i64 9]) ∧ Below W.heap.size W W') := Lib.hid fun W h => by
              refine (hV W h).mono ?_
              rintro e W' ⟨v, rfl, hO, hb⟩
              obtain ⟨a, c, rfl⟩ := rows_form hO
              exact ⟨a, c, rfl, hb⟩
            have hRd2 := Lib.hid hRd
            have hNd2 := Lib.hid hNd
            have r1 : ¬ (n : Int) < 2 * (C : Int) := of_decide_eq_false hrd
            have r2 : 2 * (C : Int) ≤ n := by omega
            clear hV hRd hNd hE ha
            go_wp2_with fail
            refine hA.out.mono ?_
            rintro e w2 ⟨rfl, hp2, _⟩
            go_wp2_with fail
            refine (hV2.out _ hp2).mono ?_
            rintro e w3 ⟨va, vc, rfl, hb3⟩
            have hp3 := hp2.later hb3
            clear hp2 hb3
            go_wp2_with fail
            refine (hRd2.out _ hp3).mono ?_
            rintro e w4 ⟨rfl, hb4⟩
            have hp4 := hp3.later hb4
            clear hp3 hb4
            go_wp2_with fail
            refine (hNd2.out _ hp4).mono ?_
            rintro e w5 ⟨rfl, hb5⟩
            have hp5 := hp4.later hb5
            clear hp4 hb5
            go_wp2_with fail
            refine (hRd2.out _ hp5).mono ?_
            rintro e w6 ⟨rfl, hb6⟩
            have hp6 := Lib.hid (hp5.later hb6)
            clear hp5 hb6
            go_wp2_with fail
            go_roundw
            case rel => exact ⟨j + 1, s, by omega, by go_num, by rw [hNs.out], by rw [hNs.out, hCs.out], hE2.out, hp6.out⟩
            case measure => simp [nOf]; omega
          | true =>
            have hV2 : Hid (∀ W, PAt w b s W → Calls Try.prog 16 #[.pointer (some ⟨b, 0, none⟩)] W fun e W' => ∃ a c, e = .returned (.tuple #[.slice a 0 c, .int .i64 0]) ∧ Below W.heap.size W W') := Lib.hid fun W h => by
              refine (hV W h).mono ?_
              rintro e W' ⟨v, rfl, hO, hb⟩
              obtain ⟨a, c, rfl⟩ := rows_form hO
              exact ⟨a, c, rfl, hb⟩
            have hRd2 := Lib.hid hRd
            have hNd2 := Lib.hid hNd
            have r1 : (n : Int) < 2 * (C : Int) := of_decide_eq_true hrd
            have r2 : ¬ 2 * (C : Int) ≤ n := by omega
            clear hV hRd hNd hE ha
            go_wp2_with fail
            refine hA.out.mono ?_
            rintro e w2 ⟨rfl, hp2, _⟩
            go_wp2_with fail
            refine (hV2.out _ hp2).mono ?_
            rintro e w3 ⟨va, vc, rfl, hb3⟩
            have hp3 := hp2.later hb3
            clear hp2 hb3
            go_wp2_with fail
            refine (hRd2.out _ hp3).mono ?_
            rintro e w4 ⟨rfl, hb4⟩
            have hp4 := hp3.later hb4
            clear hp3 hb4
            go_wp2_with fail
            refine (hNd2.out _ hp4).mono ?_
            rintro e w5 ⟨rfl, hb5⟩
            have hp5 := hp4.later hb5
            clear hp4 hb5
            go_wp2_with fail
            refine (hRd2.out _ hp5).mono ?_
            rintro e w6 ⟨rfl, hb6⟩
            have hp6 := Lib.hid (hp5.later hb6)
            clear hp5 hb6
            go_wp2_with fail
            go_roundw
            case rel => exact ⟨j + 1, s, by omega, by go_num, by rw [hNs.out], by rw [hNs.out, hCs.out], hE2.out, hp6.out⟩
            case measure => simp [nOf]; omega
        | false =>
          rw [ha] at hbit
          simp only [Bool.false_eq_true, if_false] at hbit
          obtain ⟨e1, e2, e3⟩ := add_new (s := s) (k := k) (u := j) (by rw [hE.hn]; omega) ⟨by omega, by omega⟩ ha
          have hA := hp.add k (.slice none 0 0) j [] (is_nil _) (by decide)
          rw [e1, e2, e3] at hA
          obtain ⟨hE2, hup⟩ := en_add hE ⟨by omega, by omega⟩ hkn hn7 ha
          have hNn := nodes_upd s.P (show k < 7 by omega) ⟨true, [], j⟩ rfl
          have hpn := pc_or _ hx128 k (by omega) (by rw [nodes_bit, ha, Bool.and_false])
          have hUp := fun W (h : PAt w b ⟨s.n, s.r, s.m, s.f, updP s.P k ⟨true, [], j⟩⟩ W) => h.upto
          have hup' : upK (⟨s.n, s.r, s.m, s.f, updP s.P k ⟨true, [], j⟩⟩ : St).P 7 = j := hup
          rw [hup'] at hUp
          replace hUp := Lib.hid hUp
          have hNn' : nodesK (⟨s.n, s.r, s.m, s.f, updP s.P k ⟨true, [], j⟩⟩ : St).P 7 = nodesK s.P 7 ||| 2 ^ k := hNn
          have hor := bits_or_u64_nat (nodesK s.P 7) (2 ^ k) (by omega) (by have := Nat.pow_lt_pow_right (a := 2) (by omega) (show k < 7 by omega); omega)
          have hN2 := nodes_128 hE2.ok
          replace hE2 : En n ((j + 1 : Nat) : Int) ⟨s.n, s.r, s.m, s.f, updP s.P k ⟨true, [], j⟩⟩ := by have e := hE2; simpa using e
          replace hA : Calls Try.prog 27 #[.pointer (some ⟨b, 0, none⟩), .int .i64 (k : Nat), .slice none 0 0, .int .i64 (j : Nat)] wr fun e W' => e = .returned (.tuple #[.bool (rdy ⟨s.n, s.r, s.m, s.f, updP s.P k ⟨true, [], j⟩⟩), .int .i64 0]) ∧ PAt w b ⟨s.n, s.r, s.m, s.f, updP s.P k ⟨true, [], j⟩⟩ W' ∧ Keeps (fun i => i = b) wr W' := hA
          have hnn : s.n = n := hE.hn
          have hrd : rdy ⟨s.n, s.r, s.m, s.f, updP s.P k ⟨true, [], j⟩⟩ = decide ((n : Int) < 2 * (Quo.pc (nodesK (⟨s.n, s.r, s.m, s.f, updP s.P k ⟨true, [], j⟩⟩ : St).P 7) : Int)) := (rdy_pc hE2.ok).trans (decide_eq_decide.2 (by show s.n < _ ↔ _; rw [hnn]))
          clear hnn
          have hV := fun W (h : PAt w b ⟨s.n, s.r, s.m, s.f, updP s.P k ⟨true, [], j⟩⟩ W) => h.values
          rw [en_val hE2] at hV
          unfold valE at hV
          have hRd := fun W (h : PAt w b ⟨s.n, s.r, s.m, s.f, updP s.P k ⟨true, [], j⟩⟩ W) => h.ready
          have hNd := fun W (h : PAt w b ⟨s.n, s.r, s.m, s.f, updP s.P k ⟨true, [], j⟩⟩ W) => h.nodes
          have hpc' := pc_7 _ (nodes_128 hE2.ok)
          rw [hNn'] at hNd hrd hpc' hN2
          rw [hpn] at hrd hpc'
          clear hNn
          generalize hs' : (⟨s.n, s.r, s.m, s.f, updP s.P k ⟨true, [], j⟩⟩ : St) = s' at *
          clear hs' hup hup'
          replace hE2 := Lib.hid hE2
          replace hNn' := Lib.hid hNn'
          replace hpn := Lib.hid hpn
          generalize nodesK s.P 7 = N0 at *
          generalize hC0 : Quo.pc N0 = C0 at *
          obtain ⟨Q, hQ⟩ : ∃ Q, Q = 2 ^ k := ⟨_, rfl⟩
          have hQ128 : Q < 128 := by rw [hQ]; exact Nat.pow_lt_pow_right (a := 2) (by omega) (show k < 7 by omega)
          have hQi : (2 : Int) ^ k = (Q : Int) := by rw [hQ, Int.natCast_pow]; rfl
          have q1 : IntKind.u64.wrap ((2 : Int) ^ k) = (Q : Int) := by rw [hQi, IntKind.wrap_u64]; omega
          rw [← hQ] at hor hNd hN2 hNn' hpn
          clear hQ hQi
          generalize hNN : N0 ||| Q = NN at *
          replace hNN := Lib.hid hNN
          obtain ⟨C, hC⟩ : ∃ C, C = C0 + 1 := ⟨_, rfl⟩
          rw [← hC] at hrd hpc' hpn
          have q2 : IntKind.i64.wrap ((C0 : Int) + 1) = (C : Int) := by rw [IntKind.wrap_i64]; omega
          clear hC
          replace hC0 := Lib.hid hC0
          have w2 : IntKind.i64.wrap (2 * (C : Int)) = 2 * C := by rw [IntKind.wrap_i64]; omega
          replace hA := Lib.hid hA
          replace hp := Lib.hid hp
          generalize rdy s' = R at *
          replace hrd := hrd.symm
          cases R with
          | false =>
            have hV2 : Hid (∀ W, PAt w b s' W → Calls Try.prog 16 #[.pointer (some ⟨b, 0, none⟩)] W fun e W' => ∃ a c, e = .returned (.tuple #[.slice a 0 c, .int .i64 9]) ∧ Below W.heap.size W W') := Lib.hid fun W h => by
              refine (hV W h).mono ?_
              rintro e W' ⟨v, rfl, hO, hb⟩
              obtain ⟨a, c, rfl⟩ := rows_form hO
              exact ⟨a, c, rfl, hb⟩
            have hRd2 := Lib.hid hRd
            have hNd2 := Lib.hid hNd
            have r1 : ¬ (n : Int) < 2 * (C : Int) := of_decide_eq_false hrd
            have r2 : 2 * (C : Int) ≤ n := by omega
            clear hV hRd hNd hE ha
            go_wp2_with fail
            refine hA.out.mono ?_
            rintro e w2 ⟨rfl, hp2, _⟩
            go_wp2_with fail
            refine (hUp.out _ hp2).mono ?_
            rintro e w21 ⟨rfl, hb21⟩
            replace hp2 := hp2.later hb21
            clear hb21
            go_wp2_with fail
            refine (hV2.out _ hp2).mono ?_
            rintro e w3 ⟨va, vc, rfl, hb3⟩
            have hp3 := hp2.later hb3
            clear hp2 hb3
            go_wp2_with fail
            refine (hRd2.out _ hp3).mono ?_
            rintro e w4 ⟨rfl, hb4⟩
            have hp4 := hp3.later hb4
            clear hp3 hb4
            go_wp2_with fail
            refine (hNd2.out _ hp4).mono ?_
            rintro e w5 ⟨rfl, hb5⟩
            have hp5 := hp4.later hb5
            clear hp4 hb5
            go_wp2_with fail
            refine (hRd2.out _ hp5).mono ?_
            rintro e w6 ⟨rfl, hb6⟩
            have hp6 := Lib.hid (hp5.later hb6)
            clear hp5 hb6
            go_wp2_with fail
            go_roundw
            case rel => exact ⟨j + 1, s', by omega, by go_num, by rw [hNn'.out], by rw [hNn'.out, hpn.out], hE2.out, hp6.out⟩
            case measure => simp [nOf]; omega
          | true =>
            have hV2 : Hid (∀ W, PAt w b s' W → Calls Try.prog 16 #[.pointer (some ⟨b, 0, none⟩)] W fun e W' => ∃ a c, e = .returned (.tuple #[.slice a 0 c, .int .i64 0]) ∧ Below W.heap.size W W') := Lib.hid fun W h => by
              refine (hV W h).mono ?_
              rintro e W' ⟨v, rfl, hO, hb⟩
              obtain ⟨a, c, rfl⟩ := rows_form hO
              exact ⟨a, c, rfl, hb⟩
            have hRd2 := Lib.hid hRd
            have hNd2 := Lib.hid hNd
            have r1 : (n : Int) < 2 * (C : Int) := of_decide_eq_true hrd
            have r2 : ¬ 2 * (C : Int) ≤ n := by omega
            clear hV hRd hNd hE ha
            go_wp2_with fail
            refine hA.out.mono ?_
            rintro e w2 ⟨rfl, hp2, _⟩
            go_wp2_with fail
            refine (hUp.out _ hp2).mono ?_
            rintro e w21 ⟨rfl, hb21⟩
            replace hp2 := hp2.later hb21
            clear hb21
            go_wp2_with fail
            refine (hV2.out _ hp2).mono ?_
            rintro e w3 ⟨va, vc, rfl, hb3⟩
            have hp3 := hp2.later hb3
            clear hp2 hb3
            go_wp2_with fail
            refine (hRd2.out _ hp3).mono ?_
            rintro e w4 ⟨rfl, hb4⟩
            have hp4 := hp3.later hb4
            clear hp3 hb4
            go_wp2_with fail
            refine (hNd2.out _ hp4).mono ?_
            rintro e w5 ⟨rfl, hb5⟩
            have hp5 := hp4.later hb5
            clear hp4 hb5
            go_wp2_with fail
            refine (hRd2.out _ hp5).mono ?_
            rintro e w6 ⟨rfl, hb6⟩
            have hp6 := Lib.hid (hp5.later hb6)
            clear hp5 hb6
            go_wp2_with fail
            go_roundw
            case rel => exact ⟨j + 1, s', by omega, by go_num, by rw [hNn'.out], by rw [hNn'.out, hpn.out], hE2.out, hp6.out⟩
            case measure => simp [nOf]; omega
      · have hje : j = len1 := by omega
        subst hje
        have i3 : decide ((j : Int) < (j : Int)) = false := by simp
        have hbel := Lib.hid hp.bel
        clear hp hE
        go_wp2_with (go_at_call 11; refine (HW.out _).mono ?_; rintro e w1 ⟨rfl, hb⟩)
        go_ret
        exact ⟨rfl, below2 hbel.out hb⟩
  · have b1 : decide (100 < (len1 : Int)) = true := by simp; omega
    have b2 : (100 : Int) < (len1 : Int) := by omega
    clear HN hE0
    go_enter Try.func8, Try.ntmps8
    go_wp2_with (go_at_call 11; refine (HW.out _).mono ?_; rintro e w1 ⟨rfl, hb⟩)
    go_ret
    exact ⟨rfl, hb⟩
theorem enough_law (a0 : Int) (a1 : Option Addr) (len1 cap1 : Nat) (S : Nat → Nat) (w : World) (h0 : (Lit.int .u8 a0).wf = true) (h1 : IsU w a1 len1 cap1 S) :
    Calls Try.prog 8 #[.int .u8 a0, .slice a1 len1 cap1] w (Yes w) := by
  have hb := bounds_u8 h0
  obtain ⟨n, rfl⟩ := Int.eq_ofNat_of_zero_le hb.1
  exact enough_go n a1 len1 cap1 S w (by have := hb.2; omega) h1
end Go.Proofs.Ytffiooclkchoiaa.Prp
