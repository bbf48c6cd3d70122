/- Numbers of ballots: Number, FromNumber. -/
import Derived.Test.YtabfpdlnljkgpaaDoorB03
namespace Go.Proofs.YtabfpdlnljkgpaaDoor.Bal
open Go.RowKit Go.Lib
set_option linter.unusedVariables false
set_option linter.unusedSimpArgs false
set_option maxRecDepth 20000

def nmV (r m n : Int) : Int := if (1 ≤ n ∧ n ≤ 7) ∧ bOk n r m then (if r = 0 then 0 else (r - 1) * n + m + 1) else 0
theorem mul_b {a n : Int} (h0 : 0 ≤ a) (h1 : a ≤ 1073741824) (h2 : 1 ≤ n ∧ n ≤ 7) : 0 ≤ a * n ∧ a * n ≤ 7516192768 := by
  obtain rfl | rfl | rfl | rfl | rfl | rfl | rfl : n = 1 ∨ n = 2 ∨ n = 3 ∨ n = 4 ∨ n = 5 ∨ n = 6 ∨ n = 7 := by omega
  all_goals omega
theorem number_any (r m n : Int) (w : World) :
    Calls Tryd.prog 25 #[.agg #[.int .i64 r, .int .i64 m], .int .i64 n] w fun e w' => e = .returned (.tuple #[.int .i64 (nmV r m n), .int .i64 (ckB r m n)]) ∧ Below w.heap.size w w' := by
  have hx := bx_new w r m
  obtain ⟨c0, c1, _, _⟩ := hx.cells
  have hk := fun W => check_any r m n W
  by_cases h : (1 ≤ n ∧ n ≤ 7) ∧ bOk n r m
  · rw [show ckB r m n = 0 from if_pos h] at hk ⊢
    replace hk := Lib.hid hk
    by_cases h0 : r = 0
    · have hm : m = 0 := by obtain ⟨_, hb⟩ := h; unfold bOk at hb; omega
      have e := Lib.hid (show nmV r m n = 0 by unfold nmV; rw [if_pos h, if_pos h0])
      have hq := fun W => eq_b r m 0 0 W
      rw [eqB_t ⟨h0, hm⟩] at hq
      clear h h0 hm
      go_enter Tryd.func25, Tryd.ntmps25
      go_wp2_with (go_at_call 14; refine (hk.out _).mono ?_; rintro e w1 ⟨rfl, hb1⟩; have hx1 := hx.later hb1; obtain ⟨d0, d1, _, _⟩ := hx1.cells; clear c0 c1)
      go_ret2
      exact ⟨by rw [e.out]; rfl, hx1.bel⟩
    · have hr : 1 ≤ r ∧ r ≤ 1073741824 ∧ 0 ≤ m ∧ m < n := by obtain ⟨_, hb⟩ := h; unfold bOk at hb; omega
      have e := Lib.hid (show nmV r m n = (r - 1) * n + m + 1 by unfold nmV; rw [if_pos h, if_neg h0])
      have hq := fun W => eq_b r m 0 0 W
      rw [eqB_f (fun x => h0 x.1)] at hq
      obtain ⟨p1, p2⟩ := mul_b (a := r - 1) (n := n) (by omega) (by omega) h.1
      have r1 : IntKind.i64.wrap (r - 1) = r - 1 := wr (by omega) (by omega)
      have r2 : IntKind.i64.wrap ((r - 1) * n) = (r - 1) * n := wr (by omega) (by omega)
      have r3 : IntKind.i64.wrap ((r - 1) * n + m) = (r - 1) * n + m := wr (by omega) (by omega)
      have r4 : IntKind.i64.wrap ((r - 1) * n + m + 1) = (r - 1) * n + m + 1 := wr (by omega) (by omega)
      clear h h0 hr p1 p2
      go_enter Tryd.func25, Tryd.ntmps25
      go_wp2_with (go_at_call 14; refine (hk.out _).mono ?_; rintro e w1 ⟨rfl, hb1⟩; have hx1 := hx.later hb1; obtain ⟨d0, d1, _, _⟩ := hx1.cells; clear c0 c1)
      go_ret2
      exact ⟨by rw [e.out]; rfl, hx1.bel⟩
  · rw [show ckB r m n = 2 from if_neg h] at hk ⊢
    have e := Lib.hid (show nmV r m n = 0 from if_neg h)
    replace hk := Lib.hid hk
    clear h
    go_enter Tryd.func25, Tryd.ntmps25
    go_wp2_with (go_at_call 14; refine (hk.out _).mono ?_; rintro e w1 ⟨rfl, hb1⟩; have hx1 := hx.later hb1; clear c0 c1)
    go_ret2
    exact ⟨by rw [e.out]; rfl, hx1.bel⟩

def fnE (k n : Int) : Int := if 1 ≤ n ∧ n ≤ 7 then (if 0 ≤ k ∧ k ≤ 1073741824 * n then 0 else 3) else 2
def fnA (k n : Int) : Int := if fnE k n = 0 ∧ ¬ k = 0 then (k - 1) / n + 1 else 0
def fnB (k n : Int) : Int := if fnE k n = 0 ∧ ¬ k = 0 then (k - 1) % n else 0
def FnIs (k n a b e : Int) : Prop := fnA k n = a ∧ fnB k n = b ∧ fnE k n = e
theorem fn_n {k n : Int} (h : ¬ (1 ≤ n ∧ n ≤ 7)) : FnIs k n 0 0 2 := by
  have e : fnE k n = 2 := if_neg h
  exact ⟨if_neg (by rw [e]; simp), if_neg (by rw [e]; simp), e⟩
theorem fn_k {k n : Int} (h : 1 ≤ n ∧ n ≤ 7) (h2 : ¬ (0 ≤ k ∧ k ≤ 1073741824 * n)) : FnIs k n 0 0 3 := by
  have e : fnE k n = 3 := by unfold fnE; rw [if_pos h, if_neg h2]
  exact ⟨if_neg (by rw [e]; simp), if_neg (by rw [e]; simp), e⟩
theorem fn_0 {k n : Int} (h : 1 ≤ n ∧ n ≤ 7) (h2 : k = 0) : FnIs k n 0 0 0 := by
  have e : fnE k n = 0 := by unfold fnE; rw [if_pos h, if_pos (by omega)]
  exact ⟨if_neg (by simp [h2]), if_neg (by simp [h2]), e⟩
theorem fn_ok {k n : Int} (h : 1 ≤ n ∧ n ≤ 7) (h2 : 0 ≤ k ∧ k ≤ 1073741824 * n) (h3 : ¬ k = 0) : FnIs k n ((k - 1) / n + 1) ((k - 1) % n) 0 := by
  have e : fnE k n = 0 := by unfold fnE; rw [if_pos h, if_pos h2]
  exact ⟨if_pos ⟨e, h3⟩, if_pos ⟨e, h3⟩, e⟩

theorem from_n (k n : Int) (h : ¬ (1 ≤ n ∧ n ≤ 7)) (w : World) :
    Calls Tryd.prog 27 #[.int .i64 k, .int .i64 n] w fun e w' => e = .returned (.tuple #[.agg #[.int .i64 0, .int .i64 0], .int .i64 2]) ∧ Below w.heap.size w w' := by
  have hx := bx_new w 0 0
  obtain ⟨c0, c1, c2, c3⟩ := hx.cells
  have hc := fun W => count_any n W
  rw [decide_eq_false h] at hc
  replace hc := Lib.hid hc
  clear h
  go_enter Tryd.func27, Tryd.ntmps27
  go_wp2_with (go_at_call 31; refine (hc.out _).mono ?_; rintro e w' ⟨rfl, rfl⟩)
  exact bodyPost_ret (res2e Tryd.results27 _ rfl hx) rfl ⟨rfl, hx.bel⟩
theorem from_k (k n : Int) (h : 1 ≤ n ∧ n ≤ 7) (h2 : ¬ (0 ≤ k ∧ k ≤ 1073741824 * n)) (w : World) :
    Calls Tryd.prog 27 #[.int .i64 k, .int .i64 n] w fun e w' => e = .returned (.tuple #[.agg #[.int .i64 0, .int .i64 0], .int .i64 3]) ∧ Below w.heap.size w w' := by
  have hx := bx_new w 0 0
  obtain ⟨c0, c1, c2, c3⟩ := hx.cells
  have hc := fun W => count_any n W
  rw [decide_eq_true h] at hc
  replace hc := Lib.hid hc
  have r1 : IntKind.i64.wrap (1073741824 * n) = 1073741824 * n := wr (by omega) (by omega)
  by_cases h3 : k < 0
  · clear h h2
    go_enter Tryd.func27, Tryd.ntmps27
    go_wp2_with (go_at_call 31; refine (hc.out _).mono ?_; rintro e w' ⟨rfl, rfl⟩)
    exact bodyPost_ret (res2e Tryd.results27 _ rfl hx) rfl ⟨rfl, hx.bel⟩
  · have h4 : 1073741824 * n < k := by omega
    clear h h2
    go_enter Tryd.func27, Tryd.ntmps27
    go_wp2_with (go_at_call 31; refine (hc.out _).mono ?_; rintro e w' ⟨rfl, rfl⟩)
    exact bodyPost_ret (res2e Tryd.results27 _ rfl hx) rfl ⟨rfl, hx.bel⟩
theorem from_0 (n : Int) (h : 1 ≤ n ∧ n ≤ 7) (w : World) :
    Calls Tryd.prog 27 #[.int .i64 0, .int .i64 n] w fun e w' => e = .returned (.tuple #[.agg #[.int .i64 0, .int .i64 0], .int .i64 0]) ∧ Below w.heap.size w w' := by
  have hx := bx_new w 0 0
  obtain ⟨c0, c1, c2, c3⟩ := hx.cells
  have hc := fun W => count_any n W
  rw [decide_eq_true h] at hc
  replace hc := Lib.hid hc
  have r1 : IntKind.i64.wrap (1073741824 * n) = 1073741824 * n := wr (by omega) (by omega)
  have h4 : ¬ 1073741824 * n < 0 := by omega
  clear h
  go_enter Tryd.func27, Tryd.ntmps27
  go_wp2_with (go_at_call 31; refine (hc.out _).mono ?_; rintro e w' ⟨rfl, rfl⟩)
  exact bodyPost_ret (res2e Tryd.results27 _ rfl hx) rfl ⟨rfl, hx.bel⟩
theorem from_ok (k n : Int) (h : 1 ≤ n ∧ n ≤ 7) (h2 : 0 ≤ k ∧ k ≤ 1073741824 * n) (h3 : ¬ k = 0) (w : World) :
    Calls Tryd.prog 27 #[.int .i64 k, .int .i64 n] w fun e w' => e = .returned (.tuple #[.agg #[.int .i64 ((k - 1) / n + 1), .int .i64 ((k - 1) % n)], .int .i64 0]) ∧ Below w.heap.size w w' := by
  have hx := bx_new w 0 0
  obtain ⟨c0, c1, c2, c3⟩ := hx.cells
  have hc := fun W => count_any n W
  rw [decide_eq_true h] at hc
  replace hc := Lib.hid hc
  have r1 : IntKind.i64.wrap (1073741824 * n) = 1073741824 * n := wr (by omega) (by omega)
  have r2 : IntKind.i64.wrap (k - 1) = k - 1 := wr (by omega) (by omega)
  have h4 : ¬ 1073741824 * n < k := by omega
  have h5 : ¬ k < 0 := by omega
  have h6 : ¬ n = 0 := by omega
  obtain ⟨K, hK⟩ : ∃ K : Nat, k - 1 = K := ⟨(k - 1).toNat, by omega⟩
  obtain ⟨N, rfl⟩ : ∃ N : Nat, n = N := ⟨n.toNat, by omega⟩
  have hKb : K ≤ 7516192768 := by omega
  rw [hK] at r2
  have r2' : IntKind.i64.wrap (k - 1) = K := by rw [hK]; exact r2
  clear r2
  have h7 : ¬ N = 0 := by omega
  have h8 : ((N : Int) == 0) = false := by simpa using h6
  have h9 : decide ((N : Int) = 0) = false := by simpa using h6
  rw [hK]
  have hw0 : ((K : Int) / (N : Int)) = ((K / N : Nat) : Int) := (Int.natCast_ediv _ _).symm
  have hm0 : ((K : Int) % (N : Int)) = ((K % N : Nat) : Int) := (Int.natCast_emod _ _).symm
  have hqb := Nat.div_le_self K N
  have hw1 : IntKind.i64.wrap ((K : Int) / (N : Int)) = ((K / N : Nat) : Int) := by rw [hw0]; generalize K / N = q at *; exact wr (by omega) (by omega)
  have hm1 : (K : Int).tmod (N : Int) = ((K % N : Nat) : Int) := by rw [← Int.ofNat_tmod]
  rw [hw0, hm0]
  generalize K / N = q at *
  generalize K % N = g at *
  have r3 : IntKind.i64.wrap ((q : Int) + 1) = (q : Int) + 1 := wr (by omega) (by omega)
  clear h h2 hKb hqb hK
  replace hw0 := Lib.hid hw0
  go_enter Tryd.func27, Tryd.ntmps27
  go_wp2_with (go_at_call 31; refine (hc.out _).mono ?_; rintro e w' ⟨rfl, rfl⟩)
  go_region_held3 (fun W => True) (trivial) (fail)
  go_wp2
  exact bodyPost_ret (res2e Tryd.results27 _ rfl (bx_new w ((q : Int) + 1) g).drew) rfl ⟨rfl, (bx_new w ((q : Int) + 1) g).drew.bel⟩
theorem from_any (k n : Int) (w : World) :
    Calls Tryd.prog 27 #[.int .i64 k, .int .i64 n] w fun e w' => e = .returned (.tuple #[.agg #[.int .i64 (fnA k n), .int .i64 (fnB k n)], .int .i64 (fnE k n)]) ∧ Below w.heap.size w w' := by
  by_cases h : 1 ≤ n ∧ n ≤ 7
  · by_cases h2 : 0 ≤ k ∧ k ≤ 1073741824 * n
    · by_cases h3 : k = 0
      · obtain ⟨a1, a2, a3⟩ := fn_0 (k := k) h h3
        rw [a1, a2, a3]
        subst h3
        exact from_0 n h w
      · obtain ⟨a1, a2, a3⟩ := fn_ok h h2 h3
        rw [a1, a2, a3]
        exact from_ok k n h h2 h3 w
    · obtain ⟨a1, a2, a3⟩ := fn_k h h2
      rw [a1, a2, a3]
      exact from_k k n h h2 w
  · obtain ⟨a1, a2, a3⟩ := fn_n (k := k) h
    rw [a1, a2, a3]
    exact from_n k n h w
end Go.Proofs.YtabfpdlnljkgpaaDoor.Bal
