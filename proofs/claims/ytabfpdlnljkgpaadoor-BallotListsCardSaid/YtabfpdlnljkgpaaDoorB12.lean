/- The document's Check, Order, Next, Number, FromNumber. -/
import Derived.Test.YtabfpdlnljkgpaaDoorB07
namespace Go.Proofs.YtabfpdlnljkgpaaDoor.Bal
open Go.RowKit Go.Lib
set_option linter.unusedVariables false
set_option linter.unusedSimpArgs false
set_option maxRecDepth 20000

theorem rcheck_any (r m n : Int) (w : World) :
    Calls Tryd.prog 15 #[.agg #[.int .i64 r, .int .i64 m], .int .i64 n] w fun e w' => e = .returned (.int .i64 (ckB r m n)) ∧ Below w.heap.size w w' := by
  have hx := bx_new w r m
  obtain ⟨c0, c1, _, _⟩ := hx.cells
  replace hx := Lib.hid hx.bel
  have hq := fun W => eq_b r m 0 0 W
  by_cases n1 : n < 1
  · have e := Lib.hid (show ckB r m n = 2 from if_neg (by rintro ⟨h, _⟩; omega))
    go_enter Tryd.func15, Tryd.ntmps15
    go_wp2
    go_ret
    exact ⟨by rw [e.out]; rfl, hx.out⟩
  by_cases n2 : 7 < n
  · have e := Lib.hid (show ckB r m n = 2 from if_neg (by rintro ⟨h, _⟩; omega))
    go_enter Tryd.func15, Tryd.ntmps15
    go_wp2
    go_ret
    exact ⟨by rw [e.out]; rfl, hx.out⟩
  have hn : 1 ≤ n ∧ n ≤ 7 := by omega
  by_cases hz : r = 0 ∧ m = 0
  · have e := Lib.hid (show ckB r m n = 0 from if_pos ⟨hn, .inl hz⟩)
    rw [eqB_t hz] at hq
    clear hn hz
    go_enter Tryd.func15, Tryd.ntmps15
    go_wp2
    go_ret
    exact ⟨by rw [e.out]; rfl, hx.out⟩
  rw [eqB_f hz] at hq
  by_cases h1 : 1 ≤ r
  · by_cases h2 : r ≤ 1073741824
    · by_cases h3 : 0 ≤ m
      · by_cases h4 : m < n
        · have e := Lib.hid (show ckB r m n = 0 from if_pos ⟨hn, .inr (by omega)⟩)
          clear hn hz
          go_enter Tryd.func15, Tryd.ntmps15
          go_wp2
          go_ret
          exact ⟨by rw [e.out]; rfl, hx.out⟩
        · have e := Lib.hid (show ckB r m n = 2 from if_neg (by rintro ⟨_, h | h⟩; exact hz h; omega))
          clear hn hz
          go_enter Tryd.func15, Tryd.ntmps15
          go_wp2
          go_ret
          exact ⟨by rw [e.out]; rfl, hx.out⟩
      · have e := Lib.hid (show ckB r m n = 2 from if_neg (by rintro ⟨_, h | h⟩; exact hz h; omega))
        clear hn hz
        go_enter Tryd.func15, Tryd.ntmps15
        go_wp2
        go_ret
        exact ⟨by rw [e.out]; rfl, hx.out⟩
    · have e := Lib.hid (show ckB r m n = 2 from if_neg (by rintro ⟨_, h | h⟩; exact hz h; omega))
      clear hn hz
      go_enter Tryd.func15, Tryd.ntmps15
      go_wp2
      go_ret
      exact ⟨by rw [e.out]; rfl, hx.out⟩
  · have e := Lib.hid (show ckB r m n = 2 from if_neg (by rintro ⟨_, h | h⟩; exact hz h; omega))
    clear hn hz
    go_enter Tryd.func15, Tryd.ntmps15
    go_wp2
    go_ret
    exact ⟨by rw [e.out]; rfl, hx.out⟩

theorem rorder_any (a b x y : Int) (w : World) :
    Calls Tryd.prog 17 #[.agg #[.int .i64 a, .int .i64 b], .agg #[.int .i64 x, .int .i64 y]] w fun e w' => e = .returned (.int .i64 (ordV a b x y)) ∧ Below w.heap.size w w' := by
  have O0 := oat_new w a b x y
  obtain ⟨c0, c1, c2, c3, _⟩ := O0.cells
  replace O0 := Lib.hid O0.bel
  have hq := fun W => eq_b a b x y W
  by_cases h1 : a < x
  · have e := Lib.hid (show ordV a b x y = -1 by unfold ordV fdV compareInt; simp [h1])
    go_enter Tryd.func17, Tryd.ntmps17
    go_wp2
    go_ret
    exact ⟨by rw [e.out]; rfl, O0.out⟩
  by_cases h2 : a = x
  · by_cases h3 : b < y
    · have e := Lib.hid (show ordV a b x y = -1 by unfold ordV fdV compareInt; simp [h2, h3])
      have d1 : (a == x) = true := by simpa using h2
      replace h2 := Lib.hid h2
      go_enter Tryd.func17, Tryd.ntmps17
      go_wp2
      go_ret
      exact ⟨by rw [e.out]; rfl, O0.out⟩
    · by_cases h4 : b = y
      · have e := Lib.hid (show ordV a b x y = 0 by unfold ordV fdV compareInt; simp [h2, h4])
        rw [eqB_t ⟨h2, h4⟩] at hq
        have d1 : (a == x) = true := by simpa using h2
        replace h2 := Lib.hid h2
        replace h4 := Lib.hid h4
        go_enter Tryd.func17, Tryd.ntmps17
        go_wp2
        go_ret
        exact ⟨by rw [e.out]; rfl, O0.out⟩
      · have h5 : y < b := by omega
        have e := Lib.hid (show ordV a b x y = 1 by unfold ordV fdV compareInt; simp [h2, h3, h5])
        rw [eqB_f (fun z => h4 z.2)] at hq
        have d1 : (a == x) = true := by simpa using h2
        replace h2 := Lib.hid h2
        clear h4 h5
        go_enter Tryd.func17, Tryd.ntmps17
        go_wp2
        go_ret
        exact ⟨by rw [e.out]; rfl, O0.out⟩
  · have h5 : x < a := by omega
    have e := Lib.hid (show ordV a b x y = 1 by unfold ordV fdV compareInt; simp [h1, h5])
    rw [eqB_f (fun z => h2 z.1)] at hq
    have d1 : (a == x) = false := by simpa using h2
    clear h2 h5
    go_enter Tryd.func17, Tryd.ntmps17
    go_wp2
    go_ret
    exact ⟨by rw [e.out]; rfl, O0.out⟩

theorem rnumber_any (r m n : Int) (w : World) :
    Calls Tryd.prog 26 #[.agg #[.int .i64 r, .int .i64 m], .int .i64 n] w fun e w' => e = .returned (.tuple #[.int .i64 (nmV r m n), .int .i64 (ckB r m n)]) ∧ Below w.heap.size w w' := by
  have hx := bx_new w r m
  obtain ⟨c0, c1, _, _⟩ := hx.cells
  have hk := fun W => rcheck_any r m n W
  by_cases h : (1 ≤ n ∧ n ≤ 7) ∧ bOk n r m
  · rw [show ckB r m n = 0 from if_pos h] at hk ⊢
    replace hk := Lib.hid hk
    by_cases h0 : r = 0
    · have hm : m = 0 := by obtain ⟨_, hb⟩ := h; unfold bOk at hb; omega
      have e := Lib.hid (show nmV r m n = 0 by unfold nmV; rw [if_pos h, if_pos h0])
      have hq := fun W => eq_b r m 0 0 W
      rw [eqB_t ⟨h0, hm⟩] at hq
      clear h h0 hm
      go_enter Tryd.func26, Tryd.ntmps26
      go_wp2_with (go_at_call 15; refine (hk.out _).mono ?_; rintro e w1 ⟨rfl, hb1⟩; have hx1 := hx.later hb1; obtain ⟨d0, d1, _, _⟩ := hx1.cells; clear c0 c1)
      go_ret2
      exact ⟨by rw [e.out]; rfl, hx1.bel⟩
    · have hr : 1 ≤ r ∧ r ≤ 1073741824 ∧ 0 ≤ m ∧ m < n := by obtain ⟨_, hb⟩ := h; unfold bOk at hb; omega
      have e := Lib.hid (show nmV r m n = (r - 1) * n + m + 1 by unfold nmV; rw [if_pos h, if_neg h0])
      have hq := fun W => eq_b r m 0 0 W
      rw [eqB_f (fun x => h0 x.1)] at hq
      obtain ⟨p1, p2⟩ := mul_b (a := r - 1) (n := n) (by omega) (by omega) h.1
      have r1 : IntKind.i64.wrap (r - 1) = r - 1 := wr (by omega) (by omega)
      have r2 : IntKind.i64.wrap ((r - 1) * n) = (r - 1) * n := wr (by omega) (by omega)
      have r3 : IntKind.i64.wrap ((r - 1) * n + m) = (r - 1) * n + m := wr (by omega) (by omega)
      have r4 : IntKind.i64.wrap ((r - 1) * n + m + 1) = (r - 1) * n + m + 1 := wr (by omega) (by omega)
      clear h h0 hr p1 p2
      go_enter Tryd.func26, Tryd.ntmps26
      go_wp2_with (go_at_call 15; refine (hk.out _).mono ?_; rintro e w1 ⟨rfl, hb1⟩; have hx1 := hx.later hb1; obtain ⟨d0, d1, _, _⟩ := hx1.cells; clear c0 c1)
      go_ret2
      exact ⟨by rw [e.out]; rfl, hx1.bel⟩
  · rw [show ckB r m n = 2 from if_neg h] at hk ⊢
    have e := Lib.hid (show nmV r m n = 0 from if_neg h)
    replace hk := Lib.hid hk
    clear h
    go_enter Tryd.func26, Tryd.ntmps26
    go_wp2_with (go_at_call 15; refine (hk.out _).mono ?_; rintro e w1 ⟨rfl, hb1⟩; have hx1 := hx.later hb1; clear c0 c1)
    go_ret2
    exact ⟨by rw [e.out]; rfl, hx1.bel⟩

theorem rfrom_n (k n : Int) (h : ¬ (1 ≤ n ∧ n ≤ 7)) (w : World) :
    Calls Tryd.prog 28 #[.int .i64 k, .int .i64 n] w fun e w' => e = .returned (.tuple #[.agg #[.int .i64 0, .int .i64 0], .int .i64 2]) ∧ Below w.heap.size w w' := by
  have hx := bx_new w 0 0
  obtain ⟨c0, c1, c2, c3⟩ := hx.cells
  by_cases h1 : n < 1
  · clear h
    go_enter Tryd.func28, Tryd.ntmps28
    go_wp2
    exact bodyPost_ret (res2e Tryd.results28 _ rfl hx) rfl ⟨rfl, hx.bel⟩
  · have h2 : 7 < n := by omega
    clear h
    go_enter Tryd.func28, Tryd.ntmps28
    go_wp2
    exact bodyPost_ret (res2e Tryd.results28 _ rfl hx) rfl ⟨rfl, hx.bel⟩
theorem rfrom_k (k n : Int) (h : 1 ≤ n ∧ n ≤ 7) (h2 : ¬ (0 ≤ k ∧ k ≤ 1073741824 * n)) (w : World) :
    Calls Tryd.prog 28 #[.int .i64 k, .int .i64 n] w fun e w' => e = .returned (.tuple #[.agg #[.int .i64 0, .int .i64 0], .int .i64 3]) ∧ Below w.heap.size w w' := by
  have hx := bx_new w 0 0
  obtain ⟨c0, c1, c2, c3⟩ := hx.cells
  have r1 : IntKind.i64.wrap (1073741824 * n) = 1073741824 * n := wr (by omega) (by omega)
  have n1 : ¬ n < 1 := by omega
  have n2 : ¬ 7 < n := by omega
  by_cases h3 : k < 0
  · clear h h2
    go_enter Tryd.func28, Tryd.ntmps28
    go_wp2
    exact bodyPost_ret (res2e Tryd.results28 _ rfl hx) rfl ⟨rfl, hx.bel⟩
  · have h4 : 1073741824 * n < k := by omega
    clear h h2
    go_enter Tryd.func28, Tryd.ntmps28
    go_wp2
    exact bodyPost_ret (res2e Tryd.results28 _ rfl hx) rfl ⟨rfl, hx.bel⟩
theorem rfrom_0 (n : Int) (h : 1 ≤ n ∧ n ≤ 7) (w : World) :
    Calls Tryd.prog 28 #[.int .i64 0, .int .i64 n] w fun e w' => e = .returned (.tuple #[.agg #[.int .i64 0, .int .i64 0], .int .i64 0]) ∧ Below w.heap.size w w' := by
  have hx := bx_new w 0 0
  obtain ⟨c0, c1, c2, c3⟩ := hx.cells
  have r1 : IntKind.i64.wrap (1073741824 * n) = 1073741824 * n := wr (by omega) (by omega)
  have h4 : ¬ 1073741824 * n < 0 := by omega
  have n1 : ¬ n < 1 := by omega
  have n2 : ¬ 7 < n := by omega
  clear h
  go_enter Tryd.func28, Tryd.ntmps28
  go_wp2
  exact bodyPost_ret (res2e Tryd.results28 _ rfl hx) rfl ⟨rfl, hx.bel⟩
theorem rfrom_ok (k n : Int) (h : 1 ≤ n ∧ n ≤ 7) (h2 : 0 ≤ k ∧ k ≤ 1073741824 * n) (h3 : ¬ k = 0) (w : World) :
    Calls Tryd.prog 28 #[.int .i64 k, .int .i64 n] w fun e w' => e = .returned (.tuple #[.agg #[.int .i64 ((k - 1) / n + 1), .int .i64 ((k - 1) % n)], .int .i64 0]) ∧ Below w.heap.size w w' := by
  have hx := bx_new w 0 0
  obtain ⟨c0, c1, c2, c3⟩ := hx.cells
  have r1 : IntKind.i64.wrap (1073741824 * n) = 1073741824 * n := wr (by omega) (by omega)
  have r2 : IntKind.i64.wrap (k - 1) = k - 1 := wr (by omega) (by omega)
  have h4 : ¬ 1073741824 * n < k := by omega
  have h5 : ¬ k < 0 := by omega
  have h6 : ¬ n = 0 := by omega
  have n1 : ¬ n < 1 := by omega
  have n2 : ¬ 7 < n := by omega
  obtain ⟨K, hK⟩ : ∃ K : Nat, k - 1 = K := ⟨(k - 1).toNat, by omega⟩
  obtain ⟨N, rfl⟩ : ∃ N : Nat, n = N := ⟨n.toNat, by omega⟩
  have hKb : K ≤ 7516192768 := by omega
  rw [hK] at r2
  have r2' : IntKind.i64.wrap (k - 1) = K := by rw [hK]; exact r2
  clear r2
  have h7 : ¬ N = 0 := by omega
  have h8 : ((N : Int) == 0) = false := by simpa using h6
  have h9 : decide ((N : Int) = 0) = false := by simpa using h6
  rw [hK]
  have hw0 : ((K : Int) / (N : Int)) = ((K / N : Nat) : Int) := (Int.natCast_ediv _ _).symm
  have hm0 : ((K : Int) % (N : Int)) = ((K % N : Nat) : Int) := (Int.natCast_emod _ _).symm
  have hqb := Nat.div_le_self K N
  have hw1 : IntKind.i64.wrap ((K : Int) / (N : Int)) = ((K / N : Nat) : Int) := by rw [hw0]; generalize K / N = q at *; exact wr (by omega) (by omega)
  have hm1 : (K : Int).tmod (N : Int) = ((K % N : Nat) : Int) := by rw [← Int.ofNat_tmod]
  rw [hw0, hm0]
  generalize K / N = q at *
  generalize K % N = g at *
  have r3 : IntKind.i64.wrap ((q : Int) + 1) = (q : Int) + 1 := wr (by omega) (by omega)
  clear h h2 hKb hqb hK
  replace hw0 := Lib.hid hw0
  go_enter Tryd.func28, Tryd.ntmps28
  go_wp2
  go_region_held3 (fun W => True) (trivial) (fail)
  go_wp2
  exact bodyPost_ret (res2e Tryd.results28 _ rfl (bx_new w ((q : Int) + 1) g).drew) rfl ⟨rfl, (bx_new w ((q : Int) + 1) g).drew.bel⟩
theorem rfrom_any (k n : Int) (w : World) :
    Calls Tryd.prog 28 #[.int .i64 k, .int .i64 n] w fun e w' => e = .returned (.tuple #[.agg #[.int .i64 (fnA k n), .int .i64 (fnB k n)], .int .i64 (fnE k n)]) ∧ Below w.heap.size w w' := by
  by_cases h : 1 ≤ n ∧ n ≤ 7
  · by_cases h2 : 0 ≤ k ∧ k ≤ 1073741824 * n
    · by_cases h3 : k = 0
      · obtain ⟨a1, a2, a3⟩ := fn_0 (k := k) h h3
        rw [a1, a2, a3]
        subst h3
        exact rfrom_0 n h w
      · obtain ⟨a1, a2, a3⟩ := fn_ok h h2 h3
        rw [a1, a2, a3]
        exact rfrom_ok k n h h2 h3 w
    · obtain ⟨a1, a2, a3⟩ := fn_k h h2
      rw [a1, a2, a3]
      exact rfrom_k k n h h2 w
  · obtain ⟨a1, a2, a3⟩ := fn_n (k := k) h
    rw [a1, a2, a3]
    exact rfrom_n k n h w
end Go.Proofs.YtabfpdlnljkgpaaDoor.Bal
