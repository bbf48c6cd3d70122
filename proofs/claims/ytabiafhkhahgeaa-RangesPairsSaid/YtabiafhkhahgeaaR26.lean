/- The document's Inside; RangesPairs. -/
import Derived.Test.YtabiafhkhahgeaaR25
import Derived.Test.YtabiafhkhahgeaaR22
namespace Go.Proofs.Ytabiafhkhahgeaa.Rng
open Go.RowKit Go.Lib
set_option linter.unusedVariables false
set_option linter.unusedSimpArgs false
set_option maxRecDepth 100000

theorem inside_not {a b : Rg} (ha : okR a = true) (hb : okR b = true) (h : lo a.f < lo b.f ∨ hi b.t < hi a.t) : (insideR a b).1 = false := by
  obtain ⟨h1, h2, _, _⟩ := meet_facts ha hb
  unfold insideR; rw [meetR_ok ha hb]
  cases hv : okR (meetV a b) with
  | false => rw [if_neg (by decide)]; rfl
  | true =>
    rw [if_pos rfl]
    show (true && decide (meetV a b = a)) = false
    rw [Bool.true_and, decide_eq_false_iff_not]
    intro e
    rw [e] at h1 h2
    omega
theorem inside_len (a b : Rg) : insideR a b = (decide ((withR a b).2 = 0) && decide ((withR a b).1.length = 0), (withR a b).2) := by
  cases ho : (okR a && okR b) with
  | false => rw [insideR_no ho, withR_no ho]; rfl
  | true =>
    have he := insideR_err ho
    rw [Bool.and_eq_true] at ho
    obtain ⟨ha, hb⟩ := ho
    have h3 : (withR a b).2 = 0 := by rw [withR_ok ha hb]
    refine Prod.ext ?_ (he.trans h3.symm)
    show (insideR a b).1 = (decide ((withR a b).2 = 0) && decide ((withR a b).1.length = 0))
    rw [h3]
    by_cases h1 : lo a.f < lo b.f
    · rw [inside_not ha hb (.inl h1), withR_ok ha hb, ((wo1_facts ha hb).1 h1).1]
      simp
    · by_cases h2 : hi b.t < hi a.t
      · rw [inside_not ha hb (.inr h2), withR_ok ha hb, ((wo2_facts ha hb).1 h2).1]
        simp
      · obtain ⟨_, _, q3, _, q5⟩ := wide_facts ha hb (by omega) (by omega)
        rw [q3, q5]; rfl
theorem with_err (a b : Rg) : (withR a b).2 = 0 ∨ (withR a b).2 = 2 := by
  unfold withR; split
  · exact .inl rfl
  · exact .inr rfl
set_option maxHeartbeats 2000000 in
theorem rinside_any (a b : Rg) (s1 : shortR a = true) (s2 : shortR b = true) (w : World) :
    Calls Try.prog 29 #[.agg #[.string (tx a.f), .string (tx a.t)], .agg #[.string (tx b.f), .string (tx b.t)]] w fun e w' => e = .returned (.tuple #[.bool (insideR a b).1, .int .i64 (insideR a b).2]) ∧ Below w.heap.size w w' := by
  have hN : ∀ W, Calls Try.prog 24 #[.agg #[.string (tx a.f), .string (tx a.t)], .agg #[.string (tx b.f), .string (tx b.t)]] W fun e w' => ∃ A c, e = .returned (.tuple #[.slice A (withR a b).1.length c, .int .i64 (withR a b).2]) ∧ Below W.heap.size W w' := fun W => (rwithout_any a b s1 s2 W).mono (by
    rintro e w' ⟨v, rfl, ho, hb⟩
    obtain ⟨A, c, rfl⟩ := ho.form
    exact ⟨A, c, rfl, hb⟩)
  have hr := inside_len a b
  have hl := with_len a b
  have he := with_err a b
  have hx := tw_new w (tx a.f) (tx a.t) (tx b.f) (tx b.t)
  clear s1 s2
  generalize insideR a b = q at *
  generalize (withR a b).1.length = n at *
  generalize (withR a b).2 = m at *
  generalize tx a.f = s at *
  generalize tx a.t = t at *
  generalize tx b.f = u at *
  generalize tx b.t = v at *
  rcases he with rfl | rfl <;> obtain rfl | rfl | rfl : n = 0 ∨ n = 1 ∨ n = 2 := by omega
  all_goals
    simp only [Nat.reduceEqDiff, decide_true, decide_false, Bool.and_true, Bool.and_false, Bool.true_and, Bool.false_and, Int.reduceEq, reduceCtorEq] at hr
    obtain rfl := hr
    replace hN := Lib.hid hN
    clear hl
    go_enter Try.func29, Try.ntmps29
    go_wp2_with (go_at_call 24; refine (hN.out _).mono ?_; rintro e w1 ⟨A, c, rfl, hb1⟩; have hx1 := hx.later hb1)
    go_ret2
    exact ⟨rfl, hx1.bel⟩
set_option maxHeartbeats 4000000 in
theorem pairs_long (a b : Rg) (h : (shortR a && shortR b) = false) (w : World) :
    Calls Try.prog 4 #[.agg #[.string (tx a.f), .string (tx a.t)], .agg #[.string (tx b.f), .string (tx b.t)]] w fun e w' => e = .returned (.bool true) ∧ Below w.heap.size w w' := by
  have hS := Lib.hid (fun W => short_any a W)
  have hQ := Lib.hid (fun W => short_any b W)
  have hW := Lib.hid (fun W => works_any W)
  have hx := tw_new w (tx a.f) (tx a.t) (tx b.f) (tx b.t)
  obtain ⟨c0, c1, c2, c3, _⟩ := hx.cells
  generalize shortR a = z at *
  generalize shortR b = z2 at *
  generalize tx a.f = s at *
  generalize tx a.t = t at *
  generalize tx b.f = u at *
  generalize tx b.t = v at *
  cases z <;> cases z2
  case true.true => cases h
  case true.false =>
    go_enter Try.func4, Try.ntmps4
    go_wp2_with (first
      | (go_at_call_of 11 (Value.agg #[Value.string s, Value.string t]); refine (hS.out _).mono ?_; rintro e w1 ⟨rfl, hb1⟩; have hx1 := hx.later hb1; obtain ⟨d0, d1, d2, d3, _⟩ := hx1.cells)
      | (go_at_call_of 11 (Value.agg #[Value.string u, Value.string v]); refine (hQ.out _).mono ?_; rintro e w3 ⟨rfl, hb3⟩; have hx3 := hx1.later hb3)
      | (go_at_call 12; refine (hW.out _).mono ?_; rintro e w2 ⟨rfl, hb2⟩; have hx2 := hx3.later hb2))
    go_ret
    exact ⟨rfl, hx2.bel⟩
  all_goals
    go_enter Try.func4, Try.ntmps4
    go_wp2_with (first
      | (go_at_call_of 11 (Value.agg #[Value.string s, Value.string t]); refine (hS.out _).mono ?_; rintro e w1 ⟨rfl, hb1⟩; have hx1 := hx.later hb1)
      | (go_at_call 12; refine (hW.out _).mono ?_; rintro e w2 ⟨rfl, hb2⟩; have hx2 := hx1.later hb2))
    go_ret
    exact ⟨rfl, hx2.bel⟩
set_option maxHeartbeats 8000000 in
theorem pairs_ok (a b : Rg) (h1 : shortR a = true) (h2 : shortR b = true) (w : World) :
    Calls Try.prog 4 #[.agg #[.string (tx a.f), .string (tx a.t)], .agg #[.string (tx b.f), .string (tx b.t)]] w fun e w' => e = .returned (.bool true) ∧ Below w.heap.size w w' := by
  have hS := fun W => short_any a W
  have hQ := fun W => short_any b W
  have hM := Lib.hid (fun W => meet_any a b W)
  have hMr := Lib.hid (fun W => rmeet_any a b h1 h2 W)
  have hN := Lib.hid (fun W => without_any a b W)
  have hNr := Lib.hid (fun W => rwithout_any a b h1 h2 W)
  have hL := Lib.hid (fun W => less_any a b W)
  have hLr := Lib.hid (fun W => rless_any a b h1 h2 W)
  have hI := Lib.hid (fun W => inside_any a b W)
  have hIr := Lib.hid (fun W => rinside_any a b h1 h2 W)
  rw [h1] at hS
  rw [h2] at hQ
  replace hS := Lib.hid hS
  replace hQ := Lib.hid hQ
  have hW := Lib.hid (fun W => works_any W)
  have hx := tw_new w (tx a.f) (tx a.t) (tx b.f) (tx b.t)
  obtain ⟨c0, c1, c2, c3, _⟩ := hx.cells
  have hl : (withR a b).1.length ≤ 1000 := Nat.le_trans (with_len a b) (by decide)
  clear h1 h2
  generalize (withR a b).1 = L at *
  generalize (withR a b).2 = wc at *
  generalize tx (meetR a b).1.f = x at *
  generalize tx (meetR a b).1.t = y at *
  generalize (meetR a b).2.1 = mo at *
  generalize (meetR a b).2.2 = mc at *
  generalize (lessR a b).1 = lb at *
  generalize (lessR a b).2 = lc at *
  generalize (insideR a b).1 = ib at *
  generalize (insideR a b).2 = ic at *
  generalize tx a.f = s at *
  generalize tx a.t = t at *
  generalize tx b.f = u at *
  generalize tx b.t = v at *
  go_enter Try.func4, Try.ntmps4
  go_wp2_with (first
    | (go_at_call_of 11 (Value.agg #[Value.string s, Value.string t]); refine (hS.out _).mono ?_; rintro e w1 ⟨rfl, hb1⟩; have hx1 := hx.later hb1; obtain ⟨d0, d1, d2, d3, _⟩ := hx1.cells)
    | (go_at_call_of 11 (Value.agg #[Value.string u, Value.string v]); refine (hQ.out _).mono ?_; rintro e w3 ⟨rfl, hb3⟩; have hx3 := hx1.later hb3; obtain ⟨e0, e1, e2, e3, _⟩ := hx3.cells; clear c0 c1 c2 c3 d0 d1 d2 d3)
    | (go_at_call 21; refine (hM.out _).mono ?_; rintro e w4 ⟨rfl, hb4⟩; have hx4 := (hx3.later hb4).later (alloc_b w4 (.cells #[.string x, .string y] TR)); obtain ⟨g0, g1, g2, g3, _⟩ := hx4.cells; have hr4 := B2.new w4 x y)
    | (go_at_call 22; refine (hMr.out _).mono ?_; rintro e w5 ⟨rfl, hb5⟩; have hx5 := (hx4.later hb5).later (alloc_b w5 (.cells #[.string x, .string y] TR)); have hr5 := (hr4.later hb5).later (alloc_b w5 (.cells #[.string x, .string y] TR)); have hs5 := B2.new w5 x y; obtain ⟨i0, i1, i2, i3, _⟩ := hx5.cells)
    | (go_at_call 23; refine (hN.out _).mono ?_; rintro e w6 ⟨vv, rfl, ho6, hb6⟩; have hx6 := hx5.later hb6; have hr6 := hr5.later hb6; have hs6 := hs5.later hb6; obtain ⟨j0, j1, j2, j3, _⟩ := hx6.cells; clear g0 g1 g2 g3)
    | (go_at_call 24; refine (hNr.out _).mono ?_; rintro e w7 ⟨uu, rfl, ho7, hb7⟩; have hx7 := hx6.later hb7; have rV := (ho6.later hb7).rs; have rU := ho7.rs; obtain ⟨k0, k1, k2, k3, _⟩ := hx7.cells; obtain ⟨r0, r1, _, _⟩ := (hr6.later hb7).cells; obtain ⟨t0, t1, _, _⟩ := (hs6.later hb7).cells; clear i0 i1 i2 i3 j0 j1 j2 j3)
    | (go_at_call 25; refine (same_any _ _ L L _ rV rU hl hl).mono ?_; rintro e w8 ⟨rfl, hb8⟩; have hx8 := hx7.later hb8; obtain ⟨l0, l1, l2, l3, _⟩ := hx8.cells; clear r0 r1 t0 t1 k0 k1 k2 k3)
    | (go_at_call 26; refine (hL.out _).mono ?_; rintro e w9 ⟨rfl, hb9⟩; have hx9 := hx8.later hb9; obtain ⟨m0, m1, m2, m3, _⟩ := hx9.cells; clear l0 l1 l2 l3)
    | (go_at_call 27; refine (hLr.out _).mono ?_; rintro e w10 ⟨rfl, hb10⟩; have hx10 := hx9.later hb10; obtain ⟨n0, n1, n2, n3, _⟩ := hx10.cells; clear m0 m1 m2 m3)
    | (go_at_call 28; refine (hI.out _).mono ?_; rintro e w11 ⟨rfl, hb11⟩; have hx11 := hx10.later hb11; obtain ⟨p0, p1, p2, p3, _⟩ := hx11.cells; clear n0 n1 n2 n3)
    | (go_at_call 29; refine (hIr.out _).mono ?_; rintro e w12 ⟨rfl, hb12⟩; have hx12 := hx11.later hb12; clear p0 p1 p2 p3)
    | (go_at_call 12; refine (hW.out _).mono ?_; rintro e w13 ⟨rfl, hb13⟩; have hx13 := hx12.later hb13))
  go_ret
  exact ⟨rfl, hx13.bel⟩
theorem w_rangesPairs (a b : Rg) (w : World) (w0 w1 : True) :
    Calls Try.prog 4 #[.agg #[.string (tx a.f), .string (tx a.t)], .agg #[.string (tx b.f), .string (tx b.t)]] w fun e w' => e = .returned (.bool true) ∧ Below w.heap.size w w' := by
  cases h1 : shortR a with
  | false => exact pairs_long a b (by rw [h1]; rfl) w
  | true =>
    cases h2 : shortR b with
    | false => exact pairs_long a b (by rw [h1, h2]; rfl) w
    | true => exact pairs_ok a b h1 h2 w
end Go.Proofs.Ytabiafhkhahgeaa.Rng
