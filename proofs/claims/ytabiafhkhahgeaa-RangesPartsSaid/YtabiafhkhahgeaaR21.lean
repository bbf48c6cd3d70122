/- Ranges before, and inside, one another: plain facts, and the walk of RangesOrder. -/
import Derived.Test.YtabiafhkhahgeaaR20
namespace Go.Proofs.Ytabiafhkhahgeaa.Rng
open Go.RowKit Go.Lib
set_option linter.unusedVariables false
set_option linter.unusedSimpArgs false
set_option maxRecDepth 100000

theorem hi_top (x : List UInt8) : hi x ≤ top := by
  by_cases h : x = []
  · rw [h, hi_nil]; exact Nat.le_refl _
  · rw [hi_lo h]; exact Nat.le_of_lt (lo_top _)
theorem lessR_ok {a b : Rg} (ha : okR a = true) (hb : okR b = true) : lessR a b = (decide (hi a.t ≤ lo b.f), 0) := by
  obtain ⟨a1, a2, a3⟩ := (okR_iff a).1 ha
  obtain ⟨b1, b2, b3⟩ := (okR_iff b).1 hb
  unfold lessR
  rw [ha, hb]
  show (!a.t.isEmpty && (bl a.t b.f || a.t == b.f), (0 : Int)) = _
  congr 1
  by_cases h : a.t = []
  · have := lo_top b.f
    rw [h, hi_nil, decide_eq_false (by omega)]
    rfl
  · rw [hi_lo h]
    have he : a.t.isEmpty = false := by simpa using h
    have h1 := bl_lo (endOk_len a2) (endOk_len b1)
    have h2 := eq_lo (endOk_len a2) (endOk_len b1)
    rw [he, h1, Bool.eq_iff_iff]
    simp [h2]
    omega
theorem lessR_no {a b : Rg} (h : (okR a && okR b) = false) : lessR a b = (false, 2) := by unfold lessR; rw [h]; rfl
theorem insideR_no {a b : Rg} (h : (okR a && okR b) = false) : insideR a b = (false, 2) := by unfold insideR; rw [meetR_no h]; rfl
theorem insideR_err {a b : Rg} (h : (okR a && okR b) = true) : (insideR a b).2 = 0 := by unfold insideR; show (meetR a b).2.2 = 0; rw [meetR_err, h]; rfl
theorem meet_iff {a b : Rg} (ha : okR a = true) (hb : okR b = true) : (meetR a b).2.1 = decide (max (lo a.f) (lo b.f) < min (hi a.t) (hi b.t)) := by
  rw [meetR_ok ha hb, ← meetV_ok ha hb]
  cases okR (meetV a b) <;> rfl
/-- Just one of three: they meet, the first one is before, the second one is before. -/
theorem three_ways {a b : Rg} (ha : okR a = true) (hb : okR b = true) :
    ((meetR a b).2.1 = true ∧ (lessR a b).1 = false ∧ (lessR b a).1 = false) ∨ ((meetR a b).2.1 = false ∧ (lessR a b).1 = true ∧ (lessR b a).1 = false) ∨ ((meetR a b).2.1 = false ∧ (lessR a b).1 = false ∧ (lessR b a).1 = true) := by
  obtain ⟨_, _, a3⟩ := (okR_iff a).1 ha
  obtain ⟨_, _, b3⟩ := (okR_iff b).1 hb
  rw [meet_iff ha hb, lessR_ok ha hb, lessR_ok hb ha]
  simp only [decide_eq_true_iff, decide_eq_false_iff_not]
  omega
theorem inside_meet {a b : Rg} (h : (meetR a b).2.1 = false) : (insideR a b).1 = false := by unfold insideR; rw [h]; rfl
theorem inside_keys {a b : Rg} (ha : okR a = true) (hb : okR b = true) (k : List UInt8) (h : (insideR a b).1 = true) (hk : hasR a k = true) : hasR b k = true := by
  have hm := meet_keys ha hb k
  unfold insideR at h
  simp only [Bool.and_eq_true, decide_eq_true_iff] at h
  rw [h.1, h.2, hk] at hm
  simpa using hm.symm
theorem less_keys {a b : Rg} (ha : okR a = true) (hb : okR b = true) (x y : List UInt8) (h : (lessR a b).1 = true) (hx : hasR a x = true) (hy : hasR b y = true) : bl x y = true := by
  rw [lessR_ok ha hb] at h
  have h' : hi a.t ≤ lo b.f := by simpa using h
  obtain ⟨n1, h1, h2⟩ := (hasR_iff ha x).1 hx
  obtain ⟨n2, h3, h4⟩ := (hasR_iff hb y).1 hy
  rw [bl_lo (nameOk_len n1).2 (nameOk_len n2).2]
  exact decide_eq_true (by omega)
set_option maxHeartbeats 2000000 in
theorem order_long (a b : Rg) (x y : List UInt8) (h : (!shortR a || !shortR b || decide (100 < x.length) || decide (100 < y.length)) = true) (w : World) :
    Calls Try.prog 6 #[.agg #[.string (tx a.f), .string (tx a.t)], .agg #[.string (tx b.f), .string (tx b.t)], .string (tx x), .string (tx y)] w fun e w' => e = .returned (.bool true) ∧ Below w.heap.size w w' := by
  have hS := Lib.hid (fun W => short_any a W)
  have hQ := Lib.hid (fun W => short_any b W)
  have hW := Lib.hid (fun W => works_any W)
  have hx := tw_new w (tx a.f) (tx a.t) (tx b.f) (tx b.t)
  rw [← tx_size x, ← tx_size y] at h
  obtain ⟨c0, c1, c2, c3, _⟩ := hx.cells
  generalize shortR a = z at *
  generalize shortR b = z2 at *
  generalize tx a.f = s at *
  generalize tx a.t = t at *
  generalize tx b.f = u at *
  generalize tx b.t = v at *
  generalize tx x = xx at *
  generalize tx y = yy at *
  by_cases g1 : 100 < xx.size
  · have b2 : decide (100 < (xx.size : Int)) = true := decide_eq_true (by omega)
    have b3 : decide (100 < xx.size) = true := decide_eq_true g1
    clear h g1
    cases z <;> cases z2
    case true.true =>
      go_enter Try.func6, Try.ntmps6
      go_wp2_with (first
        | (go_at_call_of 11 (Value.agg #[Value.string s, Value.string t]); refine (hS.out _).mono ?_; rintro e w1 ⟨rfl, hb1⟩; have hx1 := hx.later hb1; obtain ⟨d0, d1, d2, d3, _⟩ := hx1.cells)
        | (go_at_call_of 11 (Value.agg #[Value.string u, Value.string v]); refine (hQ.out _).mono ?_; rintro e w3 ⟨rfl, hb3⟩; have hx3 := hx1.later hb3; obtain ⟨e0, e1, e2, e3, _⟩ := hx3.cells)
        | (go_at_call 12; refine (hW.out _).mono ?_; rintro e w2 ⟨rfl, hb2⟩; have hx2 := hx3.later hb2))
      go_ret
      exact ⟨rfl, hx2.bel⟩
    case true.false =>
      go_enter Try.func6, Try.ntmps6
      go_wp2_with (first
        | (go_at_call_of 11 (Value.agg #[Value.string s, Value.string t]); refine (hS.out _).mono ?_; rintro e w1 ⟨rfl, hb1⟩; have hx1 := hx.later hb1; obtain ⟨d0, d1, d2, d3, _⟩ := hx1.cells)
        | (go_at_call_of 11 (Value.agg #[Value.string u, Value.string v]); refine (hQ.out _).mono ?_; rintro e w3 ⟨rfl, hb3⟩; have hx3 := hx1.later hb3; obtain ⟨e0, e1, e2, e3, _⟩ := hx3.cells)
        | (go_at_call 12; refine (hW.out _).mono ?_; rintro e w2 ⟨rfl, hb2⟩; have hx2 := hx3.later hb2))
      go_ret
      exact ⟨rfl, hx2.bel⟩
    all_goals
      go_enter Try.func6, Try.ntmps6
      go_wp2_with (first
        | (go_at_call_of 11 (Value.agg #[Value.string s, Value.string t]); refine (hS.out _).mono ?_; rintro e w1 ⟨rfl, hb1⟩; have hx1 := hx.later hb1; obtain ⟨d0, d1, d2, d3, _⟩ := hx1.cells)
        | (go_at_call 12; refine (hW.out _).mono ?_; rintro e w2 ⟨rfl, hb2⟩; have hx2 := hx1.later hb2))
      go_ret
      exact ⟨rfl, hx2.bel⟩
  · have b2 : decide (100 < (xx.size : Int)) = false := decide_eq_false (by omega)
    have b3 : decide (100 < xx.size) = false := decide_eq_false g1
    by_cases g2 : 100 < yy.size
    · have b4 : decide (100 < (yy.size : Int)) = true := decide_eq_true (by omega)
      have b5 : decide (100 < yy.size) = true := decide_eq_true g2
      clear h g1 g2
      cases z <;> cases z2
      case true.true =>
        go_enter Try.func6, Try.ntmps6
        go_wp2_with (first
          | (go_at_call_of 11 (Value.agg #[Value.string s, Value.string t]); refine (hS.out _).mono ?_; rintro e w1 ⟨rfl, hb1⟩; have hx1 := hx.later hb1; obtain ⟨d0, d1, d2, d3, _⟩ := hx1.cells)
          | (go_at_call_of 11 (Value.agg #[Value.string u, Value.string v]); refine (hQ.out _).mono ?_; rintro e w3 ⟨rfl, hb3⟩; have hx3 := hx1.later hb3; obtain ⟨e0, e1, e2, e3, _⟩ := hx3.cells)
          | (go_at_call 12; refine (hW.out _).mono ?_; rintro e w2 ⟨rfl, hb2⟩; have hx2 := hx3.later hb2))
        go_ret
        exact ⟨rfl, hx2.bel⟩
      case true.false =>
        go_enter Try.func6, Try.ntmps6
        go_wp2_with (first
          | (go_at_call_of 11 (Value.agg #[Value.string s, Value.string t]); refine (hS.out _).mono ?_; rintro e w1 ⟨rfl, hb1⟩; have hx1 := hx.later hb1; obtain ⟨d0, d1, d2, d3, _⟩ := hx1.cells)
          | (go_at_call_of 11 (Value.agg #[Value.string u, Value.string v]); refine (hQ.out _).mono ?_; rintro e w3 ⟨rfl, hb3⟩; have hx3 := hx1.later hb3; obtain ⟨e0, e1, e2, e3, _⟩ := hx3.cells)
          | (go_at_call 12; refine (hW.out _).mono ?_; rintro e w2 ⟨rfl, hb2⟩; have hx2 := hx3.later hb2))
        go_ret
        exact ⟨rfl, hx2.bel⟩
      all_goals
        go_enter Try.func6, Try.ntmps6
        go_wp2_with (first
          | (go_at_call_of 11 (Value.agg #[Value.string s, Value.string t]); refine (hS.out _).mono ?_; rintro e w1 ⟨rfl, hb1⟩; have hx1 := hx.later hb1; obtain ⟨d0, d1, d2, d3, _⟩ := hx1.cells)
          | (go_at_call 12; refine (hW.out _).mono ?_; rintro e w2 ⟨rfl, hb2⟩; have hx2 := hx1.later hb2))
        go_ret
        exact ⟨rfl, hx2.bel⟩
    · have b4 : decide (100 < (yy.size : Int)) = false := decide_eq_false (by omega)
      have b5 : decide (100 < yy.size) = false := decide_eq_false g2
      rw [b3, b5] at h
      clear g1 g2
      cases z <;> cases z2
      case true.true => cases h
      case true.false =>
        clear h
        go_enter Try.func6, Try.ntmps6
        go_wp2_with (first
          | (go_at_call_of 11 (Value.agg #[Value.string s, Value.string t]); refine (hS.out _).mono ?_; rintro e w1 ⟨rfl, hb1⟩; have hx1 := hx.later hb1; obtain ⟨d0, d1, d2, d3, _⟩ := hx1.cells)
          | (go_at_call_of 11 (Value.agg #[Value.string u, Value.string v]); refine (hQ.out _).mono ?_; rintro e w3 ⟨rfl, hb3⟩; have hx3 := hx1.later hb3; obtain ⟨e0, e1, e2, e3, _⟩ := hx3.cells)
          | (go_at_call 12; refine (hW.out _).mono ?_; rintro e w2 ⟨rfl, hb2⟩; have hx2 := hx3.later hb2))
        go_ret
        exact ⟨rfl, hx2.bel⟩
      all_goals
        clear h
        go_enter Try.func6, Try.ntmps6
        go_wp2_with (first
          | (go_at_call_of 11 (Value.agg #[Value.string s, Value.string t]); refine (hS.out _).mono ?_; rintro e w1 ⟨rfl, hb1⟩; have hx1 := hx.later hb1; obtain ⟨d0, d1, d2, d3, _⟩ := hx1.cells)
          | (go_at_call 12; refine (hW.out _).mono ?_; rintro e w2 ⟨rfl, hb2⟩; have hx2 := hx1.later hb2))
        go_ret
        exact ⟨rfl, hx2.bel⟩
set_option maxHeartbeats 2000000 in
theorem order_bad (a b : Rg) (x y : List UInt8) (h1 : shortR a = true) (h2 : shortR b = true) (h3 : x.length ≤ 100) (h4 : y.length ≤ 100) (ho : (okR a && okR b) = false) (w : World) :
    Calls Try.prog 6 #[.agg #[.string (tx a.f), .string (tx a.t)], .agg #[.string (tx b.f), .string (tx b.t)], .string (tx x), .string (tx y)] w fun e w' => e = .returned (.bool true) ∧ Below w.heap.size w w' := by
  have hS := fun W => short_any a W
  have hQ := fun W => short_any b W
  rw [h1] at hS
  rw [h2] at hQ
  replace hS := Lib.hid hS
  replace hQ := Lib.hid hQ
  have hW := Lib.hid (fun W => works_any W)
  have hx := tw_new w (tx a.f) (tx a.t) (tx b.f) (tx b.t)
  have b2 : decide (100 < ((tx x).size : Int)) = false := decide_eq_false (by rw [tx_size]; omega)
  have b3 : decide (100 < (tx x).size) = false := decide_eq_false (by rw [tx_size]; omega)
  have b4 : decide (100 < ((tx y).size : Int)) = false := decide_eq_false (by rw [tx_size]; omega)
  have b5 : decide (100 < (tx y).size) = false := decide_eq_false (by rw [tx_size]; omega)
  have hL := fun W => less_any a b W
  have hB := fun W => less_any b a W
  have hI := fun W => inside_any a b W
  have hM := fun W => meet_any a b W
  clear h1 h2 h3 h4
  have ho2 : (okR b && okR a) = false := by rw [Bool.and_comm]; exact ho
  rw [lessR_no ho] at hL
  rw [lessR_no ho2] at hB
  rw [insideR_no ho] at hI
  rw [meetR_no ho] at hM
  replace hL := Lib.hid (show ∀ W, Calls Try.prog 26 #[.agg #[.string (tx a.f), .string (tx a.t)], .agg #[.string (tx b.f), .string (tx b.t)]] W (fun e w' => e = .returned (.tuple #[.bool false, .int .i64 2]) ∧ Below W.heap.size W w') from hL)
  replace hB := Lib.hid (show ∀ W, Calls Try.prog 26 #[.agg #[.string (tx b.f), .string (tx b.t)], .agg #[.string (tx a.f), .string (tx a.t)]] W (fun e w' => e = .returned (.tuple #[.bool false, .int .i64 2]) ∧ Below W.heap.size W w') from hB)
  replace hI := Lib.hid (show ∀ W, Calls Try.prog 28 #[.agg #[.string (tx a.f), .string (tx a.t)], .agg #[.string (tx b.f), .string (tx b.t)]] W (fun e w' => e = .returned (.tuple #[.bool false, .int .i64 2]) ∧ Below W.heap.size W w') from hI)
  replace hM := Lib.hid (show ∀ W, Calls Try.prog 21 #[.agg #[.string (tx a.f), .string (tx a.t)], .agg #[.string (tx b.f), .string (tx b.t)]] W (fun e w' => e = .returned (.tuple #[.agg #[.string ⟨#[]⟩, .string ⟨#[]⟩], .bool false, .int .i64 2]) ∧ Below W.heap.size W w') from hM)
  clear ho ho2
  obtain ⟨c0, c1, c2, c3, _⟩ := hx.cells
  generalize tx a.f = s at *
  generalize tx a.t = t at *
  generalize tx b.f = u at *
  generalize tx b.t = v at *
  generalize tx x = xx at *
  generalize tx y = yy at *
  go_enter Try.func6, Try.ntmps6
  go_wp2_with (first
    | (go_at_call_of 11 (Value.agg #[Value.string s, Value.string t]); refine (hS.out _).mono ?_; rintro e w1 ⟨rfl, hb1⟩; have hx1 := hx.later hb1; obtain ⟨d0, d1, d2, d3, _⟩ := hx1.cells)
    | (go_at_call_of 11 (Value.agg #[Value.string u, Value.string v]); refine (hQ.out _).mono ?_; rintro e w3 ⟨rfl, hb3⟩; have hx3 := hx1.later hb3; obtain ⟨e0, e1, e2, e3, _⟩ := hx3.cells))
  refine (hL.out _).mono ?_
  rintro e w4 ⟨rfl, hb4⟩
  have hx4 := hx3.later hb4
  obtain ⟨g0, g1, g2, g3, _⟩ := hx4.cells
  go_wp2_with fail
  refine (hB.out _).mono ?_
  rintro e w5 ⟨rfl, hb5⟩
  have hx5 := hx4.later hb5
  obtain ⟨i0, i1, i2, i3, _⟩ := hx5.cells
  go_wp2_with (first
    | (go_at_call 28; refine (hI.out _).mono ?_; rintro e w6 ⟨rfl, hb6⟩; have hx6 := hx5.later hb6; obtain ⟨j0, j1, j2, j3, _⟩ := hx6.cells)
    | (go_at_call 21; refine (hM.out _).mono ?_; rintro e w7 ⟨rfl, hb7⟩; have hx7 := (hx6.later hb7).later (alloc_b w7 (.cells #[.string ⟨#[]⟩, .string ⟨#[]⟩] TR)); obtain ⟨k0, k1, k2, k3, _⟩ := hx7.cells)
    | (go_at_call 12; refine (hW.out _).mono ?_; rintro e w2 ⟨rfl, hb2⟩; have hx2 := hx7.later hb2))
  go_ret
  exact ⟨rfl, hx2.bel⟩
set_option maxHeartbeats 2000000 in
theorem order_ok (a b : Rg) (x y : List UInt8) (h1 : shortR a = true) (h2 : shortR b = true) (h3 : x.length ≤ 100) (h4 : y.length ≤ 100) (ha : okR a = true) (hb : okR b = true) (w : World) :
    Calls Try.prog 6 #[.agg #[.string (tx a.f), .string (tx a.t)], .agg #[.string (tx b.f), .string (tx b.t)], .string (tx x), .string (tx y)] w fun e w' => e = .returned (.bool true) ∧ Below w.heap.size w w' := by
  have hS := fun W => short_any a W
  have hQ := fun W => short_any b W
  rw [h1] at hS
  rw [h2] at hQ
  replace hS := Lib.hid hS
  replace hQ := Lib.hid hQ
  have hW := Lib.hid (fun W => works_any W)
  have hx := tw_new w (tx a.f) (tx a.t) (tx b.f) (tx b.t)
  have b2 : decide (100 < ((tx x).size : Int)) = false := decide_eq_false (by rw [tx_size]; omega)
  have b3 : decide (100 < (tx x).size) = false := decide_eq_false (by rw [tx_size]; omega)
  have b4 : decide (100 < ((tx y).size : Int)) = false := decide_eq_false (by rw [tx_size]; omega)
  have b5 : decide (100 < (tx y).size) = false := decide_eq_false (by rw [tx_size]; omega)
  have hL := fun W => less_any a b W
  have hB := fun W => less_any b a W
  have hI := fun W => inside_any a b W
  have hM := fun W => meet_any a b W
  clear h1 h2 h3 h4
  have hw := three_ways ha hb
  have hin := inside_meet (a := a) (b := b)
  have hik := inside_keys ha hb x
  have hlk := less_keys ha hb x y
  have e1 : (lessR a b).2 = 0 := by rw [lessR_ok ha hb]
  have e2 : (lessR b a).2 = 0 := by rw [lessR_ok hb ha]
  have e3 := insideR_err (a := a) (b := b) (by rw [ha, hb]; rfl)
  have e4 : (meetR a b).2.2 = 0 := by rw [meetR_err, ha, hb]; rfl
  rw [e1] at hL
  rw [e2] at hB
  rw [e3] at hI
  rw [e4] at hM
  have hHa := fun W => has_rng a x W
  have hHy := fun W => has_rng b y W
  have hHx := fun W => has_rng b x W
  have b6 : Op.bytesLess (tx x).toList (tx y).toList = bl x y := by rw [tx_l, tx_l]; rfl
  clear e1 e2 e3 e4 ha hb
  generalize hasR a x = pa at *
  generalize hasR b y = py at *
  generalize hasR b x = px at *
  generalize bl x y = g at *
  generalize (lessR a b).1 = le at *
  generalize (lessR b a).1 = ba at *
  generalize (insideR a b).1 = inn at *
  generalize (meetR a b).2.1 = mo at *
  generalize (meetR a b).1 = R at *
  generalize tx R.f = rf at *
  generalize tx R.t = rt at *
  replace hL := Lib.hid hL
  replace hB := Lib.hid hB
  replace hI := Lib.hid hI
  replace hM := Lib.hid hM
  replace hHa := Lib.hid hHa
  replace hHy := Lib.hid hHy
  replace hHx := Lib.hid hHx
  obtain ⟨c0, c1, c2, c3, _⟩ := hx.cells
  generalize tx a.f = s at *
  generalize tx a.t = t at *
  generalize tx b.f = u at *
  generalize tx b.t = v at *
  generalize tx x = xx at *
  generalize tx y = yy at *
  rcases hw with ⟨rfl, rfl, rfl⟩ | ⟨rfl, rfl, rfl⟩ | ⟨rfl, rfl, rfl⟩
  · clear hlk hin
    go_enter Try.func6, Try.ntmps6
    go_wp2_with (first
      | (go_at_call_of 11 (Value.agg #[Value.string s, Value.string t]); refine (hS.out _).mono ?_; rintro e w1 ⟨rfl, hb1⟩; have hx1 := hx.later hb1; obtain ⟨d0, d1, d2, d3, _⟩ := hx1.cells)
      | (go_at_call_of 11 (Value.agg #[Value.string u, Value.string v]); refine (hQ.out _).mono ?_; rintro e w3 ⟨rfl, hb3⟩; have hx3 := hx1.later hb3; obtain ⟨e0, e1, e2, e3, _⟩ := hx3.cells))
    refine (hL.out _).mono ?_
    rintro e w4 ⟨rfl, hb4⟩
    have hx4 := hx3.later hb4
    obtain ⟨g0, g1, g2, g3, _⟩ := hx4.cells
    go_wp2_with fail
    refine (hB.out _).mono ?_
    rintro e w5 ⟨rfl, hb5⟩
    have hx5 := hx4.later hb5
    obtain ⟨i0, i1, i2, i3, _⟩ := hx5.cells
    go_wp2_with (first
      | (go_at_call 28; refine (hI.out _).mono ?_; rintro e w6 ⟨rfl, hb6⟩; have hx6 := hx5.later hb6; obtain ⟨j0, j1, j2, j3, _⟩ := hx6.cells)
      | (go_at_call 21; refine (hM.out _).mono ?_; rintro e w7 ⟨rfl, hb7⟩; have hx7 := (hx6.later hb7).later (alloc_b w7 (.cells #[.string rf, .string rt] TR)); obtain ⟨k0, k1, k2, k3, _⟩ := hx7.cells))
    refine (hHa.out _).mono ?_
    rintro e w8 ⟨rfl, hb8⟩
    have hx8 := hx7.later hb8
    obtain ⟨m0, m1, m2, m3, _⟩ := hx8.cells
    clear c0 c1 c2 c3 d0 d1 d2 d3 e0 e1 e2 e3 g0 g1 g2 g3 i0 i1 i2 i3 j0 j1 j2 j3 k0 k1 k2 k3 hx hx1 hx3 hx4 hx5 hx6 hx7 hS hQ hL hB hI hM hHa
    cases pa with
    | false =>
      clear hik
      go_wp2_with (first
        | (go_at_call 12; refine (hW.out _).mono ?_; rintro e w2 ⟨rfl, hb2⟩; have hx2 := hx8.later hb2))
      go_ret
      exact ⟨rfl, hx2.bel⟩
    | true =>
      cases inn with
      | false =>
        clear hik
        go_wp2_with (first
          | (go_at_call 12; refine (hW.out _).mono ?_; rintro e w2 ⟨rfl, hb2⟩; have hx2 := hx8.later hb2))
        go_ret
        exact ⟨rfl, hx2.bel⟩
      | true =>
        obtain rfl := hik (by first | rfl | trivial) (by first | rfl | trivial)
        clear hik
        go_wp2_with (first
          | (go_at_call 19; refine (hHx.out _).mono ?_; rintro e w10 ⟨rfl, hb10⟩; have hx8 := hx8.later hb10)
          | (go_at_call 12; refine (hW.out _).mono ?_; rintro e w2 ⟨rfl, hb2⟩; have hx2 := hx8.later hb2))
        go_ret
        exact ⟨rfl, hx2.bel⟩
  · obtain rfl := hin rfl
    clear hin hik
    replace hlk := Lib.hid hlk
    go_enter Try.func6, Try.ntmps6
    go_wp2_with (first
      | (go_at_call_of 11 (Value.agg #[Value.string s, Value.string t]); refine (hS.out _).mono ?_; rintro e w1 ⟨rfl, hb1⟩; have hx1 := hx.later hb1; obtain ⟨d0, d1, d2, d3, _⟩ := hx1.cells)
      | (go_at_call_of 11 (Value.agg #[Value.string u, Value.string v]); refine (hQ.out _).mono ?_; rintro e w3 ⟨rfl, hb3⟩; have hx3 := hx1.later hb3; obtain ⟨e0, e1, e2, e3, _⟩ := hx3.cells))
    refine (hL.out _).mono ?_
    rintro e w4 ⟨rfl, hb4⟩
    have hx4 := hx3.later hb4
    obtain ⟨g0, g1, g2, g3, _⟩ := hx4.cells
    go_wp2_with fail
    refine (hB.out _).mono ?_
    rintro e w5 ⟨rfl, hb5⟩
    have hx5 := hx4.later hb5
    obtain ⟨i0, i1, i2, i3, _⟩ := hx5.cells
    go_wp2_with (first
      | (go_at_call 28; refine (hI.out _).mono ?_; rintro e w6 ⟨rfl, hb6⟩; have hx6 := hx5.later hb6; obtain ⟨j0, j1, j2, j3, _⟩ := hx6.cells)
      | (go_at_call 21; refine (hM.out _).mono ?_; rintro e w7 ⟨rfl, hb7⟩; have hx7 := (hx6.later hb7).later (alloc_b w7 (.cells #[.string rf, .string rt] TR)); obtain ⟨k0, k1, k2, k3, _⟩ := hx7.cells))
    refine (hHa.out _).mono ?_
    rintro e w8 ⟨rfl, hb8⟩
    have hx8 := hx7.later hb8
    obtain ⟨m0, m1, m2, m3, _⟩ := hx8.cells
    clear c0 c1 c2 c3 d0 d1 d2 d3 e0 e1 e2 e3 g0 g1 g2 g3 i0 i1 i2 i3 j0 j1 j2 j3 k0 k1 k2 k3 hx hx1 hx3 hx4 hx5 hx6 hx7 hS hQ hL hB hI hM hHa
    cases pa with
    | false =>
      clear hlk
      go_wp2_with (first
        | (go_at_call 12; refine (hW.out _).mono ?_; rintro e w2 ⟨rfl, hb2⟩; have hx2 := hx8.later hb2))
      go_ret
      exact ⟨rfl, hx2.bel⟩
    | true =>
      cases py with
      | false =>
        clear hlk
        go_wp2_with (first
          | (go_at_call 19; refine (hHy.out _).mono ?_; rintro e w9 ⟨rfl, hb9⟩; have hx8 := hx8.later hb9; obtain ⟨m0, m1, m2, m3, _⟩ := hx8.cells)
          | (go_at_call 12; refine (hW.out _).mono ?_; rintro e w2 ⟨rfl, hb2⟩; have hx2 := hx8.later hb2))
        go_ret
        exact ⟨rfl, hx2.bel⟩
      | true =>
        obtain rfl := hlk.out (by first | rfl | trivial) (by first | rfl | trivial) (by first | rfl | trivial)
        clear hlk
        go_wp2_with (first
          | (go_at_call 19; refine (hHy.out _).mono ?_; rintro e w9 ⟨rfl, hb9⟩; have hx8 := hx8.later hb9; obtain ⟨m0, m1, m2, m3, _⟩ := hx8.cells)
          | (go_at_call 12; refine (hW.out _).mono ?_; rintro e w2 ⟨rfl, hb2⟩; have hx2 := hx8.later hb2))
        go_ret
        exact ⟨rfl, hx2.bel⟩
  · obtain rfl := hin rfl
    clear hin hik hlk
    go_enter Try.func6, Try.ntmps6
    go_wp2_with (first
      | (go_at_call_of 11 (Value.agg #[Value.string s, Value.string t]); refine (hS.out _).mono ?_; rintro e w1 ⟨rfl, hb1⟩; have hx1 := hx.later hb1; obtain ⟨d0, d1, d2, d3, _⟩ := hx1.cells)
      | (go_at_call_of 11 (Value.agg #[Value.string u, Value.string v]); refine (hQ.out _).mono ?_; rintro e w3 ⟨rfl, hb3⟩; have hx3 := hx1.later hb3; obtain ⟨e0, e1, e2, e3, _⟩ := hx3.cells))
    refine (hL.out _).mono ?_
    rintro e w4 ⟨rfl, hb4⟩
    have hx4 := hx3.later hb4
    obtain ⟨g0, g1, g2, g3, _⟩ := hx4.cells
    go_wp2_with fail
    refine (hB.out _).mono ?_
    rintro e w5 ⟨rfl, hb5⟩
    have hx5 := hx4.later hb5
    obtain ⟨i0, i1, i2, i3, _⟩ := hx5.cells
    go_wp2_with (first
      | (go_at_call 28; refine (hI.out _).mono ?_; rintro e w6 ⟨rfl, hb6⟩; have hx6 := hx5.later hb6; obtain ⟨j0, j1, j2, j3, _⟩ := hx6.cells)
      | (go_at_call 21; refine (hM.out _).mono ?_; rintro e w7 ⟨rfl, hb7⟩; have hx7 := (hx6.later hb7).later (alloc_b w7 (.cells #[.string rf, .string rt] TR)); obtain ⟨k0, k1, k2, k3, _⟩ := hx7.cells))
    refine (hHa.out _).mono ?_
    rintro e w8 ⟨rfl, hb8⟩
    have hx8 := hx7.later hb8
    obtain ⟨m0, m1, m2, m3, _⟩ := hx8.cells
    clear c0 c1 c2 c3 d0 d1 d2 d3 e0 e1 e2 e3 g0 g1 g2 g3 i0 i1 i2 i3 j0 j1 j2 j3 k0 k1 k2 k3 hx hx1 hx3 hx4 hx5 hx6 hx7 hS hQ hL hB hI hM hHa
    cases pa with
    | false =>
      go_wp2_with (first
        | (go_at_call 12; refine (hW.out _).mono ?_; rintro e w2 ⟨rfl, hb2⟩; have hx2 := hx8.later hb2))
      go_ret
      exact ⟨rfl, hx2.bel⟩
    | true =>
      go_wp2_with (first
        | (go_at_call 12; refine (hW.out _).mono ?_; rintro e w2 ⟨rfl, hb2⟩; have hx2 := hx8.later hb2))
      go_ret
      exact ⟨rfl, hx2.bel⟩
theorem w_rangesOrder (a b : Rg) (s t : ByteArray) (w : World) (w0 : True) (w1 : True) (w2 : s.size ≤ maxLen) (w3 : t.size ≤ maxLen) :
    Calls Try.prog 6 #[.agg #[.string (tx a.f), .string (tx a.t)], .agg #[.string (tx b.f), .string (tx b.t)], .string s, .string t] w fun e w' => e = .returned (.bool true) ∧ Below w.heap.size w w' := by
  have e := tx_of s
  have e' := tx_of t
  generalize s.data.toList = x at *
  generalize t.data.toList = y at *
  subst e e'
  cases h1 : shortR a with
  | false => exact order_long a b x y (by rw [h1]; rfl) w
  | true =>
    cases h2 : shortR b with
    | false => exact order_long a b x y (by rw [h1, h2]; rfl) w
    | true =>
      rcases Nat.lt_or_ge 100 x.length with h' | h'
      · exact order_long a b x y (by rw [decide_eq_true h', Bool.or_true, Bool.true_or]) w
      · rcases Nat.lt_or_ge 100 y.length with h'' | h''
        · exact order_long a b x y (by rw [decide_eq_true h'', Bool.or_true]) w
        · cases ha : okR a with
          | false => exact order_bad a b x y h1 h2 h' h'' (by rw [ha]; rfl) w
          | true =>
            cases hb : okR b with
            | false => exact order_bad a b x y h1 h2 h' h'' (by rw [ha, hb]; rfl) w
            | true => exact order_ok a b x y h1 h2 h' h'' ha hb w
end Go.Proofs.Ytabiafhkhahgeaa.Rng
