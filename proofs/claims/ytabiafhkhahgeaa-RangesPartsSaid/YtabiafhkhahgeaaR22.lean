/- A range and itself, and all keys: plain facts, and the walk of RangesSelf. -/
import Derived.Test.YtabiafhkhahgeaaR21
namespace Go.Proofs.Ytabiafhkhahgeaa.Rng
open Go.RowKit Go.Lib
set_option linter.unusedVariables false
set_option linter.unusedSimpArgs false
set_option maxRecDepth 100000

theorem later_left {x y : List UInt8} (hx : endOk x = true) (hy : endOk y = true) (h : lo y ≤ lo x) : laterV x y = x := by
  obtain ⟨h1, h2⟩ := later_ok hx hy
  exact (eq_lo (endOk_len h1) (endOk_len hx)).2 (by omega)
theorem later_right {x y : List UInt8} (hx : endOk x = true) (hy : endOk y = true) (h : lo x ≤ lo y) : laterV x y = y := by
  obtain ⟨h1, h2⟩ := later_ok hx hy
  exact (eq_lo (endOk_len h1) (endOk_len hy)).2 (by omega)
theorem earlier_left {x y : List UInt8} (hx : endOk x = true) (hy : endOk y = true) (h : hi x ≤ hi y) : earlierV x y = x := by
  obtain ⟨h1, h2⟩ := earlier_ok hx hy
  exact (eq_hi (endOk_len h1) (endOk_len hx)).2 (by omega)
theorem earlier_right {x y : List UInt8} (hx : endOk x = true) (hy : endOk y = true) (h : hi y ≤ hi x) : earlierV x y = y := by
  obtain ⟨h1, h2⟩ := earlier_ok hx hy
  exact (eq_hi (endOk_len h1) (endOk_len hy)).2 (by omega)
/-- Where the second range has all that the first one has. -/
theorem wide_facts {a b : Rg} (ha : okR a = true) (hb : okR b = true) (h1 : lo b.f ≤ lo a.f) (h2 : hi a.t ≤ hi b.t) :
    meetR a b = (a, true, 0) ∧ meetR b a = (a, true, 0) ∧ withR a b = ([], 0) ∧ lessR a b = (false, 0) ∧ insideR a b = (true, 0) := by
  obtain ⟨a1, a2, a3⟩ := (okR_iff a).1 ha
  obtain ⟨b1, b2, b3⟩ := (okR_iff b).1 hb
  have e1 : meetV a b = a := by unfold meetV; rw [later_left a1 b1 h1, earlier_left a2 b2 h2]
  have e2 : meetV b a = a := by unfold meetV; rw [later_right b1 a1 h1, earlier_right b2 a2 h2]
  have m1 : meetR a b = (a, true, 0) := by rw [meetR_ok ha hb, e1, ha]; rfl
  refine ⟨m1, by rw [meetR_ok hb ha, e2, ha]; rfl, ?_, ?_, ?_⟩
  · rw [withR_ok ha hb, (wo1_facts ha hb).2 (by omega), (wo2_facts ha hb).2 (by omega)]; rfl
  · rw [lessR_ok ha hb, decide_eq_false (by omega)]
  · unfold insideR; rw [m1]; simp
theorem all_ok : okR ⟨[], []⟩ = true := by decide +kernel
set_option maxHeartbeats 2000000 in
theorem self_long (a : Rg) (h : (shortR a && okR a) = false) (w : World) :
    Calls Try.prog 10 #[.agg #[.string (tx a.f), .string (tx a.t)]] w fun e w' => e = .returned (.bool true) ∧ Below w.heap.size w w' := by
  have hS := Lib.hid (fun W => short_any a W)
  have hK := fun W => check_any a W
  have hW := Lib.hid (fun W => works_any W)
  have hx := bx_new w (tx a.f) (tx a.t)
  obtain ⟨c0, c1⟩ := hx.cells
  unfold okE at hK
  generalize shortR a = z at *
  generalize okR a = z2 at *
  generalize tx a.f = s at *
  generalize tx a.t = t at *
  cases z with
  | false =>
    clear h hK
    go_enter Try.func10, Try.ntmps10
    go_wp2_with (first
      | (go_at_call 11; refine (hS.out _).mono ?_; rintro e w1 ⟨rfl, hb1⟩; have hx1 := hx.later hb1)
      | (go_at_call 12; refine (hW.out _).mono ?_; rintro e w2 ⟨rfl, hb2⟩; have hx2 := hx1.later hb2))
    go_ret
    exact ⟨rfl, hx2.bel⟩
  | true =>
    obtain rfl : z2 = false := by simpa using h
    clear h
    replace hK := Lib.hid (show ∀ W, Calls Try.prog 17 #[.agg #[.string s, .string t]] W (fun e w' => e = .returned (.int .i64 2) ∧ Below W.heap.size W w') from hK)
    go_enter Try.func10, Try.ntmps10
    go_wp2_with (first
      | (go_at_call 11; refine (hS.out _).mono ?_; rintro e w1 ⟨rfl, hb1⟩; have hx1 := hx.later hb1; obtain ⟨d0, d1⟩ := hx1.cells)
      | (go_at_call 17; refine (hK.out _).mono ?_; rintro e w3 ⟨rfl, hb3⟩; have hx3 := hx1.later hb3)
      | (go_at_call 12; refine (hW.out _).mono ?_; rintro e w2 ⟨rfl, hb2⟩; have hx2 := hx3.later hb2))
    go_ret
    exact ⟨rfl, hx2.bel⟩
/-- The range's box, and the two ranges of the list. -/
structure SAt (w : World) (s t : ByteArray) (q : Nat) (W : World) : Prop where
  bx : Bx w w.heap.size s t W
  sl : W.heap[q]? = some (.cells #[.string s, .string t, .string ⟨#[]⟩, .string ⟨#[]⟩] TR (0, 0))
theorem SAt.later {w W W' : World} {s t : ByteArray} {q : Nat} (h : SAt w s t q W) (hb : Below W.heap.size W W') : SAt w s t q W' :=
  ⟨h.bx.later hb, (hb.block _ (Array.getElem?_eq_some_iff.1 h.sl).1).trans h.sl⟩
abbrev rvV (s t : ByteArray) : Value := .agg #[.string s, .string t]
/-- What one round asks for. -/
structure Round (s t u v : ByteArray) : Prop where
  m1 : ∀ W, Calls Try.prog 21 #[rvV s t, rvV u v] W fun e w' => e = .returned (.tuple #[.agg #[.string s, .string t], .bool true, .int .i64 0]) ∧ Below W.heap.size W w'
  m2 : ∀ W, Calls Try.prog 21 #[rvV u v, rvV s t] W fun e w' => e = .returned (.tuple #[.agg #[.string s, .string t], .bool true, .int .i64 0]) ∧ Below W.heap.size W w'
  wo : ∀ W, Calls Try.prog 23 #[rvV s t, rvV u v] W (Gives W [] 0)
  le : ∀ W, Calls Try.prog 26 #[rvV s t, rvV u v] W fun e w' => e = .returned (.tuple #[.bool false, .int .i64 0]) ∧ Below W.heap.size W w'
  ins : ∀ W, Calls Try.prog 28 #[rvV s t, rvV u v] W fun e w' => e = .returned (.tuple #[.bool true, .int .i64 0]) ∧ Below W.heap.size W w'
theorem round_of {a b : Rg} (ha : okR a = true) (hb : okR b = true) (h1 : lo b.f ≤ lo a.f) (h2 : hi a.t ≤ hi b.t) : Round (tx a.f) (tx a.t) (tx b.f) (tx b.t) := by
  obtain ⟨e1, e2, e3, e4, e5⟩ := wide_facts ha hb h1 h2
  refine ⟨fun W => ?_, fun W => ?_, fun W => ?_, fun W => ?_, fun W => ?_⟩
  · have := meet_any a b W; rwa [e1] at this
  · have := meet_any b a W; rwa [e2] at this
  · have := without_any a b W; rwa [e3] at this
  · have := less_any a b W; rwa [e4] at this
  · have := inside_any a b W; rwa [e5] at this
set_option maxHeartbeats 4000000 in
theorem self_ok (a : Rg) (h1 : shortR a = true) (ha : okR a = true) (w : World) :
    Calls Try.prog 10 #[.agg #[.string (tx a.f), .string (tx a.t)]] w fun e w' => e = .returned (.bool true) ∧ Below w.heap.size w w' := by
  have hS := fun W => short_any a W
  rw [h1] at hS
  replace hS := Lib.hid hS
  have hK := fun W => check_any a W
  unfold okE at hK
  rw [ha] at hK
  replace hK := Lib.hid (show ∀ W, Calls Try.prog 17 #[.agg #[.string (tx a.f), .string (tx a.t)]] W (fun e w' => e = .returned (.int .i64 0) ∧ Below W.heap.size W w') from hK)
  have hW := Lib.hid (fun W => works_any W)
  have hx := bx_new w (tx a.f) (tx a.t)
  obtain ⟨c0, c1⟩ := hx.cells
  have hR : ∀ k, k < 2 → ∃ u v : ByteArray, Round (tx a.f) (tx a.t) u v ∧ ∀ q W, SAt w (tx a.f) (tx a.t) q W → W.cell? ⟨q, k * 2, none⟩ = some (.string u) ∧ W.cell? ⟨q, k * 2 + 1, none⟩ = some (.string v) := by
    intro k hk
    match k, hk with
    | 0, _ => exact ⟨_, _, round_of ha ha (Nat.le_refl _) (Nat.le_refl _), fun q W h => ⟨cell_of_row W q 0 _ TR _ h.sl, cell_of_row W q 1 _ TR _ h.sl⟩⟩
    | 1, _ => exact ⟨_, _, round_of ha all_ok (by show lo [] ≤ _; rw [lo_nil]; exact Nat.zero_le _) (by show _ ≤ hi []; rw [hi_nil]; exact hi_top _), fun q W h => ⟨cell_of_row W q 2 _ TR _ h.sl, cell_of_row W q 3 _ TR _ h.sl⟩⟩
  replace hR := Lib.hid hR
  clear h1 ha
  generalize tx a.f = s at *
  generalize tx a.t = t at *
  go_enter Try.func10, Try.ntmps10
  go_wp2_with (first
    | (go_at_call 11; refine (hS.out _).mono ?_; rintro e w1 ⟨rfl, hb1⟩; have hx1 := hx.later hb1; obtain ⟨d0, d1⟩ := hx1.cells)
    | (go_at_call 17; refine (hK.out _).mono ?_; rintro e w3 ⟨rfl, hb3⟩; have hx3 := hx1.later hb3; obtain ⟨e0, e1⟩ := hx3.cells))
  have hA0 : SAt w s t w3.heap.size (w3.alloc (.cells #[.string s, .string t, .string ⟨#[]⟩, .string ⟨#[]⟩] TR)) := ⟨hx3.later (alloc_b _ _), heap_alloc_new _ _⟩
  clear c0 c1 d0 d1 e0 e1 hx hx1 hx3 hb1 hb3 hS hK
  generalize w3.heap.size = q at *
  go_loopw [30] (fun i wr => ∃ k : Nat, k ≤ 2 ∧ i = .int .i64 k ∧ SAt w s t q wr) (fun i _ => 2 - (intOf i).toNat)
  case atStart => exact ⟨0, by omega, rfl, hA0⟩
  case round =>
    obtain ⟨k, hk, rfl, hA⟩ := hrel
    by_cases hlt : k < 2
    · obtain ⟨u, v, hr, hcells⟩ := hR.out k hlt
      have HC := Lib.hid (hcells q)
      obtain ⟨m1, m2, wo, le, ins⟩ := hr
      replace m1 := Lib.hid m1
      replace m2 := Lib.hid m2
      replace wo := Lib.hid wo
      replace le := Lib.hid le
      replace ins := Lib.hid ins
      obtain ⟨p0, p1⟩ := hcells q wr hA
      obtain ⟨c0, c1⟩ := hA.bx.cells
      have hbu := B2.new wr u v
      have hA1 := hA.later (alloc_b wr (.cells #[.string u, .string v] TR))
      obtain ⟨d0, d1⟩ := hA1.bx.cells
      have i0 : (0 : Int) ≤ (k : Int) := by omega
      have i1 : (k : Int) < 2 := by omega
      clear hcells
      go_wp2_with fail
      refine (m1.out _).mono ?_
      rintro e w4 ⟨rfl, hb4⟩
      have hA4 := (hA1.later hb4).later (alloc_b w4 (.cells #[.string s, .string t] TR))
      have hb5 := (hbu.later hb4).later (alloc_b w4 (.cells #[.string s, .string t] TR))
      have hr4 := B2.new w4 s t
      obtain ⟨g0, g1⟩ := hA4.bx.cells
      obtain ⟨g2, g3, _, _⟩ := hb5.cells
      clear hA1 hbu hb4 p0 p1 c0 c1 d0 d1
      go_wp2_with fail
      refine (m2.out _).mono ?_
      rintro e w6 ⟨rfl, hb6⟩
      have hA6 := (hA4.later hb6).later (alloc_b w6 (.cells #[.string s, .string t] TR))
      have hb7 := (hb5.later hb6).later (alloc_b w6 (.cells #[.string s, .string t] TR))
      have hr6 := (hr4.later hb6).later (alloc_b w6 (.cells #[.string s, .string t] TR))
      have hs6 := B2.new w6 s t
      obtain ⟨j0, j1⟩ := hA6.bx.cells
      obtain ⟨j2, j3, _, _⟩ := hb7.cells
      clear hA4 hb5 hr4 hb6 g0 g1 g2 g3
      go_wp2_with fail
      refine (wo.out _).mono ?_
      rintro e w8 ⟨vv, rfl, ho8, hb8⟩
      obtain ⟨aa, cap, rfl⟩ := ho8.form
      have hA8 := hA6.later hb8
      have hb9 := hb7.later hb8
      have hr8 := hr6.later hb8
      have hs8 := hs6.later hb8
      obtain ⟨k0, k1⟩ := hA8.bx.cells
      obtain ⟨k2, k3, _, _⟩ := hb9.cells
      clear hA6 hb7 hr6 hs6 hb8 j0 j1 j2 j3 ho8
      go_wp2_with fail
      refine (le.out _).mono ?_
      rintro e w10 ⟨rfl, hb10⟩
      have hA10 := hA8.later hb10
      have hb11 := hb9.later hb10
      have hr10 := hr8.later hb10
      have hs10 := hs8.later hb10
      obtain ⟨l0, l1⟩ := hA10.bx.cells
      obtain ⟨l2, l3, _, _⟩ := hb11.cells
      clear hA8 hb9 hr8 hs8 hb10 k0 k1 k2 k3
      go_wp2_with fail
      refine (ins.out _).mono ?_
      rintro e w12 ⟨rfl, hb12⟩
      have hA12 := hA10.later hb12
      obtain ⟨n0, n1⟩ := hA12.bx.cells
      obtain ⟨n2, n3, _, _⟩ := (hr10.later hb12).cells
      obtain ⟨n4, n5, _, _⟩ := (hs10.later hb12).cells
      clear hA10 hb11 hr10 hs10 hb12 l0 l1 l2 l3
      go_wp2_with fail
      go_roundw
      case rel => exact ⟨k + 1, by omega, by go_num, hA12⟩
      case measure => simp [intOf]; omega
    · obtain rfl : k = 2 := by omega
      clear hlt
      go_wp2_with (go_at_call 12; refine (hW.out _).mono ?_; rintro e w2 ⟨rfl, hb2⟩; have hx2 := hA.later hb2)
      go_ret
      exact ⟨rfl, hx2.bx.bel⟩
theorem w_rangesSelf (a : Rg) (w : World) (w0 : True) :
    Calls Try.prog 10 #[.agg #[.string (tx a.f), .string (tx a.t)]] w fun e w' => e = .returned (.bool true) ∧ Below w.heap.size w w' := by
  cases h1 : shortR a with
  | false => exact self_long a (by rw [h1]; rfl) w
  | true =>
    cases ha : okR a with
    | false => exact self_long a (by rw [ha, Bool.and_false]) w
    | true => exact self_ok a h1 ha w
end Go.Proofs.Ytabiafhkhahgeaa.Rng
