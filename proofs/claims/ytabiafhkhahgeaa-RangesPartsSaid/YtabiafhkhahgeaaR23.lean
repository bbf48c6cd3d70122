/- The document's Check, both, end, Less. -/
import Derived.Test.YtabiafhkhahgeaaR19
namespace Go.Proofs.Ytabiafhkhahgeaa.Rng
open Go.RowKit Go.Lib
set_option linter.unusedVariables false
set_option linter.unusedSimpArgs false
set_option maxRecDepth 100000

set_option maxHeartbeats 1000000 in
theorem ref_check (r : Rg) (h1 : r.f.length ≤ 1000) (h2 : r.t.length ≤ 1000) (w : World) :
    Calls Try.prog 18 #[.agg #[.string (tx r.f), .string (tx r.t)]] w fun e w' => e = .returned (.int .i64 (okE r)) ∧ Below w.heap.size w w' := by
  obtain ⟨f, t⟩ := r
  show Calls Try.prog 18 #[.agg #[.string (tx f), .string (tx t)]] w _
  have h1 : f.length ≤ 1000 := h1
  have h2 : t.length ≤ 1000 := h2
  have hF := Lib.hid (fun W => ref_name f (by omega) W)
  have hT := Lib.hid (fun W => ref_name t (by omega) W)
  have b1 : Op.bytesLess (tx f).toList (tx t).toList = bl f t := by rw [tx_l, tx_l]; rfl
  have hr := show okE ⟨f, t⟩ = if (f.isEmpty || nameOk f) && (t.isEmpty || nameOk t) && (t.isEmpty || bl f t) then 0 else 2 from rfl
  have hx := bx_new w (tx f) (tx t)
  have hb := hx.bel
  obtain ⟨c0, c1⟩ := hx.cells
  have e1 : ((tx f).toList == []) = f.isEmpty := by rw [tx_l]; cases f <;> rfl
  have e1' : (tx f).toList.isEmpty = f.isEmpty := by rw [tx_l]
  have e2 : ((tx t).toList == []) = t.isEmpty := by rw [tx_l]; cases t <;> rfl
  have e2' : (tx t).toList.isEmpty = t.isEmpty := by rw [tx_l]
  clear h1 h2
  generalize okE ⟨f, t⟩ = c at *
  generalize f.isEmpty = ef at *
  generalize t.isEmpty = et at *
  generalize nameOk f = p at *
  generalize nameOk t = q at *
  generalize bl f t = z at *
  generalize tx f = s at *
  generalize tx t = u at *
  cases ef <;> cases et <;> cases p <;> cases q <;> cases z
  all_goals
    replace hr := Lib.hid (show c = _ from hr)
    go_enter Try.func18, Try.ntmps18
    go_wp2_with (first
      | (go_at_call_of 35 (Value.string s); refine (hF.out _).mono ?_; rintro e w1 ⟨rfl, rfl⟩)
      | (go_at_call_of 35 (Value.string u); refine (hT.out _).mono ?_; rintro e w2 ⟨rfl, rfl⟩))
    go_ret
    exact ⟨by rw [hr.out]; rfl, hb⟩
def okB (a b : Rg) : Int := if okR a && okR b then 0 else 2
set_option maxHeartbeats 1000000 in
theorem both_any (a b : Rg) (h1 : shortR a = true) (h2 : shortR b = true) (w : World) :
    Calls Try.prog 41 #[.agg #[.string (tx a.f), .string (tx a.t)], .agg #[.string (tx b.f), .string (tx b.t)]] w fun e w' => e = .returned (.int .i64 (okB a b)) ∧ Below w.heap.size w w' := by
  unfold shortR at h1 h2
  rw [Bool.and_eq_true, decide_eq_true_iff, decide_eq_true_iff] at h1 h2
  have hA := fun W => ref_check a (by omega) (by omega) W
  have hB := fun W => ref_check b (by omega) (by omega) W
  have hr := show okB a b = if okR a && okR b then 0 else 2 from rfl
  unfold okE at hA hB
  clear h1 h2
  have bb0 : Below w.heap.size w ((w.alloc (.cells #[.string (tx a.f), .string (tx a.t)] TR)).alloc (.cells #[.string (tx b.f), .string (tx b.t)] TR)) := (((Below.refl _ _).alloc (Nat.le_refl _) _).alloc (by simp) _)
  have hc0 : Bx w w.heap.size (tx a.f) (tx a.t) ((w.alloc (.cells #[.string (tx a.f), .string (tx a.t)] TR)).alloc (.cells #[.string (tx b.f), .string (tx b.t)] TR)) := (bx_new w _ _).later (alloc_b _ _)
  have hc1 : Bx (w.alloc (.cells #[.string (tx a.f), .string (tx a.t)] TR)) (w.alloc (.cells #[.string (tx a.f), .string (tx a.t)] TR)).heap.size (tx b.f) (tx b.t) ((w.alloc (.cells #[.string (tx a.f), .string (tx a.t)] TR)).alloc (.cells #[.string (tx b.f), .string (tx b.t)] TR)) := bx_new _ _ _
  rw [World.size_alloc] at hc1
  obtain ⟨k0, k1⟩ := hc0.cells
  obtain ⟨m0, m1⟩ := hc1.cells
  generalize okB a b = c at *
  generalize okR a = z at *
  generalize okR b = z2 at *
  generalize tx a.f = s at *
  generalize tx a.t = t at *
  generalize tx b.f = u at *
  generalize tx b.t = v at *
  cases z
  · replace hA := Lib.hid (show ∀ W, Calls Try.prog 18 #[.agg #[.string s, .string t]] W (fun e w' => e = .returned (.int .i64 2) ∧ Below W.heap.size W w') from hA)
    replace hr := Lib.hid (show c = 2 from hr)
    clear hB
    go_enter Try.func41, Try.ntmps41
    go_wp2_with fail
    refine (hA.out _).mono ?_
    rintro e w1 ⟨rfl, hb1⟩
    go_wp2_with fail
    go_ret
    exact ⟨by rw [hr.out]; rfl, bb0.trans (hb1.mono bb0.size)⟩
  · replace hA := Lib.hid (show ∀ W, Calls Try.prog 18 #[.agg #[.string s, .string t]] W (fun e w' => e = .returned (.int .i64 0) ∧ Below W.heap.size W w') from hA)
    cases z2
    · replace hB := Lib.hid (show ∀ W, Calls Try.prog 18 #[.agg #[.string u, .string v]] W (fun e w' => e = .returned (.int .i64 2) ∧ Below W.heap.size W w') from hB)
      replace hr := Lib.hid (show c = 2 from hr)
      go_enter Try.func41, Try.ntmps41
      go_wp2_with fail
      refine (hA.out _).mono ?_
      rintro e w1 ⟨rfl, hb1⟩
      have B1 := bb0.trans (hb1.mono bb0.size)
      obtain ⟨n0, n1⟩ := (hc1.later hb1).cells
      go_wp2_with fail
      refine (hB.out _).mono ?_
      rintro e w2 ⟨rfl, hb2⟩
      go_wp2_with fail
      go_ret
      exact ⟨by rw [hr.out]; rfl, B1.trans (hb2.mono B1.size)⟩
    · replace hB := Lib.hid (show ∀ W, Calls Try.prog 18 #[.agg #[.string u, .string v]] W (fun e w' => e = .returned (.int .i64 0) ∧ Below W.heap.size W w') from hB)
      replace hr := Lib.hid (show c = 0 from hr)
      go_enter Try.func41, Try.ntmps41
      go_wp2_with fail
      refine (hA.out _).mono ?_
      rintro e w1 ⟨rfl, hb1⟩
      have B1 := bb0.trans (hb1.mono bb0.size)
      obtain ⟨n0, n1⟩ := (hc1.later hb1).cells
      go_wp2_with fail
      refine (hB.out _).mono ?_
      rintro e w2 ⟨rfl, hb2⟩
      go_wp2_with fail
      go_ret
      exact ⟨by rw [hr.out]; rfl, B1.trans (hb2.mono B1.size)⟩
/-- The earlier one of two ends, as the document says it. -/
def endF (x y : List UInt8) : List UInt8 := if x.isEmpty || (!y.isEmpty && bl y x) then y else x
theorem bl_not {x y : List UInt8} : bl x y = false → bl y x = false → x = y := by
  intro h1 h2
  have h := num_bl (x.length + y.length) x y (by omega) (by omega)
  have h' := num_bl (x.length + y.length) y x (by omega) (by omega)
  rw [h.1] at h1
  rw [h'.1] at h2
  exact h.2.2 (by simp at h1 h2; omega)
theorem endF_eq (x y : List UInt8) : endF x y = earlierV x y := by
  unfold endF earlierV cmpE cmpS
  by_cases h1 : x = y
  · subst h1
    rw [if_pos rfl]
    split <;> simp
  · rw [if_neg h1]
    by_cases h2 : x = []
    · rw [if_pos h2, h2]; rfl
    · have e2 : x.isEmpty = false := by simpa using h2
      rw [if_neg h2, e2]
      by_cases h3 : y = []
      · rw [if_pos h3, h3]; rfl
      · have e3 : y.isEmpty = false := by simpa using h3
        rw [if_neg h3, e3]
        have hb : (x == y) = false := by simpa using h1
        rw [hb]
        cases hxy : bl x y with
        | true =>
          have : bl y x = false := by
            cases hyx : bl y x with
            | false => rfl
            | true => have := bl_trans _ _ _ hxy hyx; rw [bl_irrefl] at this; cases this
          rw [this]; simp
        | false =>
          have : bl y x = true := by
            cases hyx : bl y x with
            | true => rfl
            | false => exact absurd (bl_not hxy hyx) h1
          rw [this]; simp
theorem end_any (x y : List UInt8) (w : World) :
    Calls Try.prog 42 #[.string (tx x), .string (tx y)] w fun e w' => e = .returned (.string (tx (earlierV x y))) ∧ w = w' := by
  rw [← endF_eq]
  have hr := show tx (endF x y) = if x.isEmpty || (!y.isEmpty && bl y x) then tx y else tx x by unfold endF; split <;> rfl
  have e1 : ((tx x).toList == []) = x.isEmpty := by rw [tx_l]; cases x <;> rfl
  have e1' : (tx x).toList.isEmpty = x.isEmpty := by rw [tx_l]
  have e2 : ((tx y).toList == []) = y.isEmpty := by rw [tx_l]; cases y <;> rfl
  have e2' : (tx y).toList.isEmpty = y.isEmpty := by rw [tx_l]
  have b1 : Op.bytesLess (tx y).toList (tx x).toList = bl y x := by rw [tx_l, tx_l]; rfl
  generalize tx (endF x y) = r at *
  generalize x.isEmpty = ex at *
  generalize y.isEmpty = ey at *
  generalize bl y x = z at *
  generalize tx x = s at *
  generalize tx y = u at *
  cases ex <;> cases ey <;> cases z
  all_goals
    replace hr := Lib.hid hr
    go_enter Try.func42, Try.ntmps42
    go_wp2
    go_ret
    exact ⟨by rw [hr.out]; rfl, rfl⟩
end Go.Proofs.Ytabiafhkhahgeaa.Rng
