/- Less, Inside. -/
import Derived.Test.YtocencmdfppkaaaR07
namespace Go.Proofs.Ytocencmdfppkaaa.Rng
open Go.RowKit Go.Lib
set_option linter.unusedVariables false
set_option linter.unusedSimpArgs false
set_option maxRecDepth 20000

def leB (x y : List UInt8) : Bool := bl x y || x == y
set_option maxHeartbeats 1000000 in
theorem less_any (a b : Rg) (w : World) :
    Calls Try.prog 26 #[.agg #[.string (tx a.f), .string (tx a.t)], .agg #[.string (tx b.f), .string (tx b.t)]] w fun e w' => e = .returned (.tuple #[.bool (lessR a b).1, .int .i64 (lessR a b).2]) ∧ Below w.heap.size w w' := by
  have hr := Lib.hid (show lessR a b = if okR a && okR b then (!a.t.isEmpty && leB a.t b.f, 0) else (false, 2) from rfl)
  generalize lessR a b = c at *
  have bb0 : Below w.heap.size w ((w.alloc (.cells #[.string (tx a.f), .string (tx a.t)] TR)).alloc (.cells #[.string (tx b.f), .string (tx b.t)] TR)) := (((Below.refl _ _).alloc (Nat.le_refl _) _).alloc (by simp) _)
  have hA := fun v W hv => all_any v [a, b] W hv (by simp)
  rw [okL2] at hA
  have b1 : (Op.bytesLess (tx a.t).toList (tx b.f).toList || (tx a.t).toList == (tx b.f).toList) = leB a.t b.f := by rw [tx_l, tx_l]; rfl
  have hx1 := bb0.alloc (by simp; omega) (.cells #[.string (tx a.f), .string (tx a.t), .string (tx b.f), .string (tx b.t)] TR)
  have hq := heap_alloc_new ((w.alloc (.cells #[.string (tx a.f), .string (tx a.t)] TR)).alloc (.cells #[.string (tx b.f), .string (tx b.t)] TR)) (.cells #[.string (tx a.f), .string (tx a.t), .string (tx b.f), .string (tx b.t)] TR)
  have hRs := Lib.hid (two_rs _ _ a b hq)
  clear hq
  simp only [World.size_alloc] at hRs
  have hc0 : Bx w w.heap.size (tx a.f) (tx a.t) (((w.alloc (.cells #[.string (tx a.f), .string (tx a.t)] TR)).alloc (.cells #[.string (tx b.f), .string (tx b.t)] TR)).alloc (.cells #[.string (tx a.f), .string (tx a.t), .string (tx b.f), .string (tx b.t)] TR)) := ((bx_new w _ _).later (alloc_b _ _)).later (alloc_b _ _)
  have hc1 : Bx (w.alloc (.cells #[.string (tx a.f), .string (tx a.t)] TR)) (w.alloc (.cells #[.string (tx a.f), .string (tx a.t)] TR)).heap.size (tx b.f) (tx b.t) (((w.alloc (.cells #[.string (tx a.f), .string (tx a.t)] TR)).alloc (.cells #[.string (tx b.f), .string (tx b.t)] TR)).alloc (.cells #[.string (tx a.f), .string (tx a.t), .string (tx b.f), .string (tx b.t)] TR)) := (bx_new _ _ _).later (alloc_b _ _)
  rw [World.size_alloc] at hc1
  by_cases ht : a.t = []
  · have b2 : (tx a.t).toList = [] := by rw [tx_l]; exact ht
    have he : a.t.isEmpty = true := by rw [ht]; rfl
    rw [he] at hr
    clear he ht b1
    generalize (okR a && okR b) = z at *
    generalize leB a.t b.f = z2 at *
    generalize tx a.f = s at *
    generalize tx a.t = t at *
    generalize tx b.f = u at *
    generalize tx b.t = v at *
    cases z
    all_goals
      obtain rfl := hr.out
      replace hA := Lib.hid hA
      go_enter Try.func26, Try.ntmps26
      go_wp2_with (go_at_call 38; refine (hA.out _ _ hRs.out).mono ?_; rintro e w1 ⟨rfl, hb1⟩; have hv := hx1.trans (hb1.mono hx1.size); obtain ⟨k0, k1⟩ := (hc0.later hb1).cells; obtain ⟨m0, m1⟩ := (hc1.later hb1).cells)
      go_ret2
      exact ⟨rfl, hv⟩
  · have b2 : (tx a.t).toList.isEmpty = false := by rw [tx_l]; simpa using ht
    have b2' : ((tx a.t).toList == []) = false := by rw [tx_l]; simpa using ht
    have he : a.t.isEmpty = false := by simpa using ht
    rw [he] at hr
    clear he ht
    generalize (okR a && okR b) = z at *
    generalize leB a.t b.f = z2 at *
    generalize tx a.f = s at *
    generalize tx a.t = t at *
    generalize tx b.f = u at *
    generalize tx b.t = v at *
    cases z <;> cases z2
    all_goals
      obtain rfl := hr.out
      replace hA := Lib.hid hA
      go_enter Try.func26, Try.ntmps26
      go_wp2_with (go_at_call 38; refine (hA.out _ _ hRs.out).mono ?_; rintro e w1 ⟨rfl, hb1⟩; have hv := hx1.trans (hb1.mono hx1.size); obtain ⟨k0, k1⟩ := (hc0.later hb1).cells; obtain ⟨m0, m1⟩ := (hc1.later hb1).cells)
      go_ret2
      exact ⟨rfl, hv⟩

/-- Two boxes that came in, and a third one. -/
theorem tx_inj {x y : List UInt8} : tx x = tx y ↔ x = y := ⟨fun h => by rw [← tx_l x, h, tx_l], fun h => by rw [h]⟩
set_option maxHeartbeats 1000000 in
theorem inside_any (a b : Rg) (w : World) :
    Calls Try.prog 28 #[.agg #[.string (tx a.f), .string (tx a.t)], .agg #[.string (tx b.f), .string (tx b.t)]] w fun e w' => e = .returned (.tuple #[.bool (insideR a b).1, .int .i64 (insideR a b).2]) ∧ Below w.heap.size w w' := by
  have hM := Lib.hid (fun W => meet_any a b W)
  have hx := bx_new w (tx a.f) (tx a.t)
  have hx1 := hx.later (alloc_b _ (.cells #[.string (tx b.f), .string (tx b.t)] TR))
  have hr := Lib.hid (show insideR a b = ((meetR a b).2.1 && decide ((meetR a b).1 = a), (meetR a b).2.2) from rfl)
  have hq : decide ((meetR a b).1 = a) = (decide ((meetR a b).1.f = a.f) && decide ((meetR a b).1.t = a.t)) := by
    obtain ⟨f, t⟩ := a
    cases (meetR ⟨f, t⟩ b).1 with
    | mk p q => simp
  rw [hq] at hr
  have b1 : ((tx (meetR a b).1.f).toList == (tx a.f).toList) = decide ((meetR a b).1.f = a.f) := by rw [tx_l, tx_l, Bool.eq_iff_iff]; simp
  have b2 : ((tx (meetR a b).1.t).toList == (tx a.t).toList) = decide ((meetR a b).1.t = a.t) := by rw [tx_l, tx_l, Bool.eq_iff_iff]; simp
  clear hq
  generalize insideR a b = c at *
  generalize decide ((meetR a b).1.f = a.f) = z1 at *
  generalize decide ((meetR a b).1.t = a.t) = z2 at *
  generalize meetR a b = m at *
  obtain ⟨⟨mf, mt⟩, mo, me⟩ := m
  simp only at *
  generalize tx a.f = s at *
  generalize tx a.t = t at *
  generalize tx b.f = u at *
  generalize tx b.t = v at *
  generalize tx mf = x at *
  generalize tx mt = y at *
  cases mo <;> cases z1 <;> cases z2
  all_goals
    obtain rfl := hr.out
    obtain ⟨c0, c1⟩ := hx1.cells
    go_enter Try.func28, Try.ntmps28
    go_wp2_with (go_at_call 21; refine (hM.out _).mono ?_; rintro e w1 ⟨rfl, hb1⟩; have hx2 := hx1.later hb1; have hx3 := hx2.later (alloc_b _ (.cells #[.string x, .string y] TR)); obtain ⟨d0, d1⟩ := hx2.cells; obtain ⟨e0, e1⟩ := hx3.cells)
    go_ret2
    exact ⟨rfl, hx3.bel⟩
end Go.Proofs.Ytocencmdfppkaaa.Rng
