/- Comparisons of ends: cmp.Compare at texts, ranges.ends and its closure, isEnd, Check. -/
import Derived.Test.YtiahjacjpakkdaaS06
import Derived.Deep.RegionHeld3
import Derived.Deep.RegionWith
import Derived.BigQuiet
import Derived.Deep.QuietTactic
import Derived.OpenShut
namespace Go.Proofs.Ytiahjacjpakkdaa.Rng
open Go.RowKit Go.Lib
set_option linter.unusedVariables false
set_option linter.unusedSimpArgs false
set_option maxRecDepth 20000

theorem tx_l (l : List UInt8) : (tx l).toList = l := by rw [Lib.toList_data, tx_list]
theorem nan_any (x : List UInt8) (w : World) :
    Calls Try.prog 71 #[.string (tx x)] w fun e w' => e = .returned (.bool false) ∧ w = w' := by
  go_enter Try.func71, Try.ntmps71
  go_wp2
  go_ret
  exact ⟨by simp, rfl⟩
theorem cmp_any (x y : List UInt8) (w : World) :
    Calls Try.prog 62 #[.string (tx x), .string (tx y)] w fun e w' => e = .returned (.int .i64 (cmpS x y)) ∧ w = w' := by
  have b1 : Op.bytesLess (tx x).toList (tx y).toList = bl x y := by rw [tx_l, tx_l]; rfl
  have b2 : ((tx x).toList == (tx y).toList) = (x == y) := by rw [tx_l, tx_l]
  have hr := Lib.hid (show cmpS x y = if bl x y then -1 else if bl x y || x == y then 0 else 1 from rfl)
  have hN := Lib.hid (fun W => nan_any x W)
  have hM := Lib.hid (fun W => nan_any y W)
  generalize cmpS x y = c at *
  generalize bl x y = p at *
  generalize (x == y) = q at *
  generalize tx x = s at *
  generalize tx y = t at *
  cases p <;> cases q
  all_goals
    go_enter Try.func62, Try.ntmps62
    go_wp2_with (first
      | (go_at_call_of 71 (Value.string s); refine (hN.out _).mono ?_; rintro e w' ⟨rfl, rfl⟩)
      | (go_at_call_of 71 (Value.string t); refine (hM.out _).mono ?_; rintro e w' ⟨rfl, rfl⟩))
    go_ret
    exact ⟨by rw [hr.out]; rfl, rfl⟩

theorem ends_any (v : Int) (w : World) :
    Calls Try.prog 47 #[.int .i64 v] w fun e w' => e = .returned (.func (.func 61) #[] #[.pointer (some ⟨w.heap.size, 0, none⟩)]) ∧ w' = w.alloc (.cells #[.int .i64 v] 3) := by
  go_enter Try.func47, Try.ntmps47
  go_wp2
  go_ret
  exact ⟨rfl, rfl⟩
theorem end1_any (v : Int) (x y : List UInt8) (p : Addr) (w : World) (hv0 : -1 ≤ v) (hv1 : v ≤ 1) (hp : w.cell? p = some (.int .i64 v)) :
    Calls Try.prog 61 #[.string (tx x), .string (tx y), .pointer (some p)] w fun e w' => e = .returned (.int .i64 (cmpE v x y)) ∧ w = w' := by
  have hc := Lib.hid (fun W => cmp_any x y W)
  by_cases h1 : x = y
  · have b1 : ((tx x).toList == (tx y).toList) = true := by rw [tx_l, tx_l]; simpa using h1
    have hr := Lib.hid (show cmpE v x y = 0 by unfold cmpE; rw [if_pos h1])
    clear h1 hp
    generalize cmpE v x y = c at *
    generalize tx x = s at *
    generalize tx y = t at *
    go_enter Try.func61, Try.ntmps61
    go_wp2
    go_ret
    exact ⟨by rw [hr.out]; rfl, rfl⟩
  · have b1 : ((tx x).toList == (tx y).toList) = false := by rw [tx_l, tx_l]; simpa using h1
    by_cases h2 : x = []
    · have b2 : (tx x).toList = [] := by rw [tx_l]; exact h2
      have hr := Lib.hid (show cmpE v x y = v by unfold cmpE; rw [if_neg h1, if_pos h2])
      have b3 : (tx y).toList.isEmpty = false := by
        rw [tx_l]
        cases y with
        | nil => exact absurd h2 h1
        | cons => rfl
      clear h1 h2
      generalize cmpE v x y = c at *
      generalize tx x = s at *
      generalize tx y = t at *
      go_enter Try.func61, Try.ntmps61
      go_wp2
      go_ret
      exact ⟨by rw [hr.out]; rfl, rfl⟩
    · have b2 : ((tx x).toList == []) = false := by rw [tx_l]; simpa using h2
      have b2' : (tx x).toList.isEmpty = false := by rw [tx_l]; simpa using h2
      by_cases h3 : y = []
      · have b3 : (tx y).toList = [] := by rw [tx_l]; exact h3
        have hr := Lib.hid (show cmpE v x y = -v by unfold cmpE; rw [if_neg h1, if_neg h2, if_pos h3])
        clear h1 h2 h3
        generalize cmpE v x y = c at *
        generalize tx x = s at *
        generalize tx y = t at *
        go_enter Try.func61, Try.ntmps61
        go_wp2
        go_ret
        exact ⟨by rw [hr.out]; rfl, rfl⟩
      · have b3 : ((tx y).toList == []) = false := by rw [tx_l]; simpa using h3
        have b3' : (tx y).toList.isEmpty = false := by rw [tx_l]; simpa using h3
        have hr := Lib.hid (show cmpE v x y = cmpS x y by unfold cmpE; rw [if_neg h1, if_neg h2, if_neg h3])
        clear h1 h2 h3 hp
        generalize cmpE v x y = c at *
        generalize tx x = s at *
        generalize tx y = t at *
        go_enter Try.func61, Try.ntmps61
        go_wp2_with (go_at_call 62; refine (hc.out _).mono ?_; rintro e w' ⟨rfl, rfl⟩)
        go_ret
        exact ⟨by rw [hr.out]; rfl, rfl⟩

theorem isEnd_any (x : List UInt8) (w : World) :
    Calls Try.prog 46 #[.string (tx x)] w fun e w' => e = .returned (.bool (endOk x)) ∧ Below w.heap.size w w' := by
  have hc := Lib.hid (fun W => name_any x W)
  by_cases h2 : x = []
  · have b2 : (tx x).toList = [] := by rw [tx_l]; exact h2
    have hr := Lib.hid (show endOk x = true by unfold endOk; rw [h2]; rfl)
    clear h2
    generalize endOk x = c at *
    generalize tx x = s at *
    go_enter Try.func46, Try.ntmps46
    go_wp2
    go_ret
    exact ⟨by rw [hr.out]; rfl, Below.refl _ _⟩
  · have b2 : ((tx x).toList == []) = false := by rw [tx_l]; simpa using h2
    have b2' : (tx x).toList.isEmpty = false := by rw [tx_l]; simpa using h2
    have hr := Lib.hid (show endOk x = nameOk x by unfold endOk; cases x with | nil => exact absurd rfl h2 | cons => rfl)
    clear h2
    generalize endOk x = c at *
    generalize tx x = s at *
    go_enter Try.func46, Try.ntmps46
    go_wp2_with (go_at_call 25; refine (hc.out _).mono ?_; rintro e w' ⟨rfl, hb⟩)
    go_ret
    exact ⟨by rw [hr.out]; rfl, hb⟩
end Go.Proofs.Ytiahjacjpakkdaa.Rng
