/- Contracts of num.Add, Sub, Mul. -/
import Derived.Test.YtiahjacjpakkdaaS02
namespace Go.Proofs.Ytiahjacjpakkdaa.Num
open Go.RowKit

theorem Below.more {w a b : World} (h : Below w.heap.size w a) (hb : Below a.heap.size a b) : Below w.heap.size w b := h.trans (hb.mono h.size)

theorem small_dif {a b : Int} (ha : Ok a) (hb : Ok b) : -170141183460469231731687303715884105728 ≤ a - b ∧ a - b < 170141183460469231731687303715884105728 := by unfold Ok at *; omega

/-- The error of a call that is well, or beyond. -/
def er (c : Bool) : Int := if c then 0 else 7
/-- Its number. -/
def vl (c : Bool) (n : Int) : Int := if c then n else 0
def okB (a : Int) : Bool := decide (Ok a)
theorem okB_t {a : Int} (h : Ok a) : okB a = true := decide_eq_true h
theorem okB_f {a : Int} (h : ¬ Ok a) : okB a = false := decide_eq_false h

end Go.Proofs.Ytiahjacjpakkdaa.Num
