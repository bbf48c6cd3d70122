/- StoreKeeps, for all that comes in. -/
import Derived.Test.YtdihlgbnmpefiaaS32
namespace Go.Proofs.Ytdihlgbnmpefiaa.Sto
open Go.RowKit
theorem keeps_any (a : Option Addr) (len cap : Nat) (S : Nat → Sp) (s : Sp) (w : World) (h : IsSt w a len cap S) (_ : True) :
    Calls Try.prog 4 #[.slice a len cap, sA s] w fun e w' => e = .returned (.bool true) ∧ Below w.heap.size w w' := by
  by_cases hl : len ≤ 100 ∧ shortB S len = true ∧ stOk s = true
  · exact keeps_go a len cap S s w h hl.1 hl.2.1 hl.2.2
  · exact keeps_long a len cap S s w h hl
end Go.Proofs.Ytdihlgbnmpefiaa.Sto
