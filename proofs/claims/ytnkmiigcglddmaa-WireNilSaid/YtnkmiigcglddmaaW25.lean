/- A value as it comes in, by itself. -/
import Derived.Test.YtnkmiigcglddmaaW24
namespace Go.Proofs.Ytnkmiigcglddmaa.Wire
open Go.RowKit Go.ChangeShapes Go.WideShapes
set_option linter.unusedVariables false
set_option linter.unusedSimpArgs false

section
variable {H : Type} {enc : TypeId × Value → H} {w : World} {base : Nat} {spare : Nat → Bool} {held : Bool}
set_option maxRecDepth 100000 in
theorem val_open {r : Reach} {b0 : Nat} {v : Value} {d : DataW H} {p : List MemPlace} (hv : Value.okWide Try.prog w r b0 TV v) (h : DataW.Trod enc Try.prog w base spare held TV v d p) (hz : ∀ n ∈ d.weights Try.prog TV, n ≤ reachBytes) :
    ∃ (k n : Nat) (s : ByteArray), v = .agg #[.int .u8 (k : Nat), .int .u64 (n : Nat), .string s] ∧ k < 256 ∧ n < 18446744073709551616 ∧ s.size ≤ 140737488355328 := by
  obtain ⟨cs, rfl, hsz⟩ := okWide_struct Try.underlying31 hv
  obtain ⟨c0, c1, c2, rfl⟩ := Go.Joins.array3 (hsz.trans tv_cells)
  obtain ⟨fuel, hf⟩ := h
  obtain ⟨k, n, s, rfl, rfl, rfl, hk, hn, hs, _, _⟩ := val_parts (show DataW.trod enc Try.prog w base spare held fuel TV [c0, c1, c2] = some (d, p) from hf)
  have := hz _ hs
  have := reachBytes_lt
  exact ⟨k, n, s, rfl, hk, hn, by omega⟩
end
end Go.Proofs.Ytnkmiigcglddmaa.Wire
