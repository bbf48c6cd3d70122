/- A slice of texts as it comes in. -/
import Derived.Test.YtocencmdfppkaaaR34
import Derived.Test.YtocencmdfppkaaaR19
import Derived.SliceStrings
import Derived.ProofKit
import Derived.OpenShut
import Derived.SizedLaws
import Derived.ShutString
import Derived.Stop.Joined
import Derived.Deep.Slices
import Derived.Deep.Fields
import Derived.ChangeArms
import Derived.ChangeSame
import Derived.Lib.SmallJoins
namespace Go.Proofs.Ytocencmdfppkaaa.Rng
open Go.RowKit Go.Lib Go.ChangeShapes Go.WideShapes
set_option linter.unusedVariables false
set_option linter.unusedSimpArgs false

abbrev TSs : TypeId := 45
structure IsStrs (w : World) (a : Option Addr) (len cap : Nat) (S : Nat → ByteArray) : Prop where
  fit : len ≤ cap ∧ cap ≤ 9223372036854775807
  none : a = none → len = 0 ∧ cap = 0
  cell : 0 < len → ∃ b off, a = some ⟨b, off, Option.none⟩ ∧ b < w.heap.size ∧ ∀ i, i < len → w.cell? ⟨b, off + i, Option.none⟩ = some (.string (S i))
  siz : ∀ i, (S i).size ≤ 9223372036854775807
theorem IsStrs.later {w w' : World} {a : Option Addr} {len cap : Nat} {S : Nat → ByteArray} (h : IsStrs w a len cap S) (hb : Below w.heap.size w w') : IsStrs w' a len cap S := by
  refine ⟨h.fit, h.none, fun h0 => ?_, h.siz⟩
  obtain ⟨b, off, e, hlt, hc⟩ := h.cell h0
  have := hb.size
  exact ⟨b, off, e, by omega, fun i hi => (hb.cell (p := ⟨b, off + i, Option.none⟩) hlt).trans (hc i hi)⟩
section
variable {H : Type} {enc : TypeId × Value → H} {w : World} {base : Nat} {spare : Nat → Bool} {held : Bool}
theorem strs_open {fuel : Nat} {cs : List Value} {x : DataW H × List MemPlace} (h : DataW.trod enc Try.prog w base spare held fuel TSs cs = some x) :
    ∃ a len cap S, cs = [.slice a len cap] ∧ IsStrs w a len cap S := by
  rcases open_strings Try.underlying45 Try.underlying9 (by kernel_rfl) h with ⟨rfl, _⟩ | ⟨⟨b, off, spot⟩, len, cap, ss, rfl, _, hl, hm, hss, _, hc, hz⟩
  · exact ⟨none, 0, 0, fun _ => ByteArray.empty, rfl, ⟨Nat.le_refl _, Nat.zero_le _⟩, (fun _ => ⟨rfl, rfl⟩), (fun h0 => absurd h0 (by omega)), fun i => by simp⟩
  · have hlm : len ≤ ss.length := by rw [hss]; split <;> omega
    refine ⟨some ⟨b, off, spot⟩, len, cap, fun i => ss.getD i ByteArray.empty, rfl, ⟨hl, hm⟩, (fun h => by cases h), fun h0 => ?_, fun i => ?_⟩
    · have a0 := hc 0 (by omega)
      have hspot : spot = none := by simpa [Addr.add] using World.cell?_spot a0
      subst hspot
      refine ⟨b, off, rfl, World.block_lt_of_cell? w _ a0, fun i hi => ?_⟩
      have := hc i (by omega)
      rw [addr_add] at this
      exact this
    · rw [List.getD_eq_getElem?_getD]
      cases hg : ss[i]? with
      | none => simp
      | some s => exact hz s (List.mem_of_getElem? hg)
end
end Go.Proofs.Ytocencmdfppkaaa.Rng
