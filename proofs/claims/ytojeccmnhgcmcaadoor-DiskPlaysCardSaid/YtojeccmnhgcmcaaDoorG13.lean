/- A slice of slices of bytes as it comes in; few. -/
import Derived.Test.YtojeccmnhgcmcaaDoorG12
import Derived.ProofKit
import Derived.OpenShut
import Derived.Deep.Slices
import Derived.Deep.Fields
import Derived.ChangeArms
import Derived.ChangeSame
namespace Go.Proofs.YtojeccmnhgcmcaaDoor.Frame
open Go.RowKit Go.ChangeShapes Go.WideShapes
open Crc (Hv more more_lt ret_u32)
set_option linter.unusedVariables false
set_option linter.unusedSimpArgs false

theorem bs_cap {w : World} {F : Nat → Prop} {a : Option Addr} {n c c' : Nat} {l : List Nat} (h : Bs w F (.slice a n c) l) (hc : n ≤ c') : Bs w F (.slice a n c') l := by
  obtain ⟨h8, a', cap', hv, hcap, h⟩ := h
  injection hv with e1 e2 e3
  subst e1 e2 e3
  exact ⟨h8, _, _, rfl, hc, h⟩
section
variable {H : Type} {enc : TypeId × Value → H} {w : World} {base : Nat} {spare : Nat → Bool} {held : Bool}
theorem bytes_open {fuel : Nat} {v : Value} {x : DataW H × List MemPlace} (h : DataW.trod enc Tryd.prog w base spare held fuel 29 [v] = some x) : ∃ l, Bs w (Old w) v l := by
  rcases open_ints Tryd.underlying29 Tryd.underlying5 (by kernel_rfl) h with ⟨hcs, _⟩ | ⟨x, l, c, zs, hcs, _, hl, hm, hz, _, hcell, hwz⟩
  · injection hcs with hcs _
    subst hcs
    obtain ⟨l, _, hb⟩ := row_bs (w := w) (a := none) (len := 0) (cap := 0) (zs := []) (.inl ⟨rfl, rfl, rfl, rfl⟩)
    exact ⟨l, hb⟩
  · injection hcs with hcs _
    subst hcs
    have hzl : l ≤ zs.length ∧ zs.length ≤ maxLen := by rw [hz]; split <;> omega
    obtain ⟨m, hml, hb⟩ := row_bs (w := w) (.inr ⟨_, rfl, hzl.1, hzl.2, rfl, hcell, hwz⟩)
    exact ⟨m, bs_cap hb hl⟩
theorem bss_open {fuel : Nat} {cs : List Value} {x : DataW H × List MemPlace} (h : DataW.trod enc Tryd.prog w base spare held fuel 39 cs = some x) :
    ∃ a len cap, cs = [.slice a len cap] ∧ ∃ L : List (List Nat), L.length = len ∧ Bss w (Old w) (.slice a len cap) L ∧ len ≤ 9223372036854775807 := by
  rcases Go.Deep.open_slice1 Tryd.underlying39 (by kernel_rfl) h with ⟨rfl, _⟩ | ⟨⟨b, off, spot⟩, len, cap, m, n, V, D, Pl, rfl, _, hl, hm, hmm, _, hi⟩
  · exact ⟨none, 0, 0, rfl, [], rfl, Bss.nil _ _, by omega⟩
  · have hlm : len ≤ m := by rw [hmm]; split <;> omega
    have hall : ∀ i, ∃ l : List Nat, i < len → Bs w (Old w) (V i) l := fun i => by
      by_cases hlt : i < len
      · obtain ⟨l, hb⟩ := bytes_open (hi i (by omega)).2
        exact ⟨l, fun _ => hb⟩
      · exact ⟨[], fun h => absurd h hlt⟩
    obtain ⟨f, hf⟩ := Classical.axiomOfChoice hall
    have hmx : cap ≤ 9223372036854775807 := hm
    have hlen : ((List.range len).map f).length = len := by simp
    refine ⟨_, _, _, rfl, (List.range len).map f, hlen, ⟨_, cap, by rw [hlen], by rw [hlen]; exact hl, fun h0 => ?_⟩, by omega⟩
    rw [hlen] at h0
    have c0 := (hi 0 (by omega)).1
    have hspot : spot = none := by simpa [Addr.add] using World.cell?_spot c0
    subst hspot
    have c0' := (hi 0 (by omega)).1
    rw [addr_add] at c0'
    refine ⟨b, off, rfl, World.block_lt_of_cell? w _ c0', fun i hi' => ?_⟩
    rw [hlen] at hi'
    have hc := (hi i (by omega)).1
    rw [addr_add] at hc
    refine ⟨V i, hc, ?_⟩
    have e : ((List.range len).map f).getD i [] = f i := by
      rw [List.getD_eq_getElem?_getD, List.getElem?_map, List.getElem?_range hi']; rfl
    rw [e]
    exact hf i hi'
end
/-- Few contents, all of them short. -/
def Few (L : List (List Nat)) : Prop := L.length ≤ 20 ∧ ∀ c ∈ L, c.length ≤ 200
instance (L : List (List Nat)) : Decidable (Few L) := inferInstanceAs (Decidable (L.length ≤ 20 ∧ ∀ c ∈ L, c.length ≤ 200))
def fewB (L : List (List Nat)) : Bool := decide (Few L)
end Go.Proofs.YtojeccmnhgcmcaaDoor.Frame
