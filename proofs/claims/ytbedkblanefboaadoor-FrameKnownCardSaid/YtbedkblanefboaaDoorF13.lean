/- A slice of slices of bytes as it comes in; few. -/
import Derived.Test.YtbedkblanefboaaDoorF12
import Derived.ProofKit
import Derived.OpenShut
import Derived.Deep.Slices
import Derived.Deep.Fields
import Derived.ChangeArms
import Derived.ChangeSame
namespace Go.Proofs.YtbedkblanefboaaDoor.Frame
open Go.RowKit Go.ChangeShapes Go.WideShapes
open Crc (Hv more more_lt ret_u32)
set_option linter.unusedVariables false
set_option linter.unusedSimpArgs false

theorem bs_cap {w : World} {F : Nat → Prop} {a : Option Addr} {n c c' : Nat} {l : List Nat} (h : Bs w F (.slice a n c) l) (hc : n ≤ c') : Bs w F (.slice a n c') l := by
  obtain ⟨h8, a', cap', hv, hcap, h⟩ := h
  injection hv with e1 e2 e3
  subst e1 e2 e3
  exact ⟨h8, _, _, rfl, hc, h⟩
section
variable {H : Type} {enc : TypeId × Value → H} {w : World} {base : Nat} {spare : Nat → Bool} {held : Bool}
theorem bytes_open {fuel : Nat} {v : Value} {x : DataW H × List MemPlace} (h : DataW.trod enc Tryd.prog w base spare held fuel 22 [v] = some x) : ∃ l, Bs w (Old w) v l := by
  rcases open_ints Tryd.underlying22 Tryd.underlying5 (by kernel_rfl) h with ⟨hcs, _⟩ | ⟨x, l, c, zs, hcs, _, hl, hm, hz, _, hcell, hwz⟩
  · injection hcs with hcs _
    subst hcs
    obtain ⟨l, _, hb⟩ := row_bs (w := w) (a := none) (len := 0) (cap := 0) (zs := []) (.inl ⟨rfl, rfl, rfl, rfl⟩)
    exact ⟨l, hb⟩
  · injection hcs with hcs _
    subst hcs
    have hzl : l ≤ zs.length ∧ zs.length ≤ maxLen := by rw [hz]; split <;> omega
    obtain ⟨m, hml, hb⟩ := row_bs (w := w) (.inr ⟨_, rfl, hzl.1, hzl.2, rfl, hcell, hwz⟩)
    exact ⟨m, bs_cap hb hl⟩
theorem bss_open {fuel : Nat} {cs : List Value} {x : DataW H × List MemPlace} (h : DataW.trod enc Tryd.prog w base spare held fuel 23 cs = some x) :
    ∃ a len cap, cs = [.slice a len cap] ∧ ∃ L : List (List Nat), L.length = len ∧ Bss w (Old w) (.slice a len cap) L ∧ len ≤ 9223372036854775807 := by
  rcases Go.Deep.open_slice1 Tryd.underlying23 (by kernel_rfl) h with ⟨rfl, _⟩ | ⟨⟨b, off, spot⟩, len, cap, m, n, V, D, Pl, rfl, _, hl, hm, hmm, _, hi⟩
  · exact ⟨none, 0, 0, rfl, [], rfl, Bss.nil _ _, by omega⟩
  · have hlm : len ≤ m := by rw [hmm]; split <;> omega
    have hall : ∀ i, ∃ l : List Nat, i < len → Bs w (Old w) (V i) l := fun i => by
      by_cases hlt : i < len
      · obtain ⟨l, hb⟩ := bytes_open (hi i (by omega)).2
        exact ⟨l, fun _ => hb⟩
      · exact ⟨[], fun h => absurd h hlt⟩
    obtain ⟨f, hf⟩ := Classical.axiomOfChoice hall
    have hmx : cap ≤ 9223372036854775807 := hm
    have hlen : ((List.range len).map f).length = len := by simp
    refine ⟨_, _, _, rfl, (List.range len).map f, hlen, ⟨_, cap, by rw [hlen], by rw [hlen]; exact hl, fun h0 => ?_⟩, by omega⟩
    rw [hlen] at h0
    have c0 := (hi 0 (by omega)).1
    have hspot : spot = none := by simpa [Addr.add] using World.cell?_spot c0
    subst hspot
    have c0' := (hi 0 (by omega)).1
    rw [addr_add] at c0'
    refine ⟨b, off, rfl, World.block_lt_of_cell? w _ c0', fun i hi' => ?_⟩
    rw [hlen] at hi'
    have hc := (hi i (by omega)).1
    rw [addr_add] at hc
    refine ⟨V i, hc, ?_⟩
    have e : ((List.range len).map f).getD i [] = f i := by
      rw [List.getD_eq_getElem?_getD, List.getElem?_map, List.getElem?_range hi']; rfl
    rw [e]
    exact hf i hi'
end
/-- Few contents, all of them short. -/
def Few (L : List (List Nat)) : Prop := L.length ≤ 20 ∧ ∀ c ∈ L, c.length ≤ 200
instance (L : List (List Nat)) : Decidable (Few L) := inferInstanceAs (Decidable (L.length ≤ 20 ∧ ∀ c ∈ L, c.length ≤ 200))
def fewB (L : List (List Nat)) : Bool := decide (Few L)
theorem few_any (F : Nat → Prop) (v : Value) (L : List (List Nat)) (w : World) (hv : Bss w F v L) (hL : L.length ≤ 9223372036854775807) :
    Calls Tryd.prog 27 #[v] w fun e w' => e = .returned (.bool (fewB L)) ∧ w = w' := by
  obtain ⟨a, cap, rfl, hcap, hc⟩ := hv
  by_cases h20 : L.length ≤ 20
  · have hd : decide ((20 : Int) < (L.length : Int)) = false := by simp; omega
    have HC := Lib.hid hc
    clear hc
    have hfew : fewB L = decide (∀ c ∈ L, c.length ≤ 200) := by unfold fewB Few; simp [h20]
    generalize fewB L = B at *
    replace hfew := Lib.hid hfew
    go_enter Tryd.func27, Tryd.ntmps27
    go_wp2
    go_loop [3] (fun i => ∃ k : Nat, k ≤ L.length ∧ i = .int .i64 k ∧ ∀ c ∈ L.take k, c.length ≤ 200) (fun i => L.length - (intOf i).toNat)
    case atStart => exact ⟨0, Nat.zero_le _, rfl, fun c hc => absurd hc List.not_mem_nil⟩
    case round =>
      obtain ⟨k, hk, rfl, hall⟩ := hrel
      by_cases hlt : k < L.length
      · obtain ⟨b, off, rfl, hFb, hcell⟩ := HC.out (by omega)
        obtain ⟨s, hs, hb⟩ := hcell k hlt
        have ha := fun h => take_all hlt (fun c => c.length ≤ 200) hall h
        have hm := getD_mem hlt
        generalize hc : L.getD k [] = c at *
        obtain ⟨_, a', cap', rfl, hcc, _⟩ := hb
        have HA := Lib.hid ha
        have HALL := Lib.hid hall
        clear ha hall hcell
        by_cases hlong : c.length ≤ 200
        · have hdl : decide ((200 : Int) < (c.length : Int)) = false := by simp; omega
          go_wp2
          go_round
          case rel => exact ⟨k + 1, by omega, by go_num, HA.out hlong⟩
          case measure => simp [intOf]; omega
        · have hdl : decide ((200 : Int) < (c.length : Int)) = true := by simp; omega
          have hno : decide (∀ c ∈ L, c.length ≤ 200) = false := by simp only [decide_eq_false_iff_not]; intro h; exact hlong (h c hm)
          rw [← hfew.out] at hno
          subst hno
          replace hlong := Lib.hid hlong
          go_wp2
          go_ret
          exact ⟨rfl, rfl⟩
      · obtain rfl : k = L.length := by omega
        rw [List.take_length] at hall
        have hyes : decide (∀ c ∈ L, c.length ≤ 200) = true := by simp only [decide_eq_true_iff]; exact hall
        rw [← hfew.out] at hyes
        subst hyes
        replace hall := Lib.hid hall
        go_wp2
        go_ret
        exact ⟨rfl, rfl⟩
  · have hd : decide ((20 : Int) < (L.length : Int)) = true := by simp; omega
    have hfew : fewB L = false := by unfold fewB Few; simp [h20]
    rw [hfew]
    replace hfew := Lib.hid hfew
    replace h20 := Lib.hid h20
    go_enter Tryd.func27, Tryd.ntmps27
    go_wp2
    go_ret
    exact ⟨rfl, rfl⟩
end Go.Proofs.YtbedkblanefboaaDoor.Frame
