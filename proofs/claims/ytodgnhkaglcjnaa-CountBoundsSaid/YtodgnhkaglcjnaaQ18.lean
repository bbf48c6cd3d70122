/- Moves as they come in. -/
import Derived.Test.YtodgnhkaglcjnaaQ17
import Derived.Test.YtodgnhkaglcjnaaQ10
import Derived.Deep.Slices
import Derived.Deep.Fields
import Derived.ChangeArms
import Derived.ChangeSame
import Derived.Lib.SmallJoins
namespace Go.Proofs.Ytodgnhkaglcjnaa.Cnt
open Go.RowKit Go.ChangeShapes Go.WideShapes
set_option linter.unusedVariables false
set_option linter.unusedSimpArgs false

abbrev TM : TypeId := 48
abbrev TL : TypeId := 42
theorem tl_slice : Try.prog.underlying TL = some (.slice TM) := Try.underlying42
theorem tm_cells : Try.prog.cellsOf TM = 2 := by kernel_rfl
theorem tm_struct : ∃ f0 f1 : Field, Try.prog.underlying TM = some (.struct #[f0, f1]) ∧ f0.type = 5 ∧ f1.type = 46 ∧ f0.offset = 0 ∧ f1.offset = 1 := ⟨_, _, Try.underlying48, rfl, rfl, rfl, rfl⟩
/-- The moves of a slice: what its cells hold. -/
structure IsMv (w : World) (a : Option Addr) (len cap : Nat) (K D : Nat → Int) : Prop where
  fit : len ≤ cap ∧ cap ≤ 9223372036854775807
  none : a = none → len = 0 ∧ cap = 0
  cell : 0 < len → ∃ b off, a = some ⟨b, off, Option.none⟩ ∧ b < w.heap.size ∧ ∀ i, i < len → w.cell? ⟨b, off + i * 2, Option.none⟩ = some (.int .u8 (K i)) ∧ w.cell? ⟨b, off + i * 2 + 1, Option.none⟩ = some (.int .i16 (D i))
  rng : ∀ i, (0 ≤ K i ∧ K i ≤ 255) ∧ (-32768 ≤ D i ∧ D i ≤ 32767)
theorem addr_add (b off n : Nat) : (⟨b, off, Option.none⟩ : Addr).add n = ⟨b, off + n, Option.none⟩ := by unfold Addr.add; split <;> simp_all
section
variable {H : Type} {enc : TypeId × Value → H} {w : World} {base : Nat} {spare : Nat → Bool} {held : Bool}
theorem mv_parts {fuel : Nat} {c0 c1 : Value} {x : DataW H × List MemPlace} (h : DataW.trod enc Try.prog w base spare held fuel TM [c0, c1] = some x) :
    ∃ k d : Int, c0 = .int .u8 k ∧ c1 = .int .i16 d ∧ (0 ≤ k ∧ k ≤ 255) ∧ (-32768 ≤ d ∧ d ≤ 32767) := by
  obtain ⟨f0, f1, hu, t0, t1, o0, o1⟩ := tm_struct
  obtain ⟨ys, m, _, rfl, _, hl, hf⟩ := DataW.trod_struct hu h
  have h0 := hf 0 f0 rfl
  have h1 := hf 1 f1 rfl
  have k0 : Try.prog.cellsOf 5 = 1 := by kernel_rfl
  have k1 : Try.prog.cellsOf 46 = 1 := by kernel_rfl
  rw [t0, o0, k0] at h0
  rw [t1, o1, k1] at h1
  have hl2 : ys.length = 2 := hl
  match ys, hl2 with
  | [y0, y1], _ =>
    have g0 : DataW.trod enc Try.prog w base spare held m 5 [c0] = some y0 := h0
    have g1 : DataW.trod enc Try.prog w base spare held m 46 [c1] = some y1 := h1
    obtain ⟨n0, e0, rfl, w0⟩ := DataW.trod_int Try.underlying5 g0
    obtain ⟨n1, e1, rfl, w1⟩ := DataW.trod_int Try.underlying46 g1
    cases e0; cases e1
    exact ⟨n0, n1, rfl, rfl, bounds_u8 w0, bounds_i16 w1⟩
theorem mvs_open {fuel : Nat} {cs : List Value} {x : DataW H × List MemPlace} (h : DataW.trod enc Try.prog w base spare held fuel TL cs = some x) :
    ∃ a len cap K D, cs = [.slice a len cap] ∧ IsMv w a len cap K D := by
  rcases Go.Deep.open_slice tl_slice h with ⟨rfl, _⟩ | ⟨⟨b, off, spot⟩, len, cap, m, n, DD, Pl, rfl, _, hl, hm, hmm, rfl, hi⟩
  · exact ⟨none, 0, 0, fun _ => 0, fun _ => 0, rfl, ⟨Nat.le_refl _, Nat.zero_le _⟩, (fun _ => ⟨rfl, rfl⟩), (fun h0 => absurd h0 (by omega)), fun i => ⟨by decide, by decide⟩⟩
  · have hlm : len ≤ m := by rw [hmm]; split <;> omega
    have hspot : 0 < len → spot = none := by
      intro h0
      obtain ⟨cs', hc, _⟩ := hi 0 (by omega)
      rw [tm_cells] at hc
      obtain ⟨_, hl3, hat⟩ := World.cells?_some hc
      have a0 := hat 0 (by omega)
      rw [List.getElem?_eq_getElem (by omega)] at a0
      simpa [Addr.add] using World.cell?_spot a0
    have hall : ∀ i, ∃ v : Int × Int, ((0 ≤ v.1 ∧ v.1 ≤ 255) ∧ (-32768 ≤ v.2 ∧ v.2 ≤ 32767)) ∧ (i < len → spot = none ∧ b < w.heap.size ∧ w.cell? ⟨b, off + i * 2, none⟩ = some (.int .u8 v.1) ∧ w.cell? ⟨b, off + i * 2 + 1, none⟩ = some (.int .i16 v.2)) := by
      intro i
      by_cases hlt : i < len
      · obtain ⟨cs', hc, ht⟩ := hi i (by omega)
        rw [tm_cells] at hc
        obtain ⟨_, hl3, hat⟩ := World.cells?_some hc
        match cs', hl3 with
        | [c0, c1], _ =>
          have a0 := hat 0 (by omega)
          have a1 := hat 1 (by omega)
          obtain rfl := hspot (by omega)
          rw [addr_add, addr_add] at a0 a1
          obtain ⟨k, d, rfl, rfl, hk, hd⟩ := mv_parts ht
          exact ⟨(k, d), ⟨hk, hd⟩, fun _ => ⟨rfl, World.block_lt_of_cell? w _ a0, a0, a1⟩⟩
      · exact ⟨(0, 0), ⟨by decide, by decide⟩, fun h => absurd h hlt⟩
    obtain ⟨f, hf⟩ := Classical.axiomOfChoice hall
    have hmx : cap ≤ 9223372036854775807 := hm
    refine ⟨some ⟨b, off, spot⟩, len, cap, fun i => (f i).1, fun i => (f i).2, rfl, ⟨hl, hmx⟩, (fun h => by cases h), fun h0 => ?_, fun i => (hf i).1⟩
    obtain ⟨rfl, hb, _⟩ := (hf 0).2 h0
    exact ⟨b, off, rfl, hb, fun i hi => ((hf i).2 hi).2.2⟩
end
end Go.Proofs.Ytodgnhkaglcjnaa.Cnt
