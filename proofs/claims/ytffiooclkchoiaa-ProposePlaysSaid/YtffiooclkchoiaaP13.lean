/- Bytes, triples of bytes and ballots as they come in. -/
import Derived.Test.YtffiooclkchoiaaP12
import Derived.ProofKit
import Derived.OpenShut
import Derived.SizedLaws
import Derived.Stop.Joined
import Derived.ShutString
import Derived.Deep.Slices
import Derived.Deep.Fields
import Derived.ChangeArms
import Derived.ChangeSame
import Derived.Lib.SmallJoins
namespace Go.Proofs.Ytffiooclkchoiaa.Prp
open Go.RowKit Go.ChangeShapes Go.WideShapes
open Bal (TB)
set_option linter.unusedVariables false
set_option linter.unusedSimpArgs false

/-! Bytes. -/
abbrev TU8 : TypeId := 5
abbrev TU8s : TypeId := 65
theorem tu_slice : Try.prog.underlying TU8s = some (.slice TU8) := Try.underlying65
theorem tu_cells : Try.prog.cellsOf TU8 = 1 := by kernel_rfl
structure IsU (w : World) (a : Option Addr) (len cap : Nat) (S : Nat → Nat) : Prop where
  fit : len ≤ cap ∧ cap ≤ 9223372036854775807
  none : a = none → len = 0 ∧ cap = 0
  cell : 0 < len → ∃ b off, a = some ⟨b, off, Option.none⟩ ∧ b < w.heap.size ∧ ∀ i, i < len → w.cell? ⟨b, off + i, Option.none⟩ = some (.int .u8 (S i : Nat))
  rng : ∀ i, S i ≤ 255
theorem IsU.later {w w' : World} {a : Option Addr} {len cap : Nat} {S : Nat → Nat} (h : IsU w a len cap S) (hb : Below w.heap.size w w') : IsU w' a len cap S :=
  ⟨h.fit, h.none, fun h0 => by
    obtain ⟨b, off, e, hlt, hc⟩ := h.cell h0
    exact ⟨b, off, e, Nat.lt_of_lt_of_le hlt hb.size, fun i hi => (hb.cell (p := ⟨b, _, Option.none⟩) hlt).trans (hc i hi)⟩, h.rng⟩
/-! Triples of bytes. -/
abbrev TB3 : TypeId := 62
abbrev TB3s : TypeId := 58
theorem tb3_slice : Try.prog.underlying TB3s = some (.slice TB3) := Try.underlying58
theorem tb3_cells : Try.prog.cellsOf TB3 = 3 := by kernel_rfl
structure B3 where
  x : Nat
  y : Nat
  z : Nat
structure IsB3 (w : World) (a : Option Addr) (len cap : Nat) (S : Nat → B3) : Prop where
  fit : len ≤ cap ∧ cap ≤ 9223372036854775807
  none : a = none → len = 0 ∧ cap = 0
  cell : 0 < len → ∃ b off, a = some ⟨b, off, Option.none⟩ ∧ b < w.heap.size ∧ ∀ i, i < len → w.cell? ⟨b, off + i * 3, Option.none⟩ = some (.int .u8 ((S i).x : Nat)) ∧ w.cell? ⟨b, off + i * 3 + 1, Option.none⟩ = some (.int .u8 ((S i).y : Nat)) ∧ w.cell? ⟨b, off + i * 3 + 2, Option.none⟩ = some (.int .u8 ((S i).z : Nat))
  rng : ∀ i, (S i).x ≤ 255 ∧ (S i).y ≤ 255 ∧ (S i).z ≤ 255
theorem IsB3.later {w w' : World} {a : Option Addr} {len cap : Nat} {S : Nat → B3} (h : IsB3 w a len cap S) (hb : Below w.heap.size w w') : IsB3 w' a len cap S :=
  ⟨h.fit, h.none, fun h0 => by
    obtain ⟨b, off, e, hlt, hc⟩ := h.cell h0
    exact ⟨b, off, e, Nat.lt_of_lt_of_le hlt hb.size, fun i hi => ⟨(hb.cell (p := ⟨b, _, Option.none⟩) hlt).trans (hc i hi).1, (hb.cell (p := ⟨b, _, Option.none⟩) hlt).trans (hc i hi).2.1, (hb.cell (p := ⟨b, _, Option.none⟩) hlt).trans (hc i hi).2.2⟩⟩, h.rng⟩
section
variable {H : Type} {enc : TypeId × Value → H} {w : World} {base : Nat} {spare : Nat → Bool} {held : Bool}
set_option maxRecDepth 100000
theorem u8_one {fuel : Nat} {c0 : Value} {x : DataW H × List MemPlace} (h : DataW.trod enc Try.prog w base spare held fuel TU8 [c0] = some x) : ∃ t : Nat, c0 = .int .u8 (t : Nat) ∧ t ≤ 255 := by
  obtain ⟨n0, e0, rfl, w0⟩ := DataW.trod_int Try.underlying5 h
  have w0 := bounds_u8 w0
  obtain ⟨m0, rfl⟩ := Int.eq_ofNat_of_zero_le w0.1
  cases e0
  exact ⟨m0, rfl, by have := w0.2; omega⟩
theorem u8s_open {fuel : Nat} {cs : List Value} {x : DataW H × List MemPlace} (h : DataW.trod enc Try.prog w base spare held fuel TU8s cs = some x) :
    ∃ a len cap S, cs = [.slice a len cap] ∧ IsU w a len cap S := by
  rcases Go.Deep.open_slice tu_slice h with ⟨rfl, _⟩ | ⟨⟨b, off, spot⟩, len, cap, m, n, DD, Pl, rfl, _, hl, hm, hmm, rfl, hi⟩
  · exact ⟨none, 0, 0, fun _ => 0, rfl, ⟨Nat.le_refl _, Nat.zero_le _⟩, (fun _ => ⟨rfl, rfl⟩), (fun h0 => absurd h0 (by omega)), fun i => by show (0 : Nat) ≤ 255; decide⟩
  · have hlm : len ≤ m := by rw [hmm]; split <;> omega
    have hspot : 0 < len → spot = none := by
      intro h0
      obtain ⟨cs', hc, _⟩ := hi 0 (by omega)
      rw [tu_cells] at hc
      obtain ⟨_, hl3, hat⟩ := World.cells?_some hc
      have a0 := hat 0 (by omega)
      rw [List.getElem?_eq_getElem (by omega)] at a0
      simpa [Addr.add] using World.cell?_spot a0
    have hall : ∀ i, ∃ t : Nat, t ≤ 255 ∧ (i < len → spot = none ∧ b < w.heap.size ∧ w.cell? ⟨b, off + i, none⟩ = some (.int .u8 (t : Nat))) := by
      intro i
      by_cases hlt : i < len
      · obtain ⟨cs', hc, ht⟩ := hi i (by omega)
        rw [tu_cells] at hc
        obtain ⟨_, hl3, hat⟩ := World.cells?_some hc
        match cs', hl3 with
        | [c0], _ =>
          have a0 := hat 0 (by omega)
          obtain rfl := hspot (by omega)
          rw [addr_add, addr_add, Nat.mul_one] at a0
          obtain ⟨t, rfl, hk⟩ := u8_one ht
          exact ⟨t, hk, fun _ => ⟨rfl, World.block_lt_of_cell? w _ a0, a0⟩⟩
      · exact ⟨0, by decide, fun h => absurd h hlt⟩
    obtain ⟨f, hf⟩ := Classical.axiomOfChoice hall
    have hmx : cap ≤ 9223372036854775807 := hm
    refine ⟨some ⟨b, off, spot⟩, len, cap, f, rfl, ⟨hl, hmx⟩, (fun h => by cases h), fun h0 => ?_, fun i => (hf i).1⟩
    obtain ⟨rfl, hb, _⟩ := (hf 0).2 h0
    exact ⟨b, off, rfl, hb, fun i hi => ((hf i).2 hi).2.2⟩
theorem b3_parts {fuel : Nat} {c0 c1 c2 : Value} {x : DataW H × List MemPlace} (h : DataW.trod enc Try.prog w base spare held fuel TB3 [c0, c1, c2] = some x) :
    ∃ t : B3, c0 = .int .u8 (t.x : Nat) ∧ c1 = .int .u8 (t.y : Nat) ∧ c2 = .int .u8 (t.z : Nat) ∧ t.x ≤ 255 ∧ t.y ≤ 255 ∧ t.z ≤ 255 := by
  obtain ⟨ys, m, _, rfl, _, hl, hf⟩ := DataW.trod_array (n := 3) Try.underlying62 h
  have h0 := hf 0 (by omega)
  have h1 := hf 1 (by omega)
  have h2 := hf 2 (by omega)
  have k0 : Try.prog.cellsOf 5 = 1 := by kernel_rfl
  rw [k0] at h0 h1 h2
  match ys, hl with
  | [y0, y1, y2], _ =>
    have g0 : DataW.trod enc Try.prog w base spare held m TU8 [c0] = some y0 := h0
    have g1 : DataW.trod enc Try.prog w base spare held m TU8 [c1] = some y1 := h1
    have g2 : DataW.trod enc Try.prog w base spare held m TU8 [c2] = some y2 := h2
    obtain ⟨t0, rfl, w0⟩ := u8_one g0
    obtain ⟨t1, rfl, w1⟩ := u8_one g1
    obtain ⟨t2, rfl, w2⟩ := u8_one g2
    exact ⟨⟨t0, t1, t2⟩, rfl, rfl, rfl, w0, w1, w2⟩
theorem b3s_open {fuel : Nat} {cs : List Value} {x : DataW H × List MemPlace} (h : DataW.trod enc Try.prog w base spare held fuel TB3s cs = some x) :
    ∃ a len cap S, cs = [.slice a len cap] ∧ IsB3 w a len cap S := by
  rcases Go.Deep.open_slice tb3_slice h with ⟨rfl, _⟩ | ⟨⟨b, off, spot⟩, len, cap, m, n, DD, Pl, rfl, _, hl, hm, hmm, rfl, hi⟩
  · exact ⟨none, 0, 0, fun _ => ⟨0, 0, 0⟩, rfl, ⟨Nat.le_refl _, Nat.zero_le _⟩, (fun _ => ⟨rfl, rfl⟩), (fun h0 => absurd h0 (by omega)), fun i => ⟨by decide, by decide, by decide⟩⟩
  · have hlm : len ≤ m := by rw [hmm]; split <;> omega
    have hspot : 0 < len → spot = none := by
      intro h0
      obtain ⟨cs', hc, _⟩ := hi 0 (by omega)
      rw [tb3_cells] at hc
      obtain ⟨_, hl3, hat⟩ := World.cells?_some hc
      have a0 := hat 0 (by omega)
      rw [List.getElem?_eq_getElem (by omega)] at a0
      simpa [Addr.add] using World.cell?_spot a0
    have hall : ∀ i, ∃ t : B3, (t.x ≤ 255 ∧ t.y ≤ 255 ∧ t.z ≤ 255) ∧ (i < len → spot = none ∧ b < w.heap.size ∧ w.cell? ⟨b, off + i * 3, none⟩ = some (.int .u8 (t.x : Nat)) ∧ w.cell? ⟨b, off + i * 3 + 1, none⟩ = some (.int .u8 (t.y : Nat)) ∧ w.cell? ⟨b, off + i * 3 + 2, none⟩ = some (.int .u8 (t.z : Nat))) := by
      intro i
      by_cases hlt : i < len
      · obtain ⟨cs', hc, ht⟩ := hi i (by omega)
        rw [tb3_cells] at hc
        obtain ⟨_, hl3, hat⟩ := World.cells?_some hc
        match cs', hl3 with
        | [c0, c1, c2], _ =>
          have a0 := hat 0 (by omega)
          have a1 := hat 1 (by omega)
          have a2 := hat 2 (by omega)
          obtain rfl := hspot (by omega)
          rw [addr_add, addr_add] at a0 a1 a2
          obtain ⟨t, rfl, rfl, rfl, hk, hd, he⟩ := b3_parts ht
          exact ⟨t, ⟨hk, hd, he⟩, fun _ => ⟨rfl, World.block_lt_of_cell? w _ a0, a0, a1, a2⟩⟩
      · exact ⟨⟨0, 0, 0⟩, ⟨by decide, by decide, by decide⟩, fun h => absurd h hlt⟩
    obtain ⟨f, hf⟩ := Classical.axiomOfChoice hall
    have hmx : cap ≤ 9223372036854775807 := hm
    refine ⟨some ⟨b, off, spot⟩, len, cap, f, rfl, ⟨hl, hmx⟩, (fun h => by cases h), fun h0 => ?_, fun i => (hf i).1⟩
    obtain ⟨rfl, hb, _⟩ := (hf 0).2 h0
    exact ⟨b, off, rfl, hb, fun i hi => ((hf i).2 hi).2.2⟩
end

/-! Ballots. -/
theorem tb_struct : ∃ f0 f1 : Field, Try.prog.underlying TB = some (.struct #[f0, f1]) ∧ f0.type = 3 ∧ f1.type = 3 ∧ f0.offset = 0 ∧ f1.offset = 1 := ⟨_, _, Try.underlying23, rfl, rfl, rfl, rfl⟩
theorem tb_cells : Try.prog.cellsOf TB = 2 := by kernel_rfl
section
variable {H : Type} {enc : TypeId × Value → H} {w : World} {base : Nat} {spare : Nat → Bool} {held : Bool}
set_option maxRecDepth 100000
theorem bal_parts {fuel : Nat} {c0 c1 : Value} {x : DataW H × List MemPlace} (h : DataW.trod enc Try.prog w base spare held fuel TB [c0, c1] = some x) :
    ∃ a b : Int, c0 = .int .i64 a ∧ c1 = .int .i64 b := by
  obtain ⟨f0, f1, hu, t0, t1, o0, o1⟩ := tb_struct
  obtain ⟨ys, m, _, rfl, _, hl, hf⟩ := DataW.trod_struct hu h
  have h0 := hf 0 f0 rfl
  have h1 := hf 1 f1 rfl
  have k0 : Try.prog.cellsOf 3 = 1 := by kernel_rfl
  rw [t0, o0, k0] at h0
  rw [t1, o1, k0] at h1
  have hl3 : ys.length = 2 := hl
  match ys, hl3 with
  | [y0, y1], _ =>
    have g0 : DataW.trod enc Try.prog w base spare held m 3 [c0] = some y0 := h0
    have g1 : DataW.trod enc Try.prog w base spare held m 3 [c1] = some y1 := h1
    obtain ⟨n0, e0, _⟩ := DataW.trod_int Try.underlying3 g0
    obtain ⟨n1, e1, _⟩ := DataW.trod_int Try.underlying3 g1
    cases e0; cases e1
    exact ⟨n0, n1, rfl, rfl⟩
theorem bal_open {r : Reach} {b0 : Nat} {v : Value} {d : DataW H} {p : List MemPlace} (hv : Value.okWide Try.prog w r b0 TB v) (h : DataW.Trod enc Try.prog w base spare held TB v d p) :
    ∃ a b : Int, v = .agg #[.int .i64 a, .int .i64 b] := by
  obtain ⟨cs, rfl, hsz⟩ := okWide_struct Try.underlying23 hv
  obtain ⟨c0, c1, rfl⟩ : ∃ c0 c1, cs = #[c0, c1] := by
    have hs : cs.size = 2 := hsz.trans tb_cells
    obtain ⟨l⟩ := cs
    have hl : l.length = 2 := hs
    match l, hl with
    | [c0, c1], _ => exact ⟨c0, c1, rfl⟩
  obtain ⟨fuel, hf⟩ := h
  obtain ⟨a, b, rfl, rfl⟩ := bal_parts (show DataW.trod enc Try.prog w base spare held fuel TB [c0, c1] = some (d, _) from hf)
  exact ⟨a, b, rfl⟩
end

end Go.Proofs.Ytffiooclkchoiaa.Prp
