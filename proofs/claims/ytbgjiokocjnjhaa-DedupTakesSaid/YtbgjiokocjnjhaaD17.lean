/- Effects, ranges and memos as they come in. -/
import Derived.Test.YtbgjiokocjnjhaaD14
import Derived.ProofKit
import Derived.OpenShut
import Derived.SizedLaws
import Derived.ShutString
import Derived.Stop.Joined
import Derived.Deep.Slices
import Derived.Deep.Fields
import Derived.ChangeArms
import Derived.ChangeSame
import Derived.Lib.SmallJoins
namespace Go.Proofs.Ytbgjiokocjnjhaa.Ded
open Go.RowKit Go.Lib Go.ChangeShapes Go.WideShapes
open Rng (tx tx_of)
open Eff (TE)
set_option linter.unusedVariables false
set_option linter.unusedSimpArgs false

theorem te_struct : ∃ f0 f1 f2, Try.prog.underlying TE = some (.struct #[f0, f1, f2]) ∧ f0.type = 3 ∧ f1.type = 3 ∧ f2.type = 3 ∧ f0.offset = 0 ∧ f1.offset = 1 ∧ f2.offset = 2 := ⟨_, _, _, Try.underlying23, rfl, rfl, rfl, rfl, rfl, rfl⟩
theorem te_cells : Try.prog.cellsOf TE = 3 := by kernel_rfl
theorem tg_struct : ∃ f0 f1, Try.prog.underlying TRg = some (.struct #[f0, f1]) ∧ f0.type = 9 ∧ f1.type = 9 ∧ f0.offset = 0 ∧ f1.offset = 1 := ⟨_, _, Try.underlying25, rfl, rfl, rfl, rfl⟩
theorem tg_cells : Try.prog.cellsOf TRg = 2 := by kernel_rfl
abbrev TMm : TypeId := 56
abbrev TMs : TypeId := 50
theorem tms_slice : Try.prog.underlying TMs = some (.slice TMm) := Try.underlying50
theorem tm_cells : Try.prog.cellsOf TMm = 5 := by kernel_rfl
theorem tm_struct : ∃ f0 f1 f2 f3 f4 : Field, Try.prog.underlying TMm = some (.struct #[f0, f1, f2, f3, f4]) ∧ f0.type = 5 ∧ f1.type = 5 ∧ f2.type = 5 ∧ f3.type = 21 ∧ f4.type = 5 ∧ f0.offset = 0 ∧ f1.offset = 1 ∧ f2.offset = 2 ∧ f3.offset = 3 ∧ f4.offset = 4 :=
  ⟨_, _, _, _, _, Try.underlying56, rfl, rfl, rfl, rfl, rfl, rfl, rfl, rfl, rfl, rfl⟩
/-- A memo. -/
structure Mm where
  s : Int
  p : Int
  k : Int
  n : Int
  e : Int
def MmOk (m : Mm) : Prop := (0 ≤ m.s ∧ m.s ≤ 255) ∧ (0 ≤ m.p ∧ m.p ≤ 255) ∧ (0 ≤ m.k ∧ m.k ≤ 255) ∧ (-2147483648 ≤ m.n ∧ m.n ≤ 2147483647) ∧ (0 ≤ m.e ∧ m.e ≤ 255)
abbrev mc (m : Mm) : List Value := [.int .u8 m.s, .int .u8 m.p, .int .u8 m.k, .int .i32 m.n, .int .u8 m.e]
/-- The memos of a slice: what its cells hold. -/
structure IsMm (w : World) (a : Option Addr) (len cap : Nat) (S : Nat → Mm) : Prop where
  fit : len ≤ cap ∧ cap ≤ 9223372036854775807
  none : a = none → len = 0 ∧ cap = 0
  cell : 0 < len → ∃ b off, a = some ⟨b, off, Option.none⟩ ∧ b < w.heap.size ∧ ∀ i, i < len → ∀ j, j < 5 → w.cell? ⟨b, off + i * 5 + j, Option.none⟩ = (mc (S i))[j]?
  rng : ∀ i, MmOk (S i)
theorem IsMm.later {w w' : World} {a : Option Addr} {len cap : Nat} {S : Nat → Mm} (h : IsMm w a len cap S) (hb : Below w.heap.size w w') : IsMm w' a len cap S := by
  refine ⟨h.fit, h.none, fun h0 => ?_, h.rng⟩
  obtain ⟨b, off, e, hlt, hc⟩ := h.cell h0
  have := hb.size
  exact ⟨b, off, e, by omega, fun i hi j hj => (hb.cell (p := ⟨b, off + i * 5 + j, Option.none⟩) hlt).trans (hc i hi j hj)⟩
section
variable {H : Type} {enc : TypeId × Value → H} {w : World} {base : Nat} {spare : Nat → Bool} {held : Bool}
set_option maxRecDepth 100000
theorem eff_parts {fuel : Nat} {c0 c1 c2 : Value} {x : DataW H × List MemPlace} (h : DataW.trod enc Try.prog w base spare held fuel TE [c0, c1, c2] = some x) :
    ∃ a b p : Int, c0 = .int .i64 a ∧ c1 = .int .i64 b ∧ c2 = .int .i64 p := by
  obtain ⟨f0, f1, f2, hu, t0, t1, t2, o0, o1, o2⟩ := te_struct
  obtain ⟨ys, m, _, rfl, _, hl, hf⟩ := DataW.trod_struct hu h
  have h0 := hf 0 f0 rfl
  have h1 := hf 1 f1 rfl
  have h2 := hf 2 f2 rfl
  have k0 : Try.prog.cellsOf 3 = 1 := by kernel_rfl
  rw [t0, o0, k0] at h0
  rw [t1, o1, k0] at h1
  rw [t2, o2, k0] at h2
  have hl3 : ys.length = 3 := hl
  match ys, hl3 with
  | [y0, y1, y2], _ =>
    have g0 : DataW.trod enc Try.prog w base spare held m 3 [c0] = some y0 := h0
    have g1 : DataW.trod enc Try.prog w base spare held m 3 [c1] = some y1 := h1
    have g2 : DataW.trod enc Try.prog w base spare held m 3 [c2] = some y2 := h2
    obtain ⟨n0, e0, rfl, w0⟩ := DataW.trod_int Try.underlying3 g0
    obtain ⟨n1, e1, rfl, w1⟩ := DataW.trod_int Try.underlying3 g1
    obtain ⟨n2, e2, rfl, w2⟩ := DataW.trod_int Try.underlying3 g2
    cases e0; cases e1; cases e2
    exact ⟨n0, n1, n2, rfl, rfl, rfl⟩
theorem eff_open {r : Reach} {b0 : Nat} {v : Value} {d : DataW H} {p : List MemPlace} (hv : Value.okWide Try.prog w r b0 TE v) (h : DataW.Trod enc Try.prog w base spare held TE v d p) : ∃ e : Ef, v = efA e := by
  obtain ⟨cs, rfl, hsz⟩ := okWide_struct Try.underlying23 hv
  obtain ⟨c0, c1, c2, rfl⟩ : ∃ c0 c1 c2, cs = #[c0, c1, c2] := by
    have hs : cs.size = 3 := hsz.trans te_cells
    obtain ⟨l⟩ := cs
    have hl : l.length = 3 := hs
    match l, hl with
    | [c0, c1, c2], _ => exact ⟨c0, c1, c2, rfl⟩
  obtain ⟨fuel, hf⟩ := h
  obtain ⟨a, b, p, rfl, rfl, rfl⟩ := eff_parts (show DataW.trod enc Try.prog w base spare held fuel TE [c0, c1, c2] = some (d, _) from hf)
  exact ⟨⟨a, b, p⟩, rfl⟩
theorem rng_parts {fuel : Nat} {c0 c1 : Value} {x : DataW H × List MemPlace} (h : DataW.trod enc Try.prog w base spare held fuel TRg [c0, c1] = some x) :
    ∃ r : Rng.Rg, c0 = .string (tx r.f) ∧ c1 = .string (tx r.t) := by
  obtain ⟨f0, f1, hu, t0, t1, o0, o1⟩ := tg_struct
  obtain ⟨ys, m, _, rfl, _, hl, hf⟩ := DataW.trod_struct hu h
  have h0 := hf 0 f0 rfl
  have h1 := hf 1 f1 rfl
  have k0 : Try.prog.cellsOf 9 = 1 := by kernel_rfl
  rw [t0, o0, k0] at h0
  rw [t1, o1, k0] at h1
  have hl3 : ys.length = 2 := hl
  match ys, hl3 with
  | [y0, y1], _ =>
    have g0 : DataW.trod enc Try.prog w base spare held m 9 [c0] = some y0 := h0
    have g1 : DataW.trod enc Try.prog w base spare held m 9 [c1] = some y1 := h1
    obtain ⟨n0, e0, _⟩ := DataW.trod_string Try.underlying9 g0
    obtain ⟨n1, e1, _⟩ := DataW.trod_string Try.underlying9 g1
    cases e0; cases e1
    exact ⟨⟨n0.data.toList, n1.data.toList⟩, by rw [tx_of], by rw [tx_of]⟩
theorem rng_open {r : Reach} {b0 : Nat} {v : Value} {d : DataW H} {p : List MemPlace} (hv : Value.okWide Try.prog w r b0 TRg v) (h : DataW.Trod enc Try.prog w base spare held TRg v d p) : ∃ r : Rng.Rg, v = rgA r := by
  obtain ⟨cs, rfl, hsz⟩ := okWide_struct Try.underlying25 hv
  obtain ⟨c0, c1, rfl⟩ : ∃ c0 c1, cs = #[c0, c1] := by
    have hs : cs.size = 2 := hsz.trans tg_cells
    obtain ⟨l⟩ := cs
    have hl : l.length = 2 := hs
    match l, hl with
    | [c0, c1], _ => exact ⟨c0, c1, rfl⟩
  obtain ⟨fuel, hf⟩ := h
  obtain ⟨r, rfl, rfl⟩ := rng_parts (show DataW.trod enc Try.prog w base spare held fuel TRg [c0, c1] = some (d, _) from hf)
  exact ⟨r, rfl⟩
theorem mm_parts {fuel : Nat} {c0 c1 c2 c3 c4 : Value} {x : DataW H × List MemPlace} (h : DataW.trod enc Try.prog w base spare held fuel TMm [c0, c1, c2, c3, c4] = some x) :
    ∃ m : Mm, [c0, c1, c2, c3, c4] = mc m ∧ MmOk m := by
  obtain ⟨f0, f1, f2, f3, f4, hu, t0, t1, t2, t3, t4, o0, o1, o2, o3, o4⟩ := tm_struct
  obtain ⟨ys, m, _, rfl, _, hl, hf⟩ := DataW.trod_struct hu h
  have h0 := hf 0 f0 rfl
  have h1 := hf 1 f1 rfl
  have h2 := hf 2 f2 rfl
  have h3 := hf 3 f3 rfl
  have h4 := hf 4 f4 rfl
  have k0 : Try.prog.cellsOf 5 = 1 := by kernel_rfl
  have k1 : Try.prog.cellsOf 21 = 1 := by kernel_rfl
  rw [t0, o0, k0] at h0
  rw [t1, o1, k0] at h1
  rw [t2, o2, k0] at h2
  rw [t3, o3, k1] at h3
  rw [t4, o4, k0] at h4
  have hl5 : ys.length = 5 := hl
  match ys, hl5 with
  | [y0, y1, y2, y3, y4], _ =>
    have g0 : DataW.trod enc Try.prog w base spare held m 5 [c0] = some y0 := h0
    have g1 : DataW.trod enc Try.prog w base spare held m 5 [c1] = some y1 := h1
    have g2 : DataW.trod enc Try.prog w base spare held m 5 [c2] = some y2 := h2
    have g3 : DataW.trod enc Try.prog w base spare held m 21 [c3] = some y3 := h3
    have g4 : DataW.trod enc Try.prog w base spare held m 5 [c4] = some y4 := h4
    obtain ⟨n0, e0, rfl, w0⟩ := DataW.trod_int Try.underlying5 g0
    obtain ⟨n1, e1, rfl, w1⟩ := DataW.trod_int Try.underlying5 g1
    obtain ⟨n2, e2, rfl, w2⟩ := DataW.trod_int Try.underlying5 g2
    obtain ⟨n3, e3, rfl, w3⟩ := DataW.trod_int Try.underlying21 g3
    obtain ⟨n4, e4, rfl, w4⟩ := DataW.trod_int Try.underlying5 g4
    cases e0; cases e1; cases e2; cases e3; cases e4
    exact ⟨⟨n0, n1, n2, n3, n4⟩, rfl, bounds_u8 w0, bounds_u8 w1, bounds_u8 w2, bounds_i32 w3, bounds_u8 w4⟩
theorem ms_open {fuel : Nat} {cs : List Value} {x : DataW H × List MemPlace} (h : DataW.trod enc Try.prog w base spare held fuel TMs cs = some x) :
    ∃ a len cap S, cs = [.slice a len cap] ∧ IsMm w a len cap S := by
  rcases Go.Deep.open_slice tms_slice h with ⟨rfl, _⟩ | ⟨⟨b, off, spot⟩, len, cap, m, n, DD, Pl, rfl, _, hl, hm, hmm, rfl, hi⟩
  · exact ⟨none, 0, 0, fun _ => ⟨0, 0, 0, 0, 0⟩, rfl, ⟨Nat.le_refl _, Nat.zero_le _⟩, (fun _ => ⟨rfl, rfl⟩), (fun h0 => absurd h0 (by omega)), fun i => by unfold MmOk; decide⟩
  · have hlm : len ≤ m := by rw [hmm]; split <;> omega
    have hspot : 0 < len → spot = none := by
      intro h0
      obtain ⟨cs', hc, _⟩ := hi 0 (by omega)
      rw [tm_cells] at hc
      obtain ⟨_, hl3, hat⟩ := World.cells?_some hc
      have a0 := hat 0 (by omega)
      rw [List.getElem?_eq_getElem (by omega)] at a0
      simpa [Addr.add] using World.cell?_spot a0
    have hall : ∀ i, ∃ v : Mm, MmOk v ∧ (i < len → spot = none ∧ b < w.heap.size ∧ ∀ j, j < 5 → w.cell? ⟨b, off + i * 5 + j, none⟩ = (mc v)[j]?) := by
      intro i
      by_cases hlt : i < len
      · obtain ⟨cs', hc, ht⟩ := hi i (by omega)
        rw [tm_cells] at hc
        obtain ⟨_, hl3, hat⟩ := World.cells?_some hc
        match cs', hl3 with
        | [c0, c1, c2, c3, c4], _ =>
          obtain rfl := hspot (by omega)
          obtain ⟨v, hv, hok⟩ := mm_parts ht
          have hat2 : ∀ j, j < 5 → w.cell? ⟨b, off + i * 5 + j, none⟩ = (mc v)[j]? := fun j hj => by
            have := hat j (by simpa using hj)
            rwa [addr_add, addr_add, hv] at this
          exact ⟨v, hok, fun _ => ⟨rfl, World.block_lt_of_cell? w _ (hat2 0 (by omega)), hat2⟩⟩
      · exact ⟨⟨0, 0, 0, 0, 0⟩, by unfold MmOk; decide, fun h => absurd h hlt⟩
    obtain ⟨f, hf⟩ := Classical.axiomOfChoice hall
    have hmx : cap ≤ 9223372036854775807 := hm
    refine ⟨some ⟨b, off, spot⟩, len, cap, f, rfl, ⟨hl, hmx⟩, (fun h => by cases h), fun h0 => ?_, fun i => (hf i).1⟩
    obtain ⟨rfl, hb, _⟩ := (hf 0).2 h0
    exact ⟨b, off, rfl, hb, fun i hi => ((hf i).2 hi).2.2⟩
end
end Go.Proofs.Ytbgjiokocjnjhaa.Ded
