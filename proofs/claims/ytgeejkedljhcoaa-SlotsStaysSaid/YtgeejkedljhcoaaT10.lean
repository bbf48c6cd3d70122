/- Bytes, steps and moves as they come in. -/
import Derived.Test.YtgeejkedljhcoaaT09
import Derived.ProofKit
import Derived.OpenShut
import Derived.SizedLaws
import Derived.Stop.Joined
import Derived.ShutString
import Derived.Deep.Slices
import Derived.Deep.Fields
import Derived.ChangeArms
import Derived.ChangeSame
import Derived.Lib.SmallJoins
namespace Go.Proofs.Ytgeejkedljhcoaa.Slt
open Go.RowKit Go.ChangeShapes Go.WideShapes
set_option linter.unusedVariables false
set_option linter.unusedSimpArgs false

/-! Bytes. -/
abbrev TU8 : TypeId := 5
abbrev TU8s : TypeId := 58
theorem tu_slice : Try.prog.underlying TU8s = some (.slice TU8) := Try.underlying58
theorem tu_cells : Try.prog.cellsOf TU8 = 1 := by kernel_rfl
structure IsU (w : World) (a : Option Addr) (len cap : Nat) (S : Nat → Nat) : Prop where
  fit : len ≤ cap ∧ cap ≤ 9223372036854775807
  none : a = none → len = 0 ∧ cap = 0
  cell : 0 < len → ∃ b off, a = some ⟨b, off, Option.none⟩ ∧ b < w.heap.size ∧ ∀ i, i < len → w.cell? ⟨b, off + i, Option.none⟩ = some (.int .u8 (S i : Nat))
  rng : ∀ i, S i ≤ 255
theorem IsU.later {w w' : World} {a : Option Addr} {len cap : Nat} {S : Nat → Nat} (h : IsU w a len cap S) (hb : Below w.heap.size w w') : IsU w' a len cap S :=
  ⟨h.fit, h.none, fun h0 => by
    obtain ⟨b, off, e, hlt, hc⟩ := h.cell h0
    exact ⟨b, off, e, Nat.lt_of_lt_of_le hlt hb.size, fun i hi => (hb.cell (p := ⟨b, _, Option.none⟩) hlt).trans (hc i hi)⟩, h.rng⟩
section
variable {H : Type} {enc : TypeId × Value → H} {w : World} {base : Nat} {spare : Nat → Bool} {held : Bool}
set_option maxRecDepth 100000
theorem u8_one {fuel : Nat} {c0 : Value} {x : DataW H × List MemPlace} (h : DataW.trod enc Try.prog w base spare held fuel TU8 [c0] = some x) : ∃ t : Nat, c0 = .int .u8 (t : Nat) ∧ t ≤ 255 := by
  obtain ⟨n0, e0, rfl, w0⟩ := DataW.trod_int Try.underlying5 h
  have w0 := bounds_u8 w0
  obtain ⟨m0, rfl⟩ := Int.eq_ofNat_of_zero_le w0.1
  cases e0
  exact ⟨m0, rfl, by have := w0.2; omega⟩
theorem u8s_open {fuel : Nat} {cs : List Value} {x : DataW H × List MemPlace} (h : DataW.trod enc Try.prog w base spare held fuel TU8s cs = some x) :
    ∃ a len cap S, cs = [.slice a len cap] ∧ IsU w a len cap S := by
  rcases Go.Deep.open_slice tu_slice h with ⟨rfl, _⟩ | ⟨⟨b, off, spot⟩, len, cap, m, n, DD, Pl, rfl, _, hl, hm, hmm, rfl, hi⟩
  · exact ⟨none, 0, 0, fun _ => 0, rfl, ⟨Nat.le_refl _, Nat.zero_le _⟩, (fun _ => ⟨rfl, rfl⟩), (fun h0 => absurd h0 (by omega)), fun i => by show (0 : Nat) ≤ 255; decide⟩
  · have hlm : len ≤ m := by rw [hmm]; split <;> omega
    have hspot : 0 < len → spot = none := by
      intro h0
      obtain ⟨cs', hc, _⟩ := hi 0 (by omega)
      rw [tu_cells] at hc
      obtain ⟨_, hl3, hat⟩ := World.cells?_some hc
      have a0 := hat 0 (by omega)
      rw [List.getElem?_eq_getElem (by omega)] at a0
      simpa [Addr.add] using World.cell?_spot a0
    have hall : ∀ i, ∃ t : Nat, t ≤ 255 ∧ (i < len → spot = none ∧ b < w.heap.size ∧ w.cell? ⟨b, off + i, none⟩ = some (.int .u8 (t : Nat))) := by
      intro i
      by_cases hlt : i < len
      · obtain ⟨cs', hc, ht⟩ := hi i (by omega)
        rw [tu_cells] at hc
        obtain ⟨_, hl3, hat⟩ := World.cells?_some hc
        match cs', hl3 with
        | [c0], _ =>
          have a0 := hat 0 (by omega)
          obtain rfl := hspot (by omega)
          rw [addr_add, addr_add, Nat.mul_one] at a0
          obtain ⟨t, rfl, hk⟩ := u8_one ht
          exact ⟨t, hk, fun _ => ⟨rfl, World.block_lt_of_cell? w _ a0, a0⟩⟩
      · exact ⟨0, by decide, fun h => absurd h hlt⟩
    obtain ⟨f, hf⟩ := Classical.axiomOfChoice hall
    have hmx : cap ≤ 9223372036854775807 := hm
    refine ⟨some ⟨b, off, spot⟩, len, cap, f, rfl, ⟨hl, hmx⟩, (fun h => by cases h), fun h0 => ?_, fun i => (hf i).1⟩
    obtain ⟨rfl, hb, _⟩ := (hf 0).2 h0
    exact ⟨b, off, rfl, hb, fun i hi => ((hf i).2 hi).2.2⟩
end
/-! Steps. -/
abbrev TP : TypeId := 31
abbrev TPs : TypeId := 22
theorem tp_slice : Try.prog.underlying TPs = some (.slice TP) := Try.underlying22
theorem tp_cells : Try.prog.cellsOf TP = 3 := by kernel_rfl
theorem tp_struct : ∃ f0 f1 f2 : Field, Try.prog.underlying TP = some (.struct #[f0, f1, f2]) ∧ f0.type = 3 ∧ f1.type = 3 ∧ f2.type = 9 ∧ f0.offset = 0 ∧ f1.offset = 1 ∧ f2.offset = 2 :=
  ⟨_, _, _, Try.underlying31, rfl, rfl, rfl, rfl, rfl, rfl⟩
/-- A step: what to do, the slot, the value. -/
structure Sp where
  d : Int
  k : Int
  v : ByteArray
def Sp.wf (s : Sp) : Prop := (Lit.int .i64 s.d).wf = true ∧ (Lit.int .i64 s.k).wf = true ∧ s.v.size ≤ maxLen
structure Sc (W : World) (b o : Nat) (s : Sp) : Prop where
  c0 : W.cell? ⟨b, o, none⟩ = some (.int .i64 s.d)
  c1 : W.cell? ⟨b, o + 1, none⟩ = some (.int .i64 s.k)
  c2 : W.cell? ⟨b, o + 2, none⟩ = some (.string s.v)
structure IsSt (w : World) (a : Option Addr) (len cap : Nat) (S : Nat → Sp) : Prop where
  fit : len ≤ cap ∧ cap ≤ 9223372036854775807
  none : a = none → len = 0 ∧ cap = 0
  cell : 0 < len → ∃ b off, a = some ⟨b, off, Option.none⟩ ∧ b < w.heap.size ∧ ∀ i, i < len → Sc w b (off + i * 3) (S i)
  wf : ∀ i, (S i).wf
theorem Sc.same {W W' : World} {b o : Nat} {s : Sp} (h : Sc W b o s) (hb : W'.heap[b]? = W.heap[b]?) : Sc W' b o s := by
  have e : ∀ o, W'.cell? ⟨b, o, none⟩ = W.cell? ⟨b, o, none⟩ := fun o => World.cell?_of_block (w := W) (a := ⟨b, o, none⟩) hb
  exact ⟨(e _).trans h.c0, (e _).trans h.c1, (e _).trans h.c2⟩
theorem IsSt.later {w w' : World} {a : Option Addr} {len cap : Nat} {S : Nat → Sp} (h : IsSt w a len cap S) (hb : Below w.heap.size w w') : IsSt w' a len cap S :=
  ⟨h.fit, h.none, fun h0 => by
    obtain ⟨b, off, e, hlt, hc⟩ := h.cell h0
    exact ⟨b, off, e, Nat.lt_of_lt_of_le hlt hb.size, fun i hi => (hc i hi).same (hb.block b hlt)⟩, h.wf⟩
section
variable {H : Type} {enc : TypeId × Value → H} {w : World} {base : Nat} {spare : Nat → Bool} {held : Bool}
set_option maxRecDepth 100000
theorem st_parts {fuel : Nat} {c0 c1 c2 : Value} {x : DataW H × List MemPlace} (h : DataW.trod enc Try.prog w base spare held fuel TP [c0, c1, c2] = some x) :
    ∃ s : Sp, s.wf ∧ c0 = .int .i64 s.d ∧ c1 = .int .i64 s.k ∧ c2 = .string s.v := by
  obtain ⟨f0, f1, f2, hu, t0, t1, t2, o0, o1, o2⟩ := tp_struct
  obtain ⟨ys, m, _, rfl, _, hl, hf⟩ := DataW.trod_struct hu h
  have h0 := hf 0 f0 rfl
  have h1 := hf 1 f1 rfl
  have h2 := hf 2 f2 rfl
  have k0 : Try.prog.cellsOf 3 = 1 := by kernel_rfl
  have k1 : Try.prog.cellsOf 9 = 1 := by kernel_rfl
  rw [t0, o0, k0] at h0
  rw [t1, o1, k0] at h1
  rw [t2, o2, k1] at h2
  have hl4 : ys.length = 3 := hl
  match ys, hl4 with
  | [y0, y1, y2], _ =>
    have g0 : DataW.trod enc Try.prog w base spare held m 3 [c0] = some y0 := h0
    have g1 : DataW.trod enc Try.prog w base spare held m 3 [c1] = some y1 := h1
    have g2 : DataW.trod enc Try.prog w base spare held m 9 [c2] = some y2 := h2
    obtain ⟨n0, e0, rfl, w0⟩ := DataW.trod_int Try.underlying3 g0
    obtain ⟨n1, e1, rfl, w1⟩ := DataW.trod_int Try.underlying3 g1
    obtain ⟨n2, e2, rfl, w2⟩ := DataW.trod_string Try.underlying9 g2
    cases e0; cases e1; cases e2
    exact ⟨⟨n0, n1, n2⟩, ⟨w0, w1, w2⟩, rfl, rfl, rfl⟩
theorem sts_open {fuel : Nat} {cs : List Value} {x : DataW H × List MemPlace} (h : DataW.trod enc Try.prog w base spare held fuel TPs cs = some x) :
    ∃ a len cap S, cs = [.slice a len cap] ∧ IsSt w a len cap S := by
  have z : (⟨0, 0, ⟨#[]⟩⟩ : Sp).wf := ⟨by decide, by decide, Nat.zero_le _⟩
  rcases Go.Deep.open_slice tp_slice h with ⟨rfl, _⟩ | ⟨⟨b, off, spot⟩, len, cap, m, n, DD, Pl, rfl, _, hl, hm, hmm, rfl, hi⟩
  · exact ⟨none, 0, 0, fun _ => ⟨0, 0, ⟨#[]⟩⟩, rfl, ⟨Nat.le_refl _, Nat.zero_le _⟩, (fun _ => ⟨rfl, rfl⟩), (fun h0 => absurd h0 (by omega)), fun i => z⟩
  · have hlm : len ≤ m := by rw [hmm]; split <;> omega
    have hspot : 0 < len → spot = none := by
      intro h0
      obtain ⟨cs', hc, _⟩ := hi 0 (by omega)
      rw [tp_cells] at hc
      obtain ⟨_, hl3, hat⟩ := World.cells?_some hc
      have a0 := hat 0 (by omega)
      rw [List.getElem?_eq_getElem (by omega)] at a0
      simpa [Addr.add] using World.cell?_spot a0
    have hall : ∀ i, ∃ s : Sp, s.wf ∧ (i < len → spot = none ∧ b < w.heap.size ∧ Sc w b (off + i * 3) s) := by
      intro i
      by_cases hlt : i < len
      · obtain ⟨cs', hc, ht⟩ := hi i (by omega)
        rw [tp_cells] at hc
        obtain ⟨_, hl3, hat⟩ := World.cells?_some hc
        match cs', hl3 with
        | [c0, c1, c2], _ =>
          obtain rfl := hspot (by omega)
          have a0 := hat 0 (by omega)
          have a1 := hat 1 (by omega)
          have a2 := hat 2 (by omega)
          rw [addr_add, addr_add] at a0 a1 a2
          obtain ⟨s, hw, rfl, rfl, rfl⟩ := st_parts ht
          exact ⟨s, hw, fun _ => ⟨rfl, World.block_lt_of_cell? w _ a0, ⟨a0, a1, a2⟩⟩⟩
      · exact ⟨_, z, fun h => absurd h hlt⟩
    obtain ⟨f, hf⟩ := Classical.axiomOfChoice hall
    have hmx : cap ≤ 9223372036854775807 := hm
    refine ⟨some ⟨b, off, spot⟩, len, cap, f, rfl, ⟨hl, hmx⟩, (fun h => by cases h), fun h0 => ?_, fun i => (hf i).1⟩
    obtain ⟨rfl, hb, _⟩ := (hf 0).2 h0
    exact ⟨b, off, rfl, hb, fun i hi => ((hf i).2 hi).2.2⟩
end

/-! Moves. -/
abbrev TV : TypeId := 51
abbrev TVs : TypeId := 48
theorem tv_slice : Try.prog.underlying TVs = some (.slice TV) := Try.underlying48
theorem tv_cells : Try.prog.cellsOf TV = 3 := by kernel_rfl
theorem tv_struct : ∃ f0 f1 f2 : Field, Try.prog.underlying TV = some (.struct #[f0, f1, f2]) ∧ f0.type = TU8 ∧ f1.type = TU8 ∧ f2.type = TU8 ∧ f0.offset = 0 ∧ f1.offset = 1 ∧ f2.offset = 2 :=
  ⟨_, _, _, Try.underlying51, rfl, rfl, rfl, rfl, rfl, rfl⟩
/-- A move: its kind, its slot, its value. -/
structure Mt where
  k : Nat
  s : Nat
  v : Nat
def Mt.wf (m : Mt) : Prop := m.k ≤ 255 ∧ m.s ≤ 255 ∧ m.v ≤ 255
abbrev mA (m : Mt) : Array Value := #[.int .u8 (m.k : Nat), .int .u8 (m.s : Nat), .int .u8 (m.v : Nat)]
structure Mc (W : World) (b o : Nat) (m : Mt) : Prop where
  c0 : W.cell? ⟨b, o, none⟩ = some (.int .u8 (m.k : Nat))
  c1 : W.cell? ⟨b, o + 1, none⟩ = some (.int .u8 (m.s : Nat))
  c2 : W.cell? ⟨b, o + 2, none⟩ = some (.int .u8 (m.v : Nat))
structure IsMt (w : World) (a : Option Addr) (len cap : Nat) (S : Nat → Mt) : Prop where
  fit : len ≤ cap ∧ cap ≤ 9223372036854775807
  none : a = none → len = 0 ∧ cap = 0
  cell : 0 < len → ∃ b off, a = some ⟨b, off, Option.none⟩ ∧ b < w.heap.size ∧ ∀ i, i < len → Mc w b (off + i * 3) (S i)
  wf : ∀ i, (S i).wf
theorem Mc.same {W W' : World} {b o : Nat} {s : Mt} (h : Mc W b o s) (hb : W'.heap[b]? = W.heap[b]?) : Mc W' b o s := by
  have e : ∀ o, W'.cell? ⟨b, o, none⟩ = W.cell? ⟨b, o, none⟩ := fun o => World.cell?_of_block (w := W) (a := ⟨b, o, none⟩) hb
  exact ⟨(e _).trans h.c0, (e _).trans h.c1, (e _).trans h.c2⟩
theorem IsMt.later {w w' : World} {a : Option Addr} {len cap : Nat} {S : Nat → Mt} (h : IsMt w a len cap S) (hb : Below w.heap.size w w') : IsMt w' a len cap S :=
  ⟨h.fit, h.none, fun h0 => by
    obtain ⟨b, off, e, hlt, hc⟩ := h.cell h0
    exact ⟨b, off, e, Nat.lt_of_lt_of_le hlt hb.size, fun i hi => (hc i hi).same (hb.block b hlt)⟩, h.wf⟩
theorem IsMt.at {w W : World} {a : Option Addr} {len cap : Nat} {S : Nat → Mt} (h : IsMt w a len cap S) (hb : Below w.heap.size w W) {i : Nat} (hi : i < len) : ∃ b off, a = some ⟨b, off, Option.none⟩ ∧ b < w.heap.size ∧ Mc W b (off + i * 3) (S i) := by
  obtain ⟨b, off, rfl, hlt, hc⟩ := h.cell (by omega)
  exact ⟨b, off, rfl, hlt, (hc i hi).same (hb.block b hlt)⟩
theorem IsSt.at {w W : World} {a : Option Addr} {len cap : Nat} {S : Nat → Sp} (h : IsSt w a len cap S) (hb : Below w.heap.size w W) {i : Nat} (hi : i < len) : ∃ b off, a = some ⟨b, off, Option.none⟩ ∧ b < w.heap.size ∧ Sc W b (off + i * 3) (S i) := by
  obtain ⟨b, off, rfl, hlt, hc⟩ := h.cell (by omega)
  exact ⟨b, off, rfl, hlt, (hc i hi).same (hb.block b hlt)⟩
theorem IsU.at {w W : World} {a : Option Addr} {len cap : Nat} {S : Nat → Nat} (h : IsU w a len cap S) (hb : Below w.heap.size w W) {i : Nat} (hi : i < len) : ∃ b off, a = some ⟨b, off, Option.none⟩ ∧ b < w.heap.size ∧ W.cell? ⟨b, off + i, Option.none⟩ = some (.int .u8 (S i : Nat)) := by
  obtain ⟨b, off, rfl, hlt, hc⟩ := h.cell (by omega)
  exact ⟨b, off, rfl, hlt, (hb.cell (p := ⟨b, _, Option.none⟩) hlt).trans (hc i hi)⟩
section
variable {H : Type} {enc : TypeId × Value → H} {w : World} {base : Nat} {spare : Nat → Bool} {held : Bool}
set_option maxRecDepth 100000
theorem mt_parts {fuel : Nat} {c0 c1 c2 : Value} {x : DataW H × List MemPlace} (h : DataW.trod enc Try.prog w base spare held fuel TV [c0, c1, c2] = some x) :
    ∃ s : Mt, s.wf ∧ c0 = .int .u8 (s.k : Nat) ∧ c1 = .int .u8 (s.s : Nat) ∧ c2 = .int .u8 (s.v : Nat) := by
  obtain ⟨f0, f1, f2, hu, t0, t1, t2, o0, o1, o2⟩ := tv_struct
  obtain ⟨ys, m, _, rfl, _, hl, hf⟩ := DataW.trod_struct hu h
  have h0 := hf 0 f0 rfl
  have h1 := hf 1 f1 rfl
  have h2 := hf 2 f2 rfl
  have k0 : Try.prog.cellsOf TU8 = 1 := by kernel_rfl
  rw [t0, o0, k0] at h0
  rw [t1, o1, k0] at h1
  rw [t2, o2, k0] at h2
  have hl4 : ys.length = 3 := hl
  match ys, hl4 with
  | [y0, y1, y2], _ =>
    have g0 : DataW.trod enc Try.prog w base spare held m TU8 [c0] = some y0 := h0
    have g1 : DataW.trod enc Try.prog w base spare held m TU8 [c1] = some y1 := h1
    have g2 : DataW.trod enc Try.prog w base spare held m TU8 [c2] = some y2 := h2
    obtain ⟨n0, rfl, w0⟩ := u8_one g0
    obtain ⟨n1, rfl, w1⟩ := u8_one g1
    obtain ⟨n2, rfl, w2⟩ := u8_one g2
    exact ⟨⟨n0, n1, n2⟩, ⟨w0, w1, w2⟩, rfl, rfl, rfl⟩
theorem mt_open {r : Reach} {b0 : Nat} {v : Value} {d : DataW H} {p : List MemPlace} (hv : Value.okWide Try.prog w r b0 TV v) (h : DataW.Trod enc Try.prog w base spare held TV v d p) : ∃ s : Mt, v = .agg (mA s) ∧ s.wf := by
  obtain ⟨cs, rfl, hsz⟩ := okWide_struct Try.underlying51 hv
  obtain ⟨c0, c1, c2, rfl⟩ : ∃ c0 c1 c2, cs = #[c0, c1, c2] := by
    have hs : cs.size = 3 := hsz.trans tv_cells
    obtain ⟨l⟩ := cs
    have hl : l.length = 3 := hs
    match l, hl with
    | [c0, c1, c2], _ => exact ⟨c0, c1, c2, rfl⟩
  obtain ⟨fuel, hf⟩ := h
  obtain ⟨s, hw, rfl, rfl, rfl⟩ := mt_parts (show DataW.trod enc Try.prog w base spare held fuel TV [c0, c1, c2] = some (d, _) from hf)
  exact ⟨s, rfl, hw⟩
theorem mts_open {fuel : Nat} {cs : List Value} {x : DataW H × List MemPlace} (h : DataW.trod enc Try.prog w base spare held fuel TVs cs = some x) :
    ∃ a len cap S, cs = [.slice a len cap] ∧ IsMt w a len cap S := by
  have z : (⟨0, 0, 0⟩ : Mt).wf := ⟨by decide, by decide, by decide⟩
  rcases Go.Deep.open_slice tv_slice h with ⟨rfl, _⟩ | ⟨⟨b, off, spot⟩, len, cap, m, n, DD, Pl, rfl, _, hl, hm, hmm, rfl, hi⟩
  · exact ⟨none, 0, 0, fun _ => ⟨0, 0, 0⟩, rfl, ⟨Nat.le_refl _, Nat.zero_le _⟩, (fun _ => ⟨rfl, rfl⟩), (fun h0 => absurd h0 (by omega)), fun i => z⟩
  · have hlm : len ≤ m := by rw [hmm]; split <;> omega
    have hspot : 0 < len → spot = none := by
      intro h0
      obtain ⟨cs', hc, _⟩ := hi 0 (by omega)
      rw [tv_cells] at hc
      obtain ⟨_, hl3, hat⟩ := World.cells?_some hc
      have a0 := hat 0 (by omega)
      rw [List.getElem?_eq_getElem (by omega)] at a0
      simpa [Addr.add] using World.cell?_spot a0
    have hall : ∀ i, ∃ s : Mt, s.wf ∧ (i < len → spot = none ∧ b < w.heap.size ∧ Mc w b (off + i * 3) s) := by
      intro i
      by_cases hlt : i < len
      · obtain ⟨cs', hc, ht⟩ := hi i (by omega)
        rw [tv_cells] at hc
        obtain ⟨_, hl3, hat⟩ := World.cells?_some hc
        match cs', hl3 with
        | [c0, c1, c2], _ =>
          obtain rfl := hspot (by omega)
          have a0 := hat 0 (by omega)
          have a1 := hat 1 (by omega)
          have a2 := hat 2 (by omega)
          rw [addr_add, addr_add] at a0 a1 a2
          obtain ⟨s, hw, rfl, rfl, rfl⟩ := mt_parts ht
          exact ⟨s, hw, fun _ => ⟨rfl, World.block_lt_of_cell? w _ a0, ⟨a0, a1, a2⟩⟩⟩
      · exact ⟨_, z, fun h => absurd h hlt⟩
    obtain ⟨f, hf⟩ := Classical.axiomOfChoice hall
    have hmx : cap ≤ 9223372036854775807 := hm
    refine ⟨some ⟨b, off, spot⟩, len, cap, f, rfl, ⟨hl, hmx⟩, (fun h => by cases h), fun h0 => ?_, fun i => (hf i).1⟩
    obtain ⟨rfl, hb, _⟩ := (hf 0).2 h0
    exact ⟨b, off, rfl, hb, fun i hi => ((hf i).2 hi).2.2⟩
end
end Go.Proofs.Ytgeejkedljhcoaa.Slt
