/- Bytes, pairs of bytes, steps and ballots as they come in. -/
import Derived.Test.YtaacnhhinhdinaaE11
import Derived.ProofKit
import Derived.OpenShut
import Derived.SizedLaws
import Derived.Stop.Joined
import Derived.ShutString
import Derived.Deep.Slices
import Derived.Deep.Fields
import Derived.ChangeArms
import Derived.ChangeSame
import Derived.Lib.SmallJoins
namespace Go.Proofs.Ytaacnhhinhdinaa.Lrn
open Go.RowKit Go.ChangeShapes Go.WideShapes
open Bal (TB)
set_option linter.unusedVariables false
set_option linter.unusedSimpArgs false

/-! Bytes. -/
abbrev TU8 : TypeId := 5
abbrev TU8s : TypeId := 44
theorem tu_slice : Try.prog.underlying TU8s = some (.slice TU8) := Try.underlying44
theorem tu_cells : Try.prog.cellsOf TU8 = 1 := by kernel_rfl
structure IsU (w : World) (a : Option Addr) (len cap : Nat) (S : Nat → Nat) : Prop where
  fit : len ≤ cap ∧ cap ≤ 9223372036854775807
  none : a = none → len = 0 ∧ cap = 0
  cell : 0 < len → ∃ b off, a = some ⟨b, off, Option.none⟩ ∧ b < w.heap.size ∧ ∀ i, i < len → w.cell? ⟨b, off + i, Option.none⟩ = some (.int .u8 (S i : Nat))
  rng : ∀ i, S i ≤ 255
theorem IsU.later {w w' : World} {a : Option Addr} {len cap : Nat} {S : Nat → Nat} (h : IsU w a len cap S) (hb : Below w.heap.size w w') : IsU w' a len cap S :=
  ⟨h.fit, h.none, fun h0 => by
    obtain ⟨b, off, e, hlt, hc⟩ := h.cell h0
    exact ⟨b, off, e, Nat.lt_of_lt_of_le hlt hb.size, fun i hi => (hb.cell (p := ⟨b, _, Option.none⟩) hlt).trans (hc i hi)⟩, h.rng⟩
/-! Pairs of bytes. -/
abbrev TB2 : TypeId := 56
abbrev TB2s : TypeId := 55
theorem tb2_slice : Try.prog.underlying TB2s = some (.slice TB2) := Try.underlying55
theorem tb2_cells : Try.prog.cellsOf TB2 = 2 := by kernel_rfl
structure B2 where
  x : Nat
  y : Nat
structure IsB2 (w : World) (a : Option Addr) (len cap : Nat) (S : Nat → B2) : Prop where
  fit : len ≤ cap ∧ cap ≤ 9223372036854775807
  none : a = none → len = 0 ∧ cap = 0
  cell : 0 < len → ∃ b off, a = some ⟨b, off, Option.none⟩ ∧ b < w.heap.size ∧ ∀ i, i < len → w.cell? ⟨b, off + i * 2, Option.none⟩ = some (.int .u8 ((S i).x : Nat)) ∧ w.cell? ⟨b, off + i * 2 + 1, Option.none⟩ = some (.int .u8 ((S i).y : Nat))
  rng : ∀ i, (S i).x ≤ 255 ∧ (S i).y ≤ 255
theorem IsB2.later {w w' : World} {a : Option Addr} {len cap : Nat} {S : Nat → B2} (h : IsB2 w a len cap S) (hb : Below w.heap.size w w') : IsB2 w' a len cap S :=
  ⟨h.fit, h.none, fun h0 => by
    obtain ⟨b, off, e, hlt, hc⟩ := h.cell h0
    exact ⟨b, off, e, Nat.lt_of_lt_of_le hlt hb.size, fun i hi => ⟨(hb.cell (p := ⟨b, _, Option.none⟩) hlt).trans (hc i hi).1, (hb.cell (p := ⟨b, _, Option.none⟩) hlt).trans (hc i hi).2⟩⟩, h.rng⟩
section
variable {H : Type} {enc : TypeId × Value → H} {w : World} {base : Nat} {spare : Nat → Bool} {held : Bool}
set_option maxRecDepth 100000
theorem u8_one {fuel : Nat} {c0 : Value} {x : DataW H × List MemPlace} (h : DataW.trod enc Try.prog w base spare held fuel TU8 [c0] = some x) : ∃ t : Nat, c0 = .int .u8 (t : Nat) ∧ t ≤ 255 := by
  obtain ⟨n0, e0, rfl, w0⟩ := DataW.trod_int Try.underlying5 h
  have w0 := bounds_u8 w0
  obtain ⟨m0, rfl⟩ := Int.eq_ofNat_of_zero_le w0.1
  cases e0
  exact ⟨m0, rfl, by have := w0.2; omega⟩
theorem u8s_open {fuel : Nat} {cs : List Value} {x : DataW H × List MemPlace} (h : DataW.trod enc Try.prog w base spare held fuel TU8s cs = some x) :
    ∃ a len cap S, cs = [.slice a len cap] ∧ IsU w a len cap S := by
  rcases Go.Deep.open_slice tu_slice h with ⟨rfl, _⟩ | ⟨⟨b, off, spot⟩, len, cap, m, n, DD, Pl, rfl, _, hl, hm, hmm, rfl, hi⟩
  · exact ⟨none, 0, 0, fun _ => 0, rfl, ⟨Nat.le_refl _, Nat.zero_le _⟩, (fun _ => ⟨rfl, rfl⟩), (fun h0 => absurd h0 (by omega)), fun i => by show (0 : Nat) ≤ 255; decide⟩
  · have hlm : len ≤ m := by rw [hmm]; split <;> omega
    have hspot : 0 < len → spot = none := by
      intro h0
      obtain ⟨cs', hc, _⟩ := hi 0 (by omega)
      rw [tu_cells] at hc
      obtain ⟨_, hl3, hat⟩ := World.cells?_some hc
      have a0 := hat 0 (by omega)
      rw [List.getElem?_eq_getElem (by omega)] at a0
      simpa [Addr.add] using World.cell?_spot a0
    have hall : ∀ i, ∃ t : Nat, t ≤ 255 ∧ (i < len → spot = none ∧ b < w.heap.size ∧ w.cell? ⟨b, off + i, none⟩ = some (.int .u8 (t : Nat))) := by
      intro i
      by_cases hlt : i < len
      · obtain ⟨cs', hc, ht⟩ := hi i (by omega)
        rw [tu_cells] at hc
        obtain ⟨_, hl3, hat⟩ := World.cells?_some hc
        match cs', hl3 with
        | [c0], _ =>
          have a0 := hat 0 (by omega)
          obtain rfl := hspot (by omega)
          rw [addr_add, addr_add, Nat.mul_one] at a0
          obtain ⟨t, rfl, hk⟩ := u8_one ht
          exact ⟨t, hk, fun _ => ⟨rfl, World.block_lt_of_cell? w _ a0, a0⟩⟩
      · exact ⟨0, by decide, fun h => absurd h hlt⟩
    obtain ⟨f, hf⟩ := Classical.axiomOfChoice hall
    have hmx : cap ≤ 9223372036854775807 := hm
    refine ⟨some ⟨b, off, spot⟩, len, cap, f, rfl, ⟨hl, hmx⟩, (fun h => by cases h), fun h0 => ?_, fun i => (hf i).1⟩
    obtain ⟨rfl, hb, _⟩ := (hf 0).2 h0
    exact ⟨b, off, rfl, hb, fun i hi => ((hf i).2 hi).2.2⟩
theorem b2_parts {fuel : Nat} {c0 c1 : Value} {x : DataW H × List MemPlace} (h : DataW.trod enc Try.prog w base spare held fuel TB2 [c0, c1] = some x) :
    ∃ t : B2, c0 = .int .u8 (t.x : Nat) ∧ c1 = .int .u8 (t.y : Nat) ∧ t.x ≤ 255 ∧ t.y ≤ 255 := by
  obtain ⟨ys, m, _, rfl, _, hl, hf⟩ := DataW.trod_array (n := 2) Try.underlying56 h
  have h0 := hf 0 (by omega)
  have h1 := hf 1 (by omega)
  have k0 : Try.prog.cellsOf 5 = 1 := by kernel_rfl
  rw [k0] at h0 h1
  match ys, hl with
  | [y0, y1], _ =>
    have g0 : DataW.trod enc Try.prog w base spare held m TU8 [c0] = some y0 := h0
    have g1 : DataW.trod enc Try.prog w base spare held m TU8 [c1] = some y1 := h1
    obtain ⟨t0, rfl, w0⟩ := u8_one g0
    obtain ⟨t1, rfl, w1⟩ := u8_one g1
    exact ⟨⟨t0, t1⟩, rfl, rfl, w0, w1⟩
theorem b2s_open {fuel : Nat} {cs : List Value} {x : DataW H × List MemPlace} (h : DataW.trod enc Try.prog w base spare held fuel TB2s cs = some x) :
    ∃ a len cap S, cs = [.slice a len cap] ∧ IsB2 w a len cap S := by
  rcases Go.Deep.open_slice tb2_slice h with ⟨rfl, _⟩ | ⟨⟨b, off, spot⟩, len, cap, m, n, DD, Pl, rfl, _, hl, hm, hmm, rfl, hi⟩
  · exact ⟨none, 0, 0, fun _ => ⟨0, 0⟩, rfl, ⟨Nat.le_refl _, Nat.zero_le _⟩, (fun _ => ⟨rfl, rfl⟩), (fun h0 => absurd h0 (by omega)), fun i => ⟨by decide, by decide⟩⟩
  · have hlm : len ≤ m := by rw [hmm]; split <;> omega
    have hspot : 0 < len → spot = none := by
      intro h0
      obtain ⟨cs', hc, _⟩ := hi 0 (by omega)
      rw [tb2_cells] at hc
      obtain ⟨_, hl3, hat⟩ := World.cells?_some hc
      have a0 := hat 0 (by omega)
      rw [List.getElem?_eq_getElem (by omega)] at a0
      simpa [Addr.add] using World.cell?_spot a0
    have hall : ∀ i, ∃ t : B2, (t.x ≤ 255 ∧ t.y ≤ 255) ∧ (i < len → spot = none ∧ b < w.heap.size ∧ w.cell? ⟨b, off + i * 2, none⟩ = some (.int .u8 (t.x : Nat)) ∧ w.cell? ⟨b, off + i * 2 + 1, none⟩ = some (.int .u8 (t.y : Nat))) := by
      intro i
      by_cases hlt : i < len
      · obtain ⟨cs', hc, ht⟩ := hi i (by omega)
        rw [tb2_cells] at hc
        obtain ⟨_, hl3, hat⟩ := World.cells?_some hc
        match cs', hl3 with
        | [c0, c1], _ =>
          have a0 := hat 0 (by omega)
          have a1 := hat 1 (by omega)
          obtain rfl := hspot (by omega)
          rw [addr_add, addr_add] at a0 a1
          obtain ⟨t, rfl, rfl, hk, hd⟩ := b2_parts ht
          exact ⟨t, ⟨hk, hd⟩, fun _ => ⟨rfl, World.block_lt_of_cell? w _ a0, a0, a1⟩⟩
      · exact ⟨⟨0, 0⟩, ⟨by decide, by decide⟩, fun h => absurd h hlt⟩
    obtain ⟨f, hf⟩ := Classical.axiomOfChoice hall
    have hmx : cap ≤ 9223372036854775807 := hm
    refine ⟨some ⟨b, off, spot⟩, len, cap, f, rfl, ⟨hl, hmx⟩, (fun h => by cases h), fun h0 => ?_, fun i => (hf i).1⟩
    obtain ⟨rfl, hb, _⟩ := (hf 0).2 h0
    exact ⟨b, off, rfl, hb, fun i hi => ((hf i).2 hi).2.2⟩
end

/-! Ballots. -/
theorem tb_struct : ∃ f0 f1 : Field, Try.prog.underlying TB = some (.struct #[f0, f1]) ∧ f0.type = 3 ∧ f1.type = 3 ∧ f0.offset = 0 ∧ f1.offset = 1 := ⟨_, _, Try.underlying33, rfl, rfl, rfl, rfl⟩
theorem tb_cells : Try.prog.cellsOf TB = 2 := by kernel_rfl
section
variable {H : Type} {enc : TypeId × Value → H} {w : World} {base : Nat} {spare : Nat → Bool} {held : Bool}
set_option maxRecDepth 100000
theorem bal_parts {fuel : Nat} {c0 c1 : Value} {x : DataW H × List MemPlace} (h : DataW.trod enc Try.prog w base spare held fuel TB [c0, c1] = some x) :
    ∃ a b : Int, c0 = .int .i64 a ∧ c1 = .int .i64 b := by
  obtain ⟨f0, f1, hu, t0, t1, o0, o1⟩ := tb_struct
  obtain ⟨ys, m, _, rfl, _, hl, hf⟩ := DataW.trod_struct hu h
  have h0 := hf 0 f0 rfl
  have h1 := hf 1 f1 rfl
  have k0 : Try.prog.cellsOf 3 = 1 := by kernel_rfl
  rw [t0, o0, k0] at h0
  rw [t1, o1, k0] at h1
  have hl3 : ys.length = 2 := hl
  match ys, hl3 with
  | [y0, y1], _ =>
    have g0 : DataW.trod enc Try.prog w base spare held m 3 [c0] = some y0 := h0
    have g1 : DataW.trod enc Try.prog w base spare held m 3 [c1] = some y1 := h1
    obtain ⟨n0, e0, _⟩ := DataW.trod_int Try.underlying3 g0
    obtain ⟨n1, e1, _⟩ := DataW.trod_int Try.underlying3 g1
    cases e0; cases e1
    exact ⟨n0, n1, rfl, rfl⟩
theorem bal_open {r : Reach} {b0 : Nat} {v : Value} {d : DataW H} {p : List MemPlace} (hv : Value.okWide Try.prog w r b0 TB v) (h : DataW.Trod enc Try.prog w base spare held TB v d p) :
    ∃ a b : Int, v = .agg #[.int .i64 a, .int .i64 b] := by
  obtain ⟨cs, rfl, hsz⟩ := okWide_struct Try.underlying33 hv
  obtain ⟨c0, c1, rfl⟩ : ∃ c0 c1, cs = #[c0, c1] := by
    have hs : cs.size = 2 := hsz.trans tb_cells
    obtain ⟨l⟩ := cs
    have hl : l.length = 2 := hs
    match l, hl with
    | [c0, c1], _ => exact ⟨c0, c1, rfl⟩
  obtain ⟨fuel, hf⟩ := h
  obtain ⟨a, b, rfl, rfl⟩ := bal_parts (show DataW.trod enc Try.prog w base spare held fuel TB [c0, c1] = some (d, _) from hf)
  exact ⟨a, b, rfl⟩
end

/-! Steps. -/
abbrev TP : TypeId := 35
abbrev TPs : TypeId := 22
theorem tp_slice : Try.prog.underlying TPs = some (.slice TP) := Try.underlying22
theorem tp_cells : Try.prog.cellsOf TP = 6 := by kernel_rfl
theorem tp_struct : ∃ f0 f1 f2 f3 f4 : Field, Try.prog.underlying TP = some (.struct #[f0, f1, f2, f3, f4]) ∧ f0.type = 3 ∧ f1.type = 3 ∧ f2.type = 3 ∧ f3.type = TB ∧ f4.type = 9 ∧ f0.offset = 0 ∧ f1.offset = 1 ∧ f2.offset = 2 ∧ f3.offset = 3 ∧ f4.offset = 5 :=
  ⟨_, _, _, _, _, Try.underlying35, rfl, rfl, rfl, rfl, rfl, rfl, rfl, rfl, rfl, rfl⟩
/-- A step: what to do, the node, the slot, the ballot, the value. -/
structure Sp where
  d : Int
  n : Int
  k : Int
  r : Int
  m : Int
  v : ByteArray
def Sp.wf (s : Sp) : Prop := (Lit.int .i64 s.d).wf = true ∧ (Lit.int .i64 s.k).wf = true ∧ (Lit.int .i64 s.n).wf = true ∧ s.v.size ≤ maxLen
abbrev sA (s : Sp) : Value := .agg #[.int .i64 s.d, .int .i64 s.n, .int .i64 s.k, .int .i64 s.r, .int .i64 s.m, .string s.v]
structure Sc (W : World) (b o : Nat) (s : Sp) : Prop where
  c0 : W.cell? ⟨b, o, none⟩ = some (.int .i64 s.d)
  c1 : W.cell? ⟨b, o + 1, none⟩ = some (.int .i64 s.n)
  c2 : W.cell? ⟨b, o + 2, none⟩ = some (.int .i64 s.k)
  c3 : W.cell? ⟨b, o + 3, none⟩ = some (.int .i64 s.r)
  c4 : W.cell? ⟨b, o + 4, none⟩ = some (.int .i64 s.m)
  c5 : W.cell? ⟨b, o + 5, none⟩ = some (.string s.v)
structure IsSt (w : World) (a : Option Addr) (len cap : Nat) (S : Nat → Sp) : Prop where
  fit : len ≤ cap ∧ cap ≤ 9223372036854775807
  none : a = none → len = 0 ∧ cap = 0
  cell : 0 < len → ∃ b off, a = some ⟨b, off, Option.none⟩ ∧ b < w.heap.size ∧ ∀ i, i < len → Sc w b (off + i * 6) (S i)
  wf : ∀ i, (S i).wf
theorem Sc.same {W W' : World} {b o : Nat} {s : Sp} (h : Sc W b o s) (hb : W'.heap[b]? = W.heap[b]?) : Sc W' b o s := by
  have e : ∀ o, W'.cell? ⟨b, o, none⟩ = W.cell? ⟨b, o, none⟩ := fun o => World.cell?_of_block (w := W) (a := ⟨b, o, none⟩) hb
  exact ⟨(e _).trans h.c0, (e _).trans h.c1, (e _).trans h.c2, (e _).trans h.c3, (e _).trans h.c4, (e _).trans h.c5⟩
theorem IsSt.later {w w' : World} {a : Option Addr} {len cap : Nat} {S : Nat → Sp} (h : IsSt w a len cap S) (hb : Below w.heap.size w w') : IsSt w' a len cap S :=
  ⟨h.fit, h.none, fun h0 => by
    obtain ⟨b, off, e, hlt, hc⟩ := h.cell h0
    exact ⟨b, off, e, Nat.lt_of_lt_of_le hlt hb.size, fun i hi => (hc i hi).same (hb.block b hlt)⟩, h.wf⟩
section
variable {H : Type} {enc : TypeId × Value → H} {w : World} {base : Nat} {spare : Nat → Bool} {held : Bool}
set_option maxRecDepth 100000
theorem st_parts {fuel : Nat} {c0 c1 c2 c3 c4 c5 : Value} {x : DataW H × List MemPlace} (h : DataW.trod enc Try.prog w base spare held fuel TP [c0, c1, c2, c3, c4, c5] = some x) :
    ∃ s : Sp, s.wf ∧ c0 = .int .i64 s.d ∧ c1 = .int .i64 s.n ∧ c2 = .int .i64 s.k ∧ c3 = .int .i64 s.r ∧ c4 = .int .i64 s.m ∧ c5 = .string s.v := by
  obtain ⟨f0, f1, f2, f3, f4, hu, t0, t1, t2, t3, t4, o0, o1, o2, o3, o4⟩ := tp_struct
  obtain ⟨ys, m, _, rfl, _, hl, hf⟩ := DataW.trod_struct hu h
  have h0 := hf 0 f0 rfl
  have h1 := hf 1 f1 rfl
  have h2 := hf 2 f2 rfl
  have h3 := hf 3 f3 rfl
  have h4 := hf 4 f4 rfl
  have k0 : Try.prog.cellsOf 3 = 1 := by kernel_rfl
  have k1 : Try.prog.cellsOf 9 = 1 := by kernel_rfl
  rw [t0, o0, k0] at h0
  rw [t1, o1, k0] at h1
  rw [t2, o2, k0] at h2
  rw [t3, o3, tb_cells] at h3
  rw [t4, o4, k1] at h4
  have hl4 : ys.length = 5 := hl
  match ys, hl4 with
  | [y0, y1, y2, y3, y4], _ =>
    have g0 : DataW.trod enc Try.prog w base spare held m 3 [c0] = some y0 := h0
    have g1 : DataW.trod enc Try.prog w base spare held m 3 [c1] = some y1 := h1
    have g2 : DataW.trod enc Try.prog w base spare held m 3 [c2] = some y2 := h2
    have g3 : DataW.trod enc Try.prog w base spare held m TB [c3, c4] = some y3 := h3
    have g4 : DataW.trod enc Try.prog w base spare held m 9 [c5] = some y4 := h4
    obtain ⟨n0, e0, rfl, w0⟩ := DataW.trod_int Try.underlying3 g0
    obtain ⟨n1, e1, rfl, w1⟩ := DataW.trod_int Try.underlying3 g1
    obtain ⟨n2, e2, rfl, w2⟩ := DataW.trod_int Try.underlying3 g2
    obtain ⟨a, b, rfl, rfl⟩ := bal_parts g3
    obtain ⟨n3, e3, rfl, w3⟩ := DataW.trod_string Try.underlying9 g4
    cases e0; cases e1; cases e2; cases e3
    exact ⟨⟨n0, n1, n2, a, b, n3⟩, ⟨w0, w2, w1, w3⟩, rfl, rfl, rfl, rfl, rfl, rfl⟩
theorem st_open {r : Reach} {b0 : Nat} {v : Value} {d : DataW H} {p : List MemPlace} (hv : Value.okWide Try.prog w r b0 TP v) (h : DataW.Trod enc Try.prog w base spare held TP v d p) : ∃ s : Sp, v = sA s ∧ s.wf := by
  obtain ⟨cs, rfl, hsz⟩ := okWide_struct Try.underlying35 hv
  obtain ⟨c0, c1, c2, c3, c4, c5, rfl⟩ : ∃ c0 c1 c2 c3 c4 c5, cs = #[c0, c1, c2, c3, c4, c5] := by
    have hs : cs.size = 6 := hsz.trans tp_cells
    obtain ⟨l⟩ := cs
    have hl : l.length = 6 := hs
    match l, hl with
    | [c0, c1, c2, c3, c4, c5], _ => exact ⟨c0, c1, c2, c3, c4, c5, rfl⟩
  obtain ⟨fuel, hf⟩ := h
  obtain ⟨s, hw, rfl, rfl, rfl, rfl, rfl, rfl⟩ := st_parts (show DataW.trod enc Try.prog w base spare held fuel TP [c0, c1, c2, c3, c4, c5] = some (d, _) from hf)
  exact ⟨s, rfl, hw⟩
theorem sts_open {fuel : Nat} {cs : List Value} {x : DataW H × List MemPlace} (h : DataW.trod enc Try.prog w base spare held fuel TPs cs = some x) :
    ∃ a len cap S, cs = [.slice a len cap] ∧ IsSt w a len cap S := by
  have z : (⟨0, 0, 0, 0, 0, ⟨#[]⟩⟩ : Sp).wf := ⟨by decide, by decide, by decide, Nat.zero_le _⟩
  rcases Go.Deep.open_slice tp_slice h with ⟨rfl, _⟩ | ⟨⟨b, off, spot⟩, len, cap, m, n, DD, Pl, rfl, _, hl, hm, hmm, rfl, hi⟩
  · exact ⟨none, 0, 0, fun _ => ⟨0, 0, 0, 0, 0, ⟨#[]⟩⟩, rfl, ⟨Nat.le_refl _, Nat.zero_le _⟩, (fun _ => ⟨rfl, rfl⟩), (fun h0 => absurd h0 (by omega)), fun i => z⟩
  · have hlm : len ≤ m := by rw [hmm]; split <;> omega
    have hspot : 0 < len → spot = none := by
      intro h0
      obtain ⟨cs', hc, _⟩ := hi 0 (by omega)
      rw [tp_cells] at hc
      obtain ⟨_, hl3, hat⟩ := World.cells?_some hc
      have a0 := hat 0 (by omega)
      rw [List.getElem?_eq_getElem (by omega)] at a0
      simpa [Addr.add] using World.cell?_spot a0
    have hall : ∀ i, ∃ s : Sp, s.wf ∧ (i < len → spot = none ∧ b < w.heap.size ∧ Sc w b (off + i * 6) s) := by
      intro i
      by_cases hlt : i < len
      · obtain ⟨cs', hc, ht⟩ := hi i (by omega)
        rw [tp_cells] at hc
        obtain ⟨_, hl3, hat⟩ := World.cells?_some hc
        match cs', hl3 with
        | [c0, c1, c2, c3, c4, c5], _ =>
          obtain rfl := hspot (by omega)
          have a0 := hat 0 (by omega)
          have a1 := hat 1 (by omega)
          have a2 := hat 2 (by omega)
          have a3 := hat 3 (by omega)
          have a4 := hat 4 (by omega)
          have a5 := hat 5 (by omega)
          rw [addr_add, addr_add] at a0 a1 a2 a3 a4 a5
          obtain ⟨s, hw, rfl, rfl, rfl, rfl, rfl, rfl⟩ := st_parts ht
          exact ⟨s, hw, fun _ => ⟨rfl, World.block_lt_of_cell? w _ a0, ⟨a0, a1, a2, a3, a4, a5⟩⟩⟩
      · exact ⟨_, z, fun h => absurd h hlt⟩
    obtain ⟨f, hf⟩ := Classical.axiomOfChoice hall
    have hmx : cap ≤ 9223372036854775807 := hm
    refine ⟨some ⟨b, off, spot⟩, len, cap, f, rfl, ⟨hl, hmx⟩, (fun h => by cases h), fun h0 => ?_, fun i => (hf i).1⟩
    obtain ⟨rfl, hb, _⟩ := (hf 0).2 h0
    exact ⟨b, off, rfl, hb, fun i hi => ((hf i).2 hi).2.2⟩
end
end Go.Proofs.Ytaacnhhinhdinaa.Lrn
