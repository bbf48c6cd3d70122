/- Turns, steps and ballots as they come in. -/
import Derived.Test.YtpaoaagphacclaaA09
import Derived.ProofKit
import Derived.OpenShut
import Derived.SizedLaws
import Derived.Stop.Joined
import Derived.ShutString
import Derived.Deep.Slices
import Derived.Deep.Fields
import Derived.ChangeArms
import Derived.ChangeSame
import Derived.Lib.SmallJoins
namespace Go.Proofs.Ytpaoaagphacclaa.Acc
open Go.RowKit Go.ChangeShapes Go.WideShapes
open Bal (TB)
set_option linter.unusedVariables false
set_option linter.unusedSimpArgs false

/-! Turns. -/
abbrev TT : TypeId := 63
abbrev TTs : TypeId := 57
theorem tt_slice : Try.prog.underlying TTs = some (.slice TT) := Try.underlying57
theorem tt_cells : Try.prog.cellsOf TT = 3 := by kernel_rfl
theorem tt_struct : ∃ f0 f1 f2 : Field, Try.prog.underlying TT = some (.struct #[f0, f1, f2]) ∧ f0.type = 5 ∧ f1.type = 5 ∧ f2.type = 4 ∧ f0.offset = 0 ∧ f1.offset = 1 ∧ f2.offset = 2 := ⟨_, _, _, Try.underlying63, rfl, rfl, rfl, rfl, rfl, rfl⟩
structure Tn where
  b : Nat
  n : Nat
  p : Bool
structure IsTn (w : World) (a : Option Addr) (len cap : Nat) (S : Nat → Tn) : Prop where
  fit : len ≤ cap ∧ cap ≤ 9223372036854775807
  none : a = none → len = 0 ∧ cap = 0
  cell : 0 < len → ∃ b off, a = some ⟨b, off, Option.none⟩ ∧ b < w.heap.size ∧ ∀ i, i < len → w.cell? ⟨b, off + i * 3, Option.none⟩ = some (.int .u8 ((S i).b : Nat)) ∧ w.cell? ⟨b, off + i * 3 + 1, Option.none⟩ = some (.int .u8 ((S i).n : Nat)) ∧ w.cell? ⟨b, off + i * 3 + 2, Option.none⟩ = some (.bool (S i).p)
  rng : ∀ i, (S i).b ≤ 255 ∧ (S i).n ≤ 255
theorem IsTn.later {w w' : World} {a : Option Addr} {len cap : Nat} {S : Nat → Tn} (h : IsTn w a len cap S) (hb : Below w.heap.size w w') : IsTn w' a len cap S :=
  ⟨h.fit, h.none, fun h0 => by
    obtain ⟨b, off, e, hlt, hc⟩ := h.cell h0
    refine ⟨b, off, e, Nat.lt_of_lt_of_le hlt hb.size, fun i hi => ?_⟩
    obtain ⟨h1, h2, h3⟩ := hc i hi
    exact ⟨(hb.cell (p := ⟨b, _, Option.none⟩) hlt).trans h1, (hb.cell (p := ⟨b, _, Option.none⟩) hlt).trans h2, (hb.cell (p := ⟨b, _, Option.none⟩) hlt).trans h3⟩, h.rng⟩
section
variable {H : Type} {enc : TypeId × Value → H} {w : World} {base : Nat} {spare : Nat → Bool} {held : Bool}
set_option maxRecDepth 100000
theorem tn_parts {fuel : Nat} {c0 c1 c2 : Value} {x : DataW H × List MemPlace} (h : DataW.trod enc Try.prog w base spare held fuel TT [c0, c1, c2] = some x) :
    ∃ t : Tn, c0 = .int .u8 (t.b : Nat) ∧ c1 = .int .u8 (t.n : Nat) ∧ c2 = .bool t.p ∧ t.b ≤ 255 ∧ t.n ≤ 255 := by
  obtain ⟨f0, f1, f2, hu, t0, t1, t2, o0, o1, o2⟩ := tt_struct
  obtain ⟨ys, m, _, rfl, _, hl, hf⟩ := DataW.trod_struct hu h
  have h0 := hf 0 f0 rfl
  have h1 := hf 1 f1 rfl
  have h2 := hf 2 f2 rfl
  have k0 : Try.prog.cellsOf 5 = 1 := by kernel_rfl
  have k1 : Try.prog.cellsOf 4 = 1 := by kernel_rfl
  rw [t0, o0, k0] at h0
  rw [t1, o1, k0] at h1
  rw [t2, o2, k1] at h2
  have hl3 : ys.length = 3 := hl
  match ys, hl3 with
  | [y0, y1, y2], _ =>
    have g0 : DataW.trod enc Try.prog w base spare held m 5 [c0] = some y0 := h0
    have g1 : DataW.trod enc Try.prog w base spare held m 5 [c1] = some y1 := h1
    have g2 : DataW.trod enc Try.prog w base spare held m 4 [c2] = some y2 := h2
    obtain ⟨n0, e0, rfl, w0⟩ := DataW.trod_int Try.underlying5 g0
    obtain ⟨n1, e1, rfl, w1⟩ := DataW.trod_int Try.underlying5 g1
    obtain ⟨n2, e2, rfl⟩ := DataW.trod_bool Try.underlying4 g2
    have w0 := bounds_u8 w0
    have w1 := bounds_u8 w1
    obtain ⟨m0, rfl⟩ := Int.eq_ofNat_of_zero_le w0.1
    obtain ⟨m1, rfl⟩ := Int.eq_ofNat_of_zero_le w1.1
    cases e0; cases e1; cases e2
    exact ⟨⟨m0, m1, n2⟩, rfl, rfl, rfl, by have := w0.2; show m0 ≤ 255; omega, by have := w1.2; show m1 ≤ 255; omega⟩
theorem tns_open {fuel : Nat} {cs : List Value} {x : DataW H × List MemPlace} (h : DataW.trod enc Try.prog w base spare held fuel TTs cs = some x) :
    ∃ a len cap S, cs = [.slice a len cap] ∧ IsTn w a len cap S := by
  rcases Go.Deep.open_slice tt_slice h with ⟨rfl, _⟩ | ⟨⟨b, off, spot⟩, len, cap, m, n, DD, Pl, rfl, _, hl, hm, hmm, rfl, hi⟩
  · exact ⟨none, 0, 0, fun _ => ⟨0, 0, false⟩, rfl, ⟨Nat.le_refl _, Nat.zero_le _⟩, (fun _ => ⟨rfl, rfl⟩), (fun h0 => absurd h0 (by omega)), fun i => ⟨by decide, by decide⟩⟩
  · have hlm : len ≤ m := by rw [hmm]; split <;> omega
    have hspot : 0 < len → spot = none := by
      intro h0
      obtain ⟨cs', hc, _⟩ := hi 0 (by omega)
      rw [tt_cells] at hc
      obtain ⟨_, hl3, hat⟩ := World.cells?_some hc
      have a0 := hat 0 (by omega)
      rw [List.getElem?_eq_getElem (by omega)] at a0
      simpa [Addr.add] using World.cell?_spot a0
    have hall : ∀ i, ∃ t : Tn, (t.b ≤ 255 ∧ t.n ≤ 255) ∧ (i < len → spot = none ∧ b < w.heap.size ∧ w.cell? ⟨b, off + i * 3, none⟩ = some (.int .u8 (t.b : Nat)) ∧ w.cell? ⟨b, off + i * 3 + 1, none⟩ = some (.int .u8 (t.n : Nat)) ∧ w.cell? ⟨b, off + i * 3 + 2, none⟩ = some (.bool t.p)) := by
      intro i
      by_cases hlt : i < len
      · obtain ⟨cs', hc, ht⟩ := hi i (by omega)
        rw [tt_cells] at hc
        obtain ⟨_, hl3, hat⟩ := World.cells?_some hc
        match cs', hl3 with
        | [c0, c1, c2], _ =>
          have a0 := hat 0 (by omega)
          have a1 := hat 1 (by omega)
          have a2 := hat 2 (by omega)
          obtain rfl := hspot (by omega)
          rw [addr_add, addr_add] at a0 a1 a2
          obtain ⟨t, rfl, rfl, rfl, hk, hd⟩ := tn_parts ht
          exact ⟨t, ⟨hk, hd⟩, fun _ => ⟨rfl, World.block_lt_of_cell? w _ a0, a0, a1, a2⟩⟩
      · exact ⟨⟨0, 0, false⟩, ⟨by decide, by decide⟩, fun h => absurd h hlt⟩
    obtain ⟨f, hf⟩ := Classical.axiomOfChoice hall
    have hmx : cap ≤ 9223372036854775807 := hm
    refine ⟨some ⟨b, off, spot⟩, len, cap, f, rfl, ⟨hl, hmx⟩, (fun h => by cases h), fun h0 => ?_, fun i => (hf i).1⟩
    obtain ⟨rfl, hb, _⟩ := (hf 0).2 h0
    exact ⟨b, off, rfl, hb, fun i hi => ((hf i).2 hi).2.2⟩
end

/-! Ballots. -/
theorem tb_struct : ∃ f0 f1 : Field, Try.prog.underlying TB = some (.struct #[f0, f1]) ∧ f0.type = 3 ∧ f1.type = 3 ∧ f0.offset = 0 ∧ f1.offset = 1 := ⟨_, _, Try.underlying33, rfl, rfl, rfl, rfl⟩
theorem tb_cells : Try.prog.cellsOf TB = 2 := by kernel_rfl
section
variable {H : Type} {enc : TypeId × Value → H} {w : World} {base : Nat} {spare : Nat → Bool} {held : Bool}
set_option maxRecDepth 100000
theorem bal_parts {fuel : Nat} {c0 c1 : Value} {x : DataW H × List MemPlace} (h : DataW.trod enc Try.prog w base spare held fuel TB [c0, c1] = some x) :
    ∃ a b : Int, c0 = .int .i64 a ∧ c1 = .int .i64 b := by
  obtain ⟨f0, f1, hu, t0, t1, o0, o1⟩ := tb_struct
  obtain ⟨ys, m, _, rfl, _, hl, hf⟩ := DataW.trod_struct hu h
  have h0 := hf 0 f0 rfl
  have h1 := hf 1 f1 rfl
  have k0 : Try.prog.cellsOf 3 = 1 := by kernel_rfl
  rw [t0, o0, k0] at h0
  rw [t1, o1, k0] at h1
  have hl3 : ys.length = 2 := hl
  match ys, hl3 with
  | [y0, y1], _ =>
    have g0 : DataW.trod enc Try.prog w base spare held m 3 [c0] = some y0 := h0
    have g1 : DataW.trod enc Try.prog w base spare held m 3 [c1] = some y1 := h1
    obtain ⟨n0, e0, _⟩ := DataW.trod_int Try.underlying3 g0
    obtain ⟨n1, e1, _⟩ := DataW.trod_int Try.underlying3 g1
    cases e0; cases e1
    exact ⟨n0, n1, rfl, rfl⟩
theorem bal_open {r : Reach} {b0 : Nat} {v : Value} {d : DataW H} {p : List MemPlace} (hv : Value.okWide Try.prog w r b0 TB v) (h : DataW.Trod enc Try.prog w base spare held TB v d p) :
    ∃ a b : Int, v = .agg #[.int .i64 a, .int .i64 b] := by
  obtain ⟨cs, rfl, hsz⟩ := okWide_struct Try.underlying33 hv
  obtain ⟨c0, c1, rfl⟩ : ∃ c0 c1, cs = #[c0, c1] := by
    have hs : cs.size = 2 := hsz.trans tb_cells
    obtain ⟨l⟩ := cs
    have hl : l.length = 2 := hs
    match l, hl with
    | [c0, c1], _ => exact ⟨c0, c1, rfl⟩
  obtain ⟨fuel, hf⟩ := h
  obtain ⟨a, b, rfl, rfl⟩ := bal_parts (show DataW.trod enc Try.prog w base spare held fuel TB [c0, c1] = some (d, _) from hf)
  exact ⟨a, b, rfl⟩
end

/-! Steps. -/
abbrev TP : TypeId := 35
abbrev TPs : TypeId := 22
theorem tp_slice : Try.prog.underlying TPs = some (.slice TP) := Try.underlying22
theorem tp_cells : Try.prog.cellsOf TP = 5 := by kernel_rfl
theorem tp_struct : ∃ f0 f1 f2 f3 : Field, Try.prog.underlying TP = some (.struct #[f0, f1, f2, f3]) ∧ f0.type = 3 ∧ f1.type = TB ∧ f2.type = 3 ∧ f3.type = 9 ∧ f0.offset = 0 ∧ f1.offset = 1 ∧ f2.offset = 3 ∧ f3.offset = 4 :=
  ⟨_, _, _, _, Try.underlying35, rfl, rfl, rfl, rfl, rfl, rfl, rfl, rfl⟩
/-- A step: what to do, the ballot, the slot, the value. -/
structure Sp where
  d : Int
  r : Int
  m : Int
  k : Int
  v : ByteArray
def Sp.wf (s : Sp) : Prop := (Lit.int .i64 s.d).wf = true ∧ (Lit.int .i64 s.k).wf = true ∧ s.v.size ≤ maxLen
abbrev sA (s : Sp) : Value := .agg #[.int .i64 s.d, .int .i64 s.r, .int .i64 s.m, .int .i64 s.k, .string s.v]
structure Sc (W : World) (b o : Nat) (s : Sp) : Prop where
  c0 : W.cell? ⟨b, o, none⟩ = some (.int .i64 s.d)
  c1 : W.cell? ⟨b, o + 1, none⟩ = some (.int .i64 s.r)
  c2 : W.cell? ⟨b, o + 2, none⟩ = some (.int .i64 s.m)
  c3 : W.cell? ⟨b, o + 3, none⟩ = some (.int .i64 s.k)
  c4 : W.cell? ⟨b, o + 4, none⟩ = some (.string s.v)
structure IsSt (w : World) (a : Option Addr) (len cap : Nat) (S : Nat → Sp) : Prop where
  fit : len ≤ cap ∧ cap ≤ 9223372036854775807
  none : a = none → len = 0 ∧ cap = 0
  cell : 0 < len → ∃ b off, a = some ⟨b, off, Option.none⟩ ∧ b < w.heap.size ∧ ∀ i, i < len → Sc w b (off + i * 5) (S i)
  wf : ∀ i, (S i).wf
theorem Sc.same {W W' : World} {b o : Nat} {s : Sp} (h : Sc W b o s) (hb : W'.heap[b]? = W.heap[b]?) : Sc W' b o s := by
  have e : ∀ o, W'.cell? ⟨b, o, none⟩ = W.cell? ⟨b, o, none⟩ := fun o => World.cell?_of_block (w := W) (a := ⟨b, o, none⟩) hb
  exact ⟨(e _).trans h.c0, (e _).trans h.c1, (e _).trans h.c2, (e _).trans h.c3, (e _).trans h.c4⟩
theorem IsSt.later {w w' : World} {a : Option Addr} {len cap : Nat} {S : Nat → Sp} (h : IsSt w a len cap S) (hb : Below w.heap.size w w') : IsSt w' a len cap S :=
  ⟨h.fit, h.none, fun h0 => by
    obtain ⟨b, off, e, hlt, hc⟩ := h.cell h0
    exact ⟨b, off, e, Nat.lt_of_lt_of_le hlt hb.size, fun i hi => (hc i hi).same (hb.block b hlt)⟩, h.wf⟩
section
variable {H : Type} {enc : TypeId × Value → H} {w : World} {base : Nat} {spare : Nat → Bool} {held : Bool}
set_option maxRecDepth 100000
theorem st_parts {fuel : Nat} {c0 c1 c2 c3 c4 : Value} {x : DataW H × List MemPlace} (h : DataW.trod enc Try.prog w base spare held fuel TP [c0, c1, c2, c3, c4] = some x) :
    ∃ s : Sp, s.wf ∧ c0 = .int .i64 s.d ∧ c1 = .int .i64 s.r ∧ c2 = .int .i64 s.m ∧ c3 = .int .i64 s.k ∧ c4 = .string s.v := by
  obtain ⟨f0, f1, f2, f3, hu, t0, t1, t2, t3, o0, o1, o2, o3⟩ := tp_struct
  obtain ⟨ys, m, _, rfl, _, hl, hf⟩ := DataW.trod_struct hu h
  have h0 := hf 0 f0 rfl
  have h1 := hf 1 f1 rfl
  have h2 := hf 2 f2 rfl
  have h3 := hf 3 f3 rfl
  have k0 : Try.prog.cellsOf 3 = 1 := by kernel_rfl
  have k1 : Try.prog.cellsOf 9 = 1 := by kernel_rfl
  rw [t0, o0, k0] at h0
  rw [t1, o1, tb_cells] at h1
  rw [t2, o2, k0] at h2
  rw [t3, o3, k1] at h3
  have hl4 : ys.length = 4 := hl
  match ys, hl4 with
  | [y0, y1, y2, y3], _ =>
    have g0 : DataW.trod enc Try.prog w base spare held m 3 [c0] = some y0 := h0
    have g1 : DataW.trod enc Try.prog w base spare held m TB [c1, c2] = some y1 := h1
    have g2 : DataW.trod enc Try.prog w base spare held m 3 [c3] = some y2 := h2
    have g3 : DataW.trod enc Try.prog w base spare held m 9 [c4] = some y3 := h3
    obtain ⟨n0, e0, rfl, w0⟩ := DataW.trod_int Try.underlying3 g0
    obtain ⟨a, b, rfl, rfl⟩ := bal_parts g1
    obtain ⟨n2, e2, rfl, w2⟩ := DataW.trod_int Try.underlying3 g2
    obtain ⟨n3, e3, rfl, w3⟩ := DataW.trod_string Try.underlying9 g3
    cases e0; cases e2; cases e3
    exact ⟨⟨n0, a, b, n2, n3⟩, ⟨w0, w2, w3⟩, rfl, rfl, rfl, rfl, rfl⟩
theorem st_open {r : Reach} {b0 : Nat} {v : Value} {d : DataW H} {p : List MemPlace} (hv : Value.okWide Try.prog w r b0 TP v) (h : DataW.Trod enc Try.prog w base spare held TP v d p) : ∃ s : Sp, v = sA s ∧ s.wf := by
  obtain ⟨cs, rfl, hsz⟩ := okWide_struct Try.underlying35 hv
  obtain ⟨c0, c1, c2, c3, c4, rfl⟩ : ∃ c0 c1 c2 c3 c4, cs = #[c0, c1, c2, c3, c4] := by
    have hs : cs.size = 5 := hsz.trans tp_cells
    obtain ⟨l⟩ := cs
    have hl : l.length = 5 := hs
    match l, hl with
    | [c0, c1, c2, c3, c4], _ => exact ⟨c0, c1, c2, c3, c4, rfl⟩
  obtain ⟨fuel, hf⟩ := h
  obtain ⟨s, hw, rfl, rfl, rfl, rfl, rfl⟩ := st_parts (show DataW.trod enc Try.prog w base spare held fuel TP [c0, c1, c2, c3, c4] = some (d, _) from hf)
  exact ⟨s, rfl, hw⟩
theorem sts_open {fuel : Nat} {cs : List Value} {x : DataW H × List MemPlace} (h : DataW.trod enc Try.prog w base spare held fuel TPs cs = some x) :
    ∃ a len cap S, cs = [.slice a len cap] ∧ IsSt w a len cap S := by
  have z : (⟨0, 0, 0, 0, ⟨#[]⟩⟩ : Sp).wf := ⟨by decide, by decide, Nat.zero_le _⟩
  rcases Go.Deep.open_slice tp_slice h with ⟨rfl, _⟩ | ⟨⟨b, off, spot⟩, len, cap, m, n, DD, Pl, rfl, _, hl, hm, hmm, rfl, hi⟩
  · exact ⟨none, 0, 0, fun _ => ⟨0, 0, 0, 0, ⟨#[]⟩⟩, rfl, ⟨Nat.le_refl _, Nat.zero_le _⟩, (fun _ => ⟨rfl, rfl⟩), (fun h0 => absurd h0 (by omega)), fun i => z⟩
  · have hlm : len ≤ m := by rw [hmm]; split <;> omega
    have hspot : 0 < len → spot = none := by
      intro h0
      obtain ⟨cs', hc, _⟩ := hi 0 (by omega)
      rw [tp_cells] at hc
      obtain ⟨_, hl3, hat⟩ := World.cells?_some hc
      have a0 := hat 0 (by omega)
      rw [List.getElem?_eq_getElem (by omega)] at a0
      simpa [Addr.add] using World.cell?_spot a0
    have hall : ∀ i, ∃ s : Sp, s.wf ∧ (i < len → spot = none ∧ b < w.heap.size ∧ Sc w b (off + i * 5) s) := by
      intro i
      by_cases hlt : i < len
      · obtain ⟨cs', hc, ht⟩ := hi i (by omega)
        rw [tp_cells] at hc
        obtain ⟨_, hl3, hat⟩ := World.cells?_some hc
        match cs', hl3 with
        | [c0, c1, c2, c3, c4], _ =>
          obtain rfl := hspot (by omega)
          have a0 := hat 0 (by omega)
          have a1 := hat 1 (by omega)
          have a2 := hat 2 (by omega)
          have a3 := hat 3 (by omega)
          have a4 := hat 4 (by omega)
          rw [addr_add, addr_add] at a0 a1 a2 a3 a4
          obtain ⟨s, hw, rfl, rfl, rfl, rfl, rfl⟩ := st_parts ht
          exact ⟨s, hw, fun _ => ⟨rfl, World.block_lt_of_cell? w _ a0, ⟨a0, a1, a2, a3, a4⟩⟩⟩
      · exact ⟨_, z, fun h => absurd h hlt⟩
    obtain ⟨f, hf⟩ := Classical.axiomOfChoice hall
    have hmx : cap ≤ 9223372036854775807 := hm
    refine ⟨some ⟨b, off, spot⟩, len, cap, f, rfl, ⟨hl, hmx⟩, (fun h => by cases h), fun h0 => ?_, fun i => (hf i).1⟩
    obtain ⟨rfl, hb, _⟩ := (hf 0).2 h0
    exact ⟨b, off, rfl, hb, fun i hi => ((hf i).2 hi).2.2⟩
end
end Go.Proofs.Ytpaoaagphacclaa.Acc
