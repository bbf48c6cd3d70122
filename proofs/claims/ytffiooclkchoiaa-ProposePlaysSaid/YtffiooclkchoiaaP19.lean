/- Promises as they come in: lists of entries, what a node told. -/
import Derived.Test.YtffiooclkchoiaaP15
namespace Go.Proofs.Ytffiooclkchoiaa.Prp
open Go.RowKit Go.ChangeShapes Go.WideShapes
open Bal (TB)
set_option linter.unusedVariables false
set_option linter.unusedSimpArgs false

def EtW (e : Et) : Prop := (Lit.int .i64 e.s).wf = true ∧ e.v.size ≤ maxLen
abbrev TTd : TypeId := 45
abbrev TTds : TypeId := 24
theorem te_slice : Try.prog.underlying TEs = some (.slice TE) := Try.underlying36
theorem te_cells : Try.prog.cellsOf TE = 4 := by kernel_rfl
theorem te_struct : ∃ f0 f1 f2 : Field, Try.prog.underlying TE = some (.struct #[f0, f1, f2]) ∧ f0.type = 3 ∧ f1.type = TB ∧ f2.type = 9 ∧ f0.offset = 0 ∧ f1.offset = 1 ∧ f2.offset = 3 := ⟨_, _, _, Try.underlying49, rfl, rfl, rfl, rfl, rfl, rfl⟩
theorem td_slice : Try.prog.underlying TTds = some (.slice TTd) := Try.underlying24
theorem td_cells : Try.prog.cellsOf TTd = 3 := by kernel_rfl
theorem td_struct : ∃ f0 f1 f2 : Field, Try.prog.underlying TTd = some (.struct #[f0, f1, f2]) ∧ f0.type = 3 ∧ f1.type = 3 ∧ f2.type = TEs ∧ f0.offset = 0 ∧ f1.offset = 1 ∧ f2.offset = 2 := ⟨_, _, _, Try.underlying45, rfl, rfl, rfl, rfl, rfl, rfl⟩
/-- What a node told: the node, up to where, the list, and the slice that holds it. -/
structure Td where
  k : Int
  u : Int
  L : List Et
  v : Value
def TdW (w : World) (t : Td) : Prop := (Lit.int .i64 t.k).wf = true ∧ (Lit.int .i64 t.u).wf = true ∧ IsE w t.v t.L ∧ (∀ e ∈ t.L, EtW e) ∧ (∃ a c, t.v = .slice a t.L.length c ∧ c ≤ 9223372036854775807)
abbrev tdA (t : Td) : Value := .agg #[.int .i64 t.k, .int .i64 t.u, t.v]
structure IsTd (w : World) (a : Option Addr) (len cap : Nat) (S : Nat → Td) : Prop where
  fit : len ≤ cap ∧ cap ≤ 9223372036854775807
  none : a = none → len = 0 ∧ cap = 0
  cell : 0 < len → ∃ b off, a = some ⟨b, off, Option.none⟩ ∧ b < w.heap.size ∧ ∀ i, i < len → w.cell? ⟨b, off + i * 3, Option.none⟩ = some (.int .i64 (S i).k) ∧ w.cell? ⟨b, off + i * 3 + 1, Option.none⟩ = some (.int .i64 (S i).u) ∧ w.cell? ⟨b, off + i * 3 + 2, Option.none⟩ = some (S i).v
  wf : ∀ i, TdW w (S i)
theorem TdW.later {w w' : World} {t : Td} (h : TdW w t) (hb : Below w.heap.size w w') : TdW w' t := ⟨h.1, h.2.1, h.2.2.1.later hb, h.2.2.2.1, h.2.2.2.2⟩
theorem IsTd.later {w w' : World} {a : Option Addr} {len cap : Nat} {S : Nat → Td} (h : IsTd w a len cap S) (hb : Below w.heap.size w w') : IsTd w' a len cap S :=
  ⟨h.fit, h.none, fun h0 => by
    obtain ⟨b, off, e, hlt, hc⟩ := h.cell h0
    exact ⟨b, off, e, Nat.lt_of_lt_of_le hlt hb.size, fun i hi => ⟨(hb.cell (p := ⟨b, _, Option.none⟩) hlt).trans (hc i hi).1, (hb.cell (p := ⟨b, _, Option.none⟩) hlt).trans (hc i hi).2.1, (hb.cell (p := ⟨b, _, Option.none⟩) hlt).trans (hc i hi).2.2⟩⟩, fun i => (h.wf i).later hb⟩
section
variable {H : Type} {enc : TypeId × Value → H} {w : World} {base : Nat} {spare : Nat → Bool} {held : Bool}
set_option maxRecDepth 100000
theorem et_parts {fuel : Nat} {c0 c1 c2 c3 : Value} {x : DataW H × List MemPlace} (h : DataW.trod enc Try.prog w base spare held fuel TE [c0, c1, c2, c3] = some x) :
    ∃ e : Et, EtW e ∧ c0 = .int .i64 e.s ∧ c1 = .int .i64 e.r ∧ c2 = .int .i64 e.m ∧ c3 = .string e.v := by
  obtain ⟨f0, f1, f2, hu, t0, t1, t2, o0, o1, o2⟩ := te_struct
  obtain ⟨ys, m, _, rfl, _, hl, hf⟩ := DataW.trod_struct hu h
  have h0 := hf 0 f0 rfl
  have h1 := hf 1 f1 rfl
  have h2 := hf 2 f2 rfl
  have k0 : Try.prog.cellsOf 3 = 1 := by kernel_rfl
  have k1 : Try.prog.cellsOf 9 = 1 := by kernel_rfl
  rw [t0, o0, k0] at h0
  rw [t1, o1, tb_cells] at h1
  rw [t2, o2, k1] at h2
  have hl4 : ys.length = 3 := hl
  match ys, hl4 with
  | [y0, y1, y2], _ =>
    have g0 : DataW.trod enc Try.prog w base spare held m 3 [c0] = some y0 := h0
    have g1 : DataW.trod enc Try.prog w base spare held m TB [c1, c2] = some y1 := h1
    have g2 : DataW.trod enc Try.prog w base spare held m 9 [c3] = some y2 := h2
    obtain ⟨n0, e0, rfl, w0⟩ := DataW.trod_int Try.underlying3 g0
    obtain ⟨a, b, rfl, rfl⟩ := bal_parts g1
    obtain ⟨n3, e3, rfl, w3⟩ := DataW.trod_string Try.underlying9 g2
    cases e0; cases e3
    exact ⟨⟨n0, a, b, n3⟩, ⟨w0, w3⟩, rfl, rfl, rfl, rfl⟩
theorem es_open {fuel : Nat} {cs : List Value} {x : DataW H × List MemPlace} (h : DataW.trod enc Try.prog w base spare held fuel TEs cs = some x) :
    ∃ v L, cs = [v] ∧ IsE w v L ∧ (∀ e ∈ L, EtW e) ∧ ∃ a c, v = .slice a L.length c ∧ c ≤ 9223372036854775807 := by
  have z : EtW zE := ⟨by decide, Nat.zero_le _⟩
  rcases Go.Deep.open_slice te_slice h with ⟨rfl, _⟩ | ⟨⟨b, off, spot⟩, len, cap, m, n, DD, Pl, rfl, _, hl, hm, hmm, rfl, hi⟩
  · exact ⟨_, [], rfl, ⟨none, 0, rfl, fun h => by simp at h⟩, (fun e he => by cases he), none, 0, rfl, Nat.zero_le _⟩
  · have hlm : len ≤ m := by rw [hmm]; split <;> omega
    have hspot : 0 < len → spot = none := by
      intro h0
      obtain ⟨cs', hc, _⟩ := hi 0 (by omega)
      rw [te_cells] at hc
      obtain ⟨_, hl3, hat⟩ := World.cells?_some hc
      have a0 := hat 0 (by omega)
      rw [List.getElem?_eq_getElem (by omega)] at a0
      simpa [Addr.add] using World.cell?_spot a0
    have hall : ∀ i, ∃ e : Et, EtW e ∧ (i < len → spot = none ∧ b < w.heap.size ∧ w.cell? ⟨b, off + i * 4, none⟩ = some (.int .i64 e.s) ∧ w.cell? ⟨b, off + i * 4 + 1, none⟩ = some (.int .i64 e.r) ∧ w.cell? ⟨b, off + i * 4 + 2, none⟩ = some (.int .i64 e.m) ∧ w.cell? ⟨b, off + i * 4 + 3, none⟩ = some (.string e.v)) := by
      intro i
      by_cases hlt : i < len
      · obtain ⟨cs', hc, ht⟩ := hi i (by omega)
        rw [te_cells] at hc
        obtain ⟨_, hl3, hat⟩ := World.cells?_some hc
        match cs', hl3 with
        | [c0, c1, c2, c3], _ =>
          have a0 := hat 0 (by omega)
          have a1 := hat 1 (by omega)
          have a2 := hat 2 (by omega)
          have a3 := hat 3 (by omega)
          obtain rfl := hspot (by omega)
          rw [addr_add, addr_add] at a0 a1 a2 a3
          obtain ⟨e, he, rfl, rfl, rfl, rfl⟩ := et_parts ht
          exact ⟨e, he, fun _ => ⟨rfl, World.block_lt_of_cell? w _ a0, a0, a1, a2, a3⟩⟩
      · exact ⟨zE, z, fun h => absurd h hlt⟩
    obtain ⟨f, hf⟩ := Classical.axiomOfChoice hall
    have hmx : cap ≤ 9223372036854775807 := hm
    have hlen : ((List.range len).map f).length = len := by simp
    refine ⟨_, (List.range len).map f, rfl, ⟨some ⟨b, off, spot⟩, cap, by rw [hlen], fun h0 => ?_⟩, fun e he => ?_, some ⟨b, off, spot⟩, cap, by rw [hlen], hmx⟩
    · rw [hlen] at h0
      obtain ⟨rfl, hb, _⟩ := (hf 0).2 h0
      refine ⟨b, off, rfl, hb, fun i e he => ?_⟩
      have hil : i < len := by
        have := (List.getElem?_eq_some_iff.1 he).1
        rwa [hlen] at this
      have he2 : e = f i := by
        rw [List.getElem?_map, List.getElem?_range hil] at he
        exact (Option.some.inj he).symm
      subst he2
      exact ((hf i).2 hil).2.2
    · obtain ⟨i, _, rfl⟩ := List.mem_map.1 he
      exact (hf i).1
theorem td_parts {fuel : Nat} {c0 c1 c2 : Value} {x : DataW H × List MemPlace} (h : DataW.trod enc Try.prog w base spare held fuel TTd [c0, c1, c2] = some x) :
    ∃ t : Td, TdW w t ∧ c0 = .int .i64 t.k ∧ c1 = .int .i64 t.u ∧ c2 = t.v := by
  obtain ⟨f0, f1, f2, hu, t0, t1, t2, o0, o1, o2⟩ := td_struct
  obtain ⟨ys, m, _, rfl, _, hl, hf⟩ := DataW.trod_struct hu h
  have h0 := hf 0 f0 rfl
  have h1 := hf 1 f1 rfl
  have h2 := hf 2 f2 rfl
  have k0 : Try.prog.cellsOf 3 = 1 := by kernel_rfl
  have k1 : Try.prog.cellsOf TEs = 1 := by kernel_rfl
  rw [t0, o0, k0] at h0
  rw [t1, o1, k0] at h1
  rw [t2, o2, k1] at h2
  have hl4 : ys.length = 3 := hl
  match ys, hl4 with
  | [y0, y1, y2], _ =>
    have g0 : DataW.trod enc Try.prog w base spare held m 3 [c0] = some y0 := h0
    have g1 : DataW.trod enc Try.prog w base spare held m 3 [c1] = some y1 := h1
    have g2 : DataW.trod enc Try.prog w base spare held m TEs [c2] = some y2 := h2
    obtain ⟨n0, e0, rfl, w0⟩ := DataW.trod_int Try.underlying3 g0
    obtain ⟨n1, e1, rfl, w1⟩ := DataW.trod_int Try.underlying3 g1
    obtain ⟨v, L, hv, hL, hE, hc⟩ := es_open g2
    cases e0; cases e1; cases hv
    exact ⟨⟨n0, n1, L, c2⟩, ⟨w0, w1, hL, hE, hc⟩, rfl, rfl, rfl⟩
theorem td_open {r : Reach} {b0 : Nat} {v : Value} {d : DataW H} {p : List MemPlace} (hv : Value.okWide Try.prog w r b0 TTd v) (h : DataW.Trod enc Try.prog w base spare held TTd v d p) : ∃ t : Td, v = tdA t ∧ TdW w t := by
  obtain ⟨cs, rfl, hsz⟩ := okWide_struct Try.underlying45 hv
  obtain ⟨c0, c1, c2, rfl⟩ : ∃ c0 c1 c2, cs = #[c0, c1, c2] := by
    have hs : cs.size = 3 := hsz.trans td_cells
    obtain ⟨l⟩ := cs
    have hl : l.length = 3 := hs
    match l, hl with
    | [c0, c1, c2], _ => exact ⟨c0, c1, c2, rfl⟩
  obtain ⟨fuel, hf⟩ := h
  obtain ⟨t, hw, rfl, rfl, rfl⟩ := td_parts (show DataW.trod enc Try.prog w base spare held fuel TTd [c0, c1, c2] = some (d, _) from hf)
  exact ⟨t, rfl, hw⟩
theorem tds_open {fuel : Nat} {cs : List Value} {x : DataW H × List MemPlace} (h : DataW.trod enc Try.prog w base spare held fuel TTds cs = some x) :
    ∃ a len cap S, cs = [.slice a len cap] ∧ IsTd w a len cap S := by
  have z : TdW w ⟨0, 0, [], .slice none 0 0⟩ := ⟨by decide, by decide, ⟨none, 0, rfl, fun h => by simp at h⟩, (fun e he => by cases he), none, 0, rfl, Nat.zero_le _⟩
  rcases Go.Deep.open_slice td_slice h with ⟨rfl, _⟩ | ⟨⟨b, off, spot⟩, len, cap, m, n, DD, Pl, rfl, _, hl, hm, hmm, rfl, hi⟩
  · exact ⟨none, 0, 0, fun _ => ⟨0, 0, [], .slice none 0 0⟩, rfl, ⟨Nat.le_refl _, Nat.zero_le _⟩, (fun _ => ⟨rfl, rfl⟩), (fun h0 => absurd h0 (by omega)), fun i => z⟩
  · have hlm : len ≤ m := by rw [hmm]; split <;> omega
    have hspot : 0 < len → spot = none := by
      intro h0
      obtain ⟨cs', hc, _⟩ := hi 0 (by omega)
      rw [td_cells] at hc
      obtain ⟨_, hl3, hat⟩ := World.cells?_some hc
      have a0 := hat 0 (by omega)
      rw [List.getElem?_eq_getElem (by omega)] at a0
      simpa [Addr.add] using World.cell?_spot a0
    have hall : ∀ i, ∃ t : Td, TdW w t ∧ (i < len → spot = none ∧ b < w.heap.size ∧ w.cell? ⟨b, off + i * 3, none⟩ = some (.int .i64 t.k) ∧ w.cell? ⟨b, off + i * 3 + 1, none⟩ = some (.int .i64 t.u) ∧ w.cell? ⟨b, off + i * 3 + 2, none⟩ = some t.v) := by
      intro i
      by_cases hlt : i < len
      · obtain ⟨cs', hc, ht⟩ := hi i (by omega)
        rw [td_cells] at hc
        obtain ⟨_, hl3, hat⟩ := World.cells?_some hc
        match cs', hl3 with
        | [c0, c1, c2], _ =>
          have a0 := hat 0 (by omega)
          have a1 := hat 1 (by omega)
          have a2 := hat 2 (by omega)
          obtain rfl := hspot (by omega)
          rw [addr_add, addr_add] at a0 a1 a2
          obtain ⟨t, he, rfl, rfl, rfl⟩ := td_parts ht
          exact ⟨t, he, fun _ => ⟨rfl, World.block_lt_of_cell? w _ a0, a0, a1, a2⟩⟩
      · exact ⟨_, z, fun h => absurd h hlt⟩
    obtain ⟨f, hf⟩ := Classical.axiomOfChoice hall
    have hmx : cap ≤ 9223372036854775807 := hm
    refine ⟨some ⟨b, off, spot⟩, len, cap, f, rfl, ⟨hl, hmx⟩, (fun h => by cases h), fun h0 => ?_, fun i => (hf i).1⟩
    obtain ⟨rfl, hb, _⟩ := (hf 0).2 h0
    exact ⟨b, off, rfl, hb, fun i hi => ((hf i).2 hi).2.2⟩
end
end Go.Proofs.Ytffiooclkchoiaa.Prp
