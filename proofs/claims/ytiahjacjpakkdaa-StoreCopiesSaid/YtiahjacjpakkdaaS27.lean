/- Steps of a script as they come in. -/
import Derived.Test.YtiahjacjpakkdaaS26
import Derived.ProofKit
import Derived.OpenShut
import Derived.SizedLaws
import Derived.Stop.Joined
import Derived.ShutString
import Derived.Deep.Slices
import Derived.Deep.Fields
import Derived.ChangeArms
import Derived.ChangeSame
import Derived.Lib.SmallJoins
namespace Go.Proofs.Ytiahjacjpakkdaa.Cnt
open Go.RowKit Go.ChangeShapes Go.WideShapes
set_option linter.unusedVariables false
set_option linter.unusedSimpArgs false
theorem tc_struct : ∃ f0 f1 f2 f3 f4, Try.prog.underlying TC = some (.struct #[f0, f1, f2, f3, f4]) ∧ f0.type = 2 ∧ f1.type = 2 ∧ f2.type = 2 ∧ f3.type = 2 ∧ f4.type = 2 ∧ f0.offset = 0 ∧ f1.offset = 1 ∧ f2.offset = 2 ∧ f3.offset = 3 ∧ f4.offset = 4 := ⟨_, _, _, _, _, Try.underlying23, rfl, rfl, rfl, rfl, rfl, rfl, rfl, rfl, rfl, rfl⟩
theorem tc_cells : Try.prog.cellsOf TC = 5 := by kernel_rfl
section
variable {H : Type} {enc : TypeId × Value → H} {w : World} {base : Nat} {spare : Nat → Bool} {held : Bool}
set_option maxRecDepth 100000
theorem cnt_parts {fuel : Nat} {c0 c1 c2 c3 c4 : Value} {x : DataW H × List MemPlace} (h : DataW.trod enc Try.prog w base spare held fuel TC [c0, c1, c2, c3, c4] = some x) :
    ∃ a b c d e : Int, c0 = .int .i64 a ∧ c1 = .int .i64 b ∧ c2 = .int .i64 c ∧ c3 = .int .i64 d ∧ c4 = .int .i64 e := by
  obtain ⟨f0, f1, f2, f3, f4, hu, t0, t1, t2, t3, t4, o0, o1, o2, o3, o4⟩ := tc_struct
  obtain ⟨ys, m, _, rfl, _, hl, hf⟩ := DataW.trod_struct hu h
  have h0 := hf 0 f0 rfl
  have h1 := hf 1 f1 rfl
  have h2 := hf 2 f2 rfl
  have h3 := hf 3 f3 rfl
  have h4 := hf 4 f4 rfl
  have k0 : Try.prog.cellsOf 2 = 1 := by kernel_rfl
  rw [t0, o0, k0] at h0
  rw [t1, o1, k0] at h1
  rw [t2, o2, k0] at h2
  rw [t3, o3, k0] at h3
  rw [t4, o4, k0] at h4
  have hl5 : ys.length = 5 := hl
  match ys, hl5 with
  | [y0, y1, y2, y3, y4], _ =>
    have g0 : DataW.trod enc Try.prog w base spare held m 2 [c0] = some y0 := h0
    have g1 : DataW.trod enc Try.prog w base spare held m 2 [c1] = some y1 := h1
    have g2 : DataW.trod enc Try.prog w base spare held m 2 [c2] = some y2 := h2
    have g3 : DataW.trod enc Try.prog w base spare held m 2 [c3] = some y3 := h3
    have g4 : DataW.trod enc Try.prog w base spare held m 2 [c4] = some y4 := h4
    obtain ⟨n0, e0, rfl, w0⟩ := DataW.trod_int Try.underlying2 g0
    obtain ⟨n1, e1, rfl, w1⟩ := DataW.trod_int Try.underlying2 g1
    obtain ⟨n2, e2, rfl, w2⟩ := DataW.trod_int Try.underlying2 g2
    obtain ⟨n3, e3, rfl, w3⟩ := DataW.trod_int Try.underlying2 g3
    obtain ⟨n4, e4, rfl, w4⟩ := DataW.trod_int Try.underlying2 g4
    cases e0; cases e1; cases e2; cases e3; cases e4
    exact ⟨n0, n1, n2, n3, n4, rfl, rfl, rfl, rfl, rfl⟩
theorem cnt_open {r : Reach} {b0 : Nat} {v : Value} {d : DataW H} {p : List MemPlace} (hv : Value.okWide Try.prog w r b0 TC v) (h : DataW.Trod enc Try.prog w base spare held TC v d p) :
    ∃ a b c d e : Int, v = cA a b c d e := by
  obtain ⟨cs, rfl, hsz⟩ := okWide_struct Try.underlying23 hv
  obtain ⟨c0, c1, c2, c3, c4, rfl⟩ : ∃ c0 c1 c2 c3 c4, cs = #[c0, c1, c2, c3, c4] := by
    have hs : cs.size = 5 := hsz.trans tc_cells
    obtain ⟨l⟩ := cs
    have hl : l.length = 5 := hs
    match l, hl with
    | [c0, c1, c2, c3, c4], _ => exact ⟨c0, c1, c2, c3, c4, rfl⟩
  obtain ⟨fuel, hf⟩ := h
  obtain ⟨a, b, c, d, e, rfl, rfl, rfl, rfl, rfl⟩ := cnt_parts (show DataW.trod enc Try.prog w base spare held fuel TC [c0, c1, c2, c3, c4] = some (d, _) from hf)
  exact ⟨a, b, c, d, e, rfl⟩
end
end Go.Proofs.Ytiahjacjpakkdaa.Cnt
namespace Go.Proofs.Ytiahjacjpakkdaa.Rng
open Go.RowKit Go.Lib Go.ChangeShapes Go.WideShapes
set_option linter.unusedVariables false
set_option linter.unusedSimpArgs false
theorem tr_struct : ∃ f0 f1, Try.prog.underlying TR = some (.struct #[f0, f1]) ∧ f0.type = 9 ∧ f1.type = 9 ∧ f0.offset = 0 ∧ f1.offset = 1 := ⟨_, _, Try.underlying25, rfl, rfl, rfl, rfl⟩
theorem tr_cells : Try.prog.cellsOf TR = 2 := by kernel_rfl
section
variable {H : Type} {enc : TypeId × Value → H} {w : World} {base : Nat} {spare : Nat → Bool} {held : Bool}
set_option maxRecDepth 100000
theorem rng_parts {fuel : Nat} {c0 c1 : Value} {x : DataW H × List MemPlace} (h : DataW.trod enc Try.prog w base spare held fuel TR [c0, c1] = some x) :
    ∃ r : Rg, c0 = .string (tx r.f) ∧ c1 = .string (tx r.t) := by
  obtain ⟨f0, f1, hu, t0, t1, o0, o1⟩ := tr_struct
  obtain ⟨ys, m, _, rfl, _, hl, hf⟩ := DataW.trod_struct hu h
  have h0 := hf 0 f0 rfl
  have h1 := hf 1 f1 rfl
  have k0 : Try.prog.cellsOf 9 = 1 := by kernel_rfl
  rw [t0, o0, k0] at h0
  rw [t1, o1, k0] at h1
  have hl3 : ys.length = 2 := hl
  match ys, hl3 with
  | [y0, y1], _ =>
    have g0 : DataW.trod enc Try.prog w base spare held m 9 [c0] = some y0 := h0
    have g1 : DataW.trod enc Try.prog w base spare held m 9 [c1] = some y1 := h1
    obtain ⟨n0, e0, _⟩ := DataW.trod_string Try.underlying9 g0
    obtain ⟨n1, e1, _⟩ := DataW.trod_string Try.underlying9 g1
    cases e0; cases e1
    exact ⟨⟨n0.data.toList, n1.data.toList⟩, by rw [tx_of], by rw [tx_of]⟩
theorem rng_open {r : Reach} {b0 : Nat} {v : Value} {d : DataW H} {p : List MemPlace} (hv : Value.okWide Try.prog w r b0 TR v) (h : DataW.Trod enc Try.prog w base spare held TR v d p) :
    ∃ r : Rg, v = .agg #[.string (tx r.f), .string (tx r.t)] := by
  obtain ⟨cs, rfl, hsz⟩ := okWide_struct Try.underlying25 hv
  obtain ⟨c0, c1, rfl⟩ : ∃ c0 c1, cs = #[c0, c1] := by
    have hs : cs.size = 2 := hsz.trans tr_cells
    obtain ⟨l⟩ := cs
    have hl : l.length = 2 := hs
    match l, hl with
    | [c0, c1], _ => exact ⟨c0, c1, rfl⟩
  obtain ⟨fuel, hf⟩ := h
  obtain ⟨r, rfl, rfl⟩ := rng_parts (show DataW.trod enc Try.prog w base spare held fuel TR [c0, c1] = some (d, _) from hf)
  exact ⟨r, rfl⟩
end
end Go.Proofs.Ytiahjacjpakkdaa.Rng
namespace Go.Proofs.Ytiahjacjpakkdaa.Sto
open Go.RowKit Go.Lib Go.ChangeShapes Go.WideShapes
open Cnt (Ct cA OkC quietB appC)
open Rng (tx tx_of nameOk bl)
set_option linter.unusedVariables false
set_option linter.unusedSimpArgs false

abbrev TP : TypeId := 27
abbrev TL : TypeId := 29
theorem tl_slice : Try.prog.underlying TL = some (.slice TP) := Try.underlying29
theorem tp_cells : Try.prog.cellsOf TP = 11 := by kernel_rfl
theorem tp_struct : ∃ f0 f1 f2 f3 f4 f5 : Field, Try.prog.underlying TP = some (.struct #[f0, f1, f2, f3, f4, f5]) ∧ f0.type = 3 ∧ f1.type = 9 ∧ f2.type = 23 ∧ f3.type = 3 ∧ f4.type = 2 ∧ f5.type = 25 ∧ f0.offset = 0 ∧ f1.offset = 1 ∧ f2.offset = 2 ∧ f3.offset = 7 ∧ f4.offset = 8 ∧ f5.offset = 9 :=
  ⟨_, _, _, _, _, _, Try.underlying27, rfl, rfl, rfl, rfl, rfl, rfl, rfl, rfl, rfl, rfl, rfl, rfl⟩
/-- A step: what to do, the key, the counter, the phase, the number, the range. -/
structure Sp where
  d : Int
  k : List UInt8
  c : Ct
  p : Int
  n : Int
  r : Rng.Rg
abbrev sA (s : Sp) : Value := .agg #[.int .i64 s.d, .string (tx s.k), .int .i64 s.c.v, .int .i64 s.c.u, .int .i64 s.c.d, .int .i64 s.c.l, .int .i64 s.c.h, .int .i64 s.p, .int .i64 s.n, .string (tx s.r.f), .string (tx s.r.t)]
/-- The step s in eleven cells. -/
structure Sc (W : World) (b o : Nat) (s : Sp) : Prop where
  c0 : W.cell? ⟨b, o, none⟩ = some (.int .i64 s.d)
  c1 : W.cell? ⟨b, o + 1, none⟩ = some (.string (tx s.k))
  c2 : W.cell? ⟨b, o + 2, none⟩ = some (.int .i64 s.c.v)
  c3 : W.cell? ⟨b, o + 3, none⟩ = some (.int .i64 s.c.u)
  c4 : W.cell? ⟨b, o + 4, none⟩ = some (.int .i64 s.c.d)
  c5 : W.cell? ⟨b, o + 5, none⟩ = some (.int .i64 s.c.l)
  c6 : W.cell? ⟨b, o + 6, none⟩ = some (.int .i64 s.c.h)
  c7 : W.cell? ⟨b, o + 7, none⟩ = some (.int .i64 s.p)
  c8 : W.cell? ⟨b, o + 8, none⟩ = some (.int .i64 s.n)
  c9 : W.cell? ⟨b, o + 9, none⟩ = some (.string (tx s.r.f))
  c10 : W.cell? ⟨b, o + 10, none⟩ = some (.string (tx s.r.t))
/-- The steps of a slice. -/
structure IsSt (w : World) (a : Option Addr) (len cap : Nat) (S : Nat → Sp) : Prop where
  fit : len ≤ cap ∧ cap ≤ 9223372036854775807
  none : a = none → len = 0 ∧ cap = 0
  cell : 0 < len → ∃ b off, a = some ⟨b, off, Option.none⟩ ∧ b < w.heap.size ∧ ∀ i, i < len → Sc w b (off + i * 11) (S i)
theorem Sc.same {W W' : World} {b o : Nat} {s : Sp} (h : Sc W b o s) (hb : W'.heap[b]? = W.heap[b]?) : Sc W' b o s := by
  have e : ∀ o, W'.cell? ⟨b, o, none⟩ = W.cell? ⟨b, o, none⟩ := fun o => cell_same (p := ⟨b, o, none⟩) hb
  exact ⟨(e _).trans h.c0, (e _).trans h.c1, (e _).trans h.c2, (e _).trans h.c3, (e _).trans h.c4, (e _).trans h.c5, (e _).trans h.c6, (e _).trans h.c7, (e _).trans h.c8, (e _).trans h.c9, (e _).trans h.c10⟩
theorem IsSt.later {w w' : World} {a : Option Addr} {len cap : Nat} {S : Nat → Sp} (h : IsSt w a len cap S) (hb : Below w.heap.size w w') : IsSt w' a len cap S :=
  ⟨h.fit, h.none, fun h0 => by
    obtain ⟨b, off, e, hlt, hc⟩ := h.cell h0
    exact ⟨b, off, e, Nat.lt_of_lt_of_le hlt hb.size, fun i hi => (hc i hi).same (hb.block b hlt)⟩⟩
theorem addr_add (b off n : Nat) : (⟨b, off, Option.none⟩ : Addr).add n = ⟨b, off + n, Option.none⟩ := by unfold Addr.add; split <;> simp_all
section
variable {H : Type} {enc : TypeId × Value → H} {w : World} {base : Nat} {spare : Nat → Bool} {held : Bool}
set_option maxRecDepth 100000
theorem st_parts {fuel : Nat} {c0 c1 c2 c3 c4 c5 c6 c7 c8 c9 c10 : Value} {x : DataW H × List MemPlace} (h : DataW.trod enc Try.prog w base spare held fuel TP [c0, c1, c2, c3, c4, c5, c6, c7, c8, c9, c10] = some x) :
    ∃ s : Sp, c0 = .int .i64 s.d ∧ c1 = .string (tx s.k) ∧ c2 = .int .i64 s.c.v ∧ c3 = .int .i64 s.c.u ∧ c4 = .int .i64 s.c.d ∧ c5 = .int .i64 s.c.l ∧ c6 = .int .i64 s.c.h ∧ c7 = .int .i64 s.p ∧ c8 = .int .i64 s.n ∧ c9 = .string (tx s.r.f) ∧ c10 = .string (tx s.r.t) := by
  obtain ⟨f0, f1, f2, f3, f4, f5, hu, t0, t1, t2, t3, t4, t5, o0, o1, o2, o3, o4, o5⟩ := tp_struct
  obtain ⟨ys, m, _, rfl, _, hl, hf⟩ := DataW.trod_struct hu h
  have h0 := hf 0 f0 rfl
  have h1 := hf 1 f1 rfl
  have h2 := hf 2 f2 rfl
  have h3 := hf 3 f3 rfl
  have h4 := hf 4 f4 rfl
  have h5 := hf 5 f5 rfl
  have k0 : Try.prog.cellsOf 3 = 1 := by kernel_rfl
  have k1 : Try.prog.cellsOf 9 = 1 := by kernel_rfl
  have k2 : Try.prog.cellsOf 23 = 5 := by kernel_rfl
  have k4 : Try.prog.cellsOf 2 = 1 := by kernel_rfl
  have k5 : Try.prog.cellsOf 25 = 2 := by kernel_rfl
  rw [t0, o0, k0] at h0
  rw [t1, o1, k1] at h1
  rw [t2, o2, k2] at h2
  rw [t3, o3, k0] at h3
  rw [t4, o4, k4] at h4
  rw [t5, o5, k5] at h5
  have hl6 : ys.length = 6 := hl
  match ys, hl6 with
  | [y0, y1, y2, y3, y4, y5], _ =>
    have g0 : DataW.trod enc Try.prog w base spare held m 3 [c0] = some y0 := h0
    have g1 : DataW.trod enc Try.prog w base spare held m 9 [c1] = some y1 := h1
    have g2 : DataW.trod enc Try.prog w base spare held m 23 [c2, c3, c4, c5, c6] = some y2 := h2
    have g3 : DataW.trod enc Try.prog w base spare held m 3 [c7] = some y3 := h3
    have g4 : DataW.trod enc Try.prog w base spare held m 2 [c8] = some y4 := h4
    have g5 : DataW.trod enc Try.prog w base spare held m 25 [c9, c10] = some y5 := h5
    obtain ⟨n0, e0, rfl, _⟩ := DataW.trod_int Try.underlying3 g0
    obtain ⟨n1, e1, _⟩ := DataW.trod_string Try.underlying9 g1
    obtain ⟨a, b, c, d, e, rfl, rfl, rfl, rfl, rfl⟩ := Cnt.cnt_parts g2
    obtain ⟨n3, e3, rfl, _⟩ := DataW.trod_int Try.underlying3 g3
    obtain ⟨n4, e4, rfl, _⟩ := DataW.trod_int Try.underlying2 g4
    obtain ⟨r, rfl, rfl⟩ := Rng.rng_parts g5
    cases e0; cases e1; cases e3; cases e4
    exact ⟨⟨n0, n1.data.toList, ⟨a, b, c, d, e⟩, n3, n4, r⟩, rfl, by rw [tx_of], rfl, rfl, rfl, rfl, rfl, rfl, rfl, rfl, rfl⟩
theorem st_open {r : Reach} {b0 : Nat} {v : Value} {d : DataW H} {p : List MemPlace} (hv : Value.okWide Try.prog w r b0 TP v) (h : DataW.Trod enc Try.prog w base spare held TP v d p) : ∃ s : Sp, v = sA s := by
  obtain ⟨cs, rfl, hsz⟩ := okWide_struct Try.underlying27 hv
  obtain ⟨c0, c1, c2, c3, c4, c5, c6, c7, c8, c9, c10, rfl⟩ : ∃ c0 c1 c2 c3 c4 c5 c6 c7 c8 c9 c10, cs = #[c0, c1, c2, c3, c4, c5, c6, c7, c8, c9, c10] := by
    have hs : cs.size = 11 := hsz.trans tp_cells
    obtain ⟨l⟩ := cs
    have hl : l.length = 11 := hs
    match l, hl with
    | [c0, c1, c2, c3, c4, c5, c6, c7, c8, c9, c10], _ => exact ⟨c0, c1, c2, c3, c4, c5, c6, c7, c8, c9, c10, rfl⟩
  obtain ⟨fuel, hf⟩ := h
  obtain ⟨s, rfl, rfl, rfl, rfl, rfl, rfl, rfl, rfl, rfl, rfl, rfl⟩ := st_parts (show DataW.trod enc Try.prog w base spare held fuel TP [c0, c1, c2, c3, c4, c5, c6, c7, c8, c9, c10] = some (d, _) from hf)
  exact ⟨s, rfl⟩
theorem sts_open {fuel : Nat} {cs : List Value} {x : DataW H × List MemPlace} (h : DataW.trod enc Try.prog w base spare held fuel TL cs = some x) :
    ∃ a len cap S, cs = [.slice a len cap] ∧ IsSt w a len cap S := by
  rcases Go.Deep.open_slice tl_slice h with ⟨rfl, _⟩ | ⟨⟨b, off, spot⟩, len, cap, m, n, DD, Pl, rfl, _, hl, hm, hmm, rfl, hi⟩
  · exact ⟨none, 0, 0, fun _ => ⟨0, [], ⟨0, 0, 0, 0, 0⟩, 0, 0, ⟨[], []⟩⟩, rfl, ⟨Nat.le_refl _, Nat.zero_le _⟩, (fun _ => ⟨rfl, rfl⟩), (fun h0 => absurd h0 (by omega))⟩
  · have hlm : len ≤ m := by rw [hmm]; split <;> omega
    have hspot : 0 < len → spot = none := by
      intro h0
      obtain ⟨cs', hc, _⟩ := hi 0 (by omega)
      rw [tp_cells] at hc
      obtain ⟨_, hl3, hat⟩ := World.cells?_some hc
      have a0 := hat 0 (by omega)
      rw [List.getElem?_eq_getElem (by omega)] at a0
      simpa [Addr.add] using World.cell?_spot a0
    have hall : ∀ i, ∃ s : Sp, (i < len → spot = none ∧ b < w.heap.size ∧ Sc w b (off + i * 11) s) := by
      intro i
      by_cases hlt : i < len
      · obtain ⟨cs', hc, ht⟩ := hi i (by omega)
        rw [tp_cells] at hc
        obtain ⟨_, hl3, hat⟩ := World.cells?_some hc
        match cs', hl3 with
        | [c0, c1, c2, c3, c4, c5, c6, c7, c8, c9, c10], _ =>
          obtain rfl := hspot (by omega)
          have at_ : ∀ j, j < 11 → w.cell? ⟨b, off + i * 11 + j, none⟩ = [c0, c1, c2, c3, c4, c5, c6, c7, c8, c9, c10][j]? := fun j hj => by
            have := hat j hj
            rwa [addr_add, addr_add] at this
          obtain ⟨s, rfl, rfl, rfl, rfl, rfl, rfl, rfl, rfl, rfl, rfl, rfl⟩ := st_parts ht
          have a0 := at_ 0 (by omega)
          exact ⟨s, fun _ => ⟨rfl, World.block_lt_of_cell? w _ a0, a0, at_ 1 (by omega), at_ 2 (by omega), at_ 3 (by omega), at_ 4 (by omega), at_ 5 (by omega), at_ 6 (by omega), at_ 7 (by omega), at_ 8 (by omega), at_ 9 (by omega), at_ 10 (by omega)⟩⟩
      · exact ⟨⟨0, [], ⟨0, 0, 0, 0, 0⟩, 0, 0, ⟨[], []⟩⟩, fun h => absurd h hlt⟩
    obtain ⟨f, hf⟩ := Classical.axiomOfChoice hall
    have hmx : cap ≤ 9223372036854775807 := hm
    refine ⟨some ⟨b, off, spot⟩, len, cap, f, rfl, ⟨hl, hmx⟩, (fun h => by cases h), fun h0 => ?_⟩
    obtain ⟨rfl, hb, _⟩ := hf 0 h0
    exact ⟨b, off, rfl, hb, fun i hi => (hf i hi).2.2⟩
end
end Go.Proofs.Ytiahjacjpakkdaa.Sto
