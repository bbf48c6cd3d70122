/- A counter, or parts, as they come in. -/
import Derived.Test.YtodgnhkaglcjnaaQ07
import Derived.ProofKit
import Derived.OpenShut
import Derived.SizedLaws
import Derived.Stop.Joined
namespace Go.Proofs.Ytodgnhkaglcjnaa.Cnt
open Go.RowKit Go.ChangeShapes Go.WideShapes
set_option linter.unusedVariables false
set_option linter.unusedSimpArgs false

abbrev TP : TypeId := 41
theorem tc_struct : ∃ f0 f1 f2 f3 f4, Try.prog.underlying TC = some (.struct #[f0, f1, f2, f3, f4]) ∧ f0.type = 2 ∧ f1.type = 2 ∧ f2.type = 2 ∧ f3.type = 2 ∧ f4.type = 2 ∧ f0.offset = 0 ∧ f1.offset = 1 ∧ f2.offset = 2 ∧ f3.offset = 3 ∧ f4.offset = 4 := ⟨_, _, _, _, _, Try.underlying23, rfl, rfl, rfl, rfl, rfl, rfl, rfl, rfl, rfl, rfl⟩
theorem tp_struct : ∃ f0 f1 f2 f3 f4, Try.prog.underlying TP = some (.struct #[f0, f1, f2, f3, f4]) ∧ f0.type = 21 ∧ f1.type = 39 ∧ f2.type = 39 ∧ f3.type = 39 ∧ f4.type = 39 ∧ f0.offset = 0 ∧ f1.offset = 1 ∧ f2.offset = 2 ∧ f3.offset = 3 ∧ f4.offset = 4 := ⟨_, _, _, _, _, Try.underlying41, rfl, rfl, rfl, rfl, rfl, rfl, rfl, rfl, rfl, rfl⟩
theorem tc_cells : Try.prog.cellsOf TC = 5 := by kernel_rfl
theorem tp_cells : Try.prog.cellsOf TP = 5 := by kernel_rfl
section
variable {H : Type} {enc : TypeId × Value → H} {w : World} {base : Nat} {spare : Nat → Bool} {held : Bool}
set_option maxRecDepth 100000
theorem cnt_parts {fuel : Nat} {c0 c1 c2 c3 c4 : Value} {x : DataW H × List MemPlace} (h : DataW.trod enc Try.prog w base spare held fuel TC [c0, c1, c2, c3, c4] = some x) :
    ∃ a b c d e : Int, c0 = .int .i64 a ∧ c1 = .int .i64 b ∧ c2 = .int .i64 c ∧ c3 = .int .i64 d ∧ c4 = .int .i64 e := by
  obtain ⟨f0, f1, f2, f3, f4, hu, t0, t1, t2, t3, t4, o0, o1, o2, o3, o4⟩ := tc_struct
  obtain ⟨ys, m, _, rfl, _, hl, hf⟩ := DataW.trod_struct hu h
  have h0 := hf 0 f0 rfl
  have h1 := hf 1 f1 rfl
  have h2 := hf 2 f2 rfl
  have h3 := hf 3 f3 rfl
  have h4 := hf 4 f4 rfl
  have k0 : Try.prog.cellsOf 2 = 1 := by kernel_rfl
  rw [t0, o0, k0] at h0
  rw [t1, o1, k0] at h1
  rw [t2, o2, k0] at h2
  rw [t3, o3, k0] at h3
  rw [t4, o4, k0] at h4
  have hl5 : ys.length = 5 := hl
  match ys, hl5 with
  | [y0, y1, y2, y3, y4], _ =>
    have g0 : DataW.trod enc Try.prog w base spare held m 2 [c0] = some y0 := h0
    have g1 : DataW.trod enc Try.prog w base spare held m 2 [c1] = some y1 := h1
    have g2 : DataW.trod enc Try.prog w base spare held m 2 [c2] = some y2 := h2
    have g3 : DataW.trod enc Try.prog w base spare held m 2 [c3] = some y3 := h3
    have g4 : DataW.trod enc Try.prog w base spare held m 2 [c4] = some y4 := h4
    obtain ⟨n0, e0, rfl, w0⟩ := DataW.trod_int Try.underlying2 g0
    obtain ⟨n1, e1, rfl, w1⟩ := DataW.trod_int Try.underlying2 g1
    obtain ⟨n2, e2, rfl, w2⟩ := DataW.trod_int Try.underlying2 g2
    obtain ⟨n3, e3, rfl, w3⟩ := DataW.trod_int Try.underlying2 g3
    obtain ⟨n4, e4, rfl, w4⟩ := DataW.trod_int Try.underlying2 g4
    cases e0; cases e1; cases e2; cases e3; cases e4
    exact ⟨n0, n1, n2, n3, n4, rfl, rfl, rfl, rfl, rfl⟩
theorem prt_parts {fuel : Nat} {c0 c1 c2 c3 c4 : Value} {x : DataW H × List MemPlace} (h : DataW.trod enc Try.prog w base spare held fuel TP [c0, c1, c2, c3, c4] = some x) :
    ∃ a b c d e : Int, c0 = .int .i32 a ∧ c1 = .int .u16 b ∧ c2 = .int .u16 c ∧ c3 = .int .u16 d ∧ c4 = .int .u16 e ∧ I32 a ∧ U16 b ∧ U16 c ∧ U16 d ∧ U16 e := by
  obtain ⟨f0, f1, f2, f3, f4, hu, t0, t1, t2, t3, t4, o0, o1, o2, o3, o4⟩ := tp_struct
  obtain ⟨ys, m, _, rfl, _, hl, hf⟩ := DataW.trod_struct hu h
  have h0 := hf 0 f0 rfl
  have h1 := hf 1 f1 rfl
  have h2 := hf 2 f2 rfl
  have h3 := hf 3 f3 rfl
  have h4 := hf 4 f4 rfl
  have k0 : Try.prog.cellsOf 21 = 1 := by kernel_rfl
  have k1 : Try.prog.cellsOf 39 = 1 := by kernel_rfl
  rw [t0, o0, k0] at h0
  rw [t1, o1, k1] at h1
  rw [t2, o2, k1] at h2
  rw [t3, o3, k1] at h3
  rw [t4, o4, k1] at h4
  have hl5 : ys.length = 5 := hl
  match ys, hl5 with
  | [y0, y1, y2, y3, y4], _ =>
    have g0 : DataW.trod enc Try.prog w base spare held m 21 [c0] = some y0 := h0
    have g1 : DataW.trod enc Try.prog w base spare held m 39 [c1] = some y1 := h1
    have g2 : DataW.trod enc Try.prog w base spare held m 39 [c2] = some y2 := h2
    have g3 : DataW.trod enc Try.prog w base spare held m 39 [c3] = some y3 := h3
    have g4 : DataW.trod enc Try.prog w base spare held m 39 [c4] = some y4 := h4
    obtain ⟨n0, e0, rfl, w0⟩ := DataW.trod_int Try.underlying21 g0
    obtain ⟨n1, e1, rfl, w1⟩ := DataW.trod_int Try.underlying39 g1
    obtain ⟨n2, e2, rfl, w2⟩ := DataW.trod_int Try.underlying39 g2
    obtain ⟨n3, e3, rfl, w3⟩ := DataW.trod_int Try.underlying39 g3
    obtain ⟨n4, e4, rfl, w4⟩ := DataW.trod_int Try.underlying39 g4
    cases e0; cases e1; cases e2; cases e3; cases e4
    have b0 := bounds_i32 w0
    have b1 := bounds_u16 w1
    have b2 := bounds_u16 w2
    have b3 := bounds_u16 w3
    have b4 := bounds_u16 w4
    unfold I32 U16
    exact ⟨n0, n1, n2, n3, n4, rfl, rfl, rfl, rfl, rfl, by omega, by omega, by omega, by omega, by omega⟩
theorem cnt_open {r : Reach} {b0 : Nat} {v : Value} {d : DataW H} {p : List MemPlace} (hv : Value.okWide Try.prog w r b0 TC v) (h : DataW.Trod enc Try.prog w base spare held TC v d p) :
    ∃ a b c d e : Int, v = cA a b c d e := by
  obtain ⟨cs, rfl, hsz⟩ := okWide_struct Try.underlying23 hv
  obtain ⟨c0, c1, c2, c3, c4, rfl⟩ : ∃ c0 c1 c2 c3 c4, cs = #[c0, c1, c2, c3, c4] := by
    have hs : cs.size = 5 := hsz.trans tc_cells
    obtain ⟨l⟩ := cs
    have hl : l.length = 5 := hs
    match l, hl with
    | [c0, c1, c2, c3, c4], _ => exact ⟨c0, c1, c2, c3, c4, rfl⟩
  obtain ⟨fuel, hf⟩ := h
  obtain ⟨a, b, c, d, e, rfl, rfl, rfl, rfl, rfl⟩ := cnt_parts (show DataW.trod enc Try.prog w base spare held fuel TC [c0, c1, c2, c3, c4] = some (d, _) from hf)
  exact ⟨a, b, c, d, e, rfl⟩
theorem prt_open {r : Reach} {b0 : Nat} {v : Value} {d : DataW H} {p : List MemPlace} (hv : Value.okWide Try.prog w r b0 TP v) (h : DataW.Trod enc Try.prog w base spare held TP v d p) :
    ∃ a b c d e : Int, v = pA a b c d e ∧ (I32 a ∧ U16 b ∧ U16 c ∧ U16 d ∧ U16 e) := by
  obtain ⟨cs, rfl, hsz⟩ := okWide_struct Try.underlying41 hv
  obtain ⟨c0, c1, c2, c3, c4, rfl⟩ : ∃ c0 c1 c2 c3 c4, cs = #[c0, c1, c2, c3, c4] := by
    have hs : cs.size = 5 := hsz.trans tp_cells
    obtain ⟨l⟩ := cs
    have hl : l.length = 5 := hs
    match l, hl with
    | [c0, c1, c2, c3, c4], _ => exact ⟨c0, c1, c2, c3, c4, rfl⟩
  obtain ⟨fuel, hf⟩ := h
  obtain ⟨a, b, c, d, e, rfl, rfl, rfl, rfl, rfl, hr⟩ := prt_parts (show DataW.trod enc Try.prog w base spare held fuel TP [c0, c1, c2, c3, c4] = some (d, _) from hf)
  exact ⟨a, b, c, d, e, rfl, hr⟩
end
end Go.Proofs.Ytodgnhkaglcjnaa.Cnt
