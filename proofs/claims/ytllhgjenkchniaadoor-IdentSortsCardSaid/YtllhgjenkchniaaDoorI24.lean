/- An effect, or an item, as it comes in. -/
import Derived.Test.YtllhgjenkchniaaDoorI23
import Derived.ProofKit
import Derived.OpenShut
import Derived.SizedLaws
import Derived.Stop.Joined
namespace Go.Proofs.YtllhgjenkchniaaDoor.Ident
open Go.RowKit Go.ChangeShapes Go.WideShapes
set_option linter.unusedVariables false
set_option linter.unusedSimpArgs false

theorem te_struct : ∃ f0 f1 f2, Tryd.prog.underlying TE = some (.struct #[f0, f1, f2]) ∧ f0.type = 3 ∧ f1.type = 3 ∧ f2.type = 3 ∧ f0.offset = 0 ∧ f1.offset = 1 ∧ f2.offset = 2 := ⟨_, _, _, Tryd.underlying23, rfl, rfl, rfl, rfl, rfl, rfl⟩
theorem ti_struct : ∃ f0 f1 f2 f3, Tryd.prog.underlying TI = some (.struct #[f0, f1, f2, f3]) ∧ f0.type = TE ∧ f1.type = 3 ∧ f2.type = 4 ∧ f3.type = 3 ∧ f0.offset = 0 ∧ f1.offset = 3 ∧ f2.offset = 4 ∧ f3.offset = 5 := ⟨_, _, _, _, Tryd.underlying33, rfl, rfl, rfl, rfl, rfl, rfl, rfl, rfl⟩
theorem te_cells : Tryd.prog.cellsOf TE = 3 := by kernel_rfl
theorem ti_cells : Tryd.prog.cellsOf TI = 6 := by kernel_rfl
section
variable {H : Type} {enc : TypeId × Value → H} {w : World} {base : Nat} {spare : Nat → Bool} {held : Bool}
set_option maxRecDepth 100000
theorem eff_parts {fuel : Nat} {c0 c1 c2 : Value} {x : DataW H × List MemPlace} (h : DataW.trod enc Tryd.prog w base spare held fuel TE [c0, c1, c2] = some x) :
    ∃ a b p : Int, c0 = .int .i64 a ∧ c1 = .int .i64 b ∧ c2 = .int .i64 p := by
  obtain ⟨f0, f1, f2, hu, t0, t1, t2, o0, o1, o2⟩ := te_struct
  obtain ⟨ys, m, _, rfl, _, hl, hf⟩ := DataW.trod_struct hu h
  have h0 := hf 0 f0 rfl
  have h1 := hf 1 f1 rfl
  have h2 := hf 2 f2 rfl
  have k0 : Tryd.prog.cellsOf 3 = 1 := by kernel_rfl
  rw [t0, o0, k0] at h0
  rw [t1, o1, k0] at h1
  rw [t2, o2, k0] at h2
  have hl3 : ys.length = 3 := hl
  match ys, hl3 with
  | [y0, y1, y2], _ =>
    have g0 : DataW.trod enc Tryd.prog w base spare held m 3 [c0] = some y0 := h0
    have g1 : DataW.trod enc Tryd.prog w base spare held m 3 [c1] = some y1 := h1
    have g2 : DataW.trod enc Tryd.prog w base spare held m 3 [c2] = some y2 := h2
    obtain ⟨n0, e0, rfl, w0⟩ := DataW.trod_int Tryd.underlying3 g0
    obtain ⟨n1, e1, rfl, w1⟩ := DataW.trod_int Tryd.underlying3 g1
    obtain ⟨n2, e2, rfl, w2⟩ := DataW.trod_int Tryd.underlying3 g2
    cases e0; cases e1; cases e2
    exact ⟨n0, n1, n2, rfl, rfl, rfl⟩
theorem eff_open {r : Reach} {b0 : Nat} {v : Value} {d : DataW H} {p : List MemPlace} (hv : Value.okWide Tryd.prog w r b0 TE v) (h : DataW.Trod enc Tryd.prog w base spare held TE v d p) :
    ∃ a b p : Int, v = .agg #[.int .i64 a, .int .i64 b, .int .i64 p] := by
  obtain ⟨cs, rfl, hsz⟩ := okWide_struct Tryd.underlying23 hv
  obtain ⟨c0, c1, c2, rfl⟩ : ∃ c0 c1 c2, cs = #[c0, c1, c2] := by
    have hs : cs.size = 3 := hsz.trans te_cells
    obtain ⟨l⟩ := cs
    have hl : l.length = 3 := hs
    match l, hl with
    | [c0, c1, c2], _ => exact ⟨c0, c1, c2, rfl⟩
  obtain ⟨fuel, hf⟩ := h
  obtain ⟨a, b, p, rfl, rfl, rfl⟩ := eff_parts (show DataW.trod enc Tryd.prog w base spare held fuel TE [c0, c1, c2] = some (d, _) from hf)
  exact ⟨a, b, p, rfl⟩
theorem item_open {r : Reach} {b0 : Nat} {v : Value} {d : DataW H} {p : List MemPlace} (hv : Value.okWide Tryd.prog w r b0 TI v) (h : DataW.Trod enc Tryd.prog w base spare held TI v d p) :
    ∃ (a b p m : Int) (i : Bool) (g : Int), v = .agg #[.int .i64 a, .int .i64 b, .int .i64 p, .int .i64 m, .bool i, .int .i64 g] := by
  obtain ⟨cs, rfl, hsz⟩ := okWide_struct Tryd.underlying33 hv
  obtain ⟨c0, c1, c2, c3, c4, c5, rfl⟩ : ∃ c0 c1 c2 c3 c4 c5, cs = #[c0, c1, c2, c3, c4, c5] := by
    have hs : cs.size = 6 := hsz.trans ti_cells
    obtain ⟨l⟩ := cs
    have hl : l.length = 6 := hs
    match l, hl with
    | [c0, c1, c2, c3, c4, c5], _ => exact ⟨c0, c1, c2, c3, c4, c5, rfl⟩
  obtain ⟨fuel, hf⟩ := h
  obtain ⟨f0, f1, f2, f3, hu, t0, t1, t2, t3, o0, o1, o2, o3⟩ := ti_struct
  obtain ⟨ys, m, _, _, _, hl, hf⟩ := DataW.trod_struct hu (show DataW.trod enc Tryd.prog w base spare held fuel TI [c0, c1, c2, c3, c4, c5] = some (d, _) from hf)
  have h0 := hf 0 f0 rfl
  have h1 := hf 1 f1 rfl
  have h2 := hf 2 f2 rfl
  have h3 := hf 3 f3 rfl
  have k0 : Tryd.prog.cellsOf 3 = 1 := by kernel_rfl
  have k1 : Tryd.prog.cellsOf 4 = 1 := by kernel_rfl
  rw [t0, o0, te_cells] at h0
  rw [t1, o1, k0] at h1
  rw [t2, o2, k1] at h2
  rw [t3, o3, k0] at h3
  have hl4 : ys.length = 4 := hl
  match ys, hl4 with
  | [y0, y1, y2, y3], _ =>
    have g0 : DataW.trod enc Tryd.prog w base spare held m TE [c0, c1, c2] = some y0 := h0
    have g1 : DataW.trod enc Tryd.prog w base spare held m 3 [c3] = some y1 := h1
    have g2 : DataW.trod enc Tryd.prog w base spare held m 4 [c4] = some y2 := h2
    have g3 : DataW.trod enc Tryd.prog w base spare held m 3 [c5] = some y3 := h3
    obtain ⟨a, b, p, rfl, rfl, rfl⟩ := eff_parts g0
    obtain ⟨n1, e1, rfl, w1⟩ := DataW.trod_int Tryd.underlying3 g1
    obtain ⟨n2, e2, _⟩ := DataW.trod_bool Tryd.underlying4 g2
    obtain ⟨n3, e3, rfl, w3⟩ := DataW.trod_int Tryd.underlying3 g3
    cases e1; cases e2; cases e3
    exact ⟨a, b, p, n1, n2, n3, rfl⟩
end
theorem w_identNumbers (a b p m : Int) (i : Bool) (g n : Int) (w : World) (w0 : True) (w1 : (Lit.int .i64 n).wf = true) (hH : Hv w) :
    Calls Tryd.prog 5 #[.agg #[.int .i64 a, .int .i64 b, .int .i64 p, .int .i64 m, .bool i, .int .i64 g], .int .i64 n] w fun e w' => e = .returned (.bool true) ∧ Below w.heap.size w w' := by
  have b1 := bounds_i64 w1
  exact numbers_go a b p m i g n (by omega) (by omega) w hH
end Go.Proofs.YtllhgjenkchniaaDoor.Ident
