/- A ballot as it comes in; the walk of BallotBack. -/
import Derived.Test.YtabfpdlnljkgpaaDoorB07
import Derived.ProofKit
import Derived.OpenShut
import Derived.SizedLaws
import Derived.Stop.Joined
namespace Go.Proofs.YtabfpdlnljkgpaaDoor.Bal
open Go.RowKit Go.Lib Go.ChangeShapes Go.WideShapes
set_option linter.unusedVariables false
set_option linter.unusedSimpArgs false
set_option maxRecDepth 20000

theorem tb_struct : ∃ f0 f1, Tryd.prog.underlying TB = some (.struct #[f0, f1]) ∧ f0.type = 3 ∧ f1.type = 3 ∧ f0.offset = 0 ∧ f1.offset = 1 := ⟨_, _, Tryd.underlying23, rfl, rfl, rfl, rfl⟩
theorem tb_cells : Tryd.prog.cellsOf TB = 2 := by kernel_rfl
section
variable {H : Type} {enc : TypeId × Value → H} {w : World} {base : Nat} {spare : Nat → Bool} {held : Bool}
set_option maxRecDepth 100000
theorem bal_parts {fuel : Nat} {c0 c1 : Value} {x : DataW H × List MemPlace} (h : DataW.trod enc Tryd.prog w base spare held fuel TB [c0, c1] = some x) :
    ∃ a b : Int, c0 = .int .i64 a ∧ c1 = .int .i64 b := by
  obtain ⟨f0, f1, hu, t0, t1, o0, o1⟩ := tb_struct
  obtain ⟨ys, m, _, rfl, _, hl, hf⟩ := DataW.trod_struct hu h
  have h0 := hf 0 f0 rfl
  have h1 := hf 1 f1 rfl
  have k0 : Tryd.prog.cellsOf 3 = 1 := by kernel_rfl
  rw [t0, o0, k0] at h0
  rw [t1, o1, k0] at h1
  have hl3 : ys.length = 2 := hl
  match ys, hl3 with
  | [y0, y1], _ =>
    have g0 : DataW.trod enc Tryd.prog w base spare held m 3 [c0] = some y0 := h0
    have g1 : DataW.trod enc Tryd.prog w base spare held m 3 [c1] = some y1 := h1
    obtain ⟨n0, e0, rfl, w0⟩ := DataW.trod_int Tryd.underlying3 g0
    obtain ⟨n1, e1, rfl, w1⟩ := DataW.trod_int Tryd.underlying3 g1
    cases e0; cases e1
    exact ⟨n0, n1, rfl, rfl⟩
theorem bal_open {r : Reach} {b0 : Nat} {v : Value} {d : DataW H} {p : List MemPlace} (hv : Value.okWide Tryd.prog w r b0 TB v) (h : DataW.Trod enc Tryd.prog w base spare held TB v d p) :
    ∃ a b : Int, v = .agg #[.int .i64 a, .int .i64 b] := by
  obtain ⟨cs, rfl, hsz⟩ := okWide_struct Tryd.underlying23 hv
  obtain ⟨c0, c1, rfl⟩ : ∃ c0 c1, cs = #[c0, c1] := by
    have hs : cs.size = 2 := hsz.trans tb_cells
    obtain ⟨l⟩ := cs
    have hl : l.length = 2 := hs
    match l, hl with
    | [c0, c1], _ => exact ⟨c0, c1, rfl⟩
  obtain ⟨fuel, hf⟩ := h
  obtain ⟨a, b, rfl, rfl⟩ := bal_parts (show DataW.trod enc Tryd.prog w base spare held fuel TB [c0, c1] = some (d, _) from hf)
  exact ⟨a, b, rfl⟩
end

theorem back_long (r m : Int) (l : List UInt8) (hl : 100 < l.length) (w : World) (hH : Hv w) :
    Calls Tryd.prog 10 #[.agg #[.int .i64 r, .int .i64 m], .string (tx l)] w fun e w' => e = .returned (.bool true) ∧ Below w.heap.size w w' := by
  have hx := bx_new w r m
  have hz := tx_size l
  generalize l.length = n at *
  generalize tx l = s at *
  have d1 : decide (100 < (n : Int)) = true := by simp; omega
  go_enter Tryd.func10, Tryd.ntmps10
  go_wp2_with fail
  refine (works_any _ (hH.later hx.bel)).mono ?_
  rintro e w1 ⟨rfl, hb1⟩
  have hz := below2 hx.bel hb1
  go_wp2
  go_ret
  exact ⟨rfl, hz⟩
/-- What is read of a text, and its text again. -/
def Rd (l : List UInt8) (a b e : Int) : Prop := pA l = a ∧ pB l = b ∧ pE l = e
theorem back_bad (r m : Int) (hb : ¬ bOk 7 r m) (l : List UInt8) (hl : ¬ 100 < l.length) (w : World) (hH : Hv w) :
    Calls Tryd.prog 10 #[.agg #[.int .i64 r, .int .i64 m], .string (tx l)] w fun e w' => e = .returned (.bool true) ∧ Below w.heap.size w w' := by
  have hx := bx_new w r m
  obtain ⟨c0, c1, _, _⟩ := hx.cells
  have hT := fun W hW => text_any r m W hW
  have hC := fun W => check_any r m 7 W
  rw [show txS r m = [] from if_neg hb, ck_no hb, show tx [] = ⟨#[]⟩ from rfl] at hT
  rw [ck_no hb] at hC
  have hP := fun W hW => parse_any l (by omega) W hW
  have hcs := p_cases l
  have hz := tx_size l
  generalize pA l = x at *
  generalize pB l = y at *
  generalize pE l = f at *
  replace hT := Lib.hid hT
  replace hC := Lib.hid hC
  replace hx := Lib.hid hx
  rcases hcs with ⟨hi, rfl⟩ | ⟨_, rfl, rfl, rfl⟩
  · have hU := fun W hW => text_any x y W hW
    rw [show txS x y = l from (if_pos hi.1).trans hi.2, ck_ok hi.1 (by omega)] at hU
    generalize l.length = n at *
    have hq := tx_beq l l
    rw [decide_eq_true rfl] at hq
    generalize tx l = s at *
    have d1 : decide (100 < (n : Int)) = false := by simp; omega
    replace hP := Lib.hid hP
    replace hU := Lib.hid hU
    clear hi hb hl
    go_enter Tryd.func10, Tryd.ntmps10
    go_wp2_with fail
    refine (hT.out _ (hH.later hx.out.bel)).mono ?_
    rintro e w1 ⟨rfl, hb1⟩
    have hx1 := hx.out.later hb1
    obtain ⟨d0, d2, _, _⟩ := hx1.cells
    clear c0 c1 hx hb1
    replace hx1 := Lib.hid hx1
    go_wp2_with fail
    refine (hC.out _).mono ?_
    rintro e w2 ⟨rfl, hb2⟩
    have hx2 := Lib.hid (hx1.out.later hb2)
    clear d0 d2 hx1 hb2
    go_wp2_with fail
    refine (hP.out _ (hH.later hx2.out.bel)).mono ?_
    rintro e w3 ⟨rfl, hb3⟩
    have hx3 := hx2.out.later hb3
    have hy3 := bx_at hx3.bel x y
    obtain ⟨g0, g1, _, _⟩ := hy3.cells
    clear hx2 hb3 hx3
    replace hy3 := Lib.hid hy3
    go_wp2_with fail
    refine (hU.out _ (hH.later hy3.out.bel)).mono ?_
    rintro e w4 ⟨rfl, hb4⟩
    have hb5 := below2 hy3.out.bel hb4
    clear g0 g1 hb4 hy3
    go_wp2_with fail
    refine (works_any _ (hH.later hb5)).mono ?_
    rintro e w5 ⟨rfl, hb6⟩
    have hb7 := below2 hb5 hb6
    go_wp2
    go_ret
    exact ⟨rfl, hb7⟩
  · generalize l.length = n at *
    generalize tx l = s at *
    have d1 : decide (100 < (n : Int)) = false := by simp; omega
    have q0 := fun W => eq_b 0 0 0 0 W
    rw [eqB_t ⟨rfl, rfl⟩] at q0
    replace hP := Lib.hid hP
    clear hb hl
    go_enter Tryd.func10, Tryd.ntmps10
    go_wp2_with fail
    refine (hT.out _ (hH.later hx.out.bel)).mono ?_
    rintro e w1 ⟨rfl, hb1⟩
    have hx1 := hx.out.later hb1
    obtain ⟨d0, d2, _, _⟩ := hx1.cells
    clear c0 c1 hx hb1
    replace hx1 := Lib.hid hx1
    go_wp2_with fail
    refine (hC.out _).mono ?_
    rintro e w2 ⟨rfl, hb2⟩
    have hx2 := Lib.hid (hx1.out.later hb2)
    clear d0 d2 hx1 hb2
    go_wp2_with fail
    refine (hP.out _ (hH.later hx2.out.bel)).mono ?_
    rintro e w3 ⟨rfl, hb3⟩
    have hx3 := hx2.out.later hb3
    have hy3 := bx_at hx3.bel 0 0
    obtain ⟨g0, g1, _, _⟩ := hy3.cells
    clear hx2 hb3 hx3
    replace hy3 := Lib.hid hy3
    go_wp2_with fail
    refine (works_any _ (hH.later hy3.out.bel)).mono ?_
    rintro e w5 ⟨rfl, hb6⟩
    have hb7 := below2 hy3.out.bel hb6
    go_wp2
    go_ret
    exact ⟨rfl, hb7⟩
theorem back_ok (r m : Int) (hb : bOk 7 r m) (l : List UInt8) (hl : ¬ 100 < l.length) (w : World) (hH : Hv w) :
    Calls Tryd.prog 10 #[.agg #[.int .i64 r, .int .i64 m], .string (tx l)] w fun e w' => e = .returned (.bool true) ∧ Below w.heap.size w w' := by
  have hx := bx_new w r m
  obtain ⟨c0, c1, _, _⟩ := hx.cells
  have hT := fun W hW => text_any r m W hW
  have hC := fun W => check_any r m 7 W
  have hlt : (txS r m).length ≤ 20 := by
    rw [show txS r m = tB r.toNat m.toNat from if_pos hb]
    obtain ⟨R, M, rfl, rfl, h1, h2⟩ := bOk_nat hb
    exact tB_len h1 h2
  have hV := fun W hW => parse_any (txS r m) (by omega) W hW
  obtain ⟨v1, v2, v3⟩ := p_isT (s := txS r m) (r := r) (m := m) ⟨hb, by rw [show txS r m = tB r.toNat m.toNat from if_pos hb]⟩
  rw [v1, v2, v3] at hV
  rw [ck_ok hb (by omega)] at hT hC
  have hP := fun W hW => parse_any l (by omega) W hW
  have hcs := p_cases l
  have hz := tx_size l
  generalize pA l = x at *
  generalize pB l = y at *
  generalize pE l = f at *
  have q1 := fun W => eq_b r m r m W
  rw [eqB_t ⟨rfl, rfl⟩] at q1
  generalize tx (txS r m) = t at *
  replace hT := Lib.hid hT
  replace hC := Lib.hid hC
  replace hV := Lib.hid hV
  replace hx := Lib.hid hx
  clear v1 v2 v3 hlt
  rcases hcs with ⟨hi, rfl⟩ | ⟨_, rfl, rfl, rfl⟩
  · have hU := fun W hW => text_any x y W hW
    rw [show txS x y = l from (if_pos hi.1).trans hi.2, ck_ok hi.1 (by omega)] at hU
    generalize l.length = n at *
    have hq := tx_beq l l
    rw [decide_eq_true rfl] at hq
    generalize tx l = s at *
    have d1 : decide (100 < (n : Int)) = false := by simp; omega
    replace hP := Lib.hid hP
    replace hU := Lib.hid hU
    clear hi hb hl
    go_enter Tryd.func10, Tryd.ntmps10
    go_wp2_with fail
    refine (hT.out _ (hH.later hx.out.bel)).mono ?_
    rintro e w1 ⟨rfl, hb1⟩
    have hx1 := hx.out.later hb1
    obtain ⟨d0, d2, _, _⟩ := hx1.cells
    clear c0 c1 hx hb1
    replace hx1 := Lib.hid hx1
    go_wp2_with fail
    refine (hC.out _).mono ?_
    rintro e w2 ⟨rfl, hb2⟩
    have hx2 := Lib.hid (hx1.out.later hb2)
    clear d0 d2 hx1 hb2
    go_wp2_with fail
    refine (hV.out _ (hH.later hx2.out.bel)).mono ?_
    rintro e w2' ⟨rfl, hb2'⟩
    have hx2' := hx2.out.later hb2'
    have hx2a := hx2'.alloc (.cells #[.int .i64 r, .int .i64 m] TB)
    have hy2a := bx_at hx2'.bel r m
    obtain ⟨k0, k1, _, _⟩ := hx2a.cells
    obtain ⟨k2, k3, _, _⟩ := hy2a.cells
    clear hx2 hb2' hx2' hy2a
    replace hx2a := Lib.hid hx2a
    go_wp2_with fail
    refine (hP.out _ (hH.later hx2a.out.bel)).mono ?_
    rintro e w3 ⟨rfl, hb3⟩
    have hx3 := hx2a.out.later hb3
    have hy3 := bx_at hx3.bel x y
    obtain ⟨g0, g1, _, _⟩ := hy3.cells
    clear hx2a hb3 hx3 k0 k1 k2 k3
    replace hy3 := Lib.hid hy3
    go_wp2_with fail
    refine (hU.out _ (hH.later hy3.out.bel)).mono ?_
    rintro e w4 ⟨rfl, hb4⟩
    have hb5 := below2 hy3.out.bel hb4
    clear g0 g1 hb4 hy3
    go_wp2_with fail
    refine (works_any _ (hH.later hb5)).mono ?_
    rintro e w5 ⟨rfl, hb6⟩
    have hb7 := below2 hb5 hb6
    go_wp2
    go_ret
    exact ⟨rfl, hb7⟩
  · generalize l.length = n at *
    generalize tx l = s at *
    have d1 : decide (100 < (n : Int)) = false := by simp; omega
    have q0 := fun W => eq_b 0 0 0 0 W
    rw [eqB_t ⟨rfl, rfl⟩] at q0
    replace hP := Lib.hid hP
    clear hb hl
    go_enter Tryd.func10, Tryd.ntmps10
    go_wp2_with fail
    refine (hT.out _ (hH.later hx.out.bel)).mono ?_
    rintro e w1 ⟨rfl, hb1⟩
    have hx1 := hx.out.later hb1
    obtain ⟨d0, d2, _, _⟩ := hx1.cells
    clear c0 c1 hx hb1
    replace hx1 := Lib.hid hx1
    go_wp2_with fail
    refine (hC.out _).mono ?_
    rintro e w2 ⟨rfl, hb2⟩
    have hx2 := Lib.hid (hx1.out.later hb2)
    clear d0 d2 hx1 hb2
    go_wp2_with fail
    refine (hV.out _ (hH.later hx2.out.bel)).mono ?_
    rintro e w2' ⟨rfl, hb2'⟩
    have hx2' := hx2.out.later hb2'
    have hx2a := hx2'.alloc (.cells #[.int .i64 r, .int .i64 m] TB)
    have hy2a := bx_at hx2'.bel r m
    obtain ⟨k0, k1, _, _⟩ := hx2a.cells
    obtain ⟨k2, k3, _, _⟩ := hy2a.cells
    clear hx2 hb2' hx2' hy2a
    replace hx2a := Lib.hid hx2a
    go_wp2_with fail
    refine (hP.out _ (hH.later hx2a.out.bel)).mono ?_
    rintro e w3 ⟨rfl, hb3⟩
    have hx3 := hx2a.out.later hb3
    have hy3 := bx_at hx3.bel 0 0
    obtain ⟨g0, g1, _, _⟩ := hy3.cells
    clear hx2a hb3 hx3 k0 k1 k2 k3
    replace hy3 := Lib.hid hy3
    go_wp2_with fail
    refine (works_any _ (hH.later hy3.out.bel)).mono ?_
    rintro e w5 ⟨rfl, hb6⟩
    have hb7 := below2 hy3.out.bel hb6
    go_wp2
    go_ret
    exact ⟨rfl, hb7⟩
theorem w_ballotBack (r m : Int) (s : ByteArray) (w : World) (w0 : True) (w1 : s.size ≤ maxLen) (hH : Hv w) :
    Calls Tryd.prog 10 #[.agg #[.int .i64 r, .int .i64 m], .string s] w fun e w' => e = .returned (.bool true) ∧ Below w.heap.size w w' := by
  rw [← tx_of s]
  generalize s.data.toList = l
  by_cases hl : 100 < l.length
  · exact back_long r m l hl w hH
  · by_cases hb : bOk 7 r m
    · exact back_ok r m hb l hl w hH
    · exact back_bad r m hb l hl w hH
end Go.Proofs.YtabfpdlnljkgpaaDoor.Bal
