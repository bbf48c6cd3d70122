/- Parse; the document's Check, Order, Next. -/
import Derived.Test.YtabfpdlnljkgpaaDoorB05
namespace Go.Proofs.YtabfpdlnljkgpaaDoor.Bal
open Go.RowKit Go.Lib
set_option linter.unusedVariables false
set_option linter.unusedSimpArgs false
set_option maxRecDepth 20000

/-- The result's box ahead of the ballot's. -/
structure Ps (w : World) (W : World) : Prop where
  res : Bx w w.heap.size 0 0 W
  hv : Hv W
theorem Ps.later {w W W' : World} (h : Ps w W) (hb : Below W.heap.size W W') : Ps w W' := ⟨h.res.later hb, h.hv.later hb⟩
theorem ps_new {w : World} (hH : Hv w) : Ps w (w.alloc (.cells #[.int .i64 0, .int .i64 0] TB)) := ⟨bx_new w 0 0, hH.later (alloc_b _ _)⟩
theorem parse_any (l : List UInt8) (hl : l.length ≤ 1000) (w : World) (hH : Hv w) :
    Calls Tryd.prog 23 #[.string (tx l)] w fun e w' => e = .returned (.tuple #[.agg #[.int .i64 (pA l), .int .i64 (pB l)], .int .i64 (pE l)]) ∧ Below w.heap.size w w' := by
  have hx := ps_new hH
  have hC := fun W => cut_any l 46 hl W
  unfold cutV at hC
  have l1 : (cutB l 46).1.length ≤ 1000 ∧ (cutB l 46).2.1.length ≤ 1000 := by
    have : ∀ l : List UInt8, (cutB l 46).1.length ≤ l.length ∧ (cutB l 46).2.1.length ≤ l.length := by
      intro l
      induction l with
      | nil => exact ⟨Nat.le_refl _, Nat.le_refl _⟩
      | cons x l ih =>
        unfold cutB
        split
        · exact ⟨by simp, by simp⟩
        · simp; omega
    have := this l
    omega
  have h1 := fun W hW => number_is (cutB l 46).1 l1.1 W hW
  have h2 := fun W hW => number_is (cutB l 46).2.1 l1.2 W hW
  have hT := fun W hW => text_any (atV (cutB l 46).1) (atV (cutB l 46).2.1) W hW
  have hq := tx_beq (txS (atV (cutB l 46).1) (atV (cutB l 46).2.1)) l
  have hA : pA l = if pOk l then atV (cutB l 46).1 else 0 := rfl
  have hB : pB l = if pOk l then atV (cutB l 46).2.1 else 0 := rfl
  have hE : pE l = if pOk l then 0 else 10 := rfl
  have hO : pOk l = decide (bOk 7 (atV (cutB l 46).1) (atV (cutB l 46).2.1) ∧ txS (atV (cutB l 46).1) (atV (cutB l 46).2.1) = l) := by
    unfold pOk txS
    by_cases h : bOk 7 (atV (cutB l 46).1) (atV (cutB l 46).2.1)
    · rw [if_pos h]
    · rw [if_neg h]; simp [h]
  rw [hA, hB, hE, hO]
  clear hA hB hE hO l1
  generalize atV (cutB l 46).1 = r at *
  generalize atV (cutB l 46).2.1 = m at *
  generalize tx (cutB l 46).1 = s1 at *
  generalize tx (cutB l 46).2.1 = s2 at *
  generalize (cutB l 46).2.2 = fnd at *
  generalize ht : txS r m = t at *
  replace h1 := Lib.hid h1
  replace h2 := Lib.hid h2
  replace hx := Lib.hid hx
  by_cases hb : bOk 7 r m
  · rw [ck_ok hb (by omega)] at hT
    by_cases he : t = l
    · subst he
      rw [decide_eq_true ⟨hb, rfl⟩]
      simp only [if_true]
      generalize tx t = s at *
      replace hC := Lib.hid hC
      replace hT := Lib.hid hT
      clear hb ht hq
      go_enter Tryd.func23, Tryd.ntmps23
      go_wp2_with fail
      refine (hC.out _).mono ?_
      rintro e w1 ⟨rfl, hb1⟩
      have hx1 := Lib.hid (hx.out.later hb1)
      clear hx hb1
      go_wp2_with fail
      refine (h1.out _ hx1.out.hv).mono ?_
      rintro e w2 ⟨rfl, hb2⟩
      have hx2 := Lib.hid (hx1.out.later hb2)
      clear hx1 hb2
      go_wp2_with fail
      refine (h2.out _ hx2.out.hv).mono ?_
      rintro e w3 ⟨rfl, hb3⟩
      have hx3 := hx2.out.later hb3
      have hx4 := hx3.later (alloc_b w3 (.cells #[.int .i64 r, .int .i64 m] TB))
      have hy4 := bx_at hx3.res.bel r m
      clear hx2 hb3 hx3
      replace hx4 := Lib.hid hx4
      replace hy4 := Lib.hid hy4
      go_wp2_with fail
      refine (hT.out _ hx4.out.hv).mono ?_
      rintro e w4 ⟨rfl, hb4⟩
      have hx5 := hx4.out.later hb4
      have hy5 := hy4.out.later hb4
      obtain ⟨c0, c1, _, _⟩ := hy5.cells
      obtain ⟨d0, d1, d2, d3⟩ := hx5.res.cells
      replace hy5 := Lib.hid hy5
      clear hx4 hy4 hb4
      go_wp2
      have hz := hx5.res.set (by omega) r m
      exact bodyPost_ret (res2e Tryd.results23 _ rfl hz) rfl ⟨rfl, hz.bel⟩
    · rw [decide_eq_false (fun x => he x.2)]
      rw [decide_eq_false he] at hq
      simp only [Bool.false_eq_true, if_false]
      generalize tx t = s' at *
      generalize tx l = s at *
      replace hC := Lib.hid hC
      replace hT := Lib.hid hT
      clear hb ht he
      go_enter Tryd.func23, Tryd.ntmps23
      go_wp2_with fail
      refine (hC.out _).mono ?_
      rintro e w1 ⟨rfl, hb1⟩
      have hx1 := Lib.hid (hx.out.later hb1)
      clear hx hb1
      go_wp2_with fail
      refine (h1.out _ hx1.out.hv).mono ?_
      rintro e w2 ⟨rfl, hb2⟩
      have hx2 := Lib.hid (hx1.out.later hb2)
      clear hx1 hb2
      go_wp2_with fail
      refine (h2.out _ hx2.out.hv).mono ?_
      rintro e w3 ⟨rfl, hb3⟩
      have hx3 := hx2.out.later hb3
      have hx4 := hx3.later (alloc_b w3 (.cells #[.int .i64 r, .int .i64 m] TB))
      clear hx2 hb3 hx3
      replace hx4 := Lib.hid hx4
      go_wp2_with fail
      refine (hT.out _ hx4.out.hv).mono ?_
      rintro e w4 ⟨rfl, hb4⟩
      have hx5 := hx4.out.later hb4
      obtain ⟨d0, d1, d2, d3⟩ := hx5.res.cells
      clear hx4 hb4
      go_wp2
      have hz := hx5.res.set (by omega) 0 0
      exact bodyPost_ret (res2e Tryd.results23 _ rfl hz) rfl ⟨rfl, hz.bel⟩
  · rw [ck_no hb] at hT
    rw [decide_eq_false (fun x => hb x.1)]
    simp only [Bool.false_eq_true, if_false]
    generalize tx t = s' at *
    generalize tx l = s at *
    replace hC := Lib.hid hC
    replace hT := Lib.hid hT
    clear hb ht hq
    go_enter Tryd.func23, Tryd.ntmps23
    go_wp2_with fail
    refine (hC.out _).mono ?_
    rintro e w1 ⟨rfl, hb1⟩
    have hx1 := Lib.hid (hx.out.later hb1)
    clear hx hb1
    go_wp2_with fail
    refine (h1.out _ hx1.out.hv).mono ?_
    rintro e w2 ⟨rfl, hb2⟩
    have hx2 := Lib.hid (hx1.out.later hb2)
    clear hx1 hb2
    go_wp2_with fail
    refine (h2.out _ hx2.out.hv).mono ?_
    rintro e w3 ⟨rfl, hb3⟩
    have hx3 := hx2.out.later hb3
    have hx4 := hx3.later (alloc_b w3 (.cells #[.int .i64 r, .int .i64 m] TB))
    clear hx2 hb3 hx3
    replace hx4 := Lib.hid hx4
    go_wp2_with fail
    refine (hT.out _ hx4.out.hv).mono ?_
    rintro e w4 ⟨rfl, hb4⟩
    have hx5 := hx4.out.later hb4
    obtain ⟨d0, d1, d2, d3⟩ := hx5.res.cells
    clear hx4 hb4
    go_wp2
    have hz := hx5.res.set (by omega) 0 0
    exact bodyPost_ret (res2e Tryd.results23 _ rfl hz) rfl ⟨rfl, hz.bel⟩
end Go.Proofs.YtabfpdlnljkgpaaDoor.Bal
