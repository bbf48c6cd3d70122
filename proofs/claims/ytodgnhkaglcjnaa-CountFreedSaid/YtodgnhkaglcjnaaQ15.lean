/- The walk of CountFreed. -/
import Derived.Test.YtodgnhkaglcjnaaQ13
import Derived.Test.YtodgnhkaglcjnaaQ12
namespace Go.Proofs.Ytodgnhkaglcjnaa.Cnt
open Go.RowKit
set_option linter.unusedVariables false
set_option linter.unusedSimpArgs false
set_option maxRecDepth 20000

theorem least_mk {v u d b o : Int} (h : I32 v ∧ U16 u ∧ U16 d ∧ U16 b ∧ U16 o) : leastV (mk v u d b o) = .tuple #[.int .i64 (v - u), .int .i64 (v + d), .int .i64 0] := by
  unfold leastV
  rw [if_pos (okC_t (mk_ok h))]
  rfl
/-- With a reservation freed, there is as much room as before, and more on the other side. -/
theorem room_less {v u d b o n : Int} (h : I32 v ∧ U16 u ∧ U16 d ∧ U16 b ∧ U16 o) (hr : max n 0 ≤ u ∧ max (-n) 0 ≤ d) :
    roomV (lessC (mk v u d b o) n) = .tuple #[.int .i64 (o + max (-n) 0), .int .i64 (b + max n 0), .int .i64 0] := by
  have hc : OkC (lessC (mk v u d b o) n) := less_ok (mk_ok h) hr
  unfold roomV
  rw [if_pos (okC_t hc)]
  unfold I32 U16 at h
  have e1 : roomN (lessC (mk v u d b o) n) = o + max (-n) 0 := by unfold roomN lessC mk; simp only; omega
  have e2 : roomN (mirC (lessC (mk v u d b o) n)) = b + max n 0 := by unfold roomN mirC lessC mk; simp only; omega
  rw [e1, e2]
set_option maxHeartbeats 8000000 in
theorem freed_go (pv pu pd pb po n m : Int) (f : Bool) (w : World) (w0 : I32 pv ∧ U16 pu ∧ U16 pd ∧ U16 pb ∧ U16 po) (hm : 0 ≤ m ∧ m ≤ 65535) (hn : n = if f then -m else m) :
    Calls Try.prog 10 #[pA pv pu pd pb po, .int .u16 m, .bool f] w fun e w' => e = .returned (.bool true) ∧ Below w.heap.size w w' := by
  have hw := Lib.hid (fun W => works_any W)
  have hM := Lib.hid (fun W => made_any pv pu pd pb po W w0.1 w0.2.1 w0.2.2.1 w0.2.2.2.1 w0.2.2.2.2)
  have on_ : Ok n := by unfold Ok; cases f <;> simp at hn <;> omega
  have im : IntKind.i64.wrap m = m := i64w (by omega) (by omega)
  have inm : IntKind.i64.wrap (-m) = -m := i64w (by omega) (by omega)
  have hsz := fun W => size_any n W (i64_ok on_)
  have hR := fun W => room3_any pv pu pd (pv - pu - pb) (pv + pd + po) W
  have hrm := room_mk w0
  have hL := fun W => least3_any pv pu pd (pv - pu - pb) (pv + pd + po) W
  have hlm := least_mk w0
  have hF := fun W => free_any pv pu pd (pv - pu - pb) (pv + pd + po) n W
  have hfr : chC giveC (mk pv pu pd pb po) n = if max n 0 ≤ pu ∧ max (-n) 0 ≤ pd then (lessC (mk pv pu pd pb po) n, 0) else (zero, 9) := free_nx (mk_ok w0) on_
  have hU := w0
  unfold U16 I32 at hU
  have b1 : IntKind.i64.wrap (pv - pu) = pv - pu := i64w (by omega) (by omega)
  have b2 : IntKind.i64.wrap (pv + pd) = pv + pd := i64w (by omega) (by omega)
  have b3 : decide (pv - pu < pv - pu - pb) = false := by simp; omega
  have b4 : decide (pv + pd + po < pv + pd) = false := by simp; omega
  have hb0 := Bxs.nil (alloc_b w (pRow pv pu pd pb po))
  have hr2 := fun (hr : max n 0 ≤ pu ∧ max (-n) 0 ≤ pd) W => room3_any pv (pu - max n 0) (pd - max (-n) 0) (pv - pu - pb) (pv + pd + po) W
  have hr3 := fun (hr : max n 0 ≤ pu ∧ max (-n) 0 ≤ pd) => room_less w0 hr
  have hx : max n (-n) = max n 0 + max (-n) 0 := by omega
  unfold lessC mk at hfr hr3
  unfold mk at hrm hlm
  simp only at hfr hr3
  rw [hrm] at hR
  rw [hlm] at hL
  rw [hfr] at hF
  rw [hx] at hsz
  have hs1 : 0 ≤ max n 0 := by omega
  have hs2 : 0 ≤ max (-n) 0 := by omega
  have hs3 : max n 0 ≤ 65535 := by cases f <;> simp at hn <;> omega
  have hs4 : max (-n) 0 ≤ 65535 := by cases f <;> simp at hn <;> omega
  clear hrm hlm hfr hx
  generalize max n 0 = a at *
  generalize max (-n) 0 = b at *
  generalize pv - pu - pb = l at *
  generalize pv + pd + po = g at *
  by_cases hr : a ≤ pu ∧ b ≤ pd
  · have q1 := hr3 hr
    have hR2 := hr2 hr
    rw [q1] at hR2
    rw [if_pos hr] at hF
    have e1 : IntKind.i64.wrap (po + pb) = po + pb := i64w (by omega) (by omega)
    have e2 : IntKind.i64.wrap (po + pb + (a + b)) = po + pb + (a + b) := i64w (by omega) (by omega)
    have e3 : IntKind.i64.wrap (po + b + (pb + a)) = po + pb + (a + b) := by rw [i64w (by omega) (by omega)]; omega
    have e4 : decide (po ≤ po + b) = true := by simp; omega
    have e5 : decide (pb ≤ pb + a) = true := by simp; omega
    replace hR := Lib.hid hR
    replace hF := Lib.hid hF
    replace hL := Lib.hid hL
    replace hR2 := Lib.hid hR2
    replace hsz := Lib.hid hsz
    clear hr q1 hr2 hr3 hs1 hs2 hs3 hs4 hU w0 on_ hm
    generalize pu - a = ua at *
    generalize pd - b = db at *
    generalize a + b = ab at *
    generalize po + b = pob at *
    generalize pb + a = pba at *
    cases f
    all_goals
      simp only [if_true, if_false, Bool.false_eq_true] at hn
      subst hn
      go_enter Try.func10, Try.ntmps10
      go_wp2_with fail
      refine (hM.out _).mono ?_
      rintro e w1 ⟨rfl, hb1⟩
      have hB := (hb0.later hb1).add pv pu pd l g
      go_wp2_with fail
      refine (hR.out _).mono ?_
      rintro e w2 ⟨rfl, hb2⟩
      replace hB := hB.later hb2
      obtain ⟨c0, c1, c2, c3, c4, clt⟩ := hB.cells 0 rfl
      go_wp2_with fail
      refine (hF.out _).mono ?_
      rintro e w3 ⟨rfl, hb3⟩
      clear c0 c1 c2 c3 c4 clt
      replace hB := (hB.later hb3).add pv ua db l g
      obtain ⟨c0, c1, c2, c3, c4, clt⟩ := hB.cells 1 rfl
      go_wp2_with fail
      refine (hL.out _).mono ?_
      rintro e w4 ⟨rfl, hb4⟩
      clear c0 c1 c2 c3 c4 clt
      replace hB := hB.later hb4
      obtain ⟨c0, c1, c2, c3, c4, clt⟩ := hB.cells 1 rfl
      obtain ⟨d0, d1, d2, d3, d4, dlt⟩ := hB.cells 0 rfl
      go_wp2_with fail
      refine (hR2.out _).mono ?_
      rintro e w5 ⟨rfl, hb5⟩
      clear c0 c1 c2 c3 c4 clt d0 d1 d2 d3 d4 dlt
      replace hB := hB.later hb5
      obtain ⟨c0, c1, c2, c3, c4, clt⟩ := hB.cells 1 rfl
      obtain ⟨d0, d1, d2, d3, d4, dlt⟩ := hB.cells 0 rfl
      go_wp2_with (first
        | (go_at_call 33; refine (hsz.out _).mono ?_; rintro e w6 ⟨rfl, rfl⟩)
        | (go_at_call 20; refine (hw.out _).mono ?_; rintro e w7 ⟨rfl, hb7⟩; have hB7 := hB.later hb7))
      go_ret
      exact ⟨rfl, hB7.bel⟩
  · rw [if_neg hr] at hF
    replace hF := Lib.hid (show ∀ W, Calls Try.prog 14 #[cA pv pu pd l g, .int .i64 n] W (fun e w' => e = .returned (P2 0 0 0 0 0 9) ∧ Below W.heap.size W w') from hF)
    replace hR := Lib.hid hR
    replace hL := Lib.hid hL
    clear hr hr2 hr3 hs1 hs2 hs3 hs4 hU w0 on_ hsz hm
    cases f
    all_goals
      simp only [if_true, if_false, Bool.false_eq_true] at hn
      subst hn
      go_enter Try.func10, Try.ntmps10
      go_wp2_with fail
      refine (hM.out _).mono ?_
      rintro e w1 ⟨rfl, hb1⟩
      have hB := (hb0.later hb1).add pv pu pd l g
      go_wp2_with fail
      refine (hR.out _).mono ?_
      rintro e w2 ⟨rfl, hb2⟩
      replace hB := hB.later hb2
      obtain ⟨c0, c1, c2, c3, c4, clt⟩ := hB.cells 0 rfl
      go_wp2_with fail
      refine (hF.out _).mono ?_
      rintro e w3 ⟨rfl, hb3⟩
      clear c0 c1 c2 c3 c4 clt
      replace hB := (hB.later hb3).add 0 0 0 0 0
      obtain ⟨c0, c1, c2, c3, c4, clt⟩ := hB.cells 1 rfl
      go_wp2_with fail
      refine (hL.out _).mono ?_
      rintro e w4 ⟨rfl, hb4⟩
      clear c0 c1 c2 c3 c4 clt
      replace hB := hB.later hb4
      obtain ⟨c0, c1, c2, c3, c4, clt⟩ := hB.cells 1 rfl
      go_wp2_with (go_at_call 20; refine (hw.out _).mono ?_; rintro e w7 ⟨rfl, hb7⟩; have hB7 := hB.later hb7)
      go_ret
      exact ⟨rfl, hB7.bel⟩
theorem w_countFreed (pv pu pd pb po m : Int) (f : Bool) (w : World) {P : Prop} (w0 : I32 pv ∧ U16 pu ∧ U16 pd ∧ U16 pb ∧ U16 po) (w1 : (Lit.int .u16 m).wf = true) (w2 : P) :
    Calls Try.prog 10 #[pA pv pu pd pb po, .int .u16 m, .bool f] w fun e w' => e = .returned (.bool true) ∧ Below w.heap.size w w' :=
  freed_go pv pu pd pb po _ m f w w0 (bounds_u16 w1) rfl
end Go.Proofs.Ytodgnhkaglcjnaa.Cnt
