/- AcceptPlays. -/
import Derived.Test.YtpaoaagphacclaaA45
import Derived.Test.YtpaoaagphacclaaA15
import Derived.BigQuiet
import Derived.Deep.RegionHeld3
namespace Go.Proofs.Ytpaoaagphacclaa.Acc
open Go.RowKit Go.Maps Go.Lib
open Bal (TB bOk ckB ordV eqB eqB_t eqB_f eq_b alloc_b)
set_option linter.unusedVariables false
set_option linter.unusedSimpArgs false
set_option maxRecDepth 100000

def nwE (n : Int) : Int := if 1 ≤ n ∧ n ≤ 7 then 0 else 2
def nwO (n : Int) : Option St := if 1 ≤ n ∧ n ≤ 7 then some (newS n) else none
def HalfP (w : World) (o : Option St) (pa : Option Addr) (W : World) : Prop := Below w.heap.size w W ∧ match o with | some s => ∃ sb mb, pa = some ⟨sb, 0, none⟩ ∧ WAt w sb mb s W | none => pa = none
theorem new_p (n : Int) (w W : World) (hb : Below w.heap.size w W) :
    Calls Try.prog 14 #[.int .i64 n] W fun e W' => ∃ pa, e = .returned (.tuple #[.pointer pa, .int .i64 (nwE n)]) ∧ HalfP w (nwO n) pa W' ∧ pa.isNone = !(decide (1 ≤ n ∧ n ≤ 7)) := by
  by_cases h : 1 ≤ n ∧ n ≤ 7
  · have e1 : nwE n = 0 := if_pos h
    have e2 : nwO n = some (newS n) := if_pos h
    rw [e1, e2]
    refine (new_any n h W).mono ?_
    rintro e W' ⟨sb, mb, rfl, hA, h1, h2, hb2⟩
    have hb3 := hb.trans (hb2.mono hb.size)
    exact ⟨_, rfl, ⟨hb3, sb, mb, rfl, hA, hb3, Nat.le_trans hb.size h1, Nat.le_trans hb.size h2⟩, by rw [decide_eq_true h]; rfl⟩
  · have e1 : nwE n = 2 := if_neg h
    have e2 : nwO n = none := if_neg h
    rw [e1, e2]
    refine (new_bad n (by omega) W).mono ?_
    rintro e W' ⟨rfl, rfl⟩
    exact ⟨none, rfl, ⟨hb, rfl⟩, by rw [decide_eq_false h]; rfl⟩
theorem new_r (n : Int) (w W : World) (pa : Option Addr) (h0 : HalfP w (nwO n) pa W) :
    Calls Try.prog 15 #[.int .i64 n] W fun e W' => ∃ ra, e = .returned (.tuple #[.pointer ra, .int .i64 (nwE n)]) ∧ Two w (nwO n) (nwO n) pa ra W' ∧ ra.isNone = !(decide (1 ≤ n ∧ n ≤ 7)) := by
  obtain ⟨hb, h0⟩ := h0
  by_cases h : 1 ≤ n ∧ n ≤ 7
  · have e1 : nwE n = 0 := if_pos h
    have e2 : nwO n = some (newS n) := if_pos h
    rw [e2] at h0
    rw [e1, e2]
    obtain ⟨sb, mb, hpa, hA⟩ := h0
    refine (rnew_any n h W).mono ?_
    rintro e W' ⟨rb, rfl, hx, hlo, hb2⟩
    exact ⟨_, rfl, ⟨hb.trans (hb2.mono hb.size), sb, mb, rb, hpa, rfl, hA.later hb2, ⟨_, hx⟩, Nat.le_trans hb.size hlo⟩, by rw [decide_eq_true h]; rfl⟩
  · have e1 : nwE n = 2 := if_neg h
    have e2 : nwO n = none := if_neg h
    rw [e2] at h0
    rw [e1, e2]
    refine (rnew_bad n (by omega) W).mono ?_
    rintro e W' ⟨rfl, rfl⟩
    exact ⟨none, rfl, ⟨hb, h0, rfl⟩, by rw [decide_eq_false h]; rfl⟩
theorem keep_row {W W' : World} {j : Nat} {cs : Array Value} {T : TypeId} (h : W.heap[j]? = some (.cells cs T (0, 0))) (hb : Below W.heap.size W W') : W'.heap[j]? = some (.cells cs T (0, 0)) := (hb.block j (Array.getElem?_eq_some_iff.1 h).1).trans h

set_option maxHeartbeats 16000000 in
theorem plays_any (n : Int) (a : Option Addr) (len cap : Nat) (S : Nat → Sp) (ask : Int) (w : World) (h : IsSt w a len cap S) (hask : (Lit.int .i64 ask).wf = true) :
    Calls Try.prog 3 #[.int .i64 n, .slice a len cap, .int .i64 ask] w (Yes w) := by
  have HF := Lib.hid (short_any a len cap S w h)
  have HW := Lib.hid (fun W => works_any W)
  have HU := Lib.hid h
  have hNp := Lib.hid (fun W hb => new_p n w W hb)
  have hNr := Lib.hid (fun W pa h => new_r n w W pa h)
  have hsl := Lib.hid (fun h => short_len (S := S) (len := len) h)
  generalize nwE n = NE at *
  generalize nwO n = o0 at *
  generalize (!(decide (1 ≤ n ∧ n ≤ 7))) = PB at *
  generalize shortB S len = SB at *
  replace hask := Lib.hid hask
  clear h
  go_enter Try.func3, Try.ntmps3
  go_wp2_with fail
  refine HF.out.mono ?_
  rintro e w' ⟨rfl, rfl⟩
  cases SB with
  | false =>
    go_wp2_with (go_at_call 13; refine (HW.out _).mono ?_; rintro e w2 ⟨rfl, hb2⟩)
    go_ret
    exact ⟨rfl, hb2⟩
  | true =>
    have hl80 := hsl.out rfl
    clear hsl HF
    as_aux_lemma =>
      go_wp2_with fail
      refine (hNp.out _ (Below.refl _ _)).mono ?_
      rintro e W2 ⟨pa, rfl, hP, hpn⟩
      go_wp2_with fail
      refine (hNr.out _ _ hP).mono ?_
      rintro e W3 ⟨ra, rfl, hT0, hrn⟩
      clear hP hNp hNr
      have e1 : (NE != NE) = false := by simp
      have e2 : (!PB == PB) = false := by cases PB <;> rfl
      have e3 : (pa.isNone == ra.isNone) = true := by rw [hpn, hrn]; simp
      have e4 : (!pa.isNone == ra.isNone) = false := by rw [hpn, hrn]; exact e2
      clear hpn hrn e2
      replace hT0 := Lib.hid hT0
      go_wp2
      clear e1 e3 e4
      go_loopw [7, 9, 11] (fun pv rv iv wr => ∃ (i : Nat) (o : Option St) (pa ra : Option Addr), i ≤ len ∧ pv = .pointer pa ∧ rv = .pointer ra ∧ iv = .int .i64 i ∧ Two w o o pa ra wr) (fun _ _ iv _ => len - nOf iv)
      case atStart => exact ⟨0, o0, pa, ra, by omega, rfl, rfl, rfl, hT0.out⟩
      case round =>
        clear hT0
        obtain ⟨i, o, pa, ra, hi, rfl, rfl, rfl, hT⟩ := hrel
        by_cases hlt : i < len
        · obtain ⟨b, off, rfl, hc⟩ := HU.out.at hT.bel hlt
          obtain ⟨c0, c1, c2, c3, c4⟩ := hc
          have hwf := Lib.hid (HU.out.wf i).2.1
          generalize S i = p at *
          obtain ⟨pd, pr, pm, pk, pv⟩ := p
          simp only at c0 c1 c2 c3 c4 hwf
          have i1 : (0 : Int) ≤ (i : Nat) := by omega
          have i2 : (i : Int) < (len : Nat) := by omega
          have i3 : decide ((i : Int) < (len : Int)) = true := by simpa using i2
          have hb0 := alloc_b wr (.cells #[.int .i64 pd, .int .i64 pr, .int .i64 pm, .int .i64 pk, .string pv] TP)
          have hbk := heap_alloc_new wr (.cells #[.int .i64 pd, .int .i64 pr, .int .i64 pm, .int .i64 pk, .string pv] TP)
          replace hT := hT.later hb0
          have d0 := cell_of_row _ _ 0 _ TP _ hbk
          have d1 := cell_of_row _ _ 1 _ TP _ hbk
          have d2 := cell_of_row _ _ 2 _ TP _ hbk
          have d3 := cell_of_row _ _ 3 _ TP _ hbk
          have d4 := cell_of_row _ _ 4 _ TP _ hbk
          clear hb0
          generalize hWW : (wr.alloc (.cells #[.int .i64 pd, .int .i64 pr, .int .i64 pm, .int .i64 pk, .string pv] TP)) = W0 at *
          replace hWW := Lib.hid hWW
          generalize hbx : wr.heap.size = bx at *
          replace hbx := Lib.hid hbx
          by_cases h0 : pd = 0
          · subst h0
            as_aux_lemma =>
              have m1 : (oPE o pr pm pk != oPE o pr pm pk) = false := by simp
              have hpl := hT.plen pr pm pk
              go_wp2_with fail
              rw [hWW.out, hbx.out]
              refine (hT.ppro pr pm pk).mono ?_
              rintro e X1 ⟨z1, q1, rfl, hO1, hT, hk⟩
              replace hbk := (hk _ _ _ hbk (by decide) (by decide)).trans hbk
              clear hk d0 d1 d2 d3 d4

              have d0 := cell_of_row _ _ 0 _ TP _ hbk
              have d1 := cell_of_row _ _ 1 _ TP _ hbk
              have d2 := cell_of_row _ _ 2 _ TP _ hbk
              have d3 := cell_of_row _ _ 3 _ TP _ hbk
              have d4 := cell_of_row _ _ 4 _ TP _ hbk

              go_wp2_with fail
              refine (hT.rpro pr pm pk).mono ?_
              rintro e X2 ⟨z2, q2, rfl, hO2, hT, hk⟩
              replace hbk := (hk _ _ _ hbk (by decide) (by decide)).trans hbk
              replace hO1 := hk.own hO1
              clear hk d0 d1 d2 d3 d4
              go_wp2_with fail
              refine (rsame_any z1 z2 _ _ X2 hO1.is hO2.is (by omega) (by omega)).mono ?_
              rw [eqLs_t]
              rintro e X3 ⟨rfl, hb⟩
              replace hT := hT.later hb
              replace hbk := keep_row hbk hb
              have d3 := cell_of_row _ _ 3 _ TP _ hbk
              clear hb hO1 hO2
              generalize oPE o pr pm pk = PE at *
              generalize oPS o pr pm pk = o2 at *

              have hgl : ∀ W, (Op.equalIn 10000 TE (vE (oG o2 pk)) (vE (oG o2 pk))).run Try.prog W = .ok true W := fun W => (eq_e _ _ W).trans (by rw [eqE_t])
              have hgs : (oGs o2 pk != oGs o2 pk) = false := by simp
              have hgs2 : (oGs o2 pk == oGs o2 pk) = true := by simp
              have hpg := Lib.hid (fun W (h : Two w o2 o2 pa ra W) => h.pgot pk hwf.out)
              have hrg := Lib.hid (fun W (h : Two w o2 o2 pa ra W) => h.rgot pk)
              generalize oG o2 pk = G at *
              generalize oGs o2 pk = GS at *
              go_wp2_with fail
              refine (hpg.out _ hT).mono ?_
              rintro e Y1 ⟨rfl, hb⟩
              replace hT := hT.later hb
              clear hpg
              have hab := alloc_b Y1 (.cells #[.int .i64 G.s, .int .i64 G.r, .int .i64 G.m, .string G.v] TE)
              have hr1 := heap_alloc_new Y1 (.cells #[.int .i64 G.s, .int .i64 G.r, .int .i64 G.m, .string G.v] TE)
              replace hT := hT.later hab
              replace hbk := keep_row (keep_row hbk hb) hab
              have x3 := cell_of_row _ _ 3 _ TP _ hbk
              clear hb hab
              go_wp2_with fail
              refine (hrg.out _ hT).mono ?_
              rintro e Y2 ⟨rfl, hb⟩
              replace hT := hT.later hb
              have hab := alloc_b Y2 (.cells #[.int .i64 G.s, .int .i64 G.r, .int .i64 G.m, .string G.v] TE)
              have hr2 := heap_alloc_new Y2 (.cells #[.int .i64 G.s, .int .i64 G.r, .int .i64 G.m, .string G.v] TE)
              replace hT := hT.later hab
              replace hr1 := keep_row (keep_row hr1 hb) hab
              have u0 := cell_of_row _ _ 0 _ TE _ hr1
              have u1 := cell_of_row _ _ 1 _ TE _ hr1
              have u2 := cell_of_row _ _ 2 _ TE _ hr1
              have u3 := cell_of_row _ _ 3 _ TE _ hr1
              have v0 := cell_of_row _ _ 0 _ TE _ hr2
              have v1 := cell_of_row _ _ 1 _ TE _ hr2
              have v2 := cell_of_row _ _ 2 _ TE _ hr2
              have v3 := cell_of_row _ _ 3 _ TE _ hr2
              clear hb hab hr1 hr2 hrg

              have j5 := fun W => (eq_b (oBr o2) (oBm o2) (oBr o2) (oBm o2) W).trans (by rw [eqB_t ⟨rfl, rfl⟩])
              have j6 : (oBs o2 != oBs o2) = false := by simp
              have hl0 := hT.len 0
              have hla := hT.len ask
              go_wp2_with fail
              refine hT.pbal.mono ?_
              rintro e Y3 ⟨rfl, hb⟩
              replace hT := hT.later hb
              clear hb u0 u1 u2 u3 v0 v1 v2 v3
              go_wp2_with fail
              refine hT.rbal.mono ?_
              rintro e Y4 ⟨rfl, hb⟩
              replace hT := hT.later hb
              clear hb
              go_wp2_with fail
              refine hT.pbase.mono ?_
              rintro e w' ⟨rfl, rfl⟩
              go_wp2_with fail
              refine hT.rbase.mono ?_
              rintro e w' ⟨rfl, rfl⟩

              go_wp2_with fail
              refine (hT.plist 0).mono ?_
              rintro e Y5 ⟨v5, b5, rfl, hO5, hb⟩
              replace hT := hT.later hb
              clear hb
              go_wp2_with fail
              refine (hT.rlist 0).mono ?_
              rintro e Y6 ⟨v6, b6, rfl, hO6, hb⟩
              replace hT := hT.later hb
              replace hO5 := (RK.below hb).own hO5
              clear hb
              go_wp2_with fail
              refine (rsame_any v5 v6 _ _ Y6 hO5.is hO6.is (by omega) (by omega)).mono ?_
              rw [eqLs_t]
              rintro e Y7 ⟨rfl, hb⟩
              replace hT := hT.later hb
              clear hb hO5 hO6

              go_wp2_with fail
              refine (hT.plist ask).mono ?_
              rintro e Y5 ⟨v5, b5, rfl, hO5, hb⟩
              replace hT := hT.later hb
              clear hb
              go_wp2_with fail
              refine (hT.rlist ask).mono ?_
              rintro e Y6 ⟨v6, b6, rfl, hO6, hb⟩
              replace hT := hT.later hb
              replace hO5 := (RK.below hb).own hO5
              clear hb
              go_wp2_with fail
              refine (rsame_any v5 v6 _ _ Y6 hO5.is hO6.is (by omega) (by omega)).mono ?_
              rw [eqLs_t]
              rintro e Y7 ⟨rfl, hb⟩
              replace hT := hT.later hb
              clear hb hO5 hO6

              replace hT := Lib.hid hT
              go_wp2
              go_roundw
              case rel => exact ⟨i + 1, o2, pa, ra, by omega, rfl, rfl, by go_num, hT.out⟩
              case measure => simp [nOf]; omega
          by_cases h1 : pd = 1
          · subst h1
            as_aux_lemma =>
              have HA : Hid (∀ W t, (Two w o t pa ra W ∧ W.heap[bx]? = some (.cells #[.int .i64 1, .int .i64 pr, .int .i64 pm, .int .i64 pk, .string pv] TP (0, 0))) → Calls Try.prog 19 #[.pointer pa, .agg #[.int .i64 pr, .int .i64 pm], .int .i64 pk, .string pv] W fun e W' => e = .returned (.int .i64 (oAE o pr pm pk pv)) ∧ (Two w (oAS o pr pm pk pv) t pa ra W' ∧ W'.heap[bx]? = some (.cells #[.int .i64 1, .int .i64 pr, .int .i64 pm, .int .i64 pk, .string pv] TP (0, 0)))) := Lib.hid (by
                rintro W t ⟨h1, h2⟩
                refine (h1.pacc pr pm pk pv).mono ?_
                rintro e W' ⟨rfl, h3, hk⟩
                exact ⟨rfl, h3, (hk _ _ _ h2 (by decide) (by decide)).trans h2⟩)
              have HR : Hid (∀ W t, (Two w t o pa ra W ∧ W.heap[bx]? = some (.cells #[.int .i64 1, .int .i64 pr, .int .i64 pm, .int .i64 pk, .string pv] TP (0, 0))) → Calls Try.prog 20 #[.pointer ra, .agg #[.int .i64 pr, .int .i64 pm], .int .i64 pk, .string pv] W fun e W' => e = .returned (.int .i64 (oAE o pr pm pk pv)) ∧ (Two w t (oAS o pr pm pk pv) pa ra W' ∧ W'.heap[bx]? = some (.cells #[.int .i64 1, .int .i64 pr, .int .i64 pm, .int .i64 pk, .string pv] TP (0, 0)))) := Lib.hid (by
                rintro W t ⟨h1, h2⟩
                refine (h1.racc pr pm pk pv).mono ?_
                rintro e W' ⟨rfl, h3, hk⟩
                exact ⟨rfl, h3, (hk _ _ _ h2 (by decide) (by decide)).trans h2⟩)
              have HK : Hid (∀ s t W, (Two w s t pa ra W ∧ W.heap[bx]? = some (.cells #[.int .i64 1, .int .i64 pr, .int .i64 pm, .int .i64 pk, .string pv] TP (0, 0))) → W.cell? ⟨bx, 1, none⟩ = some (.int .i64 pr) ∧ W.cell? ⟨bx, 2, none⟩ = some (.int .i64 pm) ∧ W.cell? ⟨bx, 3, none⟩ = some (.int .i64 pk) ∧ W.cell? ⟨bx, 4, none⟩ = some (.string pv)) := Lib.hid fun s t W h => ⟨cell_of_row _ _ 1 _ TP _ h.2, cell_of_row _ _ 2 _ TP _ h.2, cell_of_row _ _ 3 _ TP _ h.2, cell_of_row _ _ 4 _ TP _ h.2⟩
              have T0 : Hid (Two w o o pa ra W0.drew ∧ W0.drew.heap[bx]? = some (.cells #[.int .i64 1, .int .i64 pr, .int .i64 pm, .int .i64 pk, .string pv] TP (0, 0))) := Lib.hid ⟨hT.later (Below.refl _ _).drew, hbk⟩
              generalize oAE o pr pm pk pv = rE at *
              generalize oAS o pr pm pk pv = o2 at *
              have m1 : (rE != rE) = false := by simp
              clear hT hbk
              go_wp2_with fail
              rw [hWW.out, hbx.out]
              go_region_held3 (fun W => W.cell? ⟨bx, 1, none⟩ = some (.int .i64 pr) ∧ W.cell? ⟨bx, 2, none⟩ = some (.int .i64 pm) ∧ W.cell? ⟨bx, 3, none⟩ = some (.int .i64 pk) ∧ W.cell? ⟨bx, 4, none⟩ = some (.string pv))
                (first | exact HK.out _ _ _ T3 | exact HK.out _ _ _ T1p | exact HK.out _ _ _ T1r | exact HK.out _ _ _ T0.out | assumption)
                (first
                  | (go_at_call 19; refine (HA.out _ _ T1r).mono ?_; rintro e w3 ⟨rfl, T3⟩)
                  | (go_at_call 19; refine (HA.out _ _ T0.out).mono ?_; rintro e w2 ⟨rfl, T1p⟩)
                  | (go_at_call 20; refine (HR.out _ _ T1p).mono ?_; rintro e w3 ⟨rfl, T3⟩)
                  | (go_at_call 20; refine (HR.out _ _ T0.out).mono ?_; rintro e w2 ⟨rfl, T1r⟩))
              all_goals
                obtain ⟨hT, hbk⟩ := T3
                clear T0 HA HR HK d0 d1 d2 d3 d4
                have d3 := cell_of_row _ _ 3 _ TP _ hbk
                have hgl : ∀ W, (Op.equalIn 10000 TE (vE (oG o2 pk)) (vE (oG o2 pk))).run Try.prog W = .ok true W := fun W => (eq_e _ _ W).trans (by rw [eqE_t])
                have hgs : (oGs o2 pk != oGs o2 pk) = false := by simp
                have hgs2 : (oGs o2 pk == oGs o2 pk) = true := by simp
                have hpg := Lib.hid (fun W (h : Two w o2 o2 pa ra W) => h.pgot pk hwf.out)
                have hrg := Lib.hid (fun W (h : Two w o2 o2 pa ra W) => h.rgot pk)
                generalize oG o2 pk = G at *
                generalize oGs o2 pk = GS at *
                go_wp2_with fail
                refine (hpg.out _ hT).mono ?_
                rintro e Y1 ⟨rfl, hb⟩
                replace hT := hT.later hb
                clear hpg
                have hab := alloc_b Y1 (.cells #[.int .i64 G.s, .int .i64 G.r, .int .i64 G.m, .string G.v] TE)
                have hr1 := heap_alloc_new Y1 (.cells #[.int .i64 G.s, .int .i64 G.r, .int .i64 G.m, .string G.v] TE)
                replace hT := hT.later hab
                replace hbk := keep_row (keep_row hbk hb) hab
                have x3 := cell_of_row _ _ 3 _ TP _ hbk
                clear hb hab
                go_wp2_with fail
                refine (hrg.out _ hT).mono ?_
                rintro e Y2 ⟨rfl, hb⟩
                replace hT := hT.later hb
                have hab := alloc_b Y2 (.cells #[.int .i64 G.s, .int .i64 G.r, .int .i64 G.m, .string G.v] TE)
                have hr2 := heap_alloc_new Y2 (.cells #[.int .i64 G.s, .int .i64 G.r, .int .i64 G.m, .string G.v] TE)
                replace hT := hT.later hab
                replace hr1 := keep_row (keep_row hr1 hb) hab
                have u0 := cell_of_row _ _ 0 _ TE _ hr1
                have u1 := cell_of_row _ _ 1 _ TE _ hr1
                have u2 := cell_of_row _ _ 2 _ TE _ hr1
                have u3 := cell_of_row _ _ 3 _ TE _ hr1
                have v0 := cell_of_row _ _ 0 _ TE _ hr2
                have v1 := cell_of_row _ _ 1 _ TE _ hr2
                have v2 := cell_of_row _ _ 2 _ TE _ hr2
                have v3 := cell_of_row _ _ 3 _ TE _ hr2
                clear hb hab hr1 hr2 hrg

                have j5 := fun W => (eq_b (oBr o2) (oBm o2) (oBr o2) (oBm o2) W).trans (by rw [eqB_t ⟨rfl, rfl⟩])
                have j6 : (oBs o2 != oBs o2) = false := by simp
                have hl0 := hT.len 0
                have hla := hT.len ask
                go_wp2_with fail
                refine hT.pbal.mono ?_
                rintro e Y3 ⟨rfl, hb⟩
                replace hT := hT.later hb
                clear hb u0 u1 u2 u3 v0 v1 v2 v3
                go_wp2_with fail
                refine hT.rbal.mono ?_
                rintro e Y4 ⟨rfl, hb⟩
                replace hT := hT.later hb
                clear hb
                go_wp2_with fail
                refine hT.pbase.mono ?_
                rintro e w' ⟨rfl, rfl⟩
                go_wp2_with fail
                refine hT.rbase.mono ?_
                rintro e w' ⟨rfl, rfl⟩

                go_wp2_with fail
                refine (hT.plist 0).mono ?_
                rintro e Y5 ⟨v5, b5, rfl, hO5, hb⟩
                replace hT := hT.later hb
                clear hb
                go_wp2_with fail
                refine (hT.rlist 0).mono ?_
                rintro e Y6 ⟨v6, b6, rfl, hO6, hb⟩
                replace hT := hT.later hb
                replace hO5 := (RK.below hb).own hO5
                clear hb
                go_wp2_with fail
                refine (rsame_any v5 v6 _ _ Y6 hO5.is hO6.is (by omega) (by omega)).mono ?_
                rw [eqLs_t]
                rintro e Y7 ⟨rfl, hb⟩
                replace hT := hT.later hb
                clear hb hO5 hO6

                go_wp2_with fail
                refine (hT.plist ask).mono ?_
                rintro e Y5 ⟨v5, b5, rfl, hO5, hb⟩
                replace hT := hT.later hb
                clear hb
                go_wp2_with fail
                refine (hT.rlist ask).mono ?_
                rintro e Y6 ⟨v6, b6, rfl, hO6, hb⟩
                replace hT := hT.later hb
                replace hO5 := (RK.below hb).own hO5
                clear hb
                go_wp2_with fail
                refine (rsame_any v5 v6 _ _ Y6 hO5.is hO6.is (by omega) (by omega)).mono ?_
                rw [eqLs_t]
                rintro e Y7 ⟨rfl, hb⟩
                replace hT := hT.later hb
                clear hb hO5 hO6

                replace hT := Lib.hid hT
                go_wp2
                go_roundw
                case rel => exact ⟨i + 1, o2, pa, ra, by omega, rfl, rfl, by go_num, hT.out⟩
                case measure => simp [nOf]; omega
          by_cases h2 : pd = 2
          · subst h2
            as_aux_lemma =>
              have HA : Hid (∀ W t, (Two w o t pa ra W ∧ W.heap[bx]? = some (.cells #[.int .i64 2, .int .i64 pr, .int .i64 pm, .int .i64 pk, .string pv] TP (0, 0))) → Calls Try.prog 21 #[.pointer pa, .int .i64 pk] W fun e W' => e = .returned (.int .i64 (oFE o pk)) ∧ (Two w (oFS o pk) t pa ra W' ∧ W'.heap[bx]? = some (.cells #[.int .i64 2, .int .i64 pr, .int .i64 pm, .int .i64 pk, .string pv] TP (0, 0)))) := Lib.hid (by
                rintro W t ⟨h1, h2⟩
                refine (h1.pfor pk).mono ?_
                rintro e W' ⟨rfl, h3, hk⟩
                exact ⟨rfl, h3, (hk _ _ _ h2 (by decide) (by decide)).trans h2⟩)
              have HR : Hid (∀ W t, (Two w t o pa ra W ∧ W.heap[bx]? = some (.cells #[.int .i64 2, .int .i64 pr, .int .i64 pm, .int .i64 pk, .string pv] TP (0, 0))) → Calls Try.prog 22 #[.pointer ra, .int .i64 pk] W fun e W' => e = .returned (.int .i64 (oFE o pk)) ∧ (Two w t (oFS o pk) pa ra W' ∧ W'.heap[bx]? = some (.cells #[.int .i64 2, .int .i64 pr, .int .i64 pm, .int .i64 pk, .string pv] TP (0, 0)))) := Lib.hid (by
                rintro W t ⟨h1, h2⟩
                refine (h1.rfor pk).mono ?_
                rintro e W' ⟨rfl, h3, hk⟩
                exact ⟨rfl, h3, (hk _ _ _ h2 (by decide) (by decide)).trans h2⟩)
              have HK : Hid (∀ s t W, (Two w s t pa ra W ∧ W.heap[bx]? = some (.cells #[.int .i64 2, .int .i64 pr, .int .i64 pm, .int .i64 pk, .string pv] TP (0, 0))) → W.cell? ⟨bx, 1, none⟩ = some (.int .i64 pr) ∧ W.cell? ⟨bx, 2, none⟩ = some (.int .i64 pm) ∧ W.cell? ⟨bx, 3, none⟩ = some (.int .i64 pk) ∧ W.cell? ⟨bx, 4, none⟩ = some (.string pv)) := Lib.hid fun s t W h => ⟨cell_of_row _ _ 1 _ TP _ h.2, cell_of_row _ _ 2 _ TP _ h.2, cell_of_row _ _ 3 _ TP _ h.2, cell_of_row _ _ 4 _ TP _ h.2⟩
              have T0 : Hid (Two w o o pa ra W0.drew ∧ W0.drew.heap[bx]? = some (.cells #[.int .i64 2, .int .i64 pr, .int .i64 pm, .int .i64 pk, .string pv] TP (0, 0))) := Lib.hid ⟨hT.later (Below.refl _ _).drew, hbk⟩
              generalize oFE o pk = rE at *
              generalize oFS o pk = o2 at *
              have m1 : (rE != rE) = false := by simp
              clear hT hbk
              go_wp2_with fail
              rw [hWW.out, hbx.out]
              go_region_held3 (fun W => W.cell? ⟨bx, 1, none⟩ = some (.int .i64 pr) ∧ W.cell? ⟨bx, 2, none⟩ = some (.int .i64 pm) ∧ W.cell? ⟨bx, 3, none⟩ = some (.int .i64 pk) ∧ W.cell? ⟨bx, 4, none⟩ = some (.string pv))
                (first | exact HK.out _ _ _ T3 | exact HK.out _ _ _ T1p | exact HK.out _ _ _ T1r | exact HK.out _ _ _ T0.out | assumption)
                (first
                  | (go_at_call 21; refine (HA.out _ _ T1r).mono ?_; rintro e w3 ⟨rfl, T3⟩)
                  | (go_at_call 21; refine (HA.out _ _ T0.out).mono ?_; rintro e w2 ⟨rfl, T1p⟩)
                  | (go_at_call 22; refine (HR.out _ _ T1p).mono ?_; rintro e w3 ⟨rfl, T3⟩)
                  | (go_at_call 22; refine (HR.out _ _ T0.out).mono ?_; rintro e w2 ⟨rfl, T1r⟩))
              all_goals
                obtain ⟨hT, hbk⟩ := T3
                clear T0 HA HR HK d0 d1 d2 d3 d4
                have d3 := cell_of_row _ _ 3 _ TP _ hbk
                have hgl : ∀ W, (Op.equalIn 10000 TE (vE (oG o2 pk)) (vE (oG o2 pk))).run Try.prog W = .ok true W := fun W => (eq_e _ _ W).trans (by rw [eqE_t])
                have hgs : (oGs o2 pk != oGs o2 pk) = false := by simp
                have hgs2 : (oGs o2 pk == oGs o2 pk) = true := by simp
                have hpg := Lib.hid (fun W (h : Two w o2 o2 pa ra W) => h.pgot pk hwf.out)
                have hrg := Lib.hid (fun W (h : Two w o2 o2 pa ra W) => h.rgot pk)
                generalize oG o2 pk = G at *
                generalize oGs o2 pk = GS at *
                go_wp2_with fail
                refine (hpg.out _ hT).mono ?_
                rintro e Y1 ⟨rfl, hb⟩
                replace hT := hT.later hb
                clear hpg
                have hab := alloc_b Y1 (.cells #[.int .i64 G.s, .int .i64 G.r, .int .i64 G.m, .string G.v] TE)
                have hr1 := heap_alloc_new Y1 (.cells #[.int .i64 G.s, .int .i64 G.r, .int .i64 G.m, .string G.v] TE)
                replace hT := hT.later hab
                replace hbk := keep_row (keep_row hbk hb) hab
                have x3 := cell_of_row _ _ 3 _ TP _ hbk
                clear hb hab
                go_wp2_with fail
                refine (hrg.out _ hT).mono ?_
                rintro e Y2 ⟨rfl, hb⟩
                replace hT := hT.later hb
                have hab := alloc_b Y2 (.cells #[.int .i64 G.s, .int .i64 G.r, .int .i64 G.m, .string G.v] TE)
                have hr2 := heap_alloc_new Y2 (.cells #[.int .i64 G.s, .int .i64 G.r, .int .i64 G.m, .string G.v] TE)
                replace hT := hT.later hab
                replace hr1 := keep_row (keep_row hr1 hb) hab
                have u0 := cell_of_row _ _ 0 _ TE _ hr1
                have u1 := cell_of_row _ _ 1 _ TE _ hr1
                have u2 := cell_of_row _ _ 2 _ TE _ hr1
                have u3 := cell_of_row _ _ 3 _ TE _ hr1
                have v0 := cell_of_row _ _ 0 _ TE _ hr2
                have v1 := cell_of_row _ _ 1 _ TE _ hr2
                have v2 := cell_of_row _ _ 2 _ TE _ hr2
                have v3 := cell_of_row _ _ 3 _ TE _ hr2
                clear hb hab hr1 hr2 hrg

                have j5 := fun W => (eq_b (oBr o2) (oBm o2) (oBr o2) (oBm o2) W).trans (by rw [eqB_t ⟨rfl, rfl⟩])
                have j6 : (oBs o2 != oBs o2) = false := by simp
                have hl0 := hT.len 0
                have hla := hT.len ask
                go_wp2_with fail
                refine hT.pbal.mono ?_
                rintro e Y3 ⟨rfl, hb⟩
                replace hT := hT.later hb
                clear hb u0 u1 u2 u3 v0 v1 v2 v3
                go_wp2_with fail
                refine hT.rbal.mono ?_
                rintro e Y4 ⟨rfl, hb⟩
                replace hT := hT.later hb
                clear hb
                go_wp2_with fail
                refine hT.pbase.mono ?_
                rintro e w' ⟨rfl, rfl⟩
                go_wp2_with fail
                refine hT.rbase.mono ?_
                rintro e w' ⟨rfl, rfl⟩

                go_wp2_with fail
                refine (hT.plist 0).mono ?_
                rintro e Y5 ⟨v5, b5, rfl, hO5, hb⟩
                replace hT := hT.later hb
                clear hb
                go_wp2_with fail
                refine (hT.rlist 0).mono ?_
                rintro e Y6 ⟨v6, b6, rfl, hO6, hb⟩
                replace hT := hT.later hb
                replace hO5 := (RK.below hb).own hO5
                clear hb
                go_wp2_with fail
                refine (rsame_any v5 v6 _ _ Y6 hO5.is hO6.is (by omega) (by omega)).mono ?_
                rw [eqLs_t]
                rintro e Y7 ⟨rfl, hb⟩
                replace hT := hT.later hb
                clear hb hO5 hO6

                go_wp2_with fail
                refine (hT.plist ask).mono ?_
                rintro e Y5 ⟨v5, b5, rfl, hO5, hb⟩
                replace hT := hT.later hb
                clear hb
                go_wp2_with fail
                refine (hT.rlist ask).mono ?_
                rintro e Y6 ⟨v6, b6, rfl, hO6, hb⟩
                replace hT := hT.later hb
                replace hO5 := (RK.below hb).own hO5
                clear hb
                go_wp2_with fail
                refine (rsame_any v5 v6 _ _ Y6 hO5.is hO6.is (by omega) (by omega)).mono ?_
                rw [eqLs_t]
                rintro e Y7 ⟨rfl, hb⟩
                replace hT := hT.later hb
                clear hb hO5 hO6

                replace hT := Lib.hid hT
                go_wp2
                go_roundw
                case rel => exact ⟨i + 1, o2, pa, ra, by omega, rfl, rfl, by go_num, hT.out⟩
                case measure => simp [nOf]; omega
          by_cases h3 : pd = 3
          · subst h3
            as_aux_lemma =>
              go_wp2_with fail
              rw [hWW.out, hbx.out]
              refine hT.pcopy.mono ?_
              rintro e X1 ⟨pa, rfl, hT, hk⟩
              replace hbk := (hk _ _ _ hbk (by decide) (by decide)).trans hbk
              clear hk d0 d1 d2 d3 d4
              go_wp2_with fail
              refine hT.rcopy.mono ?_
              rintro e X2 ⟨ra, rfl, hT, hk⟩
              replace hbk := (hk _ _ _ hbk (by decide) (by decide)).trans hbk
              have d3 := cell_of_row _ _ 3 _ TP _ hbk
              clear hk

              have hgl : ∀ W, (Op.equalIn 10000 TE (vE (oG o pk)) (vE (oG o pk))).run Try.prog W = .ok true W := fun W => (eq_e _ _ W).trans (by rw [eqE_t])
              have hgs : (oGs o pk != oGs o pk) = false := by simp
              have hgs2 : (oGs o pk == oGs o pk) = true := by simp
              have hpg := Lib.hid (fun W (h : Two w o o pa ra W) => h.pgot pk hwf.out)
              have hrg := Lib.hid (fun W (h : Two w o o pa ra W) => h.rgot pk)
              generalize oG o pk = G at *
              generalize oGs o pk = GS at *
              go_wp2_with fail
              refine (hpg.out _ hT).mono ?_
              rintro e Y1 ⟨rfl, hb⟩
              replace hT := hT.later hb
              clear hpg
              have hab := alloc_b Y1 (.cells #[.int .i64 G.s, .int .i64 G.r, .int .i64 G.m, .string G.v] TE)
              have hr1 := heap_alloc_new Y1 (.cells #[.int .i64 G.s, .int .i64 G.r, .int .i64 G.m, .string G.v] TE)
              replace hT := hT.later hab
              replace hbk := keep_row (keep_row hbk hb) hab
              have x3 := cell_of_row _ _ 3 _ TP _ hbk
              clear hb hab
              go_wp2_with fail
              refine (hrg.out _ hT).mono ?_
              rintro e Y2 ⟨rfl, hb⟩
              replace hT := hT.later hb
              have hab := alloc_b Y2 (.cells #[.int .i64 G.s, .int .i64 G.r, .int .i64 G.m, .string G.v] TE)
              have hr2 := heap_alloc_new Y2 (.cells #[.int .i64 G.s, .int .i64 G.r, .int .i64 G.m, .string G.v] TE)
              replace hT := hT.later hab
              replace hr1 := keep_row (keep_row hr1 hb) hab
              have u0 := cell_of_row _ _ 0 _ TE _ hr1
              have u1 := cell_of_row _ _ 1 _ TE _ hr1
              have u2 := cell_of_row _ _ 2 _ TE _ hr1
              have u3 := cell_of_row _ _ 3 _ TE _ hr1
              have v0 := cell_of_row _ _ 0 _ TE _ hr2
              have v1 := cell_of_row _ _ 1 _ TE _ hr2
              have v2 := cell_of_row _ _ 2 _ TE _ hr2
              have v3 := cell_of_row _ _ 3 _ TE _ hr2
              clear hb hab hr1 hr2 hrg

              have j5 := fun W => (eq_b (oBr o) (oBm o) (oBr o) (oBm o) W).trans (by rw [eqB_t ⟨rfl, rfl⟩])
              have j6 : (oBs o != oBs o) = false := by simp
              have hl0 := hT.len 0
              have hla := hT.len ask
              go_wp2_with fail
              refine hT.pbal.mono ?_
              rintro e Y3 ⟨rfl, hb⟩
              replace hT := hT.later hb
              clear hb u0 u1 u2 u3 v0 v1 v2 v3
              go_wp2_with fail
              refine hT.rbal.mono ?_
              rintro e Y4 ⟨rfl, hb⟩
              replace hT := hT.later hb
              clear hb
              go_wp2_with fail
              refine hT.pbase.mono ?_
              rintro e w' ⟨rfl, rfl⟩
              go_wp2_with fail
              refine hT.rbase.mono ?_
              rintro e w' ⟨rfl, rfl⟩

              go_wp2_with fail
              refine (hT.plist 0).mono ?_
              rintro e Y5 ⟨v5, b5, rfl, hO5, hb⟩
              replace hT := hT.later hb
              clear hb
              go_wp2_with fail
              refine (hT.rlist 0).mono ?_
              rintro e Y6 ⟨v6, b6, rfl, hO6, hb⟩
              replace hT := hT.later hb
              replace hO5 := (RK.below hb).own hO5
              clear hb
              go_wp2_with fail
              refine (rsame_any v5 v6 _ _ Y6 hO5.is hO6.is (by omega) (by omega)).mono ?_
              rw [eqLs_t]
              rintro e Y7 ⟨rfl, hb⟩
              replace hT := hT.later hb
              clear hb hO5 hO6

              go_wp2_with fail
              refine (hT.plist ask).mono ?_
              rintro e Y5 ⟨v5, b5, rfl, hO5, hb⟩
              replace hT := hT.later hb
              clear hb
              go_wp2_with fail
              refine (hT.rlist ask).mono ?_
              rintro e Y6 ⟨v6, b6, rfl, hO6, hb⟩
              replace hT := hT.later hb
              replace hO5 := (RK.below hb).own hO5
              clear hb
              go_wp2_with fail
              refine (rsame_any v5 v6 _ _ Y6 hO5.is hO6.is (by omega) (by omega)).mono ?_
              rw [eqLs_t]
              rintro e Y7 ⟨rfl, hb⟩
              replace hT := hT.later hb
              clear hb hO5 hO6

              replace hT := Lib.hid hT
              go_wp2
              go_roundw
              case rel => exact ⟨i + 1, o, pa, ra, by omega, rfl, rfl, by go_num, hT.out⟩
              case measure => simp [nOf]; omega
          as_aux_lemma =>
            have g0 : (pd == 0) = false := by simpa using h0
            have g0' : (pd = 0) = False := by simpa using h0
            have g1 : (pd == 1) = false := by simpa using h1
            have g1' : (pd = 1) = False := by simpa using h1
            have g2 : (pd == 2) = false := by simpa using h2
            have g2' : (pd = 2) = False := by simpa using h2
            have g3 : (pd == 3) = false := by simpa using h3
            have g3' : (pd = 3) = False := by simpa using h3
            clear h0 h1 h2 h3

            have hgl : ∀ W, (Op.equalIn 10000 TE (vE (oG o pk)) (vE (oG o pk))).run Try.prog W = .ok true W := fun W => (eq_e _ _ W).trans (by rw [eqE_t])
            have hgs : (oGs o pk != oGs o pk) = false := by simp
            have hgs2 : (oGs o pk == oGs o pk) = true := by simp
            have hpg := Lib.hid (fun W (h : Two w o o pa ra W) => h.pgot pk hwf.out)
            have hrg := Lib.hid (fun W (h : Two w o o pa ra W) => h.rgot pk)
            generalize oG o pk = G at *
            generalize oGs o pk = GS at *
            go_wp2_with fail
            rw [hWW.out, hbx.out]
            refine (hpg.out _ hT).mono ?_
            rintro e Y1 ⟨rfl, hb⟩
            replace hT := hT.later hb
            clear hpg
            have hab := alloc_b Y1 (.cells #[.int .i64 G.s, .int .i64 G.r, .int .i64 G.m, .string G.v] TE)
            have hr1 := heap_alloc_new Y1 (.cells #[.int .i64 G.s, .int .i64 G.r, .int .i64 G.m, .string G.v] TE)
            replace hT := hT.later hab
            replace hbk := keep_row (keep_row hbk hb) hab
            have x3 := cell_of_row _ _ 3 _ TP _ hbk
            clear hb hab
            go_wp2_with fail
            refine (hrg.out _ hT).mono ?_
            rintro e Y2 ⟨rfl, hb⟩
            replace hT := hT.later hb
            have hab := alloc_b Y2 (.cells #[.int .i64 G.s, .int .i64 G.r, .int .i64 G.m, .string G.v] TE)
            have hr2 := heap_alloc_new Y2 (.cells #[.int .i64 G.s, .int .i64 G.r, .int .i64 G.m, .string G.v] TE)
            replace hT := hT.later hab
            replace hr1 := keep_row (keep_row hr1 hb) hab
            have u0 := cell_of_row _ _ 0 _ TE _ hr1
            have u1 := cell_of_row _ _ 1 _ TE _ hr1
            have u2 := cell_of_row _ _ 2 _ TE _ hr1
            have u3 := cell_of_row _ _ 3 _ TE _ hr1
            have v0 := cell_of_row _ _ 0 _ TE _ hr2
            have v1 := cell_of_row _ _ 1 _ TE _ hr2
            have v2 := cell_of_row _ _ 2 _ TE _ hr2
            have v3 := cell_of_row _ _ 3 _ TE _ hr2
            clear hb hab hr1 hr2 hrg

            have j5 := fun W => (eq_b (oBr o) (oBm o) (oBr o) (oBm o) W).trans (by rw [eqB_t ⟨rfl, rfl⟩])
            have j6 : (oBs o != oBs o) = false := by simp
            have hl0 := hT.len 0
            have hla := hT.len ask
            go_wp2_with fail
            refine hT.pbal.mono ?_
            rintro e Y3 ⟨rfl, hb⟩
            replace hT := hT.later hb
            clear hb u0 u1 u2 u3 v0 v1 v2 v3
            go_wp2_with fail
            refine hT.rbal.mono ?_
            rintro e Y4 ⟨rfl, hb⟩
            replace hT := hT.later hb
            clear hb
            go_wp2_with fail
            refine hT.pbase.mono ?_
            rintro e w' ⟨rfl, rfl⟩
            go_wp2_with fail
            refine hT.rbase.mono ?_
            rintro e w' ⟨rfl, rfl⟩

            go_wp2_with fail
            refine (hT.plist 0).mono ?_
            rintro e Y5 ⟨v5, b5, rfl, hO5, hb⟩
            replace hT := hT.later hb
            clear hb
            go_wp2_with fail
            refine (hT.rlist 0).mono ?_
            rintro e Y6 ⟨v6, b6, rfl, hO6, hb⟩
            replace hT := hT.later hb
            replace hO5 := (RK.below hb).own hO5
            clear hb
            go_wp2_with fail
            refine (rsame_any v5 v6 _ _ Y6 hO5.is hO6.is (by omega) (by omega)).mono ?_
            rw [eqLs_t]
            rintro e Y7 ⟨rfl, hb⟩
            replace hT := hT.later hb
            clear hb hO5 hO6

            go_wp2_with fail
            refine (hT.plist ask).mono ?_
            rintro e Y5 ⟨v5, b5, rfl, hO5, hb⟩
            replace hT := hT.later hb
            clear hb
            go_wp2_with fail
            refine (hT.rlist ask).mono ?_
            rintro e Y6 ⟨v6, b6, rfl, hO6, hb⟩
            replace hT := hT.later hb
            replace hO5 := (RK.below hb).own hO5
            clear hb
            go_wp2_with fail
            refine (rsame_any v5 v6 _ _ Y6 hO5.is hO6.is (by omega) (by omega)).mono ?_
            rw [eqLs_t]
            rintro e Y7 ⟨rfl, hb⟩
            replace hT := hT.later hb
            clear hb hO5 hO6

            replace hT := Lib.hid hT
            go_wp2
            go_roundw
            case rel => exact ⟨i + 1, o, pa, ra, by omega, rfl, rfl, by go_num, hT.out⟩
            case measure => simp [nOf]; omega
        · obtain rfl : i = len := by omega
          have i3 : decide ((i : Int) < (i : Int)) = false := by simp
          as_aux_lemma =>
            have hgl : ∀ W, (Op.equalIn 10000 TE (vE (oG o ask)) (vE (oG o ask))).run Try.prog W = .ok true W := fun W => (eq_e _ _ W).trans (by rw [eqE_t])
            have hgs : (oGs o ask != oGs o ask) = false := by simp
            have hgs2 : (oGs o ask == oGs o ask) = true := by simp
            have hpg := Lib.hid (fun W (h : Two w o o pa ra W) => h.pgot ask hask.out)
            have hrg := Lib.hid (fun W (h : Two w o o pa ra W) => h.rgot ask)
            generalize oG o ask = G at *
            generalize oGs o ask = GS at *
            go_wp2_with fail
            refine (hpg.out _ hT).mono ?_
            rintro e Y1 ⟨rfl, hb⟩
            replace hT := hT.later hb
            clear hpg
            have hab := alloc_b Y1 (.cells #[.int .i64 G.s, .int .i64 G.r, .int .i64 G.m, .string G.v] TE)
            have hr1 := heap_alloc_new Y1 (.cells #[.int .i64 G.s, .int .i64 G.r, .int .i64 G.m, .string G.v] TE)
            replace hT := hT.later hab
            clear hb hab
            go_wp2_with fail
            refine (hrg.out _ hT).mono ?_
            rintro e Y2 ⟨rfl, hb⟩
            replace hT := hT.later hb
            have hab := alloc_b Y2 (.cells #[.int .i64 G.s, .int .i64 G.r, .int .i64 G.m, .string G.v] TE)
            have hr2 := heap_alloc_new Y2 (.cells #[.int .i64 G.s, .int .i64 G.r, .int .i64 G.m, .string G.v] TE)
            replace hT := hT.later hab
            replace hr1 := keep_row (keep_row hr1 hb) hab
            have u0 := cell_of_row _ _ 0 _ TE _ hr1
            have u1 := cell_of_row _ _ 1 _ TE _ hr1
            have u2 := cell_of_row _ _ 2 _ TE _ hr1
            have u3 := cell_of_row _ _ 3 _ TE _ hr1
            have v0 := cell_of_row _ _ 0 _ TE _ hr2
            have v1 := cell_of_row _ _ 1 _ TE _ hr2
            have v2 := cell_of_row _ _ 2 _ TE _ hr2
            have v3 := cell_of_row _ _ 3 _ TE _ hr2
            clear hb hab hr1 hr2 hrg

            go_wp2_with fail
            refine (HW.out _).mono ?_
            rintro e Y3 ⟨rfl, hb⟩
            have hbl := hT.bel
            clear hT
            go_wp2_with fail
            go_ret
            exact ⟨rfl, below2 hbl hb⟩
theorem plays_law (a0 : Int) (a : Option Addr) (len cap : Nat) (S : Nat → Sp) (a2 : Int) (w : World) (h0 : (Lit.int .i64 a0).wf = true) (h : IsSt w a len cap S) (h2 : (Lit.int .i64 a2).wf = true) :
    Calls Try.prog 3 #[.int .i64 a0, .slice a len cap, .int .i64 a2] w (Yes w) := plays_any a0 a len cap S a2 w h h2
end Go.Proofs.Ytpaoaagphacclaa.Acc
