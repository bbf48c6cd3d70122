/- ProposePlays. -/
import Derived.Test.YtffiooclkchoiaaP33
import Derived.Deep.CutRange
import Derived.BigQuiet
namespace Go.Proofs.Ytffiooclkchoiaa.Prp
open Go.RowKit Go.Lib
open Bal (TB bOk ckB ordV eqB eqB_t eqB_f eq_b alloc_b check_any order_any rcheck_any rorder_any)
set_option linter.unusedVariables false
set_option linter.unusedSimpArgs false
set_option maxRecDepth 100000

def nwE (n r m f : Int) : Int := if newOk n r m f then 0 else 2
def nwO (n r m f : Int) : Option St := if newOk n r m f then some (newS n r m f) else none
def HalfP (w : World) (o : Option St) (pa : Option Addr) (W : World) : Prop := Below w.heap.size w W ∧ match o with | some s => ∃ b, pa = some ⟨b, 0, none⟩ ∧ PAt w b s W | none => pa = none
theorem new_p (n r m f : Int) (w W : World) (hb : Below w.heap.size w W) :
    Calls Try.prog 12 #[.int .i64 n, .agg #[.int .i64 r, .int .i64 m], .int .i64 f] W fun e W' => ∃ pa, e = .returned (.tuple #[.pointer pa, .int .i64 (nwE n r m f)]) ∧ HalfP w (nwO n r m f) pa W' ∧ Below W.heap.size W W' ∧ pa.isNone = !(decide (newOk n r m f)) := by
  by_cases h : newOk n r m f
  · have e1 : nwE n r m f = 0 := if_pos h
    have e2 : nwO n r m f = some (newS n r m f) := if_pos h
    rw [e1, e2]
    refine (new_at n r m f h w W hb).mono ?_
    rintro e W' ⟨b, rfl, hp, _, hb2⟩
    exact ⟨_, rfl, ⟨hp.bel, b, rfl, hp⟩, hb2, by rw [decide_eq_true h]; rfl⟩
  · have e1 : nwE n r m f = 2 := if_neg h
    have e2 : nwO n r m f = none := if_neg h
    rw [e1, e2]
    refine (new_bad n r m f h W).mono ?_
    rintro e W' ⟨rfl, hb2⟩
    exact ⟨none, rfl, ⟨hb.trans (hb2.mono hb.size), rfl⟩, hb2, by rw [decide_eq_false h]; rfl⟩
theorem new_r (n r m f : Int) (w W : World) (pa : Option Addr) (h0 : HalfP w (nwO n r m f) pa W) :
    Calls Try.prog 13 #[.int .i64 n, .agg #[.int .i64 r, .int .i64 m], .int .i64 f] W fun e W' => ∃ ra, e = .returned (.tuple #[.pointer ra, .int .i64 (nwE n r m f)]) ∧ Two w (nwO n r m f) (nwO n r m f) pa ra (fun _ => False) W' ∧ Below W.heap.size W W' ∧ ra.isNone = !(decide (newOk n r m f)) := by
  obtain ⟨hb, h0⟩ := h0
  by_cases h : newOk n r m f
  · have e1 : nwE n r m f = 0 := if_pos h
    have e2 : nwO n r m f = some (newS n r m f) := if_pos h
    rw [e2] at h0
    rw [e1, e2]
    obtain ⟨b, hpa, hp⟩ := h0
    refine (rnew_any n r m f h W).mono ?_
    rintro e W' ⟨c, rfl, hr, hlo, hb2⟩
    obtain ⟨vs, hp2⟩ := (hp.later hb2).px
    exact ⟨_, rfl, ⟨hb.trans (hb2.mono hb.size), b, c, hpa, rfl, ⟨vs, hp2, fun _ _ _ _ => id⟩, ⟨_, hr.low hb.size, fun _ _ _ _ => id⟩, hb.trans (hb2.mono hb.size), hp.lo, Nat.le_trans hb.size hlo, id, id⟩, hb2, by rw [decide_eq_true h]; rfl⟩
  · have e1 : nwE n r m f = 2 := if_neg h
    have e2 : nwO n r m f = none := if_neg h
    rw [e2] at h0
    rw [e1, e2]
    refine (rnew_bad n r m f h W).mono ?_
    rintro e W' ⟨rfl, hb2⟩
    exact ⟨none, rfl, ⟨hb.trans (hb2.mono hb.size), h0, rfl⟩, hb2, by rw [decide_eq_false h]; rfl⟩
theorem Two.vlen {w W : World} {o q : Option St} {pa ra : Option Addr} {F : Nat → Prop} (h : Two w o q pa ra F W) : (oVL o).length ≤ 4096 := by
  obtain ⟨_, h⟩ := h
  match o, q, h with
  | some s, some t, ⟨b, c, _, _, H⟩ => exact valL_len H.p.ok
  | none, none, _ => exact Nat.zero_le _
theorem Two.npa {w W : World} {o q : Option St} {pa ra : Option Addr} {F : Nat → Prop} (h : Two w o q pa ra F W) (j : Nat) (e : pa = some ⟨j, 0, none⟩) : ¬ F j := by
  obtain ⟨_, h⟩ := h
  match o, q, h with
  | some s, some t, ⟨b, c, e1, _, H⟩ =>
    rw [e1] at e
    injection e with e
    injection e with e _ _
    subst e
    exact H.nb
  | none, none, h => rw [h.1] at e; cases e
theorem Two.nra {w W : World} {o q : Option St} {pa ra : Option Addr} {F : Nat → Prop} (h : Two w o q pa ra F W) (j : Nat) (e : ra = some ⟨j, 0, none⟩) : ¬ F j := by
  obtain ⟨_, h⟩ := h
  match o, q, h with
  | some s, some t, ⟨b, c, _, e1, H⟩ =>
    rw [e1] at e
    injection e with e
    injection e with e _ _
    subst e
    exact H.nc
  | none, none, h => rw [h.2] at e; cases e
def bad : Et := ⟨-1, 0, 0, ⟨#[33]⟩⟩

set_option maxHeartbeats 16000000 in
theorem plays_go (n0 xr xm f0 : Int) (a3 : Option Addr) (len3 cap3 : Nat) (S : Nat → Td) (a4 : Nat) (w : World) (h3 : IsTd w a3 len3 cap3 S) (h4 : a4 ≤ 255) :
    Calls Try.prog 3 #[.int .i64 n0, .agg #[.int .i64 xr, .int .i64 xm], .int .i64 f0, .slice a3 len3 cap3, .int .u8 (a4 : Nat)] w (Yes w) := by
  have HW := Lib.hid (fun W => works_any W)
  have f4 : IntKind.i64.wrap (a4 : Nat) = (a4 : Nat) := by rw [IntKind.wrap_i64]; omega
  have hb1 := alloc_b w (.cells #[.int .i64 xr, .int .i64 xm] TB)
  have hx6 := heap_alloc_new w (.cells #[.int .i64 xr, .int .i64 xm] TB)
  have hCl := Lib.hid (fun W (h : Below (w.alloc (.cells #[.int .i64 xr, .int .i64 xm] TB)).heap.size (w.alloc (.cells #[.int .i64 xr, .int .i64 xm] TB)) W) => show Below w.heap.size w W ∧ W.cell? ⟨w.heap.size, 0, none⟩ = some (.int .i64 xr) ∧ W.cell? ⟨w.heap.size, 1, none⟩ = some (.int .i64 xm) from
    have g := (h.block _ (Array.getElem?_eq_some_iff.1 hx6).1).trans hx6
    ⟨below2 hb1 h, cell_of_row W _ 0 _ TB _ g, cell_of_row W _ 1 _ TB _ g⟩)
  have hS1 := Lib.hid (fun W (hb : Below w.heap.size w W) => short_any f0 a3 len3 cap3 S W (h3.later hb))
  replace h3 := Lib.hid h3
  have hNp := Lib.hid (fun W hb => new_p n0 xr xm f0 w W hb)
  have hNr := Lib.hid (fun W pa h => new_r n0 xr xm f0 w W pa h)
  generalize nwE n0 xr xm f0 = NE at *
  generalize nwO n0 xr xm f0 = o0 at *
  generalize (!(decide (newOk n0 xr xm f0))) = PB at *
  clear hx6
  go_enter Try.func3, Try.ntmps3
  go_wp2_with fail
  generalize (w.alloc (.cells #[.int .i64 xr, .int .i64 xm] TB)) = W0 at *
  refine (hS1.out _ hb1).mono ?_
  rintro e W1 ⟨B1, rfl, hB1, hb2⟩
  obtain ⟨hbw1, x0, x1⟩ := hCl.out _ hb2
  replace hB1 := Lib.hid hB1
  cases B1 with
  | false =>
    go_wp2_with (go_at_call 11; refine (HW.out _).mono ?_; rintro e w1 ⟨rfl, hb⟩)
    go_ret
    exact ⟨rfl, below2 hbw1 hb⟩
  | true =>
    obtain ⟨hl20, hl40⟩ := hB1.out rfl
    replace hl40 := Lib.hid hl40
    clear hS1 hB1
    as_aux_lemma =>
      go_wp2_with fail
      refine (hNp.out _ hbw1).mono ?_
      rintro e W2 ⟨pa, rfl, hP, hb3, hpn⟩
      have hb23 := hb2.trans (hb3.mono hb2.size)
      obtain ⟨_, y0, y1⟩ := hCl.out _ hb23
      clear x0 x1
      go_wp2_with fail
      refine (hNr.out _ _ hP).mono ?_
      rintro e W3 ⟨ra, rfl, hT0, hb4, hrn⟩
      clear y0 y1 hP hb2 hb3 hb4 hb23 hbw1 hb1 hCl hNp hNr
      have e1 : (NE != NE) = false := by simp
      have e2 : (!PB == PB) = false := by cases PB <;> rfl
      have e3 : (pa.isNone == ra.isNone) = true := by rw [hpn, hrn]; simp
      have e4 : (!pa.isNone == ra.isNone) = false := by rw [hpn, hrn]; exact e2
      clear hpn hrn e2
      replace hT0 := Lib.hid hT0
      go_wp2
      clear e1 e3 e4
      go_loopw [11, 13, 15] (fun pv rv iv wr => ∃ (i : Nat) (o : Option St) (pa ra : Option Addr), i ≤ len3 + 1 ∧ pv = .pointer pa ∧ rv = .pointer ra ∧ iv = .int .i64 i ∧ Two w o o pa ra (fun _ => False) wr) (fun _ _ iv _ => len3 + 1 - nOf iv)
      case atStart => exact ⟨0, o0, pa, ra, by omega, rfl, rfl, rfl, hT0.out⟩
      case round =>
        clear hT0
        obtain ⟨i, o, pa, ra, hi, rfl, rfl, rfl, hT⟩ := hrel
        by_cases hlt : i ≤ len3
        · have i1 : decide ((i : Int) ≤ (len3 : Int)) = true := decide_eq_true (by omega)
          by_cases hat : i = a4
          · have i2 : ((i : Int) == (a4 : Int)) = true := by simp; omega
            have i3 : decide ((i : Int) = (a4 : Int)) = true := decide_eq_true (by omega)
            clear hat
            as_aux_lemma =>
              go_wp2_with fail
              refine hT.pcopy.mono ?_
              rintro e W4 ⟨pa, rfl, hT⟩
              go_wp2_with fail
              refine hT.rcopy.mono ?_
              rintro e W5 ⟨ra, rfl, hT⟩
              have hvl := hT.vlen
              have j1 : (oVE o != oVE o) = false := by simp
              have j2 : (oR o != oR o) = false := by simp
              have j3 : (oU o != oU o) = false := by simp
              have j4 : (((oN o : Nat) : Int) != ((oN o : Nat) : Int)) = false := by simp
              have j5 := fun W => (eq_b (oBr o) (oBm o) (oBr o) (oBm o) W).trans (by rw [eqB_t ⟨rfl, rfl⟩])
              go_wp2_with fail
              refine hT.pvalues.mono ?_
              rintro e X1 ⟨v1, rfl, hv1, hb⟩
              replace hT := hT.later hb
              clear hb
              go_wp2_with fail
              refine hT.rvalues.mono ?_
              rintro e X2 ⟨v2, rfl, hv2, hb⟩
              replace hT := hT.later hb
              replace hv1 := hv1.later hb
              clear hb
              go_wp2_with fail
              refine (same_any v1 v2 _ _ X2 hv1 hv2 (by omega) (by omega)).mono ?_
              rw [eqLs_t]
              rintro e X3 ⟨rfl, hb⟩
              replace hT := hT.later hb
              clear hb hv1 hv2
              go_wp2_with fail
              refine hT.pready.mono ?_
              rintro e Xready1 ⟨rfl, hb⟩
              replace hT := hT.later hb
              clear hb
              go_wp2_with fail
              refine hT.rready.mono ?_
              rintro e Xready2 ⟨rfl, hb⟩
              replace hT := hT.later hb
              clear hb
              go_wp2_with fail
              refine hT.pupto.mono ?_
              rintro e Xupto1 ⟨rfl, hb⟩
              replace hT := hT.later hb
              clear hb
              go_wp2_with fail
              refine hT.rupto.mono ?_
              rintro e Xupto2 ⟨rfl, hb⟩
              replace hT := hT.later hb
              clear hb
              go_wp2_with fail
              refine hT.pballot.mono ?_
              rintro e Xballot1 ⟨rfl, hb⟩
              replace hT := hT.later hb
              clear hb
              go_wp2_with fail
              refine hT.rballot.mono ?_
              rintro e Xballot2 ⟨rfl, hb⟩
              replace hT := hT.later hb
              clear hb
              go_wp2_with fail
              refine hT.pnodes.mono ?_
              rintro e Xnodes1 ⟨rfl, hb⟩
              replace hT := hT.later hb
              clear hb
              go_wp2_with fail
              refine hT.rnodes.mono ?_
              rintro e Xnodes2 ⟨rfl, hb⟩
              replace hT := hT.later hb
              clear hb
              by_cases hil : i = len3
              · have k1 : ((i : Int) == (len3 : Int)) = true := by simp; omega
                have k2 : decide ((i : Int) = (len3 : Int)) = true := decide_eq_true (by omega)
                replace hT := Lib.hid hT
                clear hil
                as_aux_lemma =>
                  go_wp2
                  go_roundw
                  case rel => exact ⟨i + 1, o, pa, ra, by omega, rfl, rfl, by go_num, hT.out⟩
                  case measure => simp [nOf]; omega
              · have k1 : ((i : Int) == (len3 : Int)) = false := by simp; omega
                have k2 : decide ((i : Int) = (len3 : Int)) = false := decide_eq_false (by omega)
                have hwj := h3.out.wf i
                obtain ⟨lb, off, rfl, hlb, c0, c1, c2⟩ := h3.out.at (Below.refl _ _) (show i < len3 by omega)
                have hLj : (S i).L.length ≤ 40 := hl40.out i (by omega)
                generalize S i = tj at *
                have hI0 := hwj.2.2.1
                obtain ⟨tk, tu, L, v⟩ := tj
                obtain ⟨_, _, _, _, ja, jc, hjv, _⟩ := id hwj
                simp only at hjv c0 c1 c2 hI0 hLj
                subst hjv
                obtain ⟨jn, hjn⟩ : ∃ jn, jn = L.length := ⟨_, rfl⟩
                rw [← hjn] at c2 hI0
                clear hjn hwj
                have i4 : (i : Int) < (len3 : Nat) := by omega
                have i5 : (0 : Int) ≤ (i : Nat) := by omega
                have hC : Hid (∀ W, Below w.heap.size w W → (W.cell? ⟨lb, off + i * 3, none⟩ = some (.int .i64 tk) ∧ W.cell? ⟨lb, off + i * 3 + 1, none⟩ = some (.int .i64 tu) ∧ W.cell? ⟨lb, off + i * 3 + 2, none⟩ = some (.slice ja jn jc))) := Lib.hid fun W hw =>
                  ⟨(hw.cell (p := ⟨lb, _, none⟩) hlb).trans c0, (hw.cell (p := ⟨lb, _, none⟩) hlb).trans c1, (hw.cell (p := ⟨lb, _, none⟩) hlb).trans c2⟩
                have hI := Lib.hid (fun W (hw : Below w.heap.size w W) => hI0.later hw)
                replace hI0 := Lib.hid hI0
                clear c0 c1 c2
                generalize hW6 : Xnodes2 = W6 at *
                clear hW6
                obtain ⟨_, _, d2⟩ := hC.out _ hT.bel
                have hab := alloc_b W6 (.cells #[] TE)
                have hTa := hT.later hab
                obtain ⟨_, _, d2'⟩ := hC.out _ hTa.bel
                have hown : OwE W6.heap.size [] (.slice (some ⟨W6.heap.size, 0, none⟩) 0 0) (W6.alloc (.cells #[] TE)) := ⟨rfl, .inr ⟨W6.heap.size, 0, #[], rfl, Nat.le_refl _, heap_alloc_new _ _, Nat.le_refl _, by unfold maxLen; omega, rfl, rfl⟩⟩
                have hIa := hI.out _ hTa.bel
                have hsz := hab.size
                have hfr : Hid (∀ gv W7, OwE W6.heap.size L gv W7 → (W6.alloc (.cells #[] TE)).grownBy W7 (some W6.heap.size) → ∃ F : Nat → Prop, Two w o o pa ra F W7 ∧ (∀ k, F k → k < W7.heap.size ∧ w.heap.size ≤ k) ∧ (∀ k, gv.ownBlock = some k → F k)) := Lib.hid fun gv W7 hO hg => by
                  have hb := own_below hown hg hab (Nat.le_refl _)
                  have hbl := hT.bel.size
                  refine ⟨fun k => W6.heap.size ≤ k ∧ k < W7.heap.size, (hT.fresh _).later hb, fun k h => ⟨h.2, by omega⟩, fun k e => World.ownsRow.lt hO k e⟩
                replace hown := Lib.hid hown
                replace hIa := Lib.hid hIa
                clear hT hTa hab
                obtain ⟨g0, hg0⟩ : ∃ g0, g0 = W6.heap.size := ⟨_, rfl⟩
                as_aux_lemma =>
                  go_wp2_with (at_builtin; refine wpList_append_l rfl _ _ rfl W6.heap.size _ _ [] L rfl rfl hown.out hIa.out (by decide) (by omega) hsz ?_; intro gv W7 hO7 hg7 hv7; obtain ⟨F, hT7, hF7, hFg⟩ := hfr.out gv W7 hO7 hg7; replace hO7 : OwE W6.heap.size L gv W7 := hO7; obtain ⟨ga, gn, gc, rfl, hgn⟩ := owe_form hO7; rw [← hg0] at hO7; replace hgn := Lib.hid hgn; replace hFg := Lib.hid hFg; replace hF7 := Lib.hid hF7; replace hT7 := Lib.hid hT7; replace hO7 := Lib.hid hO7; clear hg7 hv7)
                  clear d2 d2' hown hIa hsz hfr hg0
                  have hA8 : Hid (Calls Try.prog 27 #[.pointer pa, .int .i64 tk, .slice ga gn gc, .int .i64 tu] W7.drew fun e W' => e = .returned (.tuple #[.bool (oAB o tk L tu), .int .i64 (oAE o tk L tu)]) ∧ Two w (oAS o tk L tu) o pa ra F W' ∧ OwE g0 L (.slice ga gn gc) W' ∧ W7.heap.size ≤ W'.heap.size) := Lib.hid (by
                    refine (hT7.out.drew.padd (fun k h => (hF7.out k h).1) tk _ tu L (hO7.out.later (Below.refl _ _).drew).is (by omega)).mono ?_
                    rintro e W' ⟨rfl, h2, hK⟩
                    exact ⟨rfl, h2, rows_kept (hO7.out.later (Below.refl _ _).drew) fun k hk => hK.block k (World.ownsRow.lt hO7.out k hk).2 (fun e => hT7.out.npa k e (hFg.out k hk)), hK.size⟩)
                  have hA9 : Hid (∀ W, Two w (oAS o tk L tu) o pa ra F W ∧ OwE g0 L (.slice ga gn gc) W ∧ W7.heap.size ≤ W.heap.size → Calls Try.prog 28 #[.pointer ra, .int .i64 tk, .slice ja jn jc, .int .i64 tu] W fun e W' => e = .returned (.tuple #[.bool (oAB o tk L tu), .int .i64 (oAE o tk L tu)]) ∧ Two w (oAS o tk L tu) (oAS o tk L tu) pa ra F W' ∧ OwE g0 L (.slice ga gn gc) W') := Lib.hid (by
                    rintro W ⟨h1, h2, h5⟩
                    refine (h1.radd (fun k h => Nat.lt_of_lt_of_le (hF7.out k h).1 h5) tk _ tu L hI0.out (by omega)).mono ?_
                    rintro e W' ⟨rfl, h6, hK⟩
                    exact ⟨rfl, h6, rows_kept h2 fun k hk => hK.block k (World.ownsRow.lt h2 k hk).2 (fun e => h1.nra k e (hFg.out k hk))⟩)
                  have hd7 := Lib.hid (fun (_ : True) => hC.out _ hT7.out.drew.bel)
                  have hCA := Lib.hid (fun W (h : Two w (oAS o tk L tu) o pa ra F W ∧ OwE g0 L (.slice ga gn gc) W ∧ W7.heap.size ≤ W.heap.size) => hC.out _ h.1.bel)
                  have hCB := Lib.hid (fun W (h : Two w (oAS o tk L tu) (oAS o tk L tu) pa ra F W ∧ OwE g0 L (.slice ga gn gc) W) => hC.out _ h.1.bel)
                  have hlt2 : Hid (∀ k, F k → w.heap.size ≤ k) := Lib.hid fun k h => (hF7.out k h).2
                  clear hT7 hO7 hF7
                  generalize oAS o tk L tu = o2 at *
                  generalize oAB o tk L tu = AB at *
                  generalize oAE o tk L tu = AE at *
                  have m1 : (AB != AB) = false := by simp
                  have m2 : (AE != AE) = false := by simp
                  as_aux_lemma =>
                    go_wp2
                    go_region_held3 (fun W => W.cell? ⟨lb, off + i * 3, none⟩ = some (.int .i64 tk) ∧ W.cell? ⟨lb, off + i * 3 + 1, none⟩ = some (.int .i64 tu) ∧ W.cell? ⟨lb, off + i * 3 + 2, none⟩ = some (.slice ja jn jc))
                      (first | exact hd7.out trivial | exact hCA.out _ (by assumption) | assumption)
                      ((go_at_call 27; refine hA8.out.mono ?_; rintro e w8 ⟨rfl, hx8⟩))
                    have hx8d : Two w o2 o pa ra F w8.drew ∧ OwE g0 L (.slice ga gn gc) w8.drew ∧ W7.heap.size ≤ w8.drew.heap.size := ⟨hx8.1.drew, hx8.2.1.later (Below.refl _ _).drew, hx8.2.2⟩
                    replace hx8d := Lib.hid hx8d
                    clear hx8 hd7 hA8
                    go_wp2
                    go_region_held3 (fun W => W.cell? ⟨lb, off + i * 3, none⟩ = some (.int .i64 tk) ∧ W.cell? ⟨lb, off + i * 3 + 1, none⟩ = some (.int .i64 tu) ∧ W.cell? ⟨lb, off + i * 3 + 2, none⟩ = some (.slice ja jn jc))
                      (first | exact hCA.out _ hx8d.out | exact hCB.out _ (by assumption) | assumption)
                      ((go_at_call 28; refine (hA9.out _ hx8d.out).mono ?_; rintro e w9 ⟨rfl, hx9⟩))
                    clear hx8d hA9 hCA
                    obtain ⟨d0, d1, d2⟩ := hCB.out _ hx9
                    obtain ⟨hT9, hO9⟩ := hx9
                    have hI9 := hI.out _ hT9.bel
                    go_wp2_with fail
                    refine (same_any _ _ _ _ _ hO9.is hI9 (by omega) (by omega)).mono ?_
                    rw [eqLs_t]
                    rintro e w10 ⟨rfl, hb⟩
                    replace hT9 := hT9.later hb
                    replace hO9 := hO9.later hb
                    clear hb d0 d1 d2 hI9 hCB
                    have hg40 : gn ≤ 40 := by rw [hgn.out]; exact hLj
                    go_wp2
                    go_loopw [25] (fun mv wr => ∃ (p : Nat) (M : List Et), p ≤ gn ∧ mv = .int .i64 p ∧ M.length = gn ∧ OwE g0 M (.slice ga gn gc) wr ∧ Two w o2 o2 pa ra F wr) (fun mv _ => gn - nOf mv)
                    case atStart => exact ⟨0, L, by omega, rfl, hgn.out.symm, hO9, hT9⟩
                    case round =>
                      clear hO9 hT9
                      obtain ⟨p, M, hp, rfl, hM, hO, hT⟩ := hrel
                      by_cases hpl : p < gn
                      · have n1 : decide ((p : Int) < (gn : Int)) = true := decide_eq_true (by omega)
                        have n2 : (p : Int) < (gn : Nat) := by omega
                        have n3 : (0 : Int) ≤ (p : Nat) := by omega
                        obtain ⟨e, he⟩ : ∃ e, M[p]? = some e := ⟨_, List.getElem?_eq_getElem (by rw [hM]; exact hpl)⟩
                        have hFg2 := hFg.out
                        obtain ⟨g, cap', hv', hg1, hg2, hcs⟩ := hO.cells (by rw [hM]; omega)
                        injection hv' with ha hl2 hcap
                        clear hl2 hcap
                        subst ha
                        obtain ⟨r0, r1, r2, r3⟩ := hcs p e he
                        have hFk : F g := hFg2 g rfl
                        have fz : ∀ j, wr.frozen? ⟨g, j, none⟩ = false := fun j => by
                          rcases hO.2 with ⟨h, _⟩ | ⟨g', cap2, cur, h, _, hgc, _⟩
                          · cases h
                          · injection h with h _ _
                            injection h with h
                            injection h with h _ _
                            subst h
                            exact frozen_of_row wr g j _ TE hgc
                        have hO2 := Lib.hid (hO.set4 p (by rw [hM]; exact hpl) bad)
                        have hK := ((((Keeps.refl F wr).setCell (p := ⟨g, p * 4, none⟩) (.inl hFk) (.int .i64 (-1))).setCell (p := ⟨g, p * 4 + 1, none⟩) (.inl hFk) (.int .i64 0)).setCell (p := ⟨g, p * 4 + 2, none⟩) (.inl hFk) (.int .i64 0)).setCell (p := ⟨g, p * 4 + 3, none⟩) (.inl hFk) (.string ⟨#[33]⟩)
                        have hT2 := Lib.hid (hT.kept hK hlt2.out)
                        have hM2 : (M.set p bad).length = gn := by rw [List.length_set]; exact hM
                        replace hM2 := Lib.hid hM2
                        clear hO hT hK hcs he hM hFg2
                        as_aux_lemma =>
                          go_wp2
                          go_roundw
                          case rel => exact ⟨p + 1, M.set p bad, by omega, by go_num, hM2.out, hO2.out, hT2.out⟩
                          case measure => simp [nOf]; omega
                      · obtain rfl : p = gn := by omega
                        have n1 : decide ((p : Int) < (p : Int)) = false := by simp
                        have hTf := Lib.hid hT.forget
                        clear hO hT hM
                        as_aux_lemma =>
                          go_wp2
                          go_roundw
                          case rel => exact ⟨i + 1, o2, pa, ra, by omega, rfl, rfl, by go_num, hTf.out⟩
                          case measure => simp [nOf]; omega
          · have i2 : ((i : Int) == (a4 : Int)) = false := by simp; omega
            have i3 : decide ((i : Int) = (a4 : Int)) = false := decide_eq_false (by omega)
            clear hat
            as_aux_lemma =>
              have hvl := hT.vlen
              have j1 : (oVE o != oVE o) = false := by simp
              have j2 : (oR o != oR o) = false := by simp
              have j3 : (oU o != oU o) = false := by simp
              have j4 : (((oN o : Nat) : Int) != ((oN o : Nat) : Int)) = false := by simp
              have j5 := fun W => (eq_b (oBr o) (oBm o) (oBr o) (oBm o) W).trans (by rw [eqB_t ⟨rfl, rfl⟩])
              go_wp2_with fail
              refine hT.pvalues.mono ?_
              rintro e X1 ⟨v1, rfl, hv1, hb⟩
              replace hT := hT.later hb
              clear hb
              go_wp2_with fail
              refine hT.rvalues.mono ?_
              rintro e X2 ⟨v2, rfl, hv2, hb⟩
              replace hT := hT.later hb
              replace hv1 := hv1.later hb
              clear hb
              go_wp2_with fail
              refine (same_any v1 v2 _ _ X2 hv1 hv2 (by omega) (by omega)).mono ?_
              rw [eqLs_t]
              rintro e X3 ⟨rfl, hb⟩
              replace hT := hT.later hb
              clear hb hv1 hv2
              go_wp2_with fail
              refine hT.pready.mono ?_
              rintro e Xready1 ⟨rfl, hb⟩
              replace hT := hT.later hb
              clear hb
              go_wp2_with fail
              refine hT.rready.mono ?_
              rintro e Xready2 ⟨rfl, hb⟩
              replace hT := hT.later hb
              clear hb
              go_wp2_with fail
              refine hT.pupto.mono ?_
              rintro e Xupto1 ⟨rfl, hb⟩
              replace hT := hT.later hb
              clear hb
              go_wp2_with fail
              refine hT.rupto.mono ?_
              rintro e Xupto2 ⟨rfl, hb⟩
              replace hT := hT.later hb
              clear hb
              go_wp2_with fail
              refine hT.pballot.mono ?_
              rintro e Xballot1 ⟨rfl, hb⟩
              replace hT := hT.later hb
              clear hb
              go_wp2_with fail
              refine hT.rballot.mono ?_
              rintro e Xballot2 ⟨rfl, hb⟩
              replace hT := hT.later hb
              clear hb
              go_wp2_with fail
              refine hT.pnodes.mono ?_
              rintro e Xnodes1 ⟨rfl, hb⟩
              replace hT := hT.later hb
              clear hb
              go_wp2_with fail
              refine hT.rnodes.mono ?_
              rintro e Xnodes2 ⟨rfl, hb⟩
              replace hT := hT.later hb
              clear hb
              by_cases hil : i = len3
              · have k1 : ((i : Int) == (len3 : Int)) = true := by simp; omega
                have k2 : decide ((i : Int) = (len3 : Int)) = true := decide_eq_true (by omega)
                replace hT := Lib.hid hT
                clear hil
                as_aux_lemma =>
                  go_wp2
                  go_roundw
                  case rel => exact ⟨i + 1, o, pa, ra, by omega, rfl, rfl, by go_num, hT.out⟩
                  case measure => simp [nOf]; omega
              · have k1 : ((i : Int) == (len3 : Int)) = false := by simp; omega
                have k2 : decide ((i : Int) = (len3 : Int)) = false := decide_eq_false (by omega)
                have hwj := h3.out.wf i
                obtain ⟨lb, off, rfl, hlb, c0, c1, c2⟩ := h3.out.at (Below.refl _ _) (show i < len3 by omega)
                have hLj : (S i).L.length ≤ 40 := hl40.out i (by omega)
                generalize S i = tj at *
                have hI0 := hwj.2.2.1
                obtain ⟨tk, tu, L, v⟩ := tj
                obtain ⟨_, _, _, _, ja, jc, hjv, _⟩ := id hwj
                simp only at hjv c0 c1 c2 hI0 hLj
                subst hjv
                obtain ⟨jn, hjn⟩ : ∃ jn, jn = L.length := ⟨_, rfl⟩
                rw [← hjn] at c2 hI0
                clear hjn hwj
                have i4 : (i : Int) < (len3 : Nat) := by omega
                have i5 : (0 : Int) ≤ (i : Nat) := by omega
                have hC : Hid (∀ W, Below w.heap.size w W → (W.cell? ⟨lb, off + i * 3, none⟩ = some (.int .i64 tk) ∧ W.cell? ⟨lb, off + i * 3 + 1, none⟩ = some (.int .i64 tu) ∧ W.cell? ⟨lb, off + i * 3 + 2, none⟩ = some (.slice ja jn jc))) := Lib.hid fun W hw =>
                  ⟨(hw.cell (p := ⟨lb, _, none⟩) hlb).trans c0, (hw.cell (p := ⟨lb, _, none⟩) hlb).trans c1, (hw.cell (p := ⟨lb, _, none⟩) hlb).trans c2⟩
                have hI := Lib.hid (fun W (hw : Below w.heap.size w W) => hI0.later hw)
                replace hI0 := Lib.hid hI0
                clear c0 c1 c2
                generalize hW6 : Xnodes2 = W6 at *
                clear hW6
                obtain ⟨_, _, d2⟩ := hC.out _ hT.bel
                have hab := alloc_b W6 (.cells #[] TE)
                have hTa := hT.later hab
                obtain ⟨_, _, d2'⟩ := hC.out _ hTa.bel
                have hown : OwE W6.heap.size [] (.slice (some ⟨W6.heap.size, 0, none⟩) 0 0) (W6.alloc (.cells #[] TE)) := ⟨rfl, .inr ⟨W6.heap.size, 0, #[], rfl, Nat.le_refl _, heap_alloc_new _ _, Nat.le_refl _, by unfold maxLen; omega, rfl, rfl⟩⟩
                have hIa := hI.out _ hTa.bel
                have hsz := hab.size
                have hfr : Hid (∀ gv W7, OwE W6.heap.size L gv W7 → (W6.alloc (.cells #[] TE)).grownBy W7 (some W6.heap.size) → ∃ F : Nat → Prop, Two w o o pa ra F W7 ∧ (∀ k, F k → k < W7.heap.size ∧ w.heap.size ≤ k) ∧ (∀ k, gv.ownBlock = some k → F k)) := Lib.hid fun gv W7 hO hg => by
                  have hb := own_below hown hg hab (Nat.le_refl _)
                  have hbl := hT.bel.size
                  refine ⟨fun k => W6.heap.size ≤ k ∧ k < W7.heap.size, (hT.fresh _).later hb, fun k h => ⟨h.2, by omega⟩, fun k e => World.ownsRow.lt hO k e⟩
                replace hown := Lib.hid hown
                replace hIa := Lib.hid hIa
                clear hT hTa hab
                obtain ⟨g0, hg0⟩ : ∃ g0, g0 = W6.heap.size := ⟨_, rfl⟩
                as_aux_lemma =>
                  go_wp2_with (at_builtin; refine wpList_append_l rfl _ _ rfl W6.heap.size _ _ [] L rfl rfl hown.out hIa.out (by decide) (by omega) hsz ?_; intro gv W7 hO7 hg7 hv7; obtain ⟨F, hT7, hF7, hFg⟩ := hfr.out gv W7 hO7 hg7; replace hO7 : OwE W6.heap.size L gv W7 := hO7; obtain ⟨ga, gn, gc, rfl, hgn⟩ := owe_form hO7; rw [← hg0] at hO7; replace hgn := Lib.hid hgn; replace hFg := Lib.hid hFg; replace hF7 := Lib.hid hF7; replace hT7 := Lib.hid hT7; replace hO7 := Lib.hid hO7; clear hg7 hv7)
                  clear d2 d2' hown hIa hsz hfr hg0
                  have hA8 : Hid (Calls Try.prog 27 #[.pointer pa, .int .i64 tk, .slice ga gn gc, .int .i64 tu] W7.drew fun e W' => e = .returned (.tuple #[.bool (oAB o tk L tu), .int .i64 (oAE o tk L tu)]) ∧ Two w (oAS o tk L tu) o pa ra F W' ∧ OwE g0 L (.slice ga gn gc) W' ∧ W7.heap.size ≤ W'.heap.size) := Lib.hid (by
                    refine (hT7.out.drew.padd (fun k h => (hF7.out k h).1) tk _ tu L (hO7.out.later (Below.refl _ _).drew).is (by omega)).mono ?_
                    rintro e W' ⟨rfl, h2, hK⟩
                    exact ⟨rfl, h2, rows_kept (hO7.out.later (Below.refl _ _).drew) fun k hk => hK.block k (World.ownsRow.lt hO7.out k hk).2 (fun e => hT7.out.npa k e (hFg.out k hk)), hK.size⟩)
                  have hA9 : Hid (∀ W, Two w (oAS o tk L tu) o pa ra F W ∧ OwE g0 L (.slice ga gn gc) W ∧ W7.heap.size ≤ W.heap.size → Calls Try.prog 28 #[.pointer ra, .int .i64 tk, .slice ja jn jc, .int .i64 tu] W fun e W' => e = .returned (.tuple #[.bool (oAB o tk L tu), .int .i64 (oAE o tk L tu)]) ∧ Two w (oAS o tk L tu) (oAS o tk L tu) pa ra F W' ∧ OwE g0 L (.slice ga gn gc) W') := Lib.hid (by
                    rintro W ⟨h1, h2, h5⟩
                    refine (h1.radd (fun k h => Nat.lt_of_lt_of_le (hF7.out k h).1 h5) tk _ tu L hI0.out (by omega)).mono ?_
                    rintro e W' ⟨rfl, h6, hK⟩
                    exact ⟨rfl, h6, rows_kept h2 fun k hk => hK.block k (World.ownsRow.lt h2 k hk).2 (fun e => h1.nra k e (hFg.out k hk))⟩)
                  have hd7 := Lib.hid (fun (_ : True) => hC.out _ hT7.out.drew.bel)
                  have hCA := Lib.hid (fun W (h : Two w (oAS o tk L tu) o pa ra F W ∧ OwE g0 L (.slice ga gn gc) W ∧ W7.heap.size ≤ W.heap.size) => hC.out _ h.1.bel)
                  have hCB := Lib.hid (fun W (h : Two w (oAS o tk L tu) (oAS o tk L tu) pa ra F W ∧ OwE g0 L (.slice ga gn gc) W) => hC.out _ h.1.bel)
                  have hlt2 : Hid (∀ k, F k → w.heap.size ≤ k) := Lib.hid fun k h => (hF7.out k h).2
                  clear hT7 hO7 hF7
                  generalize oAS o tk L tu = o2 at *
                  generalize oAB o tk L tu = AB at *
                  generalize oAE o tk L tu = AE at *
                  have m1 : (AB != AB) = false := by simp
                  have m2 : (AE != AE) = false := by simp
                  as_aux_lemma =>
                    go_wp2
                    go_region_held3 (fun W => W.cell? ⟨lb, off + i * 3, none⟩ = some (.int .i64 tk) ∧ W.cell? ⟨lb, off + i * 3 + 1, none⟩ = some (.int .i64 tu) ∧ W.cell? ⟨lb, off + i * 3 + 2, none⟩ = some (.slice ja jn jc))
                      (first | exact hd7.out trivial | exact hCA.out _ (by assumption) | assumption)
                      ((go_at_call 27; refine hA8.out.mono ?_; rintro e w8 ⟨rfl, hx8⟩))
                    have hx8d : Two w o2 o pa ra F w8.drew ∧ OwE g0 L (.slice ga gn gc) w8.drew ∧ W7.heap.size ≤ w8.drew.heap.size := ⟨hx8.1.drew, hx8.2.1.later (Below.refl _ _).drew, hx8.2.2⟩
                    replace hx8d := Lib.hid hx8d
                    clear hx8 hd7 hA8
                    go_wp2
                    go_region_held3 (fun W => W.cell? ⟨lb, off + i * 3, none⟩ = some (.int .i64 tk) ∧ W.cell? ⟨lb, off + i * 3 + 1, none⟩ = some (.int .i64 tu) ∧ W.cell? ⟨lb, off + i * 3 + 2, none⟩ = some (.slice ja jn jc))
                      (first | exact hCA.out _ hx8d.out | exact hCB.out _ (by assumption) | assumption)
                      ((go_at_call 28; refine (hA9.out _ hx8d.out).mono ?_; rintro e w9 ⟨rfl, hx9⟩))
                    clear hx8d hA9 hCA
                    obtain ⟨d0, d1, d2⟩ := hCB.out _ hx9
                    obtain ⟨hT9, hO9⟩ := hx9
                    have hI9 := hI.out _ hT9.bel
                    go_wp2_with fail
                    refine (same_any _ _ _ _ _ hO9.is hI9 (by omega) (by omega)).mono ?_
                    rw [eqLs_t]
                    rintro e w10 ⟨rfl, hb⟩
                    replace hT9 := hT9.later hb
                    replace hO9 := hO9.later hb
                    clear hb d0 d1 d2 hI9 hCB
                    have hg40 : gn ≤ 40 := by rw [hgn.out]; exact hLj
                    go_wp2
                    go_loopw [25] (fun mv wr => ∃ (p : Nat) (M : List Et), p ≤ gn ∧ mv = .int .i64 p ∧ M.length = gn ∧ OwE g0 M (.slice ga gn gc) wr ∧ Two w o2 o2 pa ra F wr) (fun mv _ => gn - nOf mv)
                    case atStart => exact ⟨0, L, by omega, rfl, hgn.out.symm, hO9, hT9⟩
                    case round =>
                      clear hO9 hT9
                      obtain ⟨p, M, hp, rfl, hM, hO, hT⟩ := hrel
                      by_cases hpl : p < gn
                      · have n1 : decide ((p : Int) < (gn : Int)) = true := decide_eq_true (by omega)
                        have n2 : (p : Int) < (gn : Nat) := by omega
                        have n3 : (0 : Int) ≤ (p : Nat) := by omega
                        obtain ⟨e, he⟩ : ∃ e, M[p]? = some e := ⟨_, List.getElem?_eq_getElem (by rw [hM]; exact hpl)⟩
                        have hFg2 := hFg.out
                        obtain ⟨g, cap', hv', hg1, hg2, hcs⟩ := hO.cells (by rw [hM]; omega)
                        injection hv' with ha hl2 hcap
                        clear hl2 hcap
                        subst ha
                        obtain ⟨r0, r1, r2, r3⟩ := hcs p e he
                        have hFk : F g := hFg2 g rfl
                        have fz : ∀ j, wr.frozen? ⟨g, j, none⟩ = false := fun j => by
                          rcases hO.2 with ⟨h, _⟩ | ⟨g', cap2, cur, h, _, hgc, _⟩
                          · cases h
                          · injection h with h _ _
                            injection h with h
                            injection h with h _ _
                            subst h
                            exact frozen_of_row wr g j _ TE hgc
                        have hO2 := Lib.hid (hO.set4 p (by rw [hM]; exact hpl) bad)
                        have hK := ((((Keeps.refl F wr).setCell (p := ⟨g, p * 4, none⟩) (.inl hFk) (.int .i64 (-1))).setCell (p := ⟨g, p * 4 + 1, none⟩) (.inl hFk) (.int .i64 0)).setCell (p := ⟨g, p * 4 + 2, none⟩) (.inl hFk) (.int .i64 0)).setCell (p := ⟨g, p * 4 + 3, none⟩) (.inl hFk) (.string ⟨#[33]⟩)
                        have hT2 := Lib.hid (hT.kept hK hlt2.out)
                        have hM2 : (M.set p bad).length = gn := by rw [List.length_set]; exact hM
                        replace hM2 := Lib.hid hM2
                        clear hO hT hK hcs he hM hFg2
                        as_aux_lemma =>
                          go_wp2
                          go_roundw
                          case rel => exact ⟨p + 1, M.set p bad, by omega, by go_num, hM2.out, hO2.out, hT2.out⟩
                          case measure => simp [nOf]; omega
                      · obtain rfl : p = gn := by omega
                        have n1 : decide ((p : Int) < (p : Int)) = false := by simp
                        have hTf := Lib.hid hT.forget
                        clear hO hT hM
                        as_aux_lemma =>
                          go_wp2
                          go_roundw
                          case rel => exact ⟨i + 1, o2, pa, ra, by omega, rfl, rfl, by go_num, hTf.out⟩
                          case measure => simp [nOf]; omega
        · have i1 : decide ((i : Int) ≤ (len3 : Int)) = false := decide_eq_false (by omega)
          have hbl := hT.bel
          clear hT
          as_aux_lemma =>
            go_wp2_with fail
            refine (HW.out _).mono ?_
            rintro e W5 ⟨rfl, hb5⟩
            go_wp2_with fail
            go_ret
            exact ⟨rfl, below2 hbl hb5⟩
theorem plays_law (a0 xr1 xm1 a2 : Int) (a3 : Option Addr) (len3 cap3 : Nat) (S3 : Nat → Td) (a4 : Int) (w : World) (w0 : (Lit.int .i64 a0).wf = true) (w1 : True) (w2 : (Lit.int .i64 a2).wf = true) (w3 : IsTd w a3 len3 cap3 S3) (w4 : (Lit.int .u8 a4).wf = true) :
    Calls Try.prog 3 #[.int .i64 a0, .agg #[.int .i64 xr1, .int .i64 xm1], .int .i64 a2, .slice a3 len3 cap3, .int .u8 a4] w (Yes w) := by
  have b4 := bounds_u8 w4
  obtain ⟨n4, rfl⟩ := Int.eq_ofNat_of_zero_le b4.1
  exact plays_go a0 xr1 xm1 a2 a3 len3 cap3 S3 n4 w w3 (by have := b4.2; omega)
end Go.Proofs.Ytffiooclkchoiaa.Prp
