/- Clone, Copy. -/
import Derived.Test.YtbgjiokocjnjhaaD12
namespace Go.Proofs.Ytbgjiokocjnjhaa.Ded
open Go.RowKit Go.Lib Go.Shelf
open Rng (tx nameOk hasR okR)
open Eff (TE)
set_option linter.unusedVariables false
set_option linter.unusedSimpArgs false
set_option maxRecDepth 100000
variable {base : Nat} {w : World} {b : Nat} {v : Value} {n : Int} {L : List En}

def Cloned (L : List En) (w : World) (e : Ending) (w' : World) : Prop := ∃ v', e = .returned v' ∧ Ow w.heap.size L v' w' ∧ Below w.heap.size w w'
theorem clone_any (v : Value) (L : List En) (w : World) (hown : Ow base L v w) (hn : L.length ≤ 100000000) :
    Calls Try.prog 59 #[v] w (Cloned L w) := by
  rcases hown.2 with ⟨rfl, h0⟩ | ⟨g, cap, cur, rfl, hb, hg, hle, hm, hsz, ht⟩
  · obtain rfl := List.eq_nil_of_length_eq_zero h0
    have hI : Hid (Cloned [] w (.returned (.slice none 0 0)) w) := Lib.hid ⟨_, rfl, Ow.nil _ _, Below.refl _ _⟩
    have hnil := fun w' => Lib.run_eql_slice_nil (P := Try.prog) w' TNs TN none 0 0 0 0 Try.underlying81
    clear hown h0
    go_enter Try.func59, Try.ntmps59
    go_wp2
    go_ret
    exact hI.out
  · have hW : Below w.heap.size w (w.alloc (.cells #[] TN)) := alloc_b _ _
    have hown' : Ow w.heap.size [] (.slice (some ⟨w.heap.size, 0, none⟩) 0 0) (w.alloc (.cells #[] TN)) := ⟨rfl, .inr ⟨w.heap.size, 0, #[], rfl, Nat.le_refl _, heap_alloc_new _ _, Nat.le_refl _, by unfold maxLen; omega, rfl, rfl⟩⟩
    have hg2 : (w.alloc (.cells #[] TN)).heap[g]? = some (.cells cur TN (0, 0)) := (hW.block g (Array.getElem?_eq_some_iff.1 hg).1).trans hg
    obtain ⟨i0, hi, hz0, hz1, hz2⟩ := info_p info_en
    obtain ⟨v', w', hr, h2, h3, _, h5⟩ := run_append_own_at (P := Try.prog) (w.alloc (.cells #[] TN)) w.heap.size TNs TNs TN i0 _ 7 72 Try.underlying81 hi hz0 hz1 hz2 rfl (by decide) (.slice (some ⟨w.heap.size, 0, none⟩) 0 0) 0 [] hown' ⟨g, 0, none⟩ L.length cap (flat L) (flat_len L)
      (fun j u hu => by
        have hj : j < (flat L).length := (List.getElem?_eq_some_iff.1 hu).1
        rw [addr_add, Nat.zero_add, cell_of_row _ g j cur TN _ hg2, ← hu, ← ht, List.getElem?_take, if_pos (by have := flat_len L; omega)]
        simp) (flat_one' L) (by unfold maxLen; omega) (by omega) (by have := hW.size; omega)
    have hI : Hid (Cloned L w (.returned v') w') := Lib.hid ⟨v', rfl, by unfold Ow; simpa using h2, hW.grown h3 hW.size (fun k e => by have := (World.ownsRow.lt hown' k e).1; omega)⟩
    replace hr := Lib.hid hr
    clear h2 h3 h5 hown hown' hg2 hg ht hsz hW
    unfold maxLen at hm
    have hnil := fun w' => Lib.run_eql_slice_nil (P := Try.prog) w' TNs TN (some ⟨g, 0, none⟩) L.length cap 0 0 Try.underlying81
    go_enter Try.func59, Try.ntmps59
    go_wp2_with (at_builtin; refine Lib.wpList_append_run _ rfl _ _ _ _ rfl _ _ rfl rfl _ _ hr.out ?_)
    go_ret
    exact hI.out
/-- A table of its own. -/
def Copd (n : Int) (L : List En) (w : World) (e : Ending) (w' : World) : Prop := ∃ b' v', e = .returned (.pointer (some ⟨b', 0, none⟩)) ∧ w.heap.size ≤ b' ∧ Dx w.heap.size w' b' v' n L ∧ Below w.heap.size w w'
theorem copy_nv {p : Value} (h : Nv p w) : Calls Try.prog 21 #[p] w fun r w' => r = .returned (.pointer none) ∧ Below w.heap.size w w' := by
  have HV := Lib.hid h.valid
  clear h
  go_enter Try.func21, Try.ntmps21
  go_wp2_with (go_at_call 37; refine HV.out.mono ?_; rintro r w2 ⟨rfl, rfl⟩)
  go_ret
  exact ⟨rfl, Below.refl _ _⟩
structure CAt (base : Nat) (w : World) (b : Nat) (v : Value) (n : Int) (L : List En) (W : World) : Prop where
  dx : Dx base W b v n L
  bel : Below w.heap.size w W
theorem CAt.later {W W' : World} (h : CAt base w b v n L W) (hb : Below W.heap.size W W') : CAt base w b v n L W' := ⟨h.dx.later hb, h.bel.trans (hb.mono h.bel.size)⟩
abbrev S13 (base : Nat) (w : World) (b : Nat) (v : Value) (n : Int) (L : List En) (W : World) : Prop :=
  W.cell? ⟨b, 1, none⟩ = some (.int .i64 n) ∧ W.cell? ⟨b, 2, none⟩ = some v ∧ CAt base w b v n L W
theorem CAt.s13 {W : World} (h : CAt base w b v n L W) : S13 base w b v n L W := ⟨h.dx.cells.2.1, h.dx.cells.2.2, h⟩
set_option maxHeartbeats 1000000 in
theorem copy_any (h : Dx base w b v n L) : Calls Try.prog 21 #[.pointer (some ⟨b, 0, none⟩)] w (Copd n L w) := by
  have HV := Lib.hid h.valid
  have C0 : CAt base w b v n L w := ⟨h, Below.refl _ _⟩
  replace C0 := Lib.hid C0
  have HK := Lib.hid (fun (W : World) (h : CAt base w b v n L W) => h.s13)
  have HC := Lib.hid (fun (W : World) (h : CAt base w b v n L W) => clone_any v L W h.dx.row (by have := h.dx.small; omega))
  clear h
  go_enter Try.func21, Try.ntmps21
  go_wp2_with (go_at_call 37; refine HV.out.mono ?_; rintro r w2 ⟨rfl, rfl⟩)
  go_region_held3 (S13 base w b v n L) (first | exact HK.out _ (C0.out.later (Below.refl _ _).drew) | exact HK.out _ (by assumption) | assumption | exact HK.out _ (CAt.later (by assumption) (alloc_b _ _)))
    ((go_at_call 59; refine (HC.out _ (by assumption : S13 base w b v n L _).2.2).mono ?_; rintro r w2 ⟨v2, rfl, hO, hB⟩; obtain ⟨a2, m2, c2, rfl⟩ := ow_form3 hO; have hn := CAt.later (by assumption : S13 base w b v n L _).2.2 hB))
  have hE : Hid (Copd n L w (.returned (.pointer (some ⟨w2.heap.size, 0, none⟩))) (w2.alloc (.cells #[.bool true, .int .i64 n, .slice a2 m2 c2] TD))) := Lib.hid
    ⟨w2.heap.size, .slice a2 m2 c2, rfl, hn.bel.size, ⟨heap_alloc_new _ _, (show Ow w.heap.size L _ w2 from hO).later (alloc_b _ _), fun e => by have := (hO.lt _ e).2; omega, hn.bel.size, hn.dx.srt, hn.dx.ok, hn.dx.len, hn.dx.max⟩, hn.bel.alloc hn.bel.size _⟩
  clear hO hn hB
  go_wp2
  go_ret
  exact hE.out
end Go.Proofs.Ytbgjiokocjnjhaa.Ded
