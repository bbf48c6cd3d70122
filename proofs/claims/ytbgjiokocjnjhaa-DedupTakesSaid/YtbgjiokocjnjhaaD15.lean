/- works. -/
import Derived.Test.YtbgjiokocjnjhaaD14
namespace Go.Proofs.Ytbgjiokocjnjhaa.Ded
open Go.RowKit Go.Lib Go.Shelf
open Rng (tx nameOk hasR okR)
open Eff (TE effOk)
set_option linter.unusedVariables false
set_option linter.unusedSimpArgs false
set_option maxRecDepth 100000

set_option maxHeartbeats 2000000 in
theorem works_any (w : World) : Calls Try.prog 11 #[] w fun e w' => e = .returned (.bool true) ∧ Below w.heap.size w w' := by
  have HE := Lib.hid effect_any
  have HQ := Lib.hid (fun (v1 v2 : Value) (l m : List Ef) (W : World) (h1 : Fs W v1 l) (h2 : Fs W v2 m) (hl : l.length ≤ 100000000) (hm : m.length ≤ 100000000) => equal_any v1 v2 l m W h1 h2 hl hm)
  go_enter Try.func11, Try.ntmps11
  go_wp2_with fail
  refine (Wk.new w 3 (by decide) (by decide)).mono ?_
  rintro e W1 ⟨rfl, h1⟩
  have K1 := Lib.hid h1
  clear h1
  go_wp2_with fail
  refine (HE.out 1 0 1 _).mono ?_
  rintro e W2 ⟨rfl, hb⟩
  have K2 := Lib.hid (K1.out.later hb)
  clear hb K1
  go_wp2_with fail
  refine (K2.out.put x1 ok1 (by decide) (by decide)).mono ?_
  rintro e W3 ⟨rfl, h3, _⟩
  rw [l1] at h3
  have K3 := Lib.hid h3
  clear h3 K2
  go_wp2_with fail
  refine (HE.out 1 1 1 _).mono ?_
  rintro e W4 ⟨rfl, hb⟩
  have K4 := Lib.hid (K3.out.later hb)
  clear hb K3
  go_wp2_with fail
  refine (K4.out.put x2 ok2 (by decide) (by decide)).mono ?_
  rintro e W5 ⟨rfl, h3, _⟩
  rw [l2] at h3
  have K5 := Lib.hid h3
  clear h3 K4
  go_wp2_with fail
  refine (HE.out 1 0 2 _).mono ?_
  rintro e W6 ⟨rfl, hb⟩
  have K6 := Lib.hid (K5.out.later hb)
  clear hb K5
  go_wp2_with fail
  refine (K6.out.put x3 ok3 (by decide) (by decide)).mono ?_
  rintro e W7 ⟨rfl, h3, _⟩
  rw [l3] at h3
  have K7 := Lib.hid h3
  clear h3 K6
  go_wp2_with fail
  refine (HE.out 1 0 1 _).mono ?_
  rintro e W8 ⟨rfl, hb⟩
  have K8 := Lib.hid (K7.out.later hb)
  clear hb K7
  go_wp2_with fail
  refine (K8.out.get ⟨1, 0, 1⟩).mono ?_
  rintro e W9 ⟨rfl, hb, h9⟩
  have hbl : w.heap.size < W9.heap.size := h9.lt
  have K9 := Lib.hid (h9.later (alloc_b _ (.cells #[.int .i64 0, .int .i64 5, .string ⟨#[]⟩] TRp)))
  have c5 : (W9.alloc (.cells #[.int .i64 0, .int .i64 5, .string ⟨#[]⟩] TRp)).cell? ⟨W9.heap.size, 1, none⟩ = some (.int .i64 5) := cell_of_row _ _ 1 _ TRp _ (heap_alloc_new _ _)
  have C5 := Lib.hid c5
  clear hb K8 h9 c5
  rw [show orZ [x1, x3, x2] ⟨1, 0, 1⟩ = x1 by decide, show hasB [x1, x3, x2] ⟨1, 0, 1⟩ = true by decide]
  go_wp2_with fail
  refine (K9.out.take rac rac_ok).mono ?_
  rintro e W10 ⟨v1, rfl, hF, h10, hbut⟩
  rw [l4] at hF
  rw [l5] at h10
  have c6 := hbut.cell C5.out (by omega)
  have K10 := Lib.hid h10
  have F10 := Lib.hid hF.fs
  clear hbl C5 hbut h10 hF K9
  go_wp2_with fail
  clear c6
  refine (HE.out 1 0 1 _).mono ?_
  rintro e W11 ⟨rfl, hb⟩
  have K11 := Lib.hid (K10.out.later hb)
  have F11 := Lib.hid (F10.out.later hb)
  clear hb K10 F10
  go_wp2_with fail
  refine (HE.out 1 0 2 _).mono ?_
  rintro e W12 ⟨rfl, hb⟩
  have hb2 := hb.trans ((alloc_b W12 (.cells (flatE [⟨1, 0, 1⟩, ⟨1, 0, 2⟩]).toArray TE)).mono hb.size)
  have K12 := Lib.hid (K11.out.later hb2)
  have F12 := Lib.hid (F11.out.later hb2)
  have G12 := Lib.hid (fs_built _ [⟨1, 0, 1⟩, ⟨1, 0, 2⟩] W12.heap.size 2 (heap_alloc_new W12 (.cells (flatE [⟨1, 0, 1⟩, ⟨1, 0, 2⟩]).toArray TE)))
  clear hb hb2 K11 F11
  go_wp2_with fail
  refine (HQ.out _ _ _ _ _ F12.out G12.out (by decide) (by decide)).mono ?_
  rintro e W13 ⟨rfl, hb⟩
  have K13 := Lib.hid (K12.out.later hb)
  clear hb K12 F12 G12
  rw [show eqF (effs [x1, x3]) [⟨1, 0, 1⟩, ⟨1, 0, 2⟩] = true by decide]
  go_wp2_with fail
  refine K13.out.all.mono ?_
  rintro e W14 ⟨v2, rfl, hF, hb, h14⟩
  have K14 := Lib.hid h14
  have F14 := Lib.hid hF.fs
  clear hF hb h14 K13
  go_wp2_with fail
  refine (HE.out 1 1 1 _).mono ?_
  rintro e W15 ⟨rfl, hb⟩
  have hb2 := hb.trans ((alloc_b W15 (.cells (flatE [⟨1, 1, 1⟩]).toArray TE)).mono hb.size)
  have K15 := Lib.hid (K14.out.later hb2)
  have F15 := Lib.hid (F14.out.later hb2)
  have G15 := Lib.hid (fs_built _ [⟨1, 1, 1⟩] W15.heap.size 1 (heap_alloc_new W15 (.cells (flatE [⟨1, 1, 1⟩]).toArray TE)))
  clear hb hb2 K14 F14
  go_wp2_with fail
  refine (HQ.out _ _ _ _ _ F15.out G15.out (by decide) (by decide)).mono ?_
  rintro e W16 ⟨rfl, hb⟩
  have K16 := Lib.hid (K15.out.later hb)
  clear hb K15 F15 G15
  rw [show eqF (effs [x2]) [⟨1, 1, 1⟩] = true by decide]
  go_wp2_with fail
  refine K16.out.room.mono ?_
  rintro e W17 ⟨rfl, hb, h17⟩
  have B17 := Lib.hid h17.bel
  clear hb h17 K16
  go_wp2
  go_ret
  exact ⟨rfl, B17.out⟩
end Go.Proofs.Ytbgjiokocjnjhaa.Ded
