/- The examples of the chapter: works returns true. -/
import Derived.Test.YtllhgjenkchniaaDoorI16
namespace Go.Proofs.YtllhgjenkchniaaDoor.Ident
open Go.RowKit Go.Lib
set_option linter.unusedVariables false
set_option linter.unusedSimpArgs false
set_option maxRecDepth 20000

theorem dd1 {i : Nat} (h : i < 10) : decDigits i = [UInt8.ofNat (48 + i)] := decDigits_one h
theorem t_eff : effT 12 3 1 = [49, 50, 47, 51, 47, 102] := by
  unfold effT
  rw [decDigits_two (by omega) (by omega), decDigits_one (by omega)]
  decide
theorem t_move : itT ⟨0, 0, 0, 5, true, 2⟩ = [109, 53, 47, 105, 110, 64, 50] := by
  unfold itT hdT
  rw [if_neg (by decide)]
  rw [show (5 : Int).toNat = 5 from rfl, show (2 : Int).toNat = 2 from rfl, decDigits_one (by omega), decDigits_one (by omega)]
  decide
theorem t_item : itT ⟨12, 3, 1, 0, false, 2⟩ = [49, 50, 47, 51, 47, 102, 64, 50] := by
  unfold itT hdT
  rw [if_pos rfl]
  rw [show (12 : Int).toNat = 12 from rfl, show (3 : Int).toNat = 3 from rfl, show (1 : Int).toNat = 1 from rfl, show (2 : Int).toNat = 2 from rfl, t_eff, decDigits_one (by omega)]
  decide
theorem x_effect (w : World) (hH : Hv w) : Calls Tryd.prog 14 #[.agg #[.int .i64 12, .int .i64 3, .int .i64 1]] w fun e w' => e = .returned (.tuple #[.string ⟨#[49, 50, 47, 51, 47, 102]⟩, .int .i64 0]) ∧ Below w.heap.size w w' := by
  have h := effect_ok 12 3 1 (by decide) w hH
  rw [t_eff] at h
  exact h
theorem x_parse (w : World) (hH : Hv w) : Calls Tryd.prog 16 #[.string ⟨#[49, 50, 47, 51, 47, 102]⟩] w fun e w' => e = .returned (.tuple #[.agg #[.int .i64 12, .int .i64 3, .int .i64 1], .int .i64 0]) ∧ Below w.heap.size w w' := by
  have h := parse_any [49, 50, 47, 51, 47, 102] (by decide) w hH
  have e : pE [49, 50, 47, 51, 47, 102] = some (12, 3, 1) := by
    rw [← t_eff]
    exact pE_text (a := 12) (b := 3) (p := 1) (by decide)
  rw [e] at h
  exact h
theorem x_item (w : World) (hH : Hv w) : Calls Tryd.prog 20 #[.agg #[.int .i64 0, .int .i64 0, .int .i64 0, .int .i64 5, .bool true, .int .i64 2]] w fun e w' => e = .returned (.tuple #[.string ⟨#[109, 53, 47, 105, 110, 64, 50]⟩, .int .i64 0]) ∧ Below w.heap.size w w' := by
  have h := item_any ⟨0, 0, 0, 5, true, 2⟩ w hH
  rw [show itS ⟨0, 0, 0, 5, true, 2⟩ = itT ⟨0, 0, 0, 5, true, 2⟩ from if_pos (by decide), t_move, show ckI ⟨0, 0, 0, 5, true, 2⟩ = 0 from if_pos (by decide)] at h
  exact h
theorem x_parseI (w : World) (hH : Hv w) : Calls Tryd.prog 22 #[.string ⟨#[49, 50, 47, 51, 47, 102, 64, 50]⟩] w fun e w' => e = .returned (.tuple #[.agg #[.int .i64 12, .int .i64 3, .int .i64 1, .int .i64 0, .bool false, .int .i64 2], .int .i64 0]) ∧ Below w.heap.size w w' := by
  have h := parseI_any [49, 50, 47, 51, 47, 102, 64, 50] (by decide) w hH
  have e : pI [49, 50, 47, 51, 47, 102, 64, 50] = some ⟨12, 3, 1, 0, false, 2⟩ := by
    rw [← t_item]
    exact pI_text (by decide)
  rw [e] at h
  exact h
theorem x_number (w : World) (hH : Hv w) : Calls Tryd.prog 26 #[.agg #[.int .i64 0, .int .i64 0, .int .i64 0, .int .i64 64, .bool true, .int .i64 7]] w fun e w' => e = .returned (.tuple #[.int .i64 1680728, .int .i64 0]) ∧ Below w.heap.size w w' := by
  have h := number_it ⟨0, 0, 0, 64, true, 7⟩ w hH
  rw [show nmI ⟨0, 0, 0, 64, true, 7⟩ = 1680728 by decide, show ckI ⟨0, 0, 0, 64, true, 7⟩ = 0 from if_pos (by decide)] at h
  exact h
theorem x_from (w : World) : Calls Tryd.prog 28 #[.int .i64 169] w fun e w' => e = .returned (.tuple #[.agg #[.int .i64 2, .int .i64 0, .int .i64 1, .int .i64 0, .bool false, .int .i64 1], .int .i64 0]) ∧ Below w.heap.size w w' := by
  have h := from_any 169 (by decide) (by decide) w
  rw [show frX 169 = ⟨2, 0, 1, 0, false, 1⟩ from rfl, show frC 169 = 0 from rfl] at h
  exact h
theorem x_name1 (w : World) : Calls Tryd.prog 30 #[.string ⟨#[97, 49]⟩] w fun e w' => e = .returned (.bool true) ∧ Below w.heap.size w w' := by
  have h := name_any [97, 49] w
  rw [show nameOk [97, 49] = true by decide] at h
  exact h
theorem x_name2 (w : World) : Calls Tryd.prog 30 #[.string ⟨#[65]⟩] w fun e w' => e = .returned (.bool false) ∧ Below w.heap.size w w' := by
  have h := name_any [65] w
  rw [show nameOk [65] = false by decide] at h
  exact h
theorem x_order (w : World) : Calls Tryd.prog 32 #[.agg #[.int .i64 12, .int .i64 3, .int .i64 1], .agg #[.int .i64 12, .int .i64 3, .int .i64 1]] w fun e w' => e = .returned (.int .i64 0) ∧ Below w.heap.size w w' := by
  have h := order_any 12 3 1 12 3 1 w
  rw [show ordV 12 3 1 12 3 1 = 0 by decide] at h
  exact h
/-- A block that stays. -/
def Kp (q : Nat) (o : Obj) (W : World) : Prop := W.heap[q]? = some o
theorem Kp.later {q : Nat} {o : Obj} {W W' : World} (h : Kp q o W) (hb : Below W.heap.size W W') : Kp q o W' := (hb.block _ (Array.getElem?_eq_some_iff.1 h).1).trans h
theorem kp_new (W : World) (cs : Array Value) (T : TypeId) : Kp W.heap.size (.cells cs T (0, 0)) (W.alloc (.cells cs T)) := heap_alloc_new _ _
theorem alloc_b (W : World) (o : Obj) : Below W.heap.size W (W.alloc o) := (Below.refl _ _).alloc (Nat.le_refl _) _
theorem below2 {w W W' : World} (h : Below w.heap.size w W) (hb : Below W.heap.size W W') : Below w.heap.size w W' := h.trans (hb.mono h.size)
set_option maxHeartbeats 1000000 in
theorem works_any (w : World) (hH : Hv w) : Calls Tryd.prog 13 #[] w fun e w' => e = .returned (.bool true) ∧ Below w.heap.size w w' := by
  have E0 := Lib.hid (kp_new w #[.int .i64 12, .int .i64 3, .int .i64 1] TE)
  have B0 := Lib.hid (alloc_b w (.cells #[.int .i64 12, .int .i64 3, .int .i64 1] TE))
  go_enter Tryd.func13, Tryd.ntmps13
  go_wp2_with fail
  refine (x_effect _ (hH.later B0.out)).mono ?_
  rintro e w1 ⟨rfl, hb1⟩
  have E1 := Lib.hid (E0.out.later hb1)
  have B1 := Lib.hid (below2 B0.out hb1)
  clear E0 B0 hb1
  go_wp2_with fail
  refine (x_parse _ (hH.later B1.out)).mono ?_
  rintro e w2 ⟨rfl, hb2⟩
  have E2 := Lib.hid ((E1.out.later hb2).later (alloc_b w2 (.cells #[.int .i64 12, .int .i64 3, .int .i64 1] TE)))
  have F2 := Lib.hid (kp_new w2 #[.int .i64 12, .int .i64 3, .int .i64 1] TE)
  have B2 := Lib.hid (below2 (below2 B1.out hb2) (alloc_b w2 (.cells #[.int .i64 12, .int .i64 3, .int .i64 1] TE)))
  clear E1 B1 hb2
  go_wp2_with fail
  refine (x_item _ (hH.later B2.out)).mono ?_
  rintro e w3 ⟨rfl, hb3⟩
  have E3 := Lib.hid (E2.out.later hb3)
  have F3 := Lib.hid (F2.out.later hb3)
  have B3 := Lib.hid (below2 B2.out hb3)
  clear E2 B2 hb3 F2
  go_wp2_with fail
  refine (x_parseI _ (hH.later B3.out)).mono ?_
  rintro e w4 ⟨rfl, hb4⟩
  have b4 := alloc_b w4 (.cells #[.int .i64 12, .int .i64 3, .int .i64 1, .int .i64 0, .bool false, .int .i64 2] TI)
  have E4 := Lib.hid ((E3.out.later hb4).later b4)
  have F4 := Lib.hid ((F3.out.later hb4).later b4)
  have G4 := Lib.hid (kp_new w4 #[.int .i64 12, .int .i64 3, .int .i64 1, .int .i64 0, .bool false, .int .i64 2] TI)
  have B4 := Lib.hid (below2 (below2 B3.out hb4) b4)
  clear E3 F3 B3 hb4 b4
  go_wp2_with fail
  refine (x_number _ (hH.later B4.out)).mono ?_
  rintro e w5 ⟨rfl, hb5⟩
  have E5 := Lib.hid (E4.out.later hb5)
  have F5 := Lib.hid (F4.out.later hb5)
  have G5 := Lib.hid (G4.out.later hb5)
  have B5 := Lib.hid (below2 B4.out hb5)
  clear E4 F4 G4 B4 hb5
  go_wp2_with fail
  refine (x_from _).mono ?_
  rintro e w6 ⟨rfl, hb6⟩
  have b6 := alloc_b w6 (.cells #[.int .i64 2, .int .i64 0, .int .i64 1, .int .i64 0, .bool false, .int .i64 1] TI)
  have E6 := Lib.hid (E5.out.later hb6)
  have F6 := Lib.hid (F5.out.later hb6)
  have G6 := Lib.hid (G5.out.later hb6)
  have B6 := Lib.hid (below2 (below2 B5.out hb6) b6)
  have E7 := E6.out.later b6
  have F7 := F6.out.later b6
  have G7 := G6.out.later b6
  have x0 := cell_of_row _ _ 0 _ _ _ E7
  have x1 := cell_of_row _ _ 1 _ _ _ E7
  have x2 := cell_of_row _ _ 2 _ _ _ E7
  have y0 := cell_of_row _ _ 0 _ _ _ F7
  have y1 := cell_of_row _ _ 1 _ _ _ F7
  have y2 := cell_of_row _ _ 2 _ _ _ F7
  obtain ⟨z0, z1, z2, z3, z4, z5, _⟩ := ib_cells (x := ⟨12, 3, 1, 0, false, 2⟩) G7
  replace E7 := Lib.hid E7
  replace F7 := Lib.hid F7
  clear G7
  clear E5 F5 G5 B5 hb6 E6 F6 G6 b6
  go_wp2_with fail
  refine (x_name1 _).mono ?_
  rintro e w7 ⟨rfl, hb7⟩
  have E8 := Lib.hid (E7.out.later hb7)
  have F8 := Lib.hid (F7.out.later hb7)
  have B8 := Lib.hid (below2 B6.out hb7)
  clear E7 F7 B6 hb7 x0 x1 x2 y0 y1 y2 z0 z1 z2 z3 z4 z5
  go_wp2_with fail
  refine (x_name2 _).mono ?_
  rintro e w8 ⟨rfl, hb8⟩
  have E9 := E8.out.later hb8
  have F9 := F8.out.later hb8
  have B9 := Lib.hid (below2 B8.out hb8)
  have x0 := cell_of_row _ _ 0 _ _ _ E9
  have x1 := cell_of_row _ _ 1 _ _ _ E9
  have x2 := cell_of_row _ _ 2 _ _ _ E9
  have y0 := cell_of_row _ _ 0 _ _ _ F9
  have y1 := cell_of_row _ _ 1 _ _ _ F9
  have y2 := cell_of_row _ _ 2 _ _ _ F9
  clear E8 F8 B8 hb8 E9 F9
  go_wp2_with fail
  refine (x_order _).mono ?_
  rintro e w9 ⟨rfl, hb9⟩
  have B10 := below2 B9.out hb9
  go_wp2
  go_ret
  exact ⟨rfl, B10⟩
end Go.Proofs.YtllhgjenkchniaaDoor.Ident
