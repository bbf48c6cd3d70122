/- The examples of the chapter: works. -/
import Derived.Test.YtmbkopeikldonaaDoorU10
namespace Go.Proofs.YtmbkopeikldonaaDoor.Quo
open Go.RowKit Go.Lib Go.Shelf
set_option linter.unusedVariables false
set_option linter.unusedSimpArgs false
set_option maxRecDepth 20000

theorem x_size (w : World) : Calls Tryd.prog 21 #[.int .i64 5] w fun e w' => e = .returned (.tuple #[.int .i64 3, .int .i64 0]) ∧ w = w' := size_ok 5 (by decide) (by decide) w
theorem x_is (w : World) : Calls Tryd.prog 12 #[.int .u64 3, .int .i64 4] w fun e w' => e = .returned (.tuple #[.bool false, .int .i64 0]) ∧ Below w.heap.size w w' := by
  have h := is_any 3 (by decide) 4 w
  rw [show isV 4 3 = false by decide +kernel, show ckI 4 [3] = 0 by decide +kernel] at h
  exact h
theorem x_with (w : World) : Calls Tryd.prog 16 #[.int .u64 1, .int .i64 2, .int .i64 3] w fun e w' => e = .returned (.tuple #[.int .u64 5, .int .i64 0]) ∧ Below w.heap.size w w' := by
  have h := with_any 1 (by decide) 2 3 w
  rw [show wiV 1 2 3 = 5 by decide +kernel, show wiE 1 2 3 = 0 by decide +kernel] at h
  exact h
theorem x_meet (w : World) (hH : Hv w) : Calls Tryd.prog 19 #[.int .u64 3, .int .u64 6, .int .i64 3] w fun e w' => e = .returned (.tuple #[.int .i64 1, .bool true, .int .i64 0]) ∧ Below w.heap.size w w' := by
  have h := meet_any 3 6 3 (by decide) (by decide) w hH
  rw [show mtV 3 3 6 = 1 by decide +kernel, show mtB 3 3 6 = true by decide +kernel, show ckI 3 [3, 6] = 0 by decide +kernel] at h
  exact h
theorem x_all (w : World) : Calls Tryd.prog 23 #[.int .i64 3] w (AllIs [3, 5, 6] w) := by
  have h := all_ok 3 (by decide) (by decide) w
  rw [show allL 3 = [3, 5, 6] by decide +kernel] at h
  exact h
theorem x_surv (w : World) : Calls Tryd.prog 14 #[.int .u64 4, .int .i64 3] w fun e w' => e = .returned (.tuple #[.bool true, .int .i64 0]) ∧ Below w.heap.size w w' := by
  have h := survives_any 4 (by decide) 3 w
  rw [show svV 3 4 = true by decide +kernel, show ckI 3 [4] = 0 by decide +kernel] at h
  exact h
theorem x_count (w : World) : Calls Tryd.prog 26 #[.int .u64 9] w fun e w' => e = .returned (.int .i64 2) ∧ w = w' := by
  have h := count_any 9 (by decide) w
  rw [show pc 9 = 2 by decide +kernel] at h
  exact h
theorem x_nodes (w : World) (hH : Hv w) : Calls Tryd.prog 29 #[.int .u64 9] w (OwnI [0, 3] w) := by
  have h := nodes_any 9 (by decide) w hH
  rw [show bitsOf 9 = [0, 3] by decide +kernel] at h
  exact h
set_option maxHeartbeats 1000000 in
theorem works_any (w : World) (hH : Hv w) : Calls Tryd.prog 18 #[] w fun e w' => e = .returned (.bool true) ∧ Below w.heap.size w w' := by
  go_enter Tryd.func18, Tryd.ntmps18
  go_wp2_with fail
  refine (x_size _).mono ?_
  rintro e w' ⟨rfl, rfl⟩
  go_wp2_with fail
  refine (x_is _).mono ?_
  rintro e w1 ⟨rfl, hb1⟩
  replace hb1 := Lib.hid hb1
  go_wp2_with fail
  refine (x_with _).mono ?_
  rintro e w2 ⟨rfl, hb2⟩
  replace hb2 := Lib.hid (below2 hb1.out hb2)
  clear hb1
  go_wp2_with fail
  refine (x_meet _ (hH.later hb2.out)).mono ?_
  rintro e w3 ⟨rfl, hb3⟩
  replace hb3 := Lib.hid (below2 hb2.out hb3)
  clear hb2
  go_wp2_with fail
  refine (x_all _).mono ?_
  rintro e w4 ⟨v, rfl, ho4, hb4⟩
  replace hb4 := Lib.hid (below2 hb3.out hb4)
  obtain ⟨a4, cap4, rfl⟩ := ho4.form
  have hs4 := Lib.hid ho4.ns
  clear hb3 ho4
  go_wp2_with fail
  refine (x_surv _).mono ?_
  rintro e w5 ⟨rfl, hb5⟩
  have hs5 := Lib.hid (hs4.out.later hb5)
  replace hb5 := Lib.hid (below2 hb4.out hb5)
  clear hb4 hs4
  have hA := alloc_b w5 (.cells #[.int .u64 3, .int .u64 5, .int .u64 6] TU)
  have hs6 := Lib.hid (hs5.out.later hA)
  have hn6 := Lib.hid (show IsNs .u64 _ (.slice (some ⟨w5.heap.size, 0, none⟩) 3 3) [3, 5, 6] from blk_ns (heap_alloc_new w5 (.cells (nums .u64 [3, 5, 6]).toArray TU)) rfl)
  have hb6 := Lib.hid (below2 hb5.out hA)
  clear hs5 hA
  go_wp2_with fail
  refine (eqA_U _ _ [3, 5, 6] [3, 5, 6] _ hs6.out hn6.out (by simp) (by simp)).mono ?_
  rw [eqL_t]
  rintro e w7 ⟨rfl, hb7⟩
  replace hb7 := Lib.hid (below2 hb6.out hb7)
  clear hb6 hs6 hn6 hb5
  go_wp2_with fail
  refine (x_count _).mono ?_
  rintro e w' ⟨rfl, rfl⟩
  go_wp2_with fail
  refine (x_nodes _ (hH.later hb7.out)).mono ?_
  rintro e w8 ⟨v8, rfl, ho8, hb8⟩
  obtain ⟨a8, cap8, rfl⟩ := ho8.form
  have hA := alloc_b w8 (.cells #[.int .i64 0, .int .i64 3] TI)
  have hs8 := Lib.hid (ho8.ns.later hA)
  have hn8 := Lib.hid (show IsNs .i64 _ (.slice (some ⟨w8.heap.size, 0, none⟩) 2 2) [0, 3] from blk_ns (heap_alloc_new w8 (.cells (nums .i64 [0, 3]).toArray TI)) rfl)
  replace hb8 := Lib.hid (below2 (below2 hb7.out hb8) hA)
  clear hb7 ho8 hA
  go_wp2_with fail
  refine (eqA_I _ _ [0, 3] [0, 3] _ hs8.out hn8.out (by simp) (by simp)).mono ?_
  rw [eqL_t]
  rintro e w9 ⟨rfl, hb9⟩
  replace hb9 := Lib.hid (below2 hb8.out hb9)
  clear hb8 hs8 hn8
  go_wp2
  go_ret
  exact ⟨rfl, hb9.out⟩
end Go.Proofs.YtmbkopeikldonaaDoor.Quo
