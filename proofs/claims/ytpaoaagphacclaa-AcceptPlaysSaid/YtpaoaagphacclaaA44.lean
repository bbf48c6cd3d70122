/- The document's calls on nil. -/
import Derived.Test.YtpaoaagphacclaaA43
namespace Go.Proofs.Ytpaoaagphacclaa.Acc
open Go.RowKit Go.Maps Go.Lib
open Bal (TB bOk ckB ordV eqB eqB_t eqB_f eq_b alloc_b)
set_option linter.unusedVariables false
set_option linter.unusedSimpArgs false
set_option maxRecDepth 100000

theorem rpromise_nv (x y f : Int) (w : World) : Calls Try.prog 17 #[.pointer none, .agg #[.int .i64 x, .int .i64 y], .int .i64 f] w fun e w' => e = .returned (.tuple #[.slice none 0 0, .int .i64 1]) ∧ Below w.heap.size w w' := by
  have HV := Lib.hid (fun W => rvalid_nil W)
  have hb := Lib.hid (fun o : Obj => alloc_b w o)
  go_enter Try.func17, Try.ntmps17
  go_wp2_with (go_at_call 42; refine (HV.out _).mono ?_; rintro e w' ⟨rfl, rfl⟩)
  go_ret2
  exact ⟨rfl, by first | exact Below.refl _ _ | exact hb.out _⟩
theorem raccept_nv (x y k : Int) (v : ByteArray) (w : World) : Calls Try.prog 20 #[.pointer none, .agg #[.int .i64 x, .int .i64 y], .int .i64 k, .string v] w fun e w' => e = .returned (.int .i64 1) ∧ Below w.heap.size w w' := by
  have HV := Lib.hid (fun W => rvalid_nil W)
  have hb := Lib.hid (fun o : Obj => alloc_b w o)
  go_enter Try.func20, Try.ntmps20
  go_wp2_with (go_at_call 42; refine (HV.out _).mono ?_; rintro e w' ⟨rfl, rfl⟩)
  go_ret
  exact ⟨rfl, by first | exact Below.refl _ _ | exact hb.out _⟩
theorem rforget_nv (u : Int) (w : World) : Calls Try.prog 22 #[.pointer none, .int .i64 u] w fun e w' => e = .returned (.int .i64 1) ∧ Below w.heap.size w w' := by
  have HV := Lib.hid (fun W => rvalid_nil W)
  have hb := Lib.hid (fun o : Obj => alloc_b w o)
  go_enter Try.func22, Try.ntmps22
  go_wp2_with (go_at_call 42; refine (HV.out _).mono ?_; rintro e w' ⟨rfl, rfl⟩)
  go_ret
  exact ⟨rfl, by first | exact Below.refl _ _ | exact hb.out _⟩
theorem rlist_nv (q : Int) (w : World) : Calls Try.prog 32 #[.pointer none, .int .i64 q] w fun e w' => e = .returned (.slice none 0 0) ∧ Below w.heap.size w w' := by
  have HV := Lib.hid (fun W => rvalid_nil W)
  go_enter Try.func32, Try.ntmps32
  go_wp2
  go_loopw [5, 6] (fun l i wr => l = .slice none 0 0 ∧ i = .int .i64 0 ∧ w = wr) (fun _ _ _ => 0)
  case atStart => exact ⟨rfl, rfl, rfl⟩
  case round =>
    obtain ⟨rfl, rfl, hw⟩ := hrel
    subst hw
    go_wp2_with (go_at_call 42; refine (HV.out _).mono ?_; rintro e w' ⟨rfl, rfl⟩)
    go_ret
    exact ⟨rfl, Below.refl _ _⟩
theorem rcopy_nv (w : World) : Calls Try.prog 24 #[.pointer none] w fun e w' => e = .returned (.pointer none) ∧ Below w.heap.size w w' := by
  have HV := Lib.hid (fun W => rvalid_nil W)
  have hb := Lib.hid (fun o : Obj => alloc_b w o)
  go_enter Try.func24, Try.ntmps24
  go_wp2_with (go_at_call 42; refine (HV.out _).mono ?_; rintro e w' ⟨rfl, rfl⟩)
  go_ret
  exact ⟨rfl, by first | exact Below.refl _ _ | exact hb.out _⟩
theorem rpromised_nv (w : World) : Calls Try.prog 28 #[.pointer none] w fun e w' => e = .returned (.agg #[.int .i64 0, .int .i64 0]) ∧ Below w.heap.size w w' := by
  have HV := Lib.hid (fun W => rvalid_nil W)
  have hq := heap_alloc_new w (.cells #[.int .i64 0, .int .i64 0] TB)
  have f0 := frozen_of_row _ w.heap.size 0 _ TB hq
  have f1 := frozen_of_row _ w.heap.size 1 _ TB hq
  have d0 := cell_of_row _ w.heap.size 0 _ TB _ hq
  have d1 := cell_of_row _ w.heap.size 1 _ TB _ hq
  clear hq
  go_enter Try.func28, Try.ntmps28
  go_wp2_with (go_at_call 42; refine (HV.out _).mono ?_; rintro e w' ⟨rfl, rfl⟩)
  refine bodyPost_ret (v := .agg #[.int .i64 0, .int .i64 0]) ?_ rfl ⟨rfl, alloc_b _ _⟩
  simp [results, Try.results28, go_sem, d0, d1]
theorem raccepted_nv (k : Int) (w : World) : Calls Try.prog 26 #[.pointer none, .int .i64 k] w fun e w' => e = .returned (.tuple #[vE zE, .bool false]) ∧ Below w.heap.size w w' := by
  have HV := Lib.hid (fun W => rvalid_nil W)
  have hb := alloc_b w (.cells #[.int .i64 0, .int .i64 0, .int .i64 0, .string ⟨#[]⟩] TE)
  have h1 := heap_alloc_new w (.cells #[.int .i64 0, .int .i64 0, .int .i64 0, .string ⟨#[]⟩] TE)
  have d0 := cell_of_row _ _ 0 _ TE _ h1
  have d1 := cell_of_row _ _ 1 _ TE _ h1
  have d2 := cell_of_row _ _ 2 _ TE _ h1
  have d3 := cell_of_row _ _ 3 _ TE _ h1
  have f0 := fun i => frozen_of_row _ w.heap.size i _ TE h1
  have h2 := Lib.hid (acc_set _ w.heap.size #[] 0 0 0 ⟨#[]⟩ h1)
  have hK := (((((Keeps.refl (fun i => i = w.heap.size) (w.alloc (.cells #[.int .i64 0, .int .i64 0, .int .i64 0, .string ⟨#[]⟩] TE))).setCell (p := ⟨w.heap.size, 0, none⟩) (.inl rfl) (.int .i64 0)).setCell (p := ⟨w.heap.size, 1, none⟩) (.inl rfl) (.int .i64 0)).setCell (p := ⟨w.heap.size, 2, none⟩) (.inl rfl) (.int .i64 0)).setCell (p := ⟨w.heap.size, 3, none⟩) (.inl rfl) (.string ⟨#[]⟩))
  have hb2 := Lib.hid (hb.trans (hK.below hb.size fun i e => by subst e; exact Nat.le_refl _))
  clear h1 hK
  go_enter Try.func26, Try.ntmps26
  go_wp2
  generalize (w.alloc (.cells #[.int .i64 0, .int .i64 0, .int .i64 0, .string ⟨#[]⟩] TE)) = W1 at *
  go_loopw [6] (fun i wr => i = .int .i64 0 ∧ W1 = wr) (fun _ _ => 0)
  case atStart => exact ⟨rfl, rfl⟩
  case round =>
    obtain ⟨rfl, hw⟩ := hrel
    subst hw
    go_wp2_with (go_at_call 42; refine (HV.out _).mono ?_; rintro e w' ⟨rfl, rfl⟩)
    have e0 := cell_of_row _ _ 0 _ TE _ h2.out
    have e1 := cell_of_row _ _ 1 _ TE _ h2.out
    have e2 := cell_of_row _ _ 2 _ TE _ h2.out
    have e3 := cell_of_row _ _ 3 _ TE _ h2.out
    exact bodyPost_ret (v := .tuple #[vE zE, .bool false]) (by simp [results, Try.results26, go_sem, d0, d1, d2, d3, e0, e1, e2, e3]) rfl ⟨rfl, hb2.out⟩
end Go.Proofs.Ytpaoaagphacclaa.Acc
