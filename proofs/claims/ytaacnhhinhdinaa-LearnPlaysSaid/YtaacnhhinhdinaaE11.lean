/- works. -/
import Derived.Test.YtaacnhhinhdinaaE10
namespace Go.Proofs.Ytaacnhhinhdinaa.Lrn
open Go.RowKit Go.Maps Go.Lib
open Bal (TB bOk ckB ordV eqB alloc_b)
set_option linter.unusedVariables false
set_option linter.unusedSimpArgs false
set_option maxRecDepth 20000

abbrev cx : ByteArray := ⟨#[120]⟩
abbrev cy : ByteArray := ⟨#[121]⟩
abbrev cz : ByteArray := ⟨#[122]⟩
abbrev cw : ByteArray := ⟨#[119]⟩
def s1 : St := ⟨3, 0, [⟨4, ⟨false, ⟨#[]⟩, 2, 1, cy, 1⟩⟩]⟩
def s2 : St := ⟨3, 0, [⟨4, ⟨true, cy, 2, 1, cy, 5⟩⟩]⟩
def s3 : St := ⟨3, 0, [⟨0, ⟨true, cz, 0, 0, ⟨#[]⟩, 0⟩⟩, ⟨4, ⟨true, cy, 2, 1, cy, 5⟩⟩]⟩
theorem ex1 : addB (newS 3) 0 2 1 4 cy = false ∧ addE (newS 3) 0 2 1 4 cy = 0 ∧ addS (newS 3) 0 2 1 4 cy = s1 := by
  have h : addOn (newS 3) 0 2 1 4 cy := by decide +kernel
  have h2 : addN (withK (at' (newS 3) 4) 0 2 1 cy 3) 3 = false := by decide +kernel
  refine ⟨by decide +kernel, by decide +kernel, ?_⟩
  unfold addS
  rw [if_pos h]
  unfold addW
  rw [show (newS 3).n = 3 from rfl, if_neg (by rw [h2]; decide)]
  kernel_rfl
theorem ex2 : addB s1 1 1 0 4 cx = false ∧ addE s1 1 1 0 4 cx = 0 ∧ addS s1 1 1 0 4 cx = s1 := by
  have h : ¬ addOn s1 1 1 0 4 cx := by decide +kernel
  exact ⟨by decide +kernel, by decide +kernel, by unfold addS; rw [if_neg h]⟩
theorem ex3 : addB s1 2 2 1 4 cx = false ∧ addE s1 2 2 1 4 cx = 9 ∧ addS s1 2 2 1 4 cx = s1 := by
  have h : ¬ addOn s1 2 2 1 4 cx := by decide +kernel
  exact ⟨by decide +kernel, by decide +kernel, by unfold addS; rw [if_neg h]⟩
theorem ex4 : addB s1 2 2 1 4 cy = true ∧ addE s1 2 2 1 4 cy = 0 ∧ addS s1 2 2 1 4 cy = s2 := by
  have h : addOn s1 2 2 1 4 cy := by decide +kernel
  have h2 : addN (withK (at' s1 4) 2 2 1 cy 3) 3 = true := by decide +kernel
  refine ⟨by decide +kernel, by decide +kernel, ?_⟩
  unfold addS
  rw [if_pos h]
  unfold addW
  rw [show s1.n = 3 from rfl, if_pos h2]
  kernel_rfl
theorem ex5 : opnL s1 = [4] := by kernel_rfl
theorem ex6 : at' s2 4 = ⟨true, cy, 2, 1, cy, 5⟩ := by kernel_rfl
theorem ex7 : lrnE s2 0 cz = 0 ∧ lrnS s2 0 cz = s3 := by
  have h : lrnE s2 0 cz = 0 := by decide +kernel
  exact ⟨h, by unfold lrnS; rw [if_pos h]; kernel_rfl⟩
theorem ex8 : lrnE s3 0 cw = 9 ∧ lrnS s3 0 cw = s3 := by
  have h : lrnE s3 0 cw = 9 := by decide +kernel
  exact ⟨h, by unfold lrnS; rw [if_neg (by rw [h]; decide)]⟩
theorem ex9 : uptoV s3 = 1 := by kernel_rfl
theorem WAt.box {w W W' : World} {sb mb : Nat} {s : St} (h : WAt w sb mb s W) (hk : Keeps (KL sb mb) W W') {g : Nat} {r m : Int} (hg : W.heap[g]? = some (.cells #[.int .i64 r, .int .i64 m] TB (0, 0))) : W'.heap[g]? = some (.cells #[.int .i64 r, .int .i64 m] TB (0, 0)) :=
  (hk.block g (Array.getElem?_eq_some_iff.1 hg).1 (h.ax.apart hg (by decide))).trans hg
def Yes (w : World) (e : Ending) (w' : World) : Prop := e = .returned (.bool true) ∧ Below w.heap.size w w'
set_option maxHeartbeats 2000000 in
theorem works_any (w : World) : Calls Try.prog 11 #[] w (Yes w) := by
  have HN := Lib.hid (new_w 3 (by omega) w w (Below.refl _ _))
  have H1 := Lib.hid (fun W sb mb (h : WAt w sb mb (newS 3) W) => h.add 0 2 1 4 cy ex1.1 ex1.2.1 ex1.2.2)
  have H2 := Lib.hid (fun W sb mb (h : WAt w sb mb s1 W) => h.add 1 1 0 4 cx ex2.1 ex2.2.1 ex2.2.2)
  have H3 := Lib.hid (fun W sb mb (h : WAt w sb mb s1 W) => h.add 2 2 1 4 cx ex3.1 ex3.2.1 ex3.2.2)
  have H4 := Lib.hid (fun W sb mb (h : WAt w sb mb s1 W) => h.opens ex5)
  have H5 := Lib.hid (fun W sb mb (h : WAt w sb mb s1 W) => h.add 2 2 1 4 cy ex4.1 ex4.2.1 ex4.2.2)
  have H6 := Lib.hid (fun W sb mb (h : WAt w sb mb s2 W) => h.chosen 4 (by decide) ex6)
  have H7 := Lib.hid (fun W sb mb (h : WAt w sb mb s2 W) => h.votes 4 (by decide) ex6)
  have H8 := Lib.hid (fun W sb mb (h : WAt w sb mb s2 W) => h.learn 0 cz ex7.1 ex7.2)
  have H9 := Lib.hid (fun W sb mb (h : WAt w sb mb s3 W) => h.learn 0 cw ex8.1 ex8.2)
  have H10 := Lib.hid (fun W sb mb (h : WAt w sb mb s3 W) => h.upto ex9)
  have hq2 := fun W => (Bal.eq_b 2 1 2 1 W).trans (by rw [Bal.eqB_t ⟨rfl, rfl⟩])
  go_enter Try.func11, Try.ntmps11
  go_wp2_with fail
  go_at_call 12
  refine HN.out.mono ?_
  rintro e W1 ⟨sb, mb, rfl, h1, _⟩
  have h1a := (h1.alloc (.cells #[.int .i64 1, .int .i64 0] TB)).alloc (.cells #[.int .i64 2, .int .i64 1] TB)
  have q0 := heap_alloc_new (W1.alloc (.cells #[.int .i64 1, .int .i64 0] TB)) (.cells #[.int .i64 2, .int .i64 1] TB)
  rw [World.size_alloc] at q0
  have p0 := (Below.heap_alloc (W1.alloc (.cells #[.int .i64 1, .int .i64 0] TB)) (.cells #[.int .i64 2, .int .i64 1] TB) W1.heap.size (by rw [World.size_alloc]; omega)).trans (heap_alloc_new W1 (.cells #[.int .i64 1, .int .i64 0] TB))
  have c0 := cell_of_row _ _ 0 _ TB _ q0
  have c1 := cell_of_row _ _ 1 _ TB _ q0
  go_wp2_with fail
  generalize (W1.alloc (.cells #[.int .i64 1, .int .i64 0] TB)).alloc (.cells #[.int .i64 2, .int .i64 1] TB) = W1a at *
  generalize W1.heap.size = g at *
  go_at_call 14
  refine (H1.out _ _ _ h1a).mono ?_
  rintro e W2 ⟨rfl, h2, hk2⟩
  have q2 := h1a.box hk2 q0
  have p2 := h1a.box hk2 p0
  have c0 := cell_of_row _ _ 0 _ TB _ p2
  have c1 := cell_of_row _ _ 1 _ TB _ p2
  clear hk2 q0 p0 h1a h1
  go_wp2_with fail
  go_at_call 14
  refine (H2.out _ _ _ h2).mono ?_
  rintro e W3 ⟨rfl, h3, hk3⟩
  have q3 := h2.box hk3 q2
  have c0 := cell_of_row _ _ 0 _ TB _ q3
  have c1 := cell_of_row _ _ 1 _ TB _ q3
  clear hk3 q2 p2 h2
  go_wp2_with fail
  go_at_call 14
  refine (H3.out _ _ _ h3).mono ?_
  rintro e W4 ⟨rfl, h4, hk4⟩
  have q4 := h3.box hk4 q3
  clear hk4 q3 h3
  go_wp2_with fail
  go_at_call 25
  refine (H4.out _ _ _ h4).mono ?_
  rintro e W5 ⟨v5, rfl, hO5, h5, hb5⟩
  have q5 := (hb5.block _ (Array.getElem?_eq_some_iff.1 q4).1).trans q4
  have c0 := cell_of_row _ _ 0 _ TB _ q5
  have c1 := cell_of_row _ _ 1 _ TB _ q5
  clear hb5 q4 h4
  obtain ⟨a5, k5, rfl⟩ := rows_form hO5
  replace hO5 := Lib.hid hO5
  go_wp2_with fail
  go_at_call 14
  refine (H5.out _ _ _ h5).mono ?_
  rintro e W6 ⟨rfl, h6, hk6⟩
  have q6 := h5.box hk6 q5
  have hO6 := Lib.hid (hO5.out.apart h5.ax hk6)
  clear hk6 q5 h5 hO5
  go_wp2_with fail
  go_at_call 23
  refine (H6.out _ _ _ h6).mono ?_
  rintro e W7 ⟨rfl, h7, hb7⟩
  have q7 := (hb7.block _ (Array.getElem?_eq_some_iff.1 q6).1).trans q6
  have hO7 := Lib.hid (hO6.out.later hb7)
  clear hb7 q6 h6 hO6
  go_wp2_with fail
  go_at_call 24
  refine (H7.out _ _ _ h7).mono ?_
  rintro e W8 ⟨rfl, h8, hb8⟩
  have q8 := (hb8.block _ (Array.getElem?_eq_some_iff.1 q7).1).trans q7
  have hO8 := Lib.hid (hO7.out.later hb8)
  clear hb8 q7 h7 hO7
  have b1 := alloc_b W8 (.cells #[.int .i64 2, .int .i64 1] TB)
  have b2 := b1.alloc b1.size (.cells #[.int .i64 4] TI)
  have h9 := h8.later b2
  have q9 := (b2.block _ (Array.getElem?_eq_some_iff.1 q8).1).trans q8
  have v9 := (Below.heap_alloc (W8.alloc (.cells #[.int .i64 2, .int .i64 1] TB)) (.cells #[.int .i64 4] TI) W8.heap.size (by rw [World.size_alloc]; omega)).trans (heap_alloc_new W8 (.cells #[.int .i64 2, .int .i64 1] TB))
  have i9 := heap_alloc_new (W8.alloc (.cells #[.int .i64 2, .int .i64 1] TB)) (.cells #[.int .i64 4] TI)
  rw [World.size_alloc] at i9
  have I1 := Lib.hid (hO8.out.is.later b2)
  have I2 := Lib.hid (is_one i9 1)
  clear b1 b2 hO8 h8 q8 i9
  go_wp2_with fail
  generalize (W8.alloc (.cells #[.int .i64 2, .int .i64 1] TB)).alloc (.cells #[.int .i64 4] TI) = W9 at *
  go_at_call 26
  refine (equal_any _ _ _ _ W9 I1.out I2.out (by decide) (by decide)).mono ?_
  rintro e W10 ⟨rfl, hb10⟩
  rw [eqLs_t]
  have h10 := h9.later hb10
  have q10 := (hb10.block _ (Array.getElem?_eq_some_iff.1 q9).1).trans q9
  have v10 := (hb10.block _ (Array.getElem?_eq_some_iff.1 v9).1).trans v9
  have c0 := cell_of_row _ _ 0 _ TB _ q10
  have c1 := cell_of_row _ _ 1 _ TB _ q10
  have d0 := cell_of_row _ _ 0 _ TB _ v10
  have d1 := cell_of_row _ _ 1 _ TB _ v10
  clear hb10 q9 v9 h9 I1 I2 q10 v10
  go_wp2_with fail
  go_at_call 16
  refine (H8.out _ _ _ h10).mono ?_
  rintro e W11 ⟨rfl, h11, _⟩
  go_wp2_with fail
  go_at_call 16
  refine (H9.out _ _ _ h11).mono ?_
  rintro e W12 ⟨rfl, h12, _⟩
  go_wp2_with fail
  go_at_call 27
  refine (H10.out _ _ _ h12).mono ?_
  rintro e W13 ⟨rfl, rfl⟩
  go_wp2
  go_ret
  exact ⟨rfl, h12.bel⟩
end Go.Proofs.Ytaacnhhinhdinaa.Lrn
