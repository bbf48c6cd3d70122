/- works. -/
import Derived.Test.YtgeejkedljhcoaaT08
namespace Go.Proofs.Ytgeejkedljhcoaa.Slt
open Go.RowKit Go.Maps Go.Lib
set_option linter.unusedVariables false
set_option linter.unusedSimpArgs false
set_option maxRecDepth 20000

abbrev ca : ByteArray := ⟨#[97]⟩
abbrev cb : ByteArray := ⟨#[98]⟩
abbrev cc : ByteArray := ⟨#[99]⟩
abbrev ce : ByteArray := ⟨#[101]⟩
def s1 : St := ⟨0, [⟨1, cb⟩]⟩
def s2 : St := ⟨0, [⟨0, ca⟩, ⟨1, cb⟩]⟩
def s3 : St := ⟨0, [⟨0, ca⟩, ⟨1, cb⟩, ⟨4, ce⟩]⟩
def s4 : St := ⟨1, [⟨1, cb⟩, ⟨4, ce⟩]⟩
def s5 : St := ⟨4, [⟨4, ce⟩]⟩
theorem ex1 : putE newS 1 cb = 0 ∧ putS newS 1 cb = s1 := by
  have h : putE newS 1 cb = 0 := by decide +kernel
  exact ⟨h, by unfold putS; rw [if_pos h]; kernel_rfl⟩
theorem ex2 : uptoV s1 = 0 := by kernel_rfl
theorem ex3 : putE s1 0 ca = 0 ∧ putS s1 0 ca = s2 := by
  have h : putE s1 0 ca = 0 := by decide +kernel
  exact ⟨h, by unfold putS; rw [if_pos h]; kernel_rfl⟩
theorem ex4 : putE s2 4 ce = 0 ∧ putS s2 4 ce = s3 := by
  have h : putE s2 4 ce = 0 := by decide +kernel
  exact ⟨h, by unfold putS; rw [if_pos h]; kernel_rfl⟩
theorem ex5 : uptoV s3 = 2 := by kernel_rfl
theorem ex6 : putE s3 1 cc = 9 ∧ putS s3 1 cc = s3 := by
  have h : putE s3 1 cc = 9 := by decide +kernel
  exact ⟨h, by unfold putS; rw [if_neg (by rw [h]; decide)]⟩
theorem ex7 : putE s3 1 cb = 0 ∧ putS s3 1 cb = s3 := by
  have h : putE s3 1 cb = 0 := by decide +kernel
  exact ⟨h, by unfold putS; rw [if_pos h]; kernel_rfl⟩
theorem ex8 : preV s3 = [ca, cb] := by kernel_rfl
theorem ex9 : gapV s3 = [2, 3] := by kernel_rfl
theorem ex10 : forE s3 3 = 3 ∧ forS s3 3 = s3 := by
  have h : forE s3 3 = 3 := by decide +kernel
  exact ⟨h, by unfold forS; rw [if_neg (by rw [h]; decide)]⟩
theorem ex11 : forE s3 1 = 0 ∧ forS s3 1 = s4 := by
  have h : forE s3 1 = 0 := by decide +kernel
  exact ⟨h, by unfold forS; rw [if_pos h]; kernel_rfl⟩
theorem ex12 : putE s4 0 ca = 8 ∧ putS s4 0 ca = s4 := by
  have h : putE s4 0 ca = 8 := by decide +kernel
  exact ⟨h, by unfold putS; rw [if_neg (by rw [h]; decide)]⟩
theorem ex13 : jmpE s4 1 = 8 ∧ jmpS s4 1 = s4 := by
  have h : jmpE s4 1 = 8 := by decide +kernel
  exact ⟨h, by unfold jmpS; rw [if_neg (by rw [h]; decide)]⟩
theorem ex14 : jmpE s4 4 = 0 ∧ jmpS s4 4 = s5 := by
  have h : jmpE s4 4 = 0 := by decide +kernel
  exact ⟨h, by unfold jmpS; rw [if_pos h]; kernel_rfl⟩
theorem ex15 : uptoV s5 = 5 := by kernel_rfl
theorem cells_is {w : World} {g : Nat} {L : List Int} (h : w.heap[g]? = some (.cells (ints L).toArray TI (0, 0))) (c : Nat) : IsI w (.slice (some ⟨g, 0, none⟩) L.length c) L := by
  refine ⟨_, c, rfl, fun _ => ⟨g, 0, rfl, (Array.getElem?_eq_some_iff.1 h).1, fun i x hx => ?_⟩⟩
  have := cell_of_row w g i _ TI _ h
  rw [Nat.zero_add, this]
  simp [ints, hx]
theorem cells_isS {w : World} {g : Nat} {L : List ByteArray} (h : w.heap[g]? = some (.cells (txts L).toArray TK (0, 0))) (c : Nat) : IsS w (.slice (some ⟨g, 0, none⟩) L.length c) L := by
  refine ⟨_, c, rfl, fun _ => ⟨g, 0, rfl, (Array.getElem?_eq_some_iff.1 h).1, fun i x hx => ?_⟩⟩
  have := cell_of_row w g i _ TK _ h
  rw [Nat.zero_add, this]
  simp [txts, hx]
def Yes (w : World) (e : Ending) (w' : World) : Prop := e = .returned (.bool true) ∧ Below w.heap.size w w'
set_option maxHeartbeats 2000000 in
theorem works_any (w : World) : Calls Try.prog 12 #[] w (Yes w) := by
  have HN := Lib.hid (new_w w w (Below.refl _ _))
  have H1 := Lib.hid (fun W sb mb (h : WAt w sb mb newS W) => h.put 1 cb ex1.1 ex1.2)
  have H2 := Lib.hid (fun W sb mb (h : WAt w sb mb s1 W) => h.upto ex2)
  have H3 := Lib.hid (fun W sb mb (h : WAt w sb mb s1 W) => h.put 0 ca ex3.1 ex3.2)
  have H4 := Lib.hid (fun W sb mb (h : WAt w sb mb s2 W) => h.put 4 ce ex4.1 ex4.2)
  have H5 := Lib.hid (fun W sb mb (h : WAt w sb mb s3 W) => h.upto ex5)
  have H6 := Lib.hid (fun W sb mb (h : WAt w sb mb s3 W) => h.put 1 cc ex6.1 ex6.2)
  have H7 := Lib.hid (fun W sb mb (h : WAt w sb mb s3 W) => h.put 1 cb ex7.1 ex7.2)
  have H8 := Lib.hid (fun W sb mb (h : WAt w sb mb s3 W) => h.prefixs ex8)
  have H9 := Lib.hid (fun W sb mb (h : WAt w sb mb s3 W) => h.gaps ex9)
  have H10 := Lib.hid (fun W sb mb (h : WAt w sb mb s3 W) => h.forget 3 ex10.1 ex10.2)
  have H11 := Lib.hid (fun W sb mb (h : WAt w sb mb s3 W) => h.forget 1 ex11.1 ex11.2)
  have H12 := Lib.hid (fun W sb mb (h : WAt w sb mb s4 W) => h.put 0 ca ex12.1 ex12.2)
  have H13 := Lib.hid (fun W sb mb (h : WAt w sb mb s4 W) => h.jump 1 ex13.1 ex13.2)
  have H14 := Lib.hid (fun W sb mb (h : WAt w sb mb s4 W) => h.jump 4 ex14.1 ex14.2)
  have H15 := Lib.hid (fun W sb mb (h : WAt w sb mb s5 W) => h.upto ex15)
  have H16 := Lib.hid (fun W sb mb (h : WAt w sb mb s5 W) => h.base (u := 4) rfl)
  go_enter Try.func12, Try.ntmps12
  go_wp2_with fail
  go_at_call 13
  refine HN.out.mono ?_
  rintro e W1 ⟨sb, mb, rfl, h1, _⟩
  go_wp2_with fail
  go_at_call 16
  refine (H1.out _ _ _ h1).mono ?_
  rintro e W2 ⟨rfl, h2, _⟩
  go_wp2_with fail
  go_at_call 25
  refine (H2.out _ _ _ h2).mono ?_
  rintro e W2' ⟨rfl, rfl⟩
  go_wp2_with fail
  go_at_call 16
  refine (H3.out _ _ _ h2).mono ?_
  rintro e W3 ⟨rfl, h3, _⟩
  go_wp2_with fail
  go_at_call 16
  refine (H4.out _ _ _ h3).mono ?_
  rintro e W4 ⟨rfl, h4, _⟩
  go_wp2_with fail
  go_at_call 25
  refine (H5.out _ _ _ h4).mono ?_
  rintro e W4' ⟨rfl, rfl⟩
  go_wp2_with fail
  go_at_call 16
  refine (H6.out _ _ _ h4).mono ?_
  rintro e W5 ⟨rfl, h5, _⟩
  go_wp2_with fail
  go_at_call 16
  refine (H7.out _ _ _ h5).mono ?_
  rintro e W6 ⟨rfl, h6, _⟩
  go_wp2_with fail
  go_at_call 27
  refine (H8.out _ _ _ h6).mono ?_
  rintro e W7 ⟨v7, rfl, hO7, h7, _⟩
  have h8 := h7.alloc (.cells #[.string ca, .string cb] TK)
  have I1 := Lib.hid (hO7.later (alloc_b W7 (.cells #[.string ca, .string cb] TK))).is
  have I2 := Lib.hid (cells_isS (L := [ca, cb]) (heap_alloc_new W7 (.cells #[.string ca, .string cb] TK)) 2)
  obtain ⟨a7, k7, rfl⟩ := rows_form hO7
  clear hO7
  go_wp2_with fail
  go_at_call 34
  refine (equalS_any _ _ _ _ _ I1.out I2.out (by decide) (by decide)).mono ?_
  rintro e W9 ⟨rfl, hb9⟩
  rw [eqTs_t]
  have h9 := h8.later hb9
  clear hb9 I1 I2 h8 h7
  go_wp2_with fail
  go_at_call 28
  refine (H9.out _ _ _ h9).mono ?_
  rintro e W10 ⟨v10, rfl, hO10, h10, _⟩
  have h11 := h10.alloc (.cells #[.int .i64 2, .int .i64 3] TI)
  have I1 := Lib.hid (hO10.later (alloc_b W10 (.cells #[.int .i64 2, .int .i64 3] TI))).is
  have I2 := Lib.hid (cells_is (L := [2, 3]) (heap_alloc_new W10 (.cells #[.int .i64 2, .int .i64 3] TI)) 2)
  obtain ⟨a10, k10, rfl⟩ := rows_form hO10
  clear hO10
  go_wp2_with fail
  go_at_call 31
  refine (equal_any _ _ _ _ _ I1.out I2.out (by decide) (by decide)).mono ?_
  rintro e W12 ⟨rfl, hb12⟩
  rw [eqLs_t]
  have h12 := h11.later hb12
  clear hb12 I1 I2 h11 h10
  go_wp2_with fail
  go_at_call 18
  refine (H10.out _ _ _ h12).mono ?_
  rintro e W13 ⟨rfl, h13, _⟩
  go_wp2_with fail
  go_at_call 18
  refine (H11.out _ _ _ h13).mono ?_
  rintro e W14 ⟨rfl, h14, _⟩
  go_wp2_with fail
  go_at_call 16
  refine (H12.out _ _ _ h14).mono ?_
  rintro e W15 ⟨rfl, h15, _⟩
  go_wp2_with fail
  go_at_call 20
  refine (H13.out _ _ _ h15).mono ?_
  rintro e W16 ⟨rfl, h16, _⟩
  go_wp2_with fail
  go_at_call 20
  refine (H14.out _ _ _ h16).mono ?_
  rintro e W17 ⟨rfl, h17, _⟩
  go_wp2_with fail
  go_at_call 25
  refine (H15.out _ _ _ h17).mono ?_
  rintro e W18 ⟨rfl, rfl⟩
  go_wp2_with fail
  go_at_call 26
  refine (H16.out _ _ _ h17).mono ?_
  rintro e W19 ⟨rfl, rfl⟩
  go_wp2
  go_ret
  exact ⟨rfl, h17.bel⟩
end Go.Proofs.Ytgeejkedljhcoaa.Slt
