/- An acceptor of the call's own, with all its calls; works. -/
import Derived.Test.YtpaoaagphacclaaA08
namespace Go.Proofs.Ytpaoaagphacclaa.Acc
open Go.RowKit Go.Maps Go.Lib
open Bal (TB bOk ckB ordV alloc_b)
set_option linter.unusedVariables false
set_option linter.unusedSimpArgs false
set_option maxRecDepth 20000

/-- An acceptor that was made since the world w. -/
structure WAt (w : World) (sb mb : Nat) (s : St) (W : World) : Prop where
  ax : Ax W sb mb s
  bel : Below w.heap.size w W
  hs : w.heap.size ≤ sb
  hm : w.heap.size ≤ mb
theorem WAt.later {w W W' : World} {sb mb : Nat} {s : St} (h : WAt w sb mb s W) (hb : Below W.heap.size W W') : WAt w sb mb s W' := ⟨h.ax.later hb, h.bel.trans (hb.mono h.bel.size), h.hs, h.hm⟩
theorem WAt.drew {w W : World} {sb mb : Nat} {s : St} (h : WAt w sb mb s W) : WAt w sb mb s W.drew := h.later (Below.refl _ _).drew
theorem WAt.drewN {w W : World} {sb mb : Nat} {s : St} (h : WAt w sb mb s W) (n : Nat) : WAt w sb mb s (W.drewN n) := h.later (below_drewN (Below.refl _ _) n)
theorem WAt.alloc {w W : World} {sb mb : Nat} {s : St} (h : WAt w sb mb s W) (o : Obj) : WAt w sb mb s (W.alloc o) := h.later (alloc_b _ _)
theorem WAt.step {w W W' : World} {sb mb : Nat} {s s' : St} (h : WAt w sb mb s W) (hA : Ax W' sb mb s') (hk : Keeps (fun k => k = sb ∨ k = mb) W W') : WAt w sb mb s' W' :=
  ⟨hA, h.bel.trans (hk.below h.bel.size fun k hk => by have := h.hs; have := h.hm; omega), h.hs, h.hm⟩
/-- A row is none of the acceptor's blocks. -/
theorem OwE.apart {base : Nat} {L : List Et} {v : Value} {W W' : World} {sb mb : Nat} {s : St} (h : OwE base L v W) (x : Ax W sb mb s) (hk : Keeps (fun k => k = sb ∨ k = mb) W W') : OwE base L v W' :=
  rows_kept h fun k e => by
    refine hk.block k (World.ownsRow.lt h k e).2 fun hf => ?_
    rcases h.2 with ⟨rfl, _⟩ | ⟨g, cap, cur, rfl, _, hg, _⟩
    · cases e
    · injection e with e
      subst e
      rcases hf with rfl | rfl
      · rw [x.box] at hg
        injection hg with hg
        injection hg with _ hg
        exact absurd hg (by decide)
      · obtain ⟨es, clock, hb, _⟩ := x.own
        rw [hb] at hg
        cases hg
theorem new_w (n : Int) (h : 1 ≤ n ∧ n ≤ 7) (w W : World) (hW : Below w.heap.size w W) :
    Calls Try.prog 14 #[.int .i64 n] W fun e W' => ∃ sb mb, e = .returned (.tuple #[.pointer (some ⟨sb, 0, none⟩), .int .i64 0]) ∧ WAt w sb mb (newS n) W' ∧ Below W.heap.size W W' ∧ W.heap.size ≤ sb ∧ W.heap.size ≤ mb :=
  (new_any n h W).mono fun e W' ⟨sb, mb, he, hA, h1, h2, hb⟩ => ⟨sb, mb, he, ⟨hA, hW.trans (hb.mono hW.size), Nat.le_trans hW.size h1, Nat.le_trans hW.size h2⟩, hb, h1, h2⟩
theorem WAt.promise {w W : World} {sb mb : Nat} {s : St} (h : WAt w sb mb s W) (x y f : Int) {c : Int} {s' : St} {L : List Et} (h1 : proE s x y f = c) (h2 : proS s x y f = s') (h3 : proL s x y f = L) :
    Calls Try.prog 16 #[.pointer (some ⟨sb, 0, none⟩), .agg #[.int .i64 x, .int .i64 y], .int .i64 f] W fun e W' =>
      ∃ v, e = .returned (.tuple #[v, .int .i64 c]) ∧ OwE W.heap.size L v W' ∧ WAt w sb mb s' W' ∧ Keeps (fun k => k = sb ∨ k = mb) W W' := by
  subst h1 h2 h3
  exact (promise_any x y f W h.ax).mono fun e W' ⟨v, he, hO, hA, hK⟩ => ⟨v, he, hO, h.step hA (hK.wide fun k h => .inl h), hK.wide fun k h => .inl h⟩
theorem WAt.accept {w W : World} {sb mb : Nat} {s : St} (h : WAt w sb mb s W) (x y k : Int) (v : ByteArray) {c : Int} {s' : St} (h1 : accE s x y k v = c) (h2 : accS s x y k v = s') :
    Calls Try.prog 19 #[.pointer (some ⟨sb, 0, none⟩), .agg #[.int .i64 x, .int .i64 y], .int .i64 k, .string v] W fun e W' =>
      e = .returned (.int .i64 c) ∧ WAt w sb mb s' W' ∧ Keeps (fun k => k = sb ∨ k = mb) W W' := by
  subst h1 h2
  exact (accept_any x y k v W h.ax).mono fun e W' ⟨he, hA, hK⟩ => ⟨he, h.step hA hK, hK⟩
theorem WAt.forget {w W : World} {sb mb : Nat} {s : St} (h : WAt w sb mb s W) (u : Int) {c : Int} {s' : St} (h1 : forE u = c) (h2 : forS s u = s') :
    Calls Try.prog 21 #[.pointer (some ⟨sb, 0, none⟩), .int .i64 u] W fun e W' =>
      e = .returned (.int .i64 c) ∧ WAt w sb mb s' W' ∧ Keeps (fun k => k = sb ∨ k = mb) W W' := by
  subst h1 h2
  exact (forget_any u W h.ax).mono fun e W' ⟨he, hA, hK⟩ => ⟨he, h.step hA hK, hK⟩
theorem WAt.accepted {w W : World} {sb mb : Nat} {s : St} (h : WAt w sb mb s W) (k : Int) (hk : (Lit.int .i64 k).wf = true) {r : Option Et} (hr : getM s.M k = r) :
    Calls Try.prog 25 #[.pointer (some ⟨sb, 0, none⟩), .int .i64 k] W fun e W' =>
      e = .returned (.tuple #[vE (gE r), .bool r.isSome]) ∧ WAt w sb mb s W' ∧ Below W.heap.size W W' :=
  (accepted_any k W h.ax hk r hr).mono fun e W' ⟨he, hb⟩ => ⟨he, h.later hb, hb⟩
theorem WAt.promised {w W : World} {sb mb : Nat} {s : St} (h : WAt w sb mb s W) :
    Calls Try.prog 27 #[.pointer (some ⟨sb, 0, none⟩)] W fun e W' =>
      e = .returned (.agg #[.int .i64 s.r, .int .i64 s.m]) ∧ WAt w sb mb s W' ∧ Below W.heap.size W W' :=
  (promised_any W h.ax).mono fun e W' ⟨he, hb⟩ => ⟨he, h.later hb, hb⟩
theorem WAt.list {w W : World} {sb mb : Nat} {s : St} (h : WAt w sb mb s W) (q : Int) {L : List Et} (hL : frM s.M q = L) :
    Calls Try.prog 31 #[.pointer (some ⟨sb, 0, none⟩), .int .i64 q] W fun e W' =>
      ∃ v, e = .returned v ∧ OwE W.heap.size L v W' ∧ WAt w sb mb s W' ∧ Below W.heap.size W W' := by
  subst hL
  exact (list_any q W h.ax).mono fun e W' ⟨v, he, hO, hb⟩ => ⟨v, he, hO, h.later hb, hb⟩
theorem WAt.base {w W : World} {sb mb : Nat} {s : St} (h : WAt w sb mb s W) :
    Calls Try.prog 29 #[.pointer (some ⟨sb, 0, none⟩)] W fun e W' => e = .returned (.int .i64 s.b) ∧ W = W' := base_any W h.ax

/-! works. -/
abbrev bx : ByteArray := ⟨#[120]⟩
abbrev by' : ByteArray := ⟨#[121]⟩
def s1 : St := ⟨3, 2, 1, 0, []⟩
def s2 : St := ⟨3, 2, 1, 0, [⟨0, 2, 1, bx⟩]⟩
def s3 : St := ⟨3, 3, 0, 0, [⟨0, 2, 1, bx⟩, ⟨2, 3, 0, by'⟩]⟩
theorem ex1 : proE (newS 3) 2 1 0 = 0 ∧ proS (newS 3) 2 1 0 = s1 ∧ proL (newS 3) 2 1 0 = [] := by
  have h : proE (newS 3) 2 1 0 = 0 := by decide +kernel
  exact ⟨h, by unfold proS; rw [if_pos h]; rfl, by unfold proL; rw [if_pos h]; rfl⟩
theorem ex2 : accE s1 1 2 0 bx = 8 ∧ accS s1 1 2 0 bx = s1 := by
  have h : accE s1 1 2 0 bx = 8 := by decide +kernel
  exact ⟨h, by unfold accS; rw [if_neg (by rw [h]; decide)]⟩
theorem ex3 : accE s1 2 1 0 bx = 0 ∧ accS s1 2 1 0 bx = s2 := by
  have h : accE s1 2 1 0 bx = 0 := by decide +kernel
  exact ⟨h, by unfold accS; rw [if_pos h]; rfl⟩
theorem ex4 : accE s2 3 0 2 by' = 0 ∧ accS s2 3 0 2 by' = s3 := by
  have h : accE s2 3 0 2 by' = 0 := by decide +kernel
  exact ⟨h, by unfold accS; rw [if_pos h]; rfl⟩
theorem ex5 : proE s3 3 0 1 = 0 ∧ proS s3 3 0 1 = s3 ∧ proL s3 3 0 1 = [⟨2, 3, 0, by'⟩] := by
  have h : proE s3 3 0 1 = 0 := by decide +kernel
  exact ⟨h, by unfold proS; rw [if_pos h]; rfl, by unfold proL; rw [if_pos h]; rfl⟩
theorem ex6 : getM s3.M 0 = some ⟨0, 2, 1, bx⟩ := rfl
def Yes (w : World) (e : Ending) (w' : World) : Prop := e = .returned (.bool true) ∧ Below w.heap.size w w'
set_option maxHeartbeats 2000000 in
theorem works_any (w : World) : Calls Try.prog 13 #[] w (Yes w) := by
  have HN := Lib.hid (new_w 3 (by omega) w w (Below.refl _ _))
  have H1 := Lib.hid (fun W sb mb (h : WAt w sb mb (newS 3) W) => h.promise 2 1 0 ex1.1 ex1.2.1 ex1.2.2)
  have H2 := Lib.hid (fun W sb mb (h : WAt w sb mb s1 W) => h.accept 1 2 0 bx ex2.1 ex2.2)
  have H3 := Lib.hid (fun W sb mb (h : WAt w sb mb s1 W) => h.accept 2 1 0 bx ex3.1 ex3.2)
  have H4 := Lib.hid (fun W sb mb (h : WAt w sb mb s2 W) => h.accept 3 0 2 by' ex4.1 ex4.2)
  have H5 := Lib.hid (fun W sb mb (h : WAt w sb mb s3 W) => h.promise 3 0 1 ex5.1 ex5.2.1 ex5.2.2)
  have H6 := Lib.hid (fun W sb mb (h : WAt w sb mb s3 W) => h.accepted 0 (by decide) ex6)
  have H7 := Lib.hid (fun W sb mb (h : WAt w sb mb s3 W) => h.promised)
  have hq := fun W => (eq_e ⟨0, 2, 1, bx⟩ ⟨0, 2, 1, bx⟩ W).trans (by rw [eqE_t])
  have hq2 := fun W => (Bal.eq_b 3 0 3 0 W).trans (by rw [Bal.eqB_t ⟨rfl, rfl⟩])
  go_enter Try.func13, Try.ntmps13
  go_wp2_with fail
  go_at_call 14
  refine HN.out.mono ?_
  rintro e W1 ⟨sb, mb, rfl, h1, _⟩
  go_wp2_with fail
  go_at_call 16
  refine (H1.out _ _ _ h1).mono ?_
  rintro e W2 ⟨v2, rfl, hO2, h2, _⟩
  obtain ⟨a2, c2, rfl⟩ := rows_form hO2
  rw [show ([] : List Et).length = 0 from rfl]
  clear hO2
  go_wp2_with fail
  go_at_call 19
  refine (H2.out _ _ _ h2).mono ?_
  rintro e W3 ⟨rfl, h3, _⟩
  go_wp2_with fail
  go_at_call 19
  refine (H3.out _ _ _ h3).mono ?_
  rintro e W4 ⟨rfl, h4, _⟩
  go_wp2_with fail
  go_at_call 19
  refine (H4.out _ _ _ h4).mono ?_
  rintro e W5 ⟨rfl, h5, _⟩
  go_wp2_with fail
  go_at_call 16
  refine (H5.out _ _ _ h5).mono ?_
  rintro e W6 ⟨v6, rfl, hO6, h6, _⟩
  go_wp2_with fail
  go_at_call 25
  refine (H6.out _ _ _ h6).mono ?_
  rintro e W7 ⟨rfl, h7, hb7⟩
  have hO7 := hO6.later hb7
  clear hO6 hb7
  have h8 := (h7.alloc (.cells #[.int .i64 0, .int .i64 2, .int .i64 1, .string bx] TE)).alloc (.cells #[.int .i64 2, .int .i64 3, .int .i64 0, .string by'] TE)
  have b1 := alloc_b W7 (.cells #[.int .i64 0, .int .i64 2, .int .i64 1, .string bx] TE)
  have b2 := b1.alloc b1.size (.cells #[.int .i64 2, .int .i64 3, .int .i64 0, .string by'] TE)
  have hI1 := Lib.hid (hO7.is.later b2)
  have hl2 := heap_alloc_new (W7.alloc (.cells #[.int .i64 0, .int .i64 2, .int .i64 1, .string bx] TE)) (.cells #[.int .i64 2, .int .i64 3, .int .i64 0, .string by'] TE)
  have hl1 := (Below.heap_alloc (W7.alloc (.cells #[.int .i64 0, .int .i64 2, .int .i64 1, .string bx] TE)) (.cells #[.int .i64 2, .int .i64 3, .int .i64 0, .string by'] TE) W7.heap.size (by rw [World.size_alloc]; omega)).trans (heap_alloc_new W7 (.cells #[.int .i64 0, .int .i64 2, .int .i64 1, .string bx] TE))
  rw [World.size_alloc] at hl2
  have hI2 := Lib.hid (is_one (e := ⟨2, 3, 0, by'⟩) hl2 1)
  clear b1 b2 hl2 hO7
  go_wp2_with fail
  generalize (W7.alloc (.cells #[.int .i64 0, .int .i64 2, .int .i64 1, .string bx] TE)).alloc (.cells #[.int .i64 2, .int .i64 3, .int .i64 0, .string by'] TE) = W8 at *
  go_at_call 18
  refine (same_any _ _ _ _ W8 hI1.out hI2.out (by decide) (by decide)).mono ?_
  rintro e W9 ⟨rfl, hb9⟩
  rw [eqLs_t]
  have h9 := h8.later hb9
  have hx := (hb9.block _ (Array.getElem?_eq_some_iff.1 hl1).1).trans hl1
  have d0 := cell_of_row _ _ 0 _ TE _ hx
  have d1 := cell_of_row _ _ 1 _ TE _ hx
  have d2 := cell_of_row _ _ 2 _ TE _ hx
  have d3 := cell_of_row _ _ 3 _ TE _ hx
  clear hb9 h8 hl1 hx
  go_wp2_with fail
  go_at_call 27
  refine (H7.out _ _ _ h9).mono ?_
  rintro e W10 ⟨rfl, h10, _⟩
  go_wp2
  go_ret
  exact ⟨rfl, h10.bel⟩
end Go.Proofs.Ytpaoaagphacclaa.Acc
