/- The walk of StoreKeeps. -/
import Derived.Test.YtlkjenicdkfpbaaS30
namespace Go.Proofs.Ytlkjenicdkfpbaa.Sto
open Go.RowKit Go.Lib
open Cnt (Ct cA OkC quietB appC)
open Rng (tx tx_of tx_size nameOk bl)
set_option linter.unusedVariables false
set_option linter.unusedSimpArgs false
set_option maxRecDepth 20000

abbrev row11 (s : Sp) : Array Value := #[.int .i64 s.d, .string (tx s.k), .int .i64 s.c.v, .int .i64 s.c.u, .int .i64 s.c.d, .int .i64 s.c.l, .int .i64 s.c.h, .int .i64 s.p, .int .i64 s.n, .string (tx s.r.f), .string (tx s.r.t)]
/-- The step s in a box p of the call's own. -/
def Bs (W : World) (p : Nat) (s : Sp) : Prop := W.heap[p]? = some (.cells (row11 s) TP (0, 0))
theorem Bs.later {W W' : World} {p : Nat} {s : Sp} (h : Bs W p s) (hb : Below W.heap.size W W') : Bs W' p s := (hb.block p (Array.getElem?_eq_some_iff.1 h).1).trans h
theorem Bs.step {W W' : World} {p sb b : Nat} {s : Sp} {M : List En} (h : Bs W p s) (x : Sx W sb b M) (hg : W.grownBy W' (some b)) : Bs W' p s := row_kept x hg h
theorem Bs.cells {W : World} {p : Nat} {s : Sp} (h : Bs W p s) : W.cell? ⟨p, 1, none⟩ = some (.string (tx s.k)) ∧ W.cell? ⟨p, 7, none⟩ = some (.int .i64 s.p) ∧ W.cell? ⟨p, 8, none⟩ = some (.int .i64 s.n) :=
  ⟨cell_of_row W p 1 _ _ _ h, cell_of_row W p 7 _ _ _ h, cell_of_row W p 8 _ _ _ h⟩
/-- One step, in a slice of its own. -/
theorem one_st {W : World} (s : Sp) : IsSt (W.alloc (.cells (row11 s) TP)) (some ⟨W.heap.size, 0, none⟩) 1 1 (fun _ => s) := by
  have h := heap_alloc_new W (.cells (row11 s) TP)
  refine ⟨by omega, (fun e => by cases e), fun _ => ⟨W.heap.size, 0, rfl, by simp, fun i hi => ?_⟩⟩
  obtain rfl : i = 0 := by omega
  exact ⟨cell_of_row _ _ 0 _ _ _ h, cell_of_row _ _ 1 _ _ _ h, cell_of_row _ _ 2 _ _ _ h, cell_of_row _ _ 3 _ _ _ h, cell_of_row _ _ 4 _ _ _ h, cell_of_row _ _ 5 _ _ _ h, cell_of_row _ _ 6 _ _ _ h, cell_of_row _ _ 7 _ _ _ h, cell_of_row _ _ 8 _ _ _ h, cell_of_row _ _ 9 _ _ _ h, cell_of_row _ _ 10 _ _ _ h⟩
theorem short_one (s : Sp) : shortB (fun _ => s) 1 = stOk s := by
  unfold shortB
  simp [List.range_succ]
/-- Two stores of the call's own that lie apart, and a step in a box. -/
structure Kp (w W : World) (p : Nat) (s : Sp) (sb b : Nat) (M : List En) (sb' b' : Nat) (N : List En) : Prop where
  st : Sw w W sb b M
  was : Sw w W sb' b' N
  bx : Bs W p s
  ne : b ≠ b'
theorem Kp.later {w W W' : World} {p sb b sb' b' : Nat} {s : Sp} {M N : List En} (h : Kp w W p s sb b M sb' b' N) (hb : Below W.heap.size W W') : Kp w W' p s sb b M sb' b' N :=
  ⟨h.st.later hb, h.was.later hb, h.bx.later hb, h.ne⟩
theorem Kp.step {w W W' : World} {p sb b sb' b' : Nat} {s : Sp} {M M' N : List En} (h : Kp w W p s sb b M sb' b' N) (hx : Sx W' sb b M') (hg : W.grownBy W' (some b)) : Kp w W' p s sb b M' sb' b' N :=
  ⟨h.st.step hx hg, h.was.other h.st (Ne.symm h.ne) hg, h.bx.step h.st.sx hg, h.ne⟩
set_option maxHeartbeats 4000000 in
/-- Where what came in is too long, the examples alone count. -/
theorem keeps_long (a : Option Addr) (len cap : Nat) (S : Nat → Sp) (s : Sp) (w : World) (h : IsSt w a len cap S) (hl : ¬ (len ≤ 100 ∧ shortB S len = true ∧ stOk s = true)) :
    Calls Try.prog 4 #[.slice a len cap, sA s] w fun e w' => e = .returned (.bool true) ∧ Below w.heap.size w w' := by
  have hW := Lib.hid (fun W => works_any W)
  have hS := Lib.hid (short_any a len cap S _ (h.later (Cnt.alloc_b w (.cells (row11 s) TP))))
  have hb1 := Cnt.alloc_b w (.cells (row11 s) TP)
  have hT := short_any _ _ _ _ _ (one_st (W := w.alloc (.cells (row11 s) TP)) s)
  rw [short_one, World.size_alloc] at hT
  replace hT := Lib.hid hT
  have hbx : Bs (w.alloc (.cells (row11 s) TP)) w.heap.size s := heap_alloc_new w _
  have c0 := cell_of_row _ _ 0 _ _ _ hbx
  have c1 := cell_of_row _ _ 1 _ _ _ hbx
  have c2 := cell_of_row _ _ 2 _ _ _ hbx
  have c3 := cell_of_row _ _ 3 _ _ _ hbx
  have c4 := cell_of_row _ _ 4 _ _ _ hbx
  have c5 := cell_of_row _ _ 5 _ _ _ hbx
  have c6 := cell_of_row _ _ 6 _ _ _ hbx
  have c7 := cell_of_row _ _ 7 _ _ _ hbx
  have c8 := cell_of_row _ _ 8 _ _ _ hbx
  have c9 := cell_of_row _ _ 9 _ _ _ hbx
  have c10 := cell_of_row _ _ 10 _ _ _ hbx
  generalize shortB S len = y1 at *
  generalize stOk s = y2 at *
  obtain ⟨sd, sk, ⟨v, u, d, l, g⟩, sp, sn, ⟨rf, rt⟩⟩ := s
  clear hbx h
  dsimp only [row11, sA] at *
  generalize tx sk = s1 at *
  generalize tx rf = s2 at *
  generalize tx rt = s3 at *
  by_cases h1 : len ≤ 100
  · have hd : decide (100 < (len : Int)) = false := by simp; omega
    cases y1 with
    | false =>
      clear hl h1
      go_enter Try.func4, Try.ntmps4
      go_wp2_with (first
        | (go_at_call 10; refine hS.out.mono ?_; rintro e w' ⟨rfl, rfl⟩)
        | (go_at_call 11; refine (hW.out _).mono ?_; rintro e w2 ⟨rfl, hb2⟩))
      go_ret
      exact ⟨rfl, hb1.trans (hb2.mono hb1.size)⟩
    | true =>
      obtain rfl : y2 = false := by simpa [h1] using hl
      clear hl h1
      go_enter Try.func4, Try.ntmps4
      go_wp2_with fail
      refine hS.out.mono ?_
      rintro e w' ⟨rfl, rfl⟩
      go_wp2_with fail
      refine hT.out.mono ?_
      rintro e w' ⟨rfl, rfl⟩
      go_wp2_with fail
      refine (hW.out _).mono ?_
      rintro e w2 ⟨rfl, hb2⟩
      go_wp2_with fail
      go_ret
      have hb3 := hb1.alloc hb1.size (.cells #[.int .i64 sd, .string s1, .int .i64 v, .int .i64 u, .int .i64 d, .int .i64 l, .int .i64 g, .int .i64 sp, .int .i64 sn, .string s2, .string s3] TP)
      exact ⟨rfl, hb3.trans (hb2.mono hb3.size)⟩
  · have hd : decide (100 < (len : Int)) = true := by simp; omega
    clear hl h1
    go_enter Try.func4, Try.ntmps4
    go_wp2_with (go_at_call 11; refine (hW.out _).mono ?_; rintro e w2 ⟨rfl, hb2⟩)
    go_ret
    exact ⟨rfl, hb1.trans (hb2.mono hb1.size)⟩
end Go.Proofs.Ytlkjenicdkfpbaa.Sto
