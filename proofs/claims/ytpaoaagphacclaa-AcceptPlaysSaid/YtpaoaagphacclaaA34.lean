/- The document's acceptor: its box; New valid good Base Promised. -/
import Derived.Test.YtpaoaagphacclaaA33
namespace Go.Proofs.Ytpaoaagphacclaa.Acc
open Go.RowKit Go.Maps Go.Lib
open Bal (TB bOk ckB ordV eqB eqB_t eqB_f eq_b alloc_b)
set_option linter.unusedVariables false
set_option linter.unusedSimpArgs false
set_option maxRecDepth 20000

abbrev TRA : TypeId := 78
structure Rx (w : World) (rb : Nat) (s : St) (v : Value) : Prop where
  box : w.heap[rb]? = some (.cells #[.bool true, .int .i64 s.n, .int .i64 s.r, .int .i64 s.m, v, .int .i64 s.b] TRA (0, 0))
  row : OwE 0 s.M v w
  ok : OkS s
section
variable {w w' : World} {rb : Nat} {s : St} {v : Value}
theorem Rx.lt (h : Rx w rb s v) : rb < w.heap.size := (Array.getElem?_eq_some_iff.1 h.box).1
theorem Rx.form (h : Rx w rb s v) : ∃ a cap, v = .slice a s.M.length cap := rows_form h.row
theorem Rx.apart (h : Rx w rb s v) : ∀ k, v.ownBlock = some k → k ≠ rb := by
  rintro k hk rfl
  rcases h.row.2 with ⟨rfl, _⟩ | ⟨g, cap, cur, rfl, _, hg, _⟩
  · cases hk
  · injection hk with hk
    subst hk
    rw [h.box] at hg
    injection hg with hg
    injection hg with _ hg
    exact absurd hg (by decide)
theorem Rx.kept {F : Nat → Prop} (h : Rx w rb s v) (k : Keeps F w w') (h1 : ¬ F rb) (h2 : ∀ i, v.ownBlock = some i → ¬ F i) : Rx w' rb s v :=
  ⟨(k.block rb h.lt h1).trans h.box, rows_kept h.row fun i hi => k.block i (World.ownsRow.lt h.row i hi).2 (h2 i hi), h.ok⟩
theorem Rx.later (h : Rx w rb s v) (hb : Below w.heap.size w w') : Rx w' rb s v := h.kept (F := fun _ => False) (Keeps.of_below hb) id fun _ _ => id
theorem Rx.alloc (h : Rx w rb s v) (o : Obj) : Rx (w.alloc o) rb s v := h.later (alloc_b w o)
theorem Rx.drew (h : Rx w rb s v) : Rx w.drew rb s v := h.later (Below.refl _ _).drew
theorem Rx.cells (h : Rx w rb s v) : w.cell? ⟨rb, 0, none⟩ = some (.bool true) ∧ w.cell? ⟨rb, 1, none⟩ = some (.int .i64 s.n) ∧ w.cell? ⟨rb, 2, none⟩ = some (.int .i64 s.r) ∧ w.cell? ⟨rb, 3, none⟩ = some (.int .i64 s.m) ∧ w.cell? ⟨rb, 4, none⟩ = some v ∧ w.cell? ⟨rb, 5, none⟩ = some (.int .i64 s.b) :=
  ⟨cell_of_row w rb 0 _ TRA _ h.box, cell_of_row w rb 1 _ TRA _ h.box, cell_of_row w rb 2 _ TRA _ h.box, cell_of_row w rb 3 _ TRA _ h.box, cell_of_row w rb 4 _ TRA _ h.box, cell_of_row w rb 5 _ TRA _ h.box⟩
theorem Rx.frozen (h : Rx w rb s v) (i : Nat) : w.frozen? ⟨rb, i, none⟩ = false := frozen_of_row w rb i _ TRA h.box
end
theorem rnew_any (n : Int) (h : 1 ≤ n ∧ n ≤ 7) (w : World) :
    Calls Try.prog 15 #[.int .i64 n] w fun e w' => ∃ rb, e = .returned (.tuple #[.pointer (some ⟨rb, 0, none⟩), .int .i64 0]) ∧ Rx w' rb (newS n) (.slice none 0 0) ∧ w.heap.size ≤ rb ∧ Below w.heap.size w w' := by
  have b1 : decide (n < 1) = false := by simp; omega
  have b2 : decide (7 < n) = false := by simp; omega
  have HO := Lib.hid (ok_new h)
  clear h
  go_enter Try.func15, Try.ntmps15
  go_wp2
  go_ret2
  exact ⟨w.heap.size, rfl, ⟨heap_alloc_new _ _, OwE.nil _ _, HO.out⟩, Nat.le_refl _, alloc_b _ _⟩
theorem rnew_bad (n : Int) (h : n < 1 ∨ 7 < n) (w : World) :
    Calls Try.prog 15 #[.int .i64 n] w fun e w' => e = .returned (.tuple #[.pointer none, .int .i64 2]) ∧ w = w' := by
  rcases h with h | h
  · have b1 : decide (n < 1) = true := by simpa using h
    go_enter Try.func15, Try.ntmps15
    go_wp2
    go_ret2
    exact ⟨rfl, rfl⟩
  · have b1 : decide (n < 1) = false := by simp; omega
    have b2 : decide (7 < n) = true := by simpa using h
    clear h
    go_enter Try.func15, Try.ntmps15
    go_wp2
    go_ret2
    exact ⟨rfl, rfl⟩
theorem rvalid_any {rb : Nat} {s : St} {v : Value} (w : World) (x : Rx w rb s v) :
    Calls Try.prog 42 #[.pointer (some ⟨rb, 0, none⟩)] w fun e w' => e = .returned (.bool true) ∧ w = w' := by
  obtain ⟨c0, _⟩ := x.cells
  clear x
  go_enter Try.func42, Try.ntmps42
  go_wp2
  go_ret
  exact ⟨rfl, rfl⟩
theorem rvalid_nil (w : World) :
    Calls Try.prog 42 #[.pointer none] w fun e w' => e = .returned (.bool false) ∧ w = w' := by
  go_enter Try.func42, Try.ntmps42
  go_wp2
  go_ret
  exact ⟨rfl, rfl⟩
theorem rbase_any {rb : Nat} {s : St} {v : Value} (w : World) (x : Rx w rb s v) :
    Calls Try.prog 30 #[.pointer (some ⟨rb, 0, none⟩)] w fun e w' => e = .returned (.int .i64 s.b) ∧ w = w' := by
  have HV := Lib.hid (rvalid_any w x)
  obtain ⟨_, _, _, _, _, c5⟩ := x.cells
  clear x
  go_enter Try.func30, Try.ntmps30
  go_wp2_with (go_at_call 42; refine HV.out.mono ?_; rintro e w' ⟨rfl, rfl⟩)
  go_ret
  exact ⟨rfl, rfl⟩
theorem rbase_nil (w : World) :
    Calls Try.prog 30 #[.pointer none] w fun e w' => e = .returned (.int .i64 0) ∧ w = w' := by
  have HV := Lib.hid (rvalid_nil w)
  go_enter Try.func30, Try.ntmps30
  go_wp2_with (go_at_call 42; refine HV.out.mono ?_; rintro e w' ⟨rfl, rfl⟩)
  go_ret
  exact ⟨rfl, rfl⟩
end Go.Proofs.Ytpaoaagphacclaa.Acc
