/- Allowed numbers; least, mirror; Check, of the program and of the document. -/
import Derived.Test.YtiahjacjpakkdaaRows
import Derived.WalkKit
import Derived.WalkSpells
import Derived.WalkLawsBesides
import Derived.Handy
import Derived.Lib.Hide
import Derived.Below
import Derived.BigQuiet
import Derived.LoopN
import Derived.WalkSmall
import Derived.Deep.RegionHeld3
import Derived.ChangeKeysEq
namespace Go.Proofs.Ytiahjacjpakkdaa.Cnt
open Go.RowKit
set_option linter.unusedVariables false
set_option linter.unusedSimpArgs false
set_option maxRecDepth 20000

/-- A number that is allowed. -/
def Ok (a : Int) : Prop := -1152921504606846976 ≤ a ∧ a ≤ 1152921504606846976
instance (a : Int) : Decidable (Ok a) := by unfold Ok; exact inferInstance
def okB (a : Int) : Bool := decide (Ok a)
theorem okB_t {a : Int} (h : Ok a) : okB a = true := decide_eq_true h
theorem okB_f {a : Int} (h : ¬ Ok a) : okB a = false := decide_eq_false h
/-- A counter. -/
structure Ct where
  v : Int
  u : Int
  d : Int
  l : Int
  h : Int
deriving DecidableEq
def zero : Ct := ⟨0, 0, 0, 0, 0⟩
abbrev TC : TypeId := 23
abbrev cA (v u d l h : Int) : Value := .agg #[.int .i64 v, .int .i64 u, .int .i64 d, .int .i64 l, .int .i64 h]
abbrev cRow (v u d l h : Int) : Obj := .cells #[.int .i64 v, .int .i64 u, .int .i64 d, .int .i64 l, .int .i64 h] TC
/-- A counter that is valid. -/
def OkC (c : Ct) : Prop := Ok c.v ∧ Ok c.u ∧ Ok c.d ∧ Ok c.l ∧ Ok c.h ∧ 0 ≤ c.u ∧ 0 ≤ c.d ∧ c.l ≤ c.v - c.u ∧ c.v + c.d ≤ c.h
instance (c : Ct) : Decidable (OkC c) := by unfold OkC; exact inferInstance
def okC (c : Ct) : Bool := decide (OkC c)
theorem alloc_b (w : World) (o : Obj) : Below w.heap.size w (w.alloc o) := (Below.refl _ _).alloc (Nat.le_refl _) _
theorem i64w {n : Int} (h : -9223372036854775808 ≤ n) (h2 : n ≤ 9223372036854775807) : IntKind.i64.wrap n = n := IntWalk.i64_in _ (by omega)

/-- A box with a counter, and what was there ahead of it. -/
structure Cx (w : World) (q : Nat) (v u d l h : Int) (w' : World) : Prop where
  blk : w'.heap[q]? = some (cRow v u d l h)
  bel : Below w.heap.size w w'
theorem Cx.lt {w w' : World} {q : Nat} {v u d l h : Int} (x : Cx w q v u d l h w') : q < w'.heap.size := (Array.getElem?_eq_some_iff.1 x.blk).1
theorem Cx.later {w w' w2 : World} {q : Nat} {v u d l h : Int} (x : Cx w q v u d l h w') (hb : Below w'.heap.size w' w2) : Cx w q v u d l h w2 :=
  ⟨(hb.block q x.lt).trans x.blk, x.bel.trans (hb.mono x.bel.size)⟩
theorem Cx.alloc {w w' : World} {q : Nat} {v u d l h : Int} (x : Cx w q v u d l h w') (o : Obj) : Cx w q v u d l h (w'.alloc o) := x.later (alloc_b _ _)
theorem Cx.cells {w w' : World} {q : Nat} {v u d l h : Int} (x : Cx w q v u d l h w') :
    w'.cell? ⟨q, 0, none⟩ = some (.int .i64 v) ∧ w'.cell? ⟨q, 1, none⟩ = some (.int .i64 u) ∧ w'.cell? ⟨q, 2, none⟩ = some (.int .i64 d) ∧ w'.cell? ⟨q, 3, none⟩ = some (.int .i64 l) ∧ w'.cell? ⟨q, 4, none⟩ = some (.int .i64 h) :=
  ⟨cell_of_row w' q 0 _ TC _ x.blk, cell_of_row w' q 1 _ TC _ x.blk, cell_of_row w' q 2 _ TC _ x.blk, cell_of_row w' q 3 _ TC _ x.blk, cell_of_row w' q 4 _ TC _ x.blk⟩
theorem cx_new (w : World) (v u d l h : Int) : Cx w w.heap.size v u d l h (w.alloc (cRow v u d l h)) := ⟨heap_alloc_new _ _, alloc_b _ _⟩

theorem within_yes (a l h : Int) (w : World) (h1 : l ≤ a) (h2 : a ≤ h) :
    Calls Try.prog 60 #[.int .i64 a, .int .i64 l, .int .i64 h] w fun e w' => e = .returned (.bool true) ∧ w = w' := by
  go_enter Try.func60, Try.ntmps60
  go_wp2
  go_ret
  exact ⟨by simp, rfl⟩
theorem within_no (a l h : Int) (w : World) (h1 : ¬ (l ≤ a ∧ a ≤ h)) :
    Calls Try.prog 60 #[.int .i64 a, .int .i64 l, .int .i64 h] w fun e w' => e = .returned (.bool false) ∧ w = w' := by
  by_cases g : l ≤ a
  · have g2 : h < a := by omega
    clear h1
    go_enter Try.func60, Try.ntmps60
    go_wp2
    go_ret
    exact ⟨by simp; omega, rfl⟩
  · clear h1
    go_enter Try.func60, Try.ntmps60
    go_wp2
    go_ret
    exact ⟨by simp, rfl⟩
theorem numCheck_ok (a : Int) (w : World) (h : Ok a) :
    Calls Try.prog 44 #[.int .i64 a] w fun e w' => e = .returned (.int .i64 0) ∧ w = w' := by
  unfold Ok at h
  go_enter Try.func44, Try.ntmps44
  go_wp2_with (go_at_call 60; refine (within_yes _ _ _ _ h.1 h.2).mono ?_; rintro e w' ⟨rfl, rfl⟩)
  go_ret
  exact ⟨rfl, rfl⟩
theorem numCheck_no (a : Int) (w : World) (h : ¬ Ok a) :
    Calls Try.prog 44 #[.int .i64 a] w fun e w' => e = .returned (.int .i64 7) ∧ w = w' := by
  unfold Ok at h
  go_enter Try.func44, Try.ntmps44
  go_wp2_with (go_at_call 60; refine (within_no _ _ _ _ h).mono ?_; rintro e w' ⟨rfl, rfl⟩)
  go_ret
  exact ⟨rfl, rfl⟩
theorem numCheck_any (a : Int) (w : World) :
    Calls Try.prog 44 #[.int .i64 a] w fun e w' => e = .returned (.int .i64 (if okB a then 0 else 7)) ∧ w = w' := by
  by_cases h : Ok a
  · rw [okB_t h]; exact numCheck_ok a w h
  · rw [okB_f h]; exact numCheck_no a w h
theorem least_any (v u d l h : Int) (w : World) (h1 : IntKind.i64.wrap (v - u) = v - u) (h2 : IntKind.i64.wrap (v + d) = v + d) :
    Calls Try.prog 45 #[cA v u d l h] w fun e w' => e = .returned (.tuple #[.int .i64 (v - u), .int .i64 (v + d)]) ∧ Below w.heap.size w w' := by
  go_enter Try.func45, Try.ntmps45
  go_wp2
  go_quiet (fail)
  go_wp2
  go_ret2
  exact ⟨rfl, below_drewN (alloc_b _ _) _⟩
theorem mirror_any (v u d l h : Int) (w : World) (h1 : IntKind.i64.wrap (-v) = -v) (h2 : IntKind.i64.wrap (-l) = -l) (h3 : IntKind.i64.wrap (-h) = -h) :
    Calls Try.prog 68 #[cA v u d l h] w fun e w' => e = .returned (cA (-v) d u (-h) (-l)) ∧ Below w.heap.size w w' := by
  go_enter Try.func68, Try.ntmps68
  go_wp2
  refine bodyPost_ret (v := cA (-v) d u (-h) (-l)) (by simp [results, Try.results68, go_sem]) rfl ⟨rfl, ?_⟩
  exact (alloc_b _ _).alloc (by simp) _

theorem five_at (a b c d e x : Int) (k : Nat) (q : Int) (w : World) (hx : [a, b, c, d, e][k]? = some x) (hq : (k : Int) = q) :
    (Instr.index 81 (.agg #[.int .i64 a, .int .i64 b, .int .i64 c, .int .i64 d, .int .i64 e]) (.int .i64 q)).run Try.prog w = .ok (.int .i64 x) w := by
  subst hq
  match k, hx with
  | 0, hx => cases hx; simp [Instr.index, asIntOf, run_underlying Try.underlying81, run_underlying Try.underlying2, go_sem, part, isAgg]
  | 1, hx => cases hx; simp [Instr.index, asIntOf, run_underlying Try.underlying81, run_underlying Try.underlying2, go_sem, part, isAgg]
  | 2, hx => cases hx; simp [Instr.index, asIntOf, run_underlying Try.underlying81, run_underlying Try.underlying2, go_sem, part, isAgg]
  | 3, hx => cases hx; simp [Instr.index, asIntOf, run_underlying Try.underlying81, run_underlying Try.underlying2, go_sem, part, isAgg]
  | 4, hx => cases hx; simp [Instr.index, asIntOf, run_underlying Try.underlying81, run_underlying Try.underlying2, go_sem, part, isAgg]
  | n + 5, hx => simp at hx
def ckE (c : Ct) : Int := if okC c then 0 else 2
theorem ckE_t {c : Ct} (h : OkC c) : ckE c = 0 := by unfold ckE okC; rw [if_pos (decide_eq_true h)]
theorem ckE_f {c : Ct} (h : ¬ OkC c) : ckE c = 2 := by unfold ckE okC; rw [if_neg (by simpa using h)]
theorem check_ok (v u d l h : Int) (w : World) (h1 : Ok v) (h2 : Ok u) (h3 : Ok d) (h4 : Ok l) (h5 : Ok h) :
    Calls Try.prog 26 #[cA v u d l h] w fun e w' => e = .returned (.int .i64 (ckE ⟨v, u, d, l, h⟩)) ∧ Below w.heap.size w w' := by
  have e1 := Lib.hid (okB_t h1)
  have e2 := Lib.hid (okB_t h2)
  have e3 := Lib.hid (okB_t h3)
  have e4 := Lib.hid (okB_t h4)
  have e5 := Lib.hid (okB_t h5)
  have hy : ∀ a, okB a = true → ∀ W, Calls Try.prog 44 #[.int .i64 a] W fun e w' => e = .returned (.int .i64 0) ∧ W = w' := fun a ha W => by
    have := numCheck_any a W
    rwa [ha] at this
  have hk : ckE ⟨v, u, d, l, h⟩ = if 0 ≤ u ∧ 0 ≤ d ∧ l ≤ v - u ∧ v + d ≤ h then 0 else 2 := by
    unfold ckE okC OkC
    simp [h1, h2, h3, h4, h5]
  have b1 : IntKind.i64.wrap (v - u) = v - u := by unfold Ok at *; exact i64w (by omega) (by omega)
  have b2 : IntKind.i64.wrap (v + d) = v + d := by unfold Ok at *; exact i64w (by omega) (by omega)
  replace hk := Lib.hid hk
  clear h1 h2 h3 h4 h5
  generalize ckE ⟨v, u, d, l, h⟩ = r at *
  replace hy := Lib.hid hy
  replace b1 := Lib.hid b1
  replace b2 := Lib.hid b2
  have f0 : ∀ W : World, _ := fun W => five_at v u d l h v 0 0 W rfl rfl
  have f1 : ∀ W : World, _ := fun W => five_at v u d l h u 1 1 W rfl rfl
  have f2 : ∀ W : World, _ := fun W => five_at v u d l h d 2 2 W rfl rfl
  have f3 : ∀ W : World, _ := fun W => five_at v u d l h l 3 3 W rfl rfl
  have f4 : ∀ W : World, _ := fun W => five_at v u d l h h 4 4 W rfl rfl
  go_enter Try.func26, Try.ntmps26
  go_wp2
  refine wp_loop_rounds 6 ?_
  rw [rounds_succ]
  go_wp2_with (go_at_call 44; refine (hy.out v e1.out _).mono ?_; rintro e w' ⟨rfl, rfl⟩)
  rw [rounds_succ]
  go_wp2_with (go_at_call 44; refine (hy.out u e2.out _).mono ?_; rintro e w' ⟨rfl, rfl⟩)
  rw [rounds_succ]
  go_wp2_with (go_at_call 44; refine (hy.out d e3.out _).mono ?_; rintro e w' ⟨rfl, rfl⟩)
  rw [rounds_succ]
  go_wp2_with (go_at_call 44; refine (hy.out l e4.out _).mono ?_; rintro e w' ⟨rfl, rfl⟩)
  rw [rounds_succ]
  go_wp2_with (go_at_call 44; refine (hy.out h e5.out _).mono ?_; rintro e w' ⟨rfl, rfl⟩)
  rw [rounds_succ]
  have hx := cx_new w v u d l h
  go_wp2_with (go_at_call 45; refine (least_any v u d l h _ b1.out b2.out).mono ?_; rintro e w1 ⟨rfl, hb1⟩; have hx1 := hx.later hb1; obtain ⟨c0, c1, c2, c3, c4⟩ := hx1.cells)
  all_goals
    go_ret
    refine ⟨?_, hx1.bel⟩
    rw [hk.out]
    first
      | (rw [if_pos (by omega)]; rfl)
      | (rw [if_neg (by omega)]; rfl)
theorem check_bad (v u d l h : Int) (w : World) (hn : ¬ (Ok v ∧ Ok u ∧ Ok d ∧ Ok l ∧ Ok h)) :
    Calls Try.prog 26 #[cA v u d l h] w fun e w' => e = .returned (.int .i64 2) ∧ Below w.heap.size w w' := by
  have hy : ∀ a W, Calls Try.prog 44 #[.int .i64 a] W fun e w' => e = .returned (.int .i64 (if okB a then 0 else 7)) ∧ W = w' := fun a W => numCheck_any a W
  have hcase : okB v = false ∨ (okB v = true ∧ okB u = false) ∨ (okB v = true ∧ okB u = true ∧ okB d = false) ∨ (okB v = true ∧ okB u = true ∧ okB d = true ∧ okB l = false) ∨ (okB v = true ∧ okB u = true ∧ okB d = true ∧ okB l = true ∧ okB h = false) := by
    simp only [okB, decide_eq_true_eq, decide_eq_false_iff_not]
    by_cases h1 : Ok v <;> by_cases h2 : Ok u <;> by_cases h3 : Ok d <;> by_cases h4 : Ok l <;> by_cases h5 : Ok h <;> simp_all
  clear hn
  have f0 : ∀ W : World, _ := fun W => five_at v u d l h v 0 0 W rfl rfl
  have f1 : ∀ W : World, _ := fun W => five_at v u d l h u 1 1 W rfl rfl
  have f2 : ∀ W : World, _ := fun W => five_at v u d l h d 2 2 W rfl rfl
  have f3 : ∀ W : World, _ := fun W => five_at v u d l h l 3 3 W rfl rfl
  have f4 : ∀ W : World, _ := fun W => five_at v u d l h h 4 4 W rfl rfl
  have hy0 := fun W => hy v W
  have hy1 := fun W => hy u W
  have hy2 := fun W => hy d W
  have hy3 := fun W => hy l W
  have hy4 := fun W => hy h W
  clear hy
  replace hy0 := Lib.hid hy0
  replace hy1 := Lib.hid hy1
  replace hy2 := Lib.hid hy2
  replace hy3 := Lib.hid hy3
  replace hy4 := Lib.hid hy4
  have hb := alloc_b w (cRow v u d l h)
  generalize okB v = q0 at *
  generalize okB u = q1 at *
  generalize okB d = q2 at *
  generalize okB l = q3 at *
  generalize okB h = q4 at *
  rcases hcase with rfl | ⟨rfl, rfl⟩ | ⟨rfl, rfl, rfl⟩ | ⟨rfl, rfl, rfl, rfl⟩ | ⟨rfl, rfl, rfl, rfl, rfl⟩
  all_goals
    go_enter Try.func26, Try.ntmps26
    go_wp2
    refine wp_loop_rounds 6 ?_
    rw [rounds_succ]
    go_wp2_with (go_at_call 44; refine (hy0.out _).mono ?_; rintro e w' ⟨rfl, rfl⟩)
    try
      rw [rounds_succ]
      go_wp2_with (go_at_call 44; refine (hy1.out _).mono ?_; rintro e w' ⟨rfl, rfl⟩)
    try
      rw [rounds_succ]
      go_wp2_with (go_at_call 44; refine (hy2.out _).mono ?_; rintro e w' ⟨rfl, rfl⟩)
    try
      rw [rounds_succ]
      go_wp2_with (go_at_call 44; refine (hy3.out _).mono ?_; rintro e w' ⟨rfl, rfl⟩)
    try
      rw [rounds_succ]
      go_wp2_with (go_at_call 44; refine (hy4.out _).mono ?_; rintro e w' ⟨rfl, rfl⟩)
    go_ret
    exact ⟨rfl, hb⟩
theorem check_any (v u d l h : Int) (w : World) :
    Calls Try.prog 26 #[cA v u d l h] w fun e w' => e = .returned (.int .i64 (ckE ⟨v, u, d, l, h⟩)) ∧ Below w.heap.size w w' := by
  by_cases hn : Ok v ∧ Ok u ∧ Ok d ∧ Ok l ∧ Ok h
  · exact check_ok v u d l h w hn.1 hn.2.1 hn.2.2.1 hn.2.2.2.1 hn.2.2.2.2
  · rw [ckE_f (fun hc => hn ⟨hc.1, hc.2.1, hc.2.2.1, hc.2.2.2.1, hc.2.2.2.2.1⟩)]
    exact check_bad v u d l h w hn
end Go.Proofs.Ytiahjacjpakkdaa.Cnt
