/- The examples (works); a counter of parts (Made); size. -/
import Derived.Test.YtodgnhkaglcjnaaQ06
namespace Go.Proofs.Ytodgnhkaglcjnaa.Cnt
open Go.RowKit
set_option linter.unusedVariables false
set_option linter.unusedSimpArgs false
set_option maxRecDepth 20000

theorem Cx.new {w w' : World} (hb : Below w.heap.size w w') (v u d l h : Int) : Cx w w'.heap.size v u d l h (w'.alloc (cRow v u d l h)) := ⟨heap_alloc_new _ _, hb.trans ((alloc_b _ _).mono hb.size)⟩
abbrev P2 (v u d l h e : Int) : Value := .tuple #[cA v u d l h, .int .i64 e]
theorem do_is {v u d l g n v' u' d' l' g' e : Int} (h : chC addC ⟨v, u, d, l, g⟩ n = (⟨v', u', d', l', g'⟩, e)) (W : World) : Calls Try.prog 12 #[cA v u d l g, .int .i64 n] W fun x w' => x = .returned (P2 v' u' d' l' g' e) ∧ Below W.heap.size W w' := by
  have := do_any v u d l g n W
  rwa [h] at this
theorem undo_is {v u d l g n v' u' d' l' g' e : Int} (h : chC takeC ⟨v, u, d, l, g⟩ n = (⟨v', u', d', l', g'⟩, e)) (W : World) : Calls Try.prog 13 #[cA v u d l g, .int .i64 n] W fun x w' => x = .returned (P2 v' u' d' l' g' e) ∧ Below W.heap.size W w' := by
  have := undo_any v u d l g n W
  rwa [h] at this
theorem free_is {v u d l g n v' u' d' l' g' e : Int} (h : chC giveC ⟨v, u, d, l, g⟩ n = (⟨v', u', d', l', g'⟩, e)) (W : World) : Calls Try.prog 14 #[cA v u d l g, .int .i64 n] W fun x w' => x = .returned (P2 v' u' d' l' g' e) ∧ Below W.heap.size W w' := by
  have := free_any v u d l g n W
  rwa [h] at this
theorem new_is {v l g v' u' d' l' g' e : Int} (h : newC v l g = (⟨v', u', d', l', g'⟩, e)) (W : World) : Calls Try.prog 29 #[.int .i64 v, .int .i64 l, .int .i64 g] W fun x w' => x = .returned (P2 v' u' d' l' g' e) ∧ Below W.heap.size W w' := by
  have := new_any v l g W
  rwa [h] at this
theorem room_is {v u d l g a b e : Int} (h : roomV ⟨v, u, d, l, g⟩ = .tuple #[.int .i64 a, .int .i64 b, .int .i64 e]) (W : World) : Calls Try.prog 21 #[cA v u d l g] W fun x w' => x = .returned (.tuple #[.int .i64 a, .int .i64 b, .int .i64 e]) ∧ Below W.heap.size W w' := by
  have := room3_any v u d l g W
  rwa [h] at this
set_option maxHeartbeats 4000000 in
theorem works_any (w : World) : Calls Try.prog 20 #[] w fun e w' => e = .returned (.bool true) ∧ Below w.heap.size w w' := by
  have h1 := Lib.hid (fun W => new_is (show newC 5 0 10 = (⟨5, 0, 0, 0, 10⟩, 0) by decide +kernel) W)
  have h2 := Lib.hid (fun W => do_is (show chC addC ⟨5, 0, 0, 0, 10⟩ 3 = (⟨8, 3, 0, 0, 10⟩, 0) by decide +kernel) W)
  have h3 := Lib.hid (fun W => do_is (show chC addC ⟨8, 3, 0, 0, 10⟩ (-6) = (⟨0, 0, 0, 0, 0⟩, 7) by decide +kernel) W)
  have h4 := Lib.hid (fun W => do_is (show chC addC ⟨8, 3, 0, 0, 10⟩ (-5) = (⟨3, 3, 5, 0, 10⟩, 0) by decide +kernel) W)
  have h5 := Lib.hid (fun W => undo_is (show chC takeC ⟨8, 3, 0, 0, 10⟩ 3 = (⟨5, 0, 0, 0, 10⟩, 0) by decide +kernel) W)
  have h6 := Lib.hid (fun W => free_is (show chC giveC ⟨8, 3, 0, 0, 10⟩ 3 = (⟨8, 0, 0, 0, 10⟩, 0) by decide +kernel) W)
  have h7 := Lib.hid (fun W => room_is (show roomV ⟨8, 3, 0, 0, 10⟩ = .tuple #[.int .i64 2, .int .i64 5, .int .i64 0] by
    unfold roomV
    rw [if_pos (show okC ⟨8, 3, 0, 0, 10⟩ = true by decide +kernel), show roomN ⟨8, 3, 0, 0, 10⟩ = 2 by decide +kernel, show roomN (mirC ⟨8, 3, 0, 0, 10⟩) = 5 by decide +kernel]) W)
  go_enter Try.func20, Try.ntmps20
  go_wp2_with fail
  refine (h1.out _).mono ?_
  rintro e w1 ⟨rfl, hb1⟩
  have xc := Cx.new hb1 5 0 0 0 10
  go_wp2_with fail
  refine (h2.out _).mono ?_
  rintro e w2 ⟨rfl, hb2⟩
  have xd := Cx.new (xc.later hb2).bel 8 3 0 0 10
  replace xc := (xc.later hb2).alloc (cRow 8 3 0 0 10)
  clear hb1 hb2
  go_wp2_with fail
  refine (h3.out _).mono ?_
  rintro e w3 ⟨rfl, hb3⟩
  replace xc := (xc.later hb3).alloc (cRow 0 0 0 0 0)
  replace xd := (xd.later hb3).alloc (cRow 0 0 0 0 0)
  clear hb3
  obtain ⟨c0, c1, c2, c3, c4⟩ := xd.cells
  go_wp2_with fail
  refine (h4.out _).mono ?_
  rintro e w4 ⟨rfl, hb4⟩
  clear c0 c1 c2 c3 c4
  have xx := Cx.new (xc.later hb4).bel 3 3 5 0 10
  replace xc := (xc.later hb4).alloc (cRow 3 3 5 0 10)
  replace xd := (xd.later hb4).alloc (cRow 3 3 5 0 10)
  clear hb4
  obtain ⟨c0, c1, c2, c3, c4⟩ := xd.cells
  go_wp2_with fail
  refine (h5.out _).mono ?_
  rintro e w5 ⟨rfl, hb5⟩
  clear c0 c1 c2 c3 c4
  have xy := Cx.new (xc.later hb5).bel 5 0 0 0 10
  replace xc := (xc.later hb5).alloc (cRow 5 0 0 0 10)
  replace xd := (xd.later hb5).alloc (cRow 5 0 0 0 10)
  replace xx := (xx.later hb5).alloc (cRow 5 0 0 0 10)
  clear hb5
  obtain ⟨c0, c1, c2, c3, c4⟩ := xd.cells
  go_wp2_with fail
  refine (h6.out _).mono ?_
  rintro e w6 ⟨rfl, hb6⟩
  clear c0 c1 c2 c3 c4
  have xz := Cx.new (xc.later hb6).bel 8 0 0 0 10
  replace xc := (xc.later hb6).alloc (cRow 8 0 0 0 10)
  replace xd := (xd.later hb6).alloc (cRow 8 0 0 0 10)
  replace xx := (xx.later hb6).alloc (cRow 8 0 0 0 10)
  replace xy := (xy.later hb6).alloc (cRow 8 0 0 0 10)
  clear hb6
  obtain ⟨c0, c1, c2, c3, c4⟩ := xd.cells
  go_wp2_with fail
  refine (h7.out _).mono ?_
  rintro e w7 ⟨rfl, hb7⟩
  clear c0 c1 c2 c3 c4
  obtain ⟨c0, c1, c2, c3, c4⟩ := (xc.later hb7).cells
  obtain ⟨d0, d1, d2, d3, d4⟩ := (xd.later hb7).cells
  obtain ⟨e0, e1, e2, e3, e4⟩ := (xx.later hb7).cells
  obtain ⟨f0, f1, f2, f3, f4⟩ := (xy.later hb7).cells
  obtain ⟨g0, g1, g2, g3, g4⟩ := (xz.later hb7).cells
  have hbel := (xc.later hb7).bel
  clear xc xd xx xy xz hb7 h1 h2 h3 h4 h5 h6 h7
  generalize w1.heap.size = q1 at *
  generalize w2.heap.size = q2 at *
  generalize w3.heap.size = q3 at *
  generalize w4.heap.size = q4 at *
  generalize w5.heap.size = q5 at *
  generalize w6.heap.size = q6 at *
  go_wp2_with fail
  go_ret
  exact ⟨rfl, hbel⟩

theorem size_any (n : Int) (w : World) (h : IntKind.i64.wrap (-n) = -n) :
    Calls Try.prog 33 #[.int .i64 n] w fun e w' => e = .returned (.int .i64 (max n (-n))) ∧ w = w' := by
  have hm : ∀ (ts : Array TypeId) (t : TypeId) (W : World), (Builtin.max_ ts t #[.int .i64 n, .int .i64 (-n)]).run Try.prog W = .ok (.int .i64 (max n (-n))) W := fun ts t W => by
    rw [run_max_int2]
    congr 2
    split <;> omega
  go_enter Try.func33, Try.ntmps33
  go_wp2_with fail
  go_ret
  exact ⟨rfl, rfl⟩
/-- Five cells of parts. -/
abbrev pA (v u d b o : Int) : Value := .agg #[.int .i32 v, .int .u16 u, .int .u16 d, .int .u16 b, .int .u16 o]
def I32 (n : Int) : Prop := -2147483648 ≤ n ∧ n ≤ 2147483647
def U16 (n : Int) : Prop := 0 ≤ n ∧ n ≤ 65535
theorem made_any (v u d b o : Int) (w : World) (h1 : I32 v) (h2 : U16 u) (h3 : U16 d) (h4 : U16 b) (h5 : U16 o) :
    Calls Try.prog 31 #[pA v u d b o] w fun e w' => e = .returned (cA v u d (v - u - b) (v + d + o)) ∧ Below w.heap.size w w' := by
  unfold I32 U16 at *
  have i1 : IntKind.i64.wrap v = v := i64w (by omega) (by omega)
  have i2 : IntKind.i64.wrap u = u := i64w (by omega) (by omega)
  have i3 : IntKind.i64.wrap d = d := i64w (by omega) (by omega)
  have i4 : IntKind.i64.wrap b = b := i64w (by omega) (by omega)
  have i5 : IntKind.i64.wrap o = o := i64w (by omega) (by omega)
  have i6 : IntKind.i64.wrap (v - u) = v - u := i64w (by omega) (by omega)
  have i7 : IntKind.i64.wrap (v - u - b) = v - u - b := i64w (by omega) (by omega)
  have i8 : IntKind.i64.wrap (v + d) = v + d := i64w (by omega) (by omega)
  have i9 : IntKind.i64.wrap (v + d + o) = v + d + o := i64w (by omega) (by omega)
  clear h1 h2 h3 h4 h5
  go_enter Try.func31, Try.ntmps31
  go_wp2
  go_region
  all_goals
    go_wp2
    refine bodyPost_ret (v := cA v u d (v - u - b) (v + d + o)) (by simp [results, Try.results31, go_sem]) rfl ⟨rfl, ?_⟩
    go_grown
end Go.Proofs.Ytodgnhkaglcjnaa.Cnt
