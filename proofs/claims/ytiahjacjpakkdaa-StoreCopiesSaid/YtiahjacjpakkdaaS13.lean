/- Apply: an array of three functions. -/
import Derived.Test.YtiahjacjpakkdaaS12
namespace Go.Proofs.Ytiahjacjpakkdaa.Cnt
open Go.RowKit
set_option linter.unusedVariables false
set_option linter.unusedSimpArgs false
set_option maxRecDepth 20000

/-- The four cells of an array of functions. -/
abbrev fns : Array Value := #[.nilFunc, .func (.func 38) #[] #[], .func (.func 39) #[] #[], .func (.func 40) #[] #[]]
structure Ar (w w' : World) (v u d l h : Int) : Prop where
  x : Cx w w.heap.size v u d l h w'
  y : Cx w (w.heap.size + 1) 0 0 0 0 0 w'
  arr : w'.heap[w.heap.size + 1 + 1]? = some (.cells fns 77 (0, 0))
theorem info_FN : (Try.prog.info? 77).map (·.size) = some 4 := by kernel_rfl
theorem Ar.cells {w w' : World} {v u d l h : Int} (a : Ar w w' v u d l h) : w'.cell? ⟨w.heap.size + 1 + 1, 1, none⟩ = some (.func (.func 38) #[] #[]) ∧ w'.cell? ⟨w.heap.size + 1 + 1, 2, none⟩ = some (.func (.func 39) #[] #[]) ∧ w'.cell? ⟨w.heap.size + 1 + 1, 3, none⟩ = some (.func (.func 40) #[] #[]) :=
  ⟨cell_of_row w' _ 1 _ _ _ a.arr, cell_of_row w' _ 2 _ _ _ a.arr, cell_of_row w' _ 3 _ _ _ a.arr⟩
theorem Ar.drew {w w' : World} {v u d l h : Int} (a : Ar w w' v u d l h) : Ar w w'.drew v u d l h := ⟨a.x.later (Below.refl _ _).drew, a.y.later (Below.refl _ _).drew, a.arr⟩
theorem store_arr {ops : Array Oper} {rest : List Oper} {o : Oper} {a : Act} {w : World} {Q : Exit → Act → World → Prop} (hgd : o.guard = none) (x y : Operand) (ho : o.op = .store 77 x y)
    (v u d l h : Int) (hx : a.eval x = .pointer (some ⟨w.heap.size + 1 + 1, 0, none⟩)) (hy : a.eval y = .agg fns)
    (hh : ∀ w2, Ar w w2 v u d l h → wpList Try.prog ops Q rest (a.put o.dst undef) w2) :
    wpList Try.prog ops Q (o :: rest) a (((w.alloc (cRow v u d l h)).alloc (cRow 0 0 0 0 0)).alloc (.cells #[.nilFunc, .nilFunc, .nilFunc, .nilFunc] 77)) := by
  have hp := cx_two w v u d l h
  have hg := heap_alloc_new ((w.alloc (cRow v u d l h)).alloc (cRow 0 0 0 0 0)) (.cells #[.nilFunc, .nilFunc, .nilFunc, .nilFunc] 77)
  have e : ((w.alloc (cRow v u d l h)).alloc (cRow 0 0 0 0 0)).heap.size = w.heap.size + 1 + 1 := by simp
  rw [e] at hg
  have x1 := hp.1.alloc (.cells #[.nilFunc, .nilFunc, .nilFunc, .nilFunc] 77)
  have y1 := hp.2.alloc (.cells #[.nilFunc, .nilFunc, .nilFunc, .nilFunc] 77)
  refine wpList_store_row hgd _ x y ho (w.heap.size + 1 + 1) _ hx hy _ _ hg info_FN rfl (by simp [Value.oneCell']) (hh _ ?_)
  refine ⟨⟨?_, ?_⟩, ⟨?_, ?_⟩, setRow_heap _ _ _ _ _ _ hg⟩
  · rw [setRow_other _ _ _ _ (by omega)]; exact x1.blk
  · exact x1.bel.trans ⟨rfl, rfl, rfl, by simp, fun k hk => setRow_other _ _ _ _ (by omega)⟩
  · rw [setRow_other _ _ _ _ (by omega)]; exact y1.blk
  · exact x1.bel.trans ⟨rfl, rfl, rfl, by simp, fun k hk => setRow_other _ _ _ _ (by omega)⟩
set_option maxHeartbeats 4000000 in
theorem app_1 (v u d l g n : Int) (w : World) :
    Calls Try.prog 24 #[cA v u d l g, .int .i64 1, .int .i64 n] w fun e w' => e = .returned (rV (chC addC ⟨v, u, d, l, g⟩ n)) ∧ Below w.heap.size w w' := by
  have hf := fun W => do_any v u d l g n W
  generalize chC addC ⟨v, u, d, l, g⟩ n = r at *
  obtain ⟨⟨x0, x1, x2, x3, x4⟩, x5⟩ := r
  replace hf := Lib.hid hf
  go_enter Try.func24, Try.ntmps24
  go_wp2_with (refine store_arr rfl _ _ rfl v u d l g rfl rfl ?_; intro w1 ha; have hd := ha.drew; obtain ⟨k1, k2, k3⟩ := hd.cells; obtain ⟨c0, c1, c2, c3, c4⟩ := hd.x.cells)
  go_region_with (go_at_call 38; refine (hf.out _).mono ?_; rintro e w2 ⟨rfl, hb2⟩; have hy2 := hd.y.later hb2; obtain ⟨d0, d1, d2, d3, d4⟩ := hy2.cells; obtain ⟨f0, f1, f2, f3, f4⟩ := hy2.froz)
  all_goals
    go_wp2
    refine bodyPost_ret (v := rV (⟨x0, x1, x2, x3, x4⟩, x5)) (by simp [results, Try.results24, go_sem, d0, d1, d2, d3, d4]) rfl ⟨rfl, ?_⟩
    have hbel := hy2.bel
    go_grown
set_option maxHeartbeats 4000000 in
theorem app_2 (v u d l g n : Int) (w : World) :
    Calls Try.prog 24 #[cA v u d l g, .int .i64 2, .int .i64 n] w fun e w' => e = .returned (rV (chC takeC ⟨v, u, d, l, g⟩ n)) ∧ Below w.heap.size w w' := by
  have hf := fun W => undo_any v u d l g n W
  generalize chC takeC ⟨v, u, d, l, g⟩ n = r at *
  obtain ⟨⟨x0, x1, x2, x3, x4⟩, x5⟩ := r
  replace hf := Lib.hid hf
  go_enter Try.func24, Try.ntmps24
  go_wp2_with (refine store_arr rfl _ _ rfl v u d l g rfl rfl ?_; intro w1 ha; have hd := ha.drew; obtain ⟨k1, k2, k3⟩ := hd.cells; obtain ⟨c0, c1, c2, c3, c4⟩ := hd.x.cells)
  go_region_with (go_at_call 39; refine (hf.out _).mono ?_; rintro e w2 ⟨rfl, hb2⟩; have hy2 := hd.y.later hb2; obtain ⟨d0, d1, d2, d3, d4⟩ := hy2.cells; obtain ⟨f0, f1, f2, f3, f4⟩ := hy2.froz)
  all_goals
    go_wp2
    refine bodyPost_ret (v := rV (⟨x0, x1, x2, x3, x4⟩, x5)) (by simp [results, Try.results24, go_sem, d0, d1, d2, d3, d4]) rfl ⟨rfl, ?_⟩
    have hbel := hy2.bel
    go_grown
set_option maxHeartbeats 4000000 in
theorem app_3 (v u d l g n : Int) (w : World) :
    Calls Try.prog 24 #[cA v u d l g, .int .i64 3, .int .i64 n] w fun e w' => e = .returned (rV (chC giveC ⟨v, u, d, l, g⟩ n)) ∧ Below w.heap.size w w' := by
  have hf := fun W => free_any v u d l g n W
  generalize chC giveC ⟨v, u, d, l, g⟩ n = r at *
  obtain ⟨⟨x0, x1, x2, x3, x4⟩, x5⟩ := r
  replace hf := Lib.hid hf
  go_enter Try.func24, Try.ntmps24
  go_wp2_with (refine store_arr rfl _ _ rfl v u d l g rfl rfl ?_; intro w1 ha; have hd := ha.drew; obtain ⟨k1, k2, k3⟩ := hd.cells; obtain ⟨c0, c1, c2, c3, c4⟩ := hd.x.cells)
  go_region_with (go_at_call 40; refine (hf.out _).mono ?_; rintro e w2 ⟨rfl, hb2⟩; have hy2 := hd.y.later hb2; obtain ⟨d0, d1, d2, d3, d4⟩ := hy2.cells; obtain ⟨f0, f1, f2, f3, f4⟩ := hy2.froz)
  all_goals
    go_wp2
    refine bodyPost_ret (v := rV (⟨x0, x1, x2, x3, x4⟩, x5)) (by simp [results, Try.results24, go_sem, d0, d1, d2, d3, d4]) rfl ⟨rfl, ?_⟩
    have hbel := hy2.bel
    go_grown
set_option maxHeartbeats 1000000 in
theorem app_no (v u d l g p n : Int) (w : World) (hp : p < 1 ∨ 3 < p) :
    Calls Try.prog 24 #[cA v u d l g, .int .i64 p, .int .i64 n] w fun e w' => e = .returned (rV (zero, 2)) ∧ Below w.heap.size w w' := by
  rcases hp with hp | hp
  · have b1 : decide (p < 1) = true := by simpa using hp
    go_enter Try.func24, Try.ntmps24
    go_wp2_with (first
      | (refine store_arr rfl _ _ rfl v u d l g rfl rfl ?_; intro w1 ha)
      | (refine store_cx rfl _ _ rfl (w.heap.size + 1) rfl rfl ha.y.blk ?_; intro w5 hs5; have hy5 := ha.y.self hs5 (by omega); obtain ⟨d0, d1, d2, d3, d4⟩ := hy5.cells))
    exact bodyPost_ret (v := rV (⟨0, 0, 0, 0, 0⟩, 2)) (by simp [results, Try.results24, go_sem, d0, d1, d2, d3, d4]) rfl ⟨rfl, hy5.bel⟩
  · have b1 : decide (p < 1) = false := by simp; omega
    have b2 : decide (4 ≤ p) = true := by simp; omega
    have b3 : (4 ≤ p) = True := by simp; omega
    have b4 : (p < 1) = False := by simp; omega
    go_enter Try.func24, Try.ntmps24
    go_wp2_with (first
      | (refine store_arr rfl _ _ rfl v u d l g rfl rfl ?_; intro w1 ha)
      | (refine store_cx rfl _ _ rfl (w.heap.size + 1) rfl rfl ha.y.blk ?_; intro w5 hs5; have hy5 := ha.y.self hs5 (by omega); obtain ⟨d0, d1, d2, d3, d4⟩ := hy5.cells))
    exact bodyPost_ret (v := rV (⟨0, 0, 0, 0, 0⟩, 2)) (by simp [results, Try.results24, go_sem, d0, d1, d2, d3, d4]) rfl ⟨rfl, hy5.bel⟩
theorem apply_any (v u d l g p n : Int) (w : World) :
    Calls Try.prog 24 #[cA v u d l g, .int .i64 p, .int .i64 n] w fun e w' => e = .returned (rV (appC ⟨v, u, d, l, g⟩ p n)) ∧ Below w.heap.size w w' := by
  unfold appC
  by_cases h1 : p = 1
  · subst h1; rw [if_pos rfl]; exact app_1 v u d l g n w
  · rw [if_neg h1]
    by_cases h2 : p = 2
    · subst h2; rw [if_pos rfl]; exact app_2 v u d l g n w
    · rw [if_neg h2]
      by_cases h3 : p = 3
      · subst h3; rw [if_pos rfl]; exact app_3 v u d l g n w
      · rw [if_neg h3]
        exact app_no v u d l g p n w (by omega)
end Go.Proofs.Ytiahjacjpakkdaa.Cnt
