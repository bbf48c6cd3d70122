/- The program's New, Room, Quiet, Least, Apply. -/
import Derived.Test.YtodgnhkaglcjnaaQ02
import Derived.Deep.RegionWith
import Derived.BigRegion
namespace Go.Proofs.Ytodgnhkaglcjnaa.Cnt
open Go.RowKit
set_option linter.unusedVariables false
set_option linter.unusedSimpArgs false
set_option maxRecDepth 20000

def newC (v l h : Int) : Ct × Int := if okC ⟨v, 0, 0, l, h⟩ then (⟨v, 0, 0, l, h⟩, 0) else (zero, 2)
def quietB (c : Ct) : Bool := decide (c.u = 0) && decide (c.d = 0)
def appC (c : Ct) (p n : Int) : Ct × Int := if p = 1 then chC addC c n else if p = 2 then chC takeC c n else if p = 3 then chC giveC c n else (zero, 2)
/-- Room's three results. -/
def roomV (c : Ct) : Value := if okC c then .tuple #[.int .i64 (roomN c), .int .i64 (roomN (mirC c)), .int .i64 0] else .tuple #[.int .i64 0, .int .i64 0, .int .i64 2]
def quietV (c : Ct) : Value := if okC c then .tuple #[.bool (quietB c), .int .i64 0] else .tuple #[.bool false, .int .i64 2]
def leastV (c : Ct) : Value := if okC c then .tuple #[.int .i64 (c.v - c.u), .int .i64 (c.v + c.d), .int .i64 0] else .tuple #[.int .i64 0, .int .i64 0, .int .i64 2]

theorem chk_ok {v u d l g : Int} (hc : OkC ⟨v, u, d, l, g⟩) (W : World) : Calls Try.prog 27 #[cA v u d l g] W fun e w' => e = .returned (.int .i64 0) ∧ Below W.heap.size W w' := by
  have := check_any v u d l g W
  rwa [ckE_t hc] at this
theorem chk_no {v u d l g : Int} (hc : ¬ OkC ⟨v, u, d, l, g⟩) (W : World) : Calls Try.prog 27 #[cA v u d l g] W fun e w' => e = .returned (.int .i64 2) ∧ Below W.heap.size W w' := by
  have := check_any v u d l g W
  rwa [ckE_f hc] at this
theorem rchk_ok {v u d l g : Int} (hc : OkC ⟨v, u, d, l, g⟩) (W : World) : Calls Try.prog 28 #[cA v u d l g] W fun e w' => e = .returned (.int .i64 0) ∧ Below W.heap.size W w' := by
  have := rcheck_any v u d l g W
  rwa [ckE_t hc] at this
theorem rchk_no {v u d l g : Int} (hc : ¬ OkC ⟨v, u, d, l, g⟩) (W : World) : Calls Try.prog 28 #[cA v u d l g] W fun e w' => e = .returned (.int .i64 2) ∧ Below W.heap.size W w' := by
  have := rcheck_any v u d l g W
  rwa [ckE_f hc] at this

def eqC (a b : Ct) : Bool := decide (a = b)
theorem eqC_t {a b : Ct} (h : a = b) : eqC a b = true := decide_eq_true h
theorem eqC_f {a b : Ct} (h : ¬ a = b) : eqC a b = false := decide_eq_false h
theorem eq_c (v u d l h v' u' d' l' h' : Int) (w : World) : (Op.equalIn 10000 TC (cA v u d l h) (cA v' u' d' l' h')).run Try.prog w = .ok (eqC ⟨v, u, d, l, h⟩ ⟨v', u', d', l', h'⟩) w := by
  have e : eqC ⟨v, u, d, l, h⟩ ⟨v', u', d', l', h'⟩ = (v == v' && (u == u' && (d == d' && (l == l' && h == h')))) := by
    unfold eqC
    simp only [Ct.mk.injEq, Bool.decide_and]
    rfl
  rw [e]
  simp [go_sem]
  by_cases h1 : v = v' <;> by_cases h2 : u = u' <;> by_cases h3 : d = d' <;> by_cases h4 : l = l' <;> by_cases h5 : h = h' <;> simp [*]
theorem cx_pair (w : World) (v u d l h v' u' d' l' h' : Int) : Cx w w.heap.size v u d l h ((w.alloc (cRow v u d l h)).alloc (cRow v' u' d' l' h')) ∧ Cx w (w.heap.size + 1) v' u' d' l' h' ((w.alloc (cRow v u d l h)).alloc (cRow v' u' d' l' h')) := by
  have h1 := cx_new w v u d l h
  refine ⟨h1.alloc _, ?_, (h1.alloc _).bel⟩
  have := heap_alloc_new (w.alloc (cRow v u d l h)) (cRow v' u' d' l' h')
  simpa using this
theorem new_any (v l g : Int) (w : World) :
    Calls Try.prog 29 #[.int .i64 v, .int .i64 l, .int .i64 g] w fun e w' => e = .returned (rV (newC v l g)) ∧ Below w.heap.size w w' := by
  unfold newC
  have hx := cx_pair w 0 0 0 0 0 v 0 0 l g
  by_cases hc : OkC ⟨v, 0, 0, l, g⟩
  · rw [okC_t hc]
    simp only [if_true]
    have hk := Lib.hid (fun W => chk_ok hc W)
    clear hc
    go_enter Try.func29, Try.ntmps29
    go_wp2_with (first
      | (go_at_call 27; refine (hk.out _).mono ?_; rintro e w1 ⟨rfl, hb1⟩; have hy1 := hx.1.later hb1; have hx1 := hx.2.later hb1; obtain ⟨c0, c1, c2, c3, c4⟩ := hx1.cells)
      | (refine store_cx rfl _ _ rfl w.heap.size rfl rfl hy1.blk ?_; intro w5 hs5; have hy5 := hy1.self hs5 (by omega); obtain ⟨d0, d1, d2, d3, d4⟩ := hy5.cells))
    exact bodyPost_ret (v := rV (⟨v, 0, 0, l, g⟩, 0)) (by simp [results, Try.results29, go_sem, d0, d1, d2, d3, d4]) rfl ⟨rfl, hy5.bel⟩
  · rw [okC_f hc]
    have hk := Lib.hid (fun W => chk_no hc W)
    clear hc
    go_enter Try.func29, Try.ntmps29
    go_wp2_with (first
      | (go_at_call 27; refine (hk.out _).mono ?_; rintro e w1 ⟨rfl, hb1⟩; have hy1 := hx.1.later hb1; have hx1 := hx.2.later hb1; obtain ⟨c0, c1, c2, c3, c4⟩ := hx1.cells)
      | (refine store_cx rfl _ _ rfl w.heap.size rfl rfl hy1.blk ?_; intro w5 hs5; have hy5 := hy1.self hs5 (by omega); obtain ⟨d0, d1, d2, d3, d4⟩ := hy5.cells))
    exact bodyPost_ret (v := rV (⟨0, 0, 0, 0, 0⟩, 2)) (by simp [results, Try.results29, go_sem, d0, d1, d2, d3, d4]) rfl ⟨rfl, hy5.bel⟩
set_option maxHeartbeats 4000000 in
theorem room3_any (v u d l g : Int) (w : World) :
    Calls Try.prog 21 #[cA v u d l g] w fun e w' => e = .returned (roomV ⟨v, u, d, l, g⟩) ∧ Below w.heap.size w w' := by
  unfold roomV
  have hx := cx_new w v u d l g
  by_cases hc : OkC ⟨v, u, d, l, g⟩
  · rw [okC_t hc]
    simp only [if_true]
    have hk := Lib.hid (fun W => chk_ok hc W)
    have hR := Lib.hid (fun W => room_any v u d l g W hc)
    have hM := Lib.hid (fun W => mirror_any v u d l g W (i64_ok hc.1) (i64_ok hc.2.2.2.1) (i64_ok hc.2.2.2.2.1))
    have hQ := Lib.hid (fun W => room_any (-v) d u (-g) (-l) W (mir_ok hc))
    have hm : mirC ⟨v, u, d, l, g⟩ = ⟨-v, d, u, -g, -l⟩ := rfl
    rw [hm]
    generalize roomN ⟨v, u, d, l, g⟩ = m at *
    generalize roomN ⟨-v, d, u, -g, -l⟩ = k at *
    clear hc hm
    go_enter Try.func21, Try.ntmps21
    go_wp2_with (first
      | (go_at_call 27; refine (hk.out _).mono ?_; rintro e w1 ⟨rfl, hb1⟩; have hx1 := (hx.later hb1).later (Below.refl _ _).drew; obtain ⟨c0, c1, c2, c3, c4⟩ := hx1.cells))
    go_region_with (first
      | (go_at_call_of 39 (Value.agg #[.int .i64 v, .int .i64 u, .int .i64 d, .int .i64 l, .int .i64 g]); refine (hR.out _).mono ?_; rintro e w2 ⟨rfl, hb2⟩; have hx1 := hx1.later hb2; obtain ⟨c0, c1, c2, c3, c4⟩ := hx1.cells)
      | (go_at_call_of 40 (Value.agg #[.int .i64 v, .int .i64 u, .int .i64 d, .int .i64 l, .int .i64 g]); refine (hM.out _).mono ?_; rintro e w3 ⟨rfl, hb3⟩; have hx1 := hx1.later hb3; obtain ⟨c0, c1, c2, c3, c4⟩ := hx1.cells)
      | (go_at_call_of 39 (cA (-v) d u (-g) (-l)); refine (hQ.out _).mono ?_; rintro e w4 ⟨rfl, hb4⟩; have hx1 := hx1.later hb4; obtain ⟨c0, c1, c2, c3, c4⟩ := hx1.cells))
    all_goals
      go_wp2
      go_ret3
      exact ⟨rfl, hx1.bel⟩
  · rw [okC_f hc]
    have hk := Lib.hid (fun W => chk_no hc W)
    clear hc
    go_enter Try.func21, Try.ntmps21
    go_wp2_with (first
      | (go_at_call 27; refine (hk.out _).mono ?_; rintro e w1 ⟨rfl, hb1⟩; have hx1 := hx.later hb1; obtain ⟨c0, c1, c2, c3, c4⟩ := hx1.cells))
    go_ret3
    exact ⟨rfl, hx1.bel⟩
theorem quiet_any (v u d l g : Int) (w : World) :
    Calls Try.prog 23 #[cA v u d l g] w fun e w' => e = .returned (quietV ⟨v, u, d, l, g⟩) ∧ Below w.heap.size w w' := by
  unfold quietV
  have hx := cx_new w v u d l g
  by_cases hc : OkC ⟨v, u, d, l, g⟩
  · rw [okC_t hc]
    simp only [if_true]
    have hk := Lib.hid (fun W => chk_ok hc W)
    have hq : ∀ W : World, (Op.equalIn 10000 TC (cA v 0 0 l g) (cA v u d l g)).run Try.prog W = .ok (quietB ⟨v, u, d, l, g⟩) W := fun W => by
      rw [eq_c]
      congr 1
      unfold eqC quietB
      simp only [Ct.mk.injEq, true_and, and_true, Bool.decide_and, eq_comm (a := (0 : Int))]
    generalize quietB ⟨v, u, d, l, g⟩ = z at *
    clear hc
    go_enter Try.func23, Try.ntmps23
    go_wp2_with (first
      | (go_at_call 27; refine (hk.out _).mono ?_; rintro e w1 ⟨rfl, hb1⟩; have hx1 := hx.later hb1; obtain ⟨c0, c1, c2, c3, c4⟩ := hx1.cells; have hx2 := hx1.alloc (cRow v 0 0 l g); obtain ⟨d0, d1, d2, d3, d4⟩ := hx2.cells))
    go_ret2
    exact ⟨rfl, hx2.bel⟩
  · rw [okC_f hc]
    have hk := Lib.hid (fun W => chk_no hc W)
    clear hc
    go_enter Try.func23, Try.ntmps23
    go_wp2_with (first
      | (go_at_call 27; refine (hk.out _).mono ?_; rintro e w1 ⟨rfl, hb1⟩; have hx1 := hx.later hb1; obtain ⟨c0, c1, c2, c3, c4⟩ := hx1.cells))
    go_ret2
    exact ⟨rfl, hx1.bel⟩
theorem least3_any (v u d l g : Int) (w : World) :
    Calls Try.prog 25 #[cA v u d l g] w fun e w' => e = .returned (leastV ⟨v, u, d, l, g⟩) ∧ Below w.heap.size w w' := by
  unfold leastV
  have hx := cx_new w v u d l g
  by_cases hc : OkC ⟨v, u, d, l, g⟩
  · rw [okC_t hc]
    simp only [if_true]
    have hk := Lib.hid (fun W => chk_ok hc W)
    obtain ⟨h1, h2, h3, h4, h5, h6, h7, h8, h9⟩ := hc
    unfold Ok at *
    have hl := Lib.hid (fun W => least_any v u d l g W (i64w (by simp only at *; omega) (by simp only at *; omega)) (i64w (by simp only at *; omega) (by simp only at *; omega)))
    clear h1 h2 h3 h4 h5 h6 h7 h8 h9
    go_enter Try.func25, Try.ntmps25
    go_wp2_with (first
      | (go_at_call 27; refine (hk.out _).mono ?_; rintro e w1 ⟨rfl, hb1⟩; have hx1 := hx.later hb1; obtain ⟨c0, c1, c2, c3, c4⟩ := hx1.cells)
      | (go_at_call 41; refine (hl.out _).mono ?_; rintro e w2 ⟨rfl, hb2⟩; have hx2 := hx1.later hb2))
    go_ret3
    exact ⟨rfl, hx2.bel⟩
  · rw [okC_f hc]
    have hk := Lib.hid (fun W => chk_no hc W)
    clear hc
    go_enter Try.func25, Try.ntmps25
    go_wp2_with (first
      | (go_at_call 27; refine (hk.out _).mono ?_; rintro e w1 ⟨rfl, hb1⟩; have hx1 := hx.later hb1))
    go_ret3
    exact ⟨rfl, hx1.bel⟩
end Go.Proofs.Ytodgnhkaglcjnaa.Cnt
