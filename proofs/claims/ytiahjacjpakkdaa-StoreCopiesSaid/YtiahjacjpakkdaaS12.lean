/- The program's New, Room, Quiet, Least, Apply. -/
import Derived.Test.YtiahjacjpakkdaaS11
import Derived.Deep.RegionWith
import Derived.BigRegion
namespace Go.Proofs.Ytiahjacjpakkdaa.Cnt
open Go.RowKit
set_option linter.unusedVariables false
set_option linter.unusedSimpArgs false
set_option maxRecDepth 20000

def quietB (c : Ct) : Bool := decide (c.u = 0) && decide (c.d = 0)
def appC (c : Ct) (p n : Int) : Ct × Int := if p = 1 then chC addC c n else if p = 2 then chC takeC c n else if p = 3 then chC giveC c n else (zero, 2)
def quietV (c : Ct) : Value := if okC c then .tuple #[.bool (quietB c), .int .i64 0] else .tuple #[.bool false, .int .i64 2]
theorem chk_ok {v u d l g : Int} (hc : OkC ⟨v, u, d, l, g⟩) (W : World) : Calls Try.prog 26 #[cA v u d l g] W fun e w' => e = .returned (.int .i64 0) ∧ Below W.heap.size W w' := by
  have := check_any v u d l g W
  rwa [ckE_t hc] at this
theorem chk_no {v u d l g : Int} (hc : ¬ OkC ⟨v, u, d, l, g⟩) (W : World) : Calls Try.prog 26 #[cA v u d l g] W fun e w' => e = .returned (.int .i64 2) ∧ Below W.heap.size W w' := by
  have := check_any v u d l g W
  rwa [ckE_f hc] at this
def eqC (a b : Ct) : Bool := decide (a = b)
theorem eqC_t {a b : Ct} (h : a = b) : eqC a b = true := decide_eq_true h
theorem eqC_f {a b : Ct} (h : ¬ a = b) : eqC a b = false := decide_eq_false h
theorem eq_c (v u d l h v' u' d' l' h' : Int) (w : World) : (Op.equalIn 10000 TC (cA v u d l h) (cA v' u' d' l' h')).run Try.prog w = .ok (eqC ⟨v, u, d, l, h⟩ ⟨v', u', d', l', h'⟩) w := by
  have e : eqC ⟨v, u, d, l, h⟩ ⟨v', u', d', l', h'⟩ = (v == v' && (u == u' && (d == d' && (l == l' && h == h')))) := by
    unfold eqC
    simp only [Ct.mk.injEq, Bool.decide_and]
    rfl
  rw [e]
  simp [go_sem]
  by_cases h1 : v = v' <;> by_cases h2 : u = u' <;> by_cases h3 : d = d' <;> by_cases h4 : l = l' <;> by_cases h5 : h = h' <;> simp [*]
theorem cx_pair (w : World) (v u d l h v' u' d' l' h' : Int) : Cx w w.heap.size v u d l h ((w.alloc (cRow v u d l h)).alloc (cRow v' u' d' l' h')) ∧ Cx w (w.heap.size + 1) v' u' d' l' h' ((w.alloc (cRow v u d l h)).alloc (cRow v' u' d' l' h')) := by
  have h1 := cx_new w v u d l h
  refine ⟨h1.alloc _, ?_, (h1.alloc _).bel⟩
  have := heap_alloc_new (w.alloc (cRow v u d l h)) (cRow v' u' d' l' h')
  simpa using this
theorem quiet_any (v u d l g : Int) (w : World) :
    Calls Try.prog 36 #[cA v u d l g] w fun e w' => e = .returned (quietV ⟨v, u, d, l, g⟩) ∧ Below w.heap.size w w' := by
  unfold quietV
  have hx := cx_new w v u d l g
  by_cases hc : OkC ⟨v, u, d, l, g⟩
  · rw [okC_t hc]
    simp only [if_true]
    have hk := Lib.hid (fun W => chk_ok hc W)
    have hq : ∀ W : World, (Op.equalIn 10000 TC (cA v 0 0 l g) (cA v u d l g)).run Try.prog W = .ok (quietB ⟨v, u, d, l, g⟩) W := fun W => by
      rw [eq_c]
      congr 1
      unfold eqC quietB
      simp only [Ct.mk.injEq, true_and, and_true, Bool.decide_and, eq_comm (a := (0 : Int))]
    generalize quietB ⟨v, u, d, l, g⟩ = z at *
    clear hc
    go_enter Try.func36, Try.ntmps36
    go_wp2_with (first
      | (go_at_call 26; refine (hk.out _).mono ?_; rintro e w1 ⟨rfl, hb1⟩; have hx1 := hx.later hb1; obtain ⟨c0, c1, c2, c3, c4⟩ := hx1.cells; have hx2 := hx1.alloc (cRow v 0 0 l g); obtain ⟨d0, d1, d2, d3, d4⟩ := hx2.cells))
    go_ret2
    exact ⟨rfl, hx2.bel⟩
  · rw [okC_f hc]
    have hk := Lib.hid (fun W => chk_no hc W)
    clear hc
    go_enter Try.func36, Try.ntmps36
    go_wp2_with (first
      | (go_at_call 26; refine (hk.out _).mono ?_; rintro e w1 ⟨rfl, hb1⟩; have hx1 := hx.later hb1; obtain ⟨c0, c1, c2, c3, c4⟩ := hx1.cells))
    go_ret2
    exact ⟨rfl, hx1.bel⟩
end Go.Proofs.Ytiahjacjpakkdaa.Cnt
