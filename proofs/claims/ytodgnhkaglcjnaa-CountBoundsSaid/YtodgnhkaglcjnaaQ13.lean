/- The walk of CountOrders. -/
import Derived.Test.YtodgnhkaglcjnaaQ11
namespace Go.Proofs.Ytodgnhkaglcjnaa.Cnt
open Go.RowKit
set_option linter.unusedVariables false
set_option linter.unusedSimpArgs false
set_option maxRecDepth 20000

def nx (c : Ct) (n : Int) : Ct := ⟨c.v + n, c.u + max n 0, c.d + max (-n) 0, c.l, c.h⟩
def lessC (c : Ct) (n : Int) : Ct := ⟨c.v, c.u - max n 0, c.d - max (-n) 0, c.l, c.h⟩
def backC (c : Ct) (n : Int) : Ct := ⟨c.v - n, c.u - max n 0, c.d - max (-n) 0, c.l, c.h⟩
theorem ct_ext {a b : Ct} (h1 : a.v = b.v) (h2 : a.u = b.u) (h3 : a.d = b.d) (h4 : a.l = b.l) (h5 : a.h = b.h) : a = b := by
  cases a; cases b; simp only at *; subst h1 h2 h3 h4 h5; rfl
theorem do_nx {c : Ct} {n : Int} (hc : OkC c) (hn : Ok n) : chC addC c n = if OkC (nx c n) then (nx c n, 0) else (zero, 7) := by
  obtain ⟨v, u, d, l, g⟩ := c
  by_cases h0 : 0 ≤ n
  · rw [doP _ _ _ _ _ _ hc hn h0]
    have e : nx ⟨v, u, d, l, g⟩ n = ⟨v + n, u + n, d, l, g⟩ := by unfold nx; apply ct_ext <;> simp only <;> omega
    rw [e]
    split
    · rename_i h; rw [if_neg]; intro h2; simp only [OkC, Ok] at h2; omega
    · rename_i h; rw [if_pos]; simp only [OkC, Ok] at *; omega
  · rw [doN _ _ _ _ _ _ hc hn h0]
    have e : nx ⟨v, u, d, l, g⟩ n = ⟨v + n, u, d - n, l, g⟩ := by unfold nx; apply ct_ext <;> simp only <;> omega
    rw [e]
    split
    · rename_i h; rw [if_neg]; intro h2; simp only [OkC, Ok] at h2; omega
    · rename_i h; rw [if_pos]; simp only [OkC, Ok] at *; omega
theorem free_nx {c : Ct} {n : Int} (hc : OkC c) (hn : Ok n) : chC giveC c n = if max n 0 ≤ c.u ∧ max (-n) 0 ≤ c.d then (lessC c n, 0) else (zero, 9) := by
  obtain ⟨v, u, d, l, g⟩ := c
  obtain ⟨h1, h2, h3, h4, h5, h6, h7, h8, h9⟩ := id hc
  simp only at h6 h7
  by_cases h0 : 0 ≤ n
  · rw [freeP _ _ _ _ _ _ hc hn h0]
    have e : lessC ⟨v, u, d, l, g⟩ n = ⟨v, u - n, d, l, g⟩ := by unfold lessC; apply ct_ext <;> simp only <;> omega
    rw [e]
    simp only
    split
    · rw [if_neg (by omega)]
    · rw [if_pos (by omega)]
  · rw [freeN _ _ _ _ _ _ hc hn h0]
    have e : lessC ⟨v, u, d, l, g⟩ n = ⟨v, u, d + n, l, g⟩ := by unfold lessC; apply ct_ext <;> simp only <;> omega
    rw [e]
    simp only
    split
    · rw [if_neg (by omega)]
    · rw [if_pos (by omega)]
theorem undo_nx {c : Ct} {n : Int} (hc : OkC c) (hn : Ok n) : chC takeC c n = if max n 0 ≤ c.u ∧ max (-n) 0 ≤ c.d then (backC c n, 0) else (zero, 9) := by
  rw [undo_free, free_nx hc hn]
  split
  · rw [if_pos rfl]; rfl
  · rw [if_neg (by simp)]
/-- What was accepted is valid, and this counter. -/
theorem do_ok {c x : Ct} {n : Int} (hc : OkC c) (hn : Ok n) (h : chC addC c n = (x, 0)) : x = nx c n ∧ OkC x := by
  rw [do_nx hc hn] at h
  split at h
  · rename_i h2
    have := (Prod.mk.inj h).1
    subst this
    exact ⟨rfl, h2⟩
  · simp at h
theorem less_ok {c : Ct} {n : Int} (hc : OkC c) (h : max n 0 ≤ c.u ∧ max (-n) 0 ≤ c.d) : OkC (lessC c n) := by
  simp only [OkC, lessC, Ok] at *
  omega
theorem back_ok {c : Ct} {n : Int} (hc : OkC c) (hn : Ok n) (h : max n 0 ≤ c.u ∧ max (-n) 0 ≤ c.d) : OkC (backC c n) := by
  simp only [OkC, backC, Ok] at *
  omega
section
variable {c x y : Ct} {a b n : Int}
theorem undo_two (hc : OkC c) (hr : max n 0 ≤ c.u ∧ max (-n) 0 ≤ c.d) (ha : Ok a) (hb : Ok b) (hn : Ok n) (hx : chC addC c a = (x, 0)) (hy : chC addC x b = (y, 0)) :
    ∃ z s, chC takeC y n = (z, 0) ∧ chC takeC x n = (s, 0) ∧ ∀ t, chC addC s b = (t, 0) → t = z := by
  obtain ⟨rfl, hx'⟩ := do_ok hc ha hx
  obtain ⟨rfl, hy'⟩ := do_ok hx' hb hy
  have r1 : max n 0 ≤ (nx c a).u ∧ max (-n) 0 ≤ (nx c a).d := by simp only [nx]; omega
  have r2 : max n 0 ≤ (nx (nx c a) b).u ∧ max (-n) 0 ≤ (nx (nx c a) b).d := by simp only [nx]; omega
  refine ⟨_, _, by rw [undo_nx hy' hn, if_pos r2], by rw [undo_nx hx' hn, if_pos r1], fun t ht => ?_⟩
  obtain ⟨rfl, _⟩ := do_ok (back_ok hx' hn r1) hb ht
  apply ct_ext <;> simp only [nx, backC] <;> omega
theorem free_two (hc : OkC c) (hr : max n 0 ≤ c.u ∧ max (-n) 0 ≤ c.d) (ha : Ok a) (hb : Ok b) (hn : Ok n) (hx : chC addC c a = (x, 0)) (hy : chC addC x b = (y, 0)) :
    ∃ z s, chC giveC y n = (z, 0) ∧ chC giveC x n = (s, 0) ∧ chC addC s b = (z, 0) := by
  obtain ⟨rfl, hx'⟩ := do_ok hc ha hx
  obtain ⟨rfl, hy'⟩ := do_ok hx' hb hy
  have r1 : max n 0 ≤ (nx c a).u ∧ max (-n) 0 ≤ (nx c a).d := by simp only [nx]; omega
  have r2 : max n 0 ≤ (nx (nx c a) b).u ∧ max (-n) 0 ≤ (nx (nx c a) b).d := by simp only [nx]; omega
  have e : nx (lessC (nx c a) n) b = lessC (nx (nx c a) b) n := by apply ct_ext <;> simp only [nx, lessC] <;> omega
  refine ⟨lessC (nx (nx c a) b) n, lessC (nx c a) n, by rw [free_nx hy' hn, if_pos r2], by rw [free_nx hx' hn, if_pos r1], ?_⟩
  rw [do_nx (less_ok hx' r1) hb, e, if_pos (less_ok hy' r2)]
theorem do_two {u v : Ct} (hc : OkC c) (ha : Ok a) (hb : Ok b) (hx : chC addC c a = (x, 0)) (hy : chC addC x b = (y, 0)) (hu : chC addC c b = (u, 0)) (hv : chC addC u a = (v, 0)) : v = y := by
  obtain ⟨rfl, hx'⟩ := do_ok hc ha hx
  obtain ⟨rfl, hy'⟩ := do_ok hx' hb hy
  obtain ⟨rfl, hu'⟩ := do_ok hc hb hu
  obtain ⟨rfl, _⟩ := do_ok hu' ha hv
  apply ct_ext <;> simp only [nx] <;> omega
theorem do_held (hc : OkC c) (hn : Ok n) (hx : chC addC c n = (x, 0)) : OkC x ∧ max n 0 ≤ x.u ∧ max (-n) 0 ≤ x.d := by
  obtain ⟨rfl, hx'⟩ := do_ok hc hn hx
  obtain ⟨h1, h2, h3, h4, h5, h6, h7, h8, h9⟩ := hc
  refine ⟨hx', ?_⟩
  simp only [nx]
  omega
end
end Go.Proofs.Ytodgnhkaglcjnaa.Cnt
