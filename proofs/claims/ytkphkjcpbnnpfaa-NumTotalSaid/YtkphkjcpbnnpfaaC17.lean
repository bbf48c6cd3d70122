/- A contract of slices.Concat of two lists. -/
import Derived.Test.YtkphkjcpbnnpfaaC16
namespace Go.Proofs.Ytkphkjcpbnnpfaa.Num
open Go.RowKit Go.ChangeShapes
set_option linter.unusedVariables false

theorem concat_two (g cap : Nat) (v1 v2 : Value) (l1 l2 : List Int) (w : World) (c1 : w.cell? ⟨g, 0, none⟩ = some v1) (c2 : w.cell? ⟨g, 1, none⟩ = some v2)
    (h1 : IsList w v1 l1) (h2 : IsList w v2 l2) (b1 : l1.length ≤ 1000) (b2 : l2.length ≤ 1000) :
    Calls Try.prog 36 #[.slice (some ⟨g, 0, none⟩) 2 cap] w (Owned w (l1 ++ l2)) := by
  have H1 := Lib.hid h1
  have H2 := Lib.hid h2
  have hgl : g < w.heap.size := World.block_lt_of_cell? w _ c1
  obtain ⟨a1, k1, rfl, _⟩ := h1
  obtain ⟨a2, k2, rfl, _⟩ := h2
  have C1 := Lib.hid c1
  have C2 := Lib.hid c2
  go_enter Try.func36, Try.ntmps36
  go_wp2
  refine wp_loop_rounds 3 ?_
  rw [rounds_succ]
  go_wp2
  rw [rounds_succ]
  go_wp2
  rw [rounds_succ]
  go_wp2_with (go_at_call 48; refine (grow_nil (l1.length + l2.length) (by omega) _).mono ?_; rintro e w1 ⟨v, rfl, hown, hb⟩)
  have d1 : w1.cell? ⟨g, 0, none⟩ = some (.slice a1 l1.length k1) := by rw [hb.cell (p := ⟨g, 0, none⟩) hgl]; exact C1.out
  have d2 : w1.cell? ⟨g, 1, none⟩ = some (.slice a2 l2.length k2) := by rw [hb.cell (p := ⟨g, 1, none⟩) hgl]; exact C2.out
  have D2 := Lib.hid d2
  have J1 := Lib.hid (H1.out.later hb)
  clear d2
  refine wp_loop_rounds 3 ?_
  rw [rounds_succ]
  go_wp2_with (at_builtin; refine il_append rfl _ _ rfl w.heap.size v 0 [] rfl hown a1 l1.length k1 l1 rfl J1.out (by omega) hb.size ?_; intro v2 w2 hown2 hg2 _; have hb2 := hb.grown hg2 hb.size (own_ge hown))
  have e2 : w2.cell? ⟨g, 1, none⟩ = some (.slice a2 l2.length k2) := by rw [hb2.cell (p := ⟨g, 1, none⟩) hgl]; exact C2.out
  have J2 := Lib.hid (H2.out.later hb2)
  have O2 := Lib.hid hown2
  clear hown hg2 hown2 d1
  rw [rounds_succ]
  go_wp2_with (at_builtin; refine il_append rfl _ _ rfl w.heap.size v2 (0 + l1.length) ([] ++ l1) rfl O2.out a2 l2.length k2 l2 rfl J2.out (by omega) hb2.size ?_; intro v3 w3 hown3 hg3 _; have hb3 := hb2.grown hg3 hb2.size (own_ge O2.out))
  rw [rounds_succ]
  go_wp2
  go_ret
  refine ⟨v3, rfl, ?_, hb3⟩
  rw [List.length_append]
  rw [Nat.zero_add] at hown3
  exact hown3
/-- The sum of a list of numbers that are allowed. -/
theorem sum_to (v : Value) (l : List Int) (S : Int) (w : World) (h : IsList w v l) (hok : ∀ z ∈ l, Ok z) (hn : l.length ≤ 10000) (hS : l.sum = S) :
    Calls Try.prog 24 #[v] w fun r w' => r = .returned (.tuple #[.int .i64 (vl (okB S) S), .int .i64 (er (okB S))]) ∧ Below w.heap.size w w' := by
  subst hS
  have hz : ∀ i, i < l.length → I64 (l.getD i 0) := by
    intro i hi
    refine ok_i64 (hok _ ?_)
    rw [List.getD_eq_getElem?_getD, List.getElem?_eq_getElem hi]
    exact List.getElem_mem _
  have h2 := sum_list v l w h hz
  have e := sumB_good hok
  have e1 : sumV l = vl (okB l.sum) l.sum := by unfold sumV; rw [if_neg (by omega), e]
  have e2 : sumE l = er (okB l.sum) := by unfold sumE; rw [if_neg (by omega), e]
  rw [e1, e2] at h2
  exact h2
end Go.Proofs.Ytkphkjcpbnnpfaa.Num
