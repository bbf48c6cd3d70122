/- Contracts of slices.Clone and Equal at []int64, of num.Sum and of the document's Sum over lists. -/
import Derived.Test.YtkphkjcpbnnpfaaC11
import Derived.Deep.QuietTactic
import Derived.BigQuiet
namespace Go.Proofs.Ytkphkjcpbnnpfaa.Num
open Go.RowKit Go.ChangeShapes
set_option linter.unusedVariables false

/-- The call gives back a slice of its own that reads as l; what was there before is as it was. -/
def Owned (w : World) (l : List Int) (e : Ending) (w' : World) : Prop := ∃ v, e = .returned v ∧ w'.ownsRow w.heap.size 2 1 v l.length (ints l) ∧ Below w.heap.size w w'

theorem own_list {w : World} {base : Nat} {v : Value} {l : List Int} (h : w.ownsRow base 2 1 v l.length (ints l)) : IsList w v l := by
  obtain ⟨_, ⟨rfl, h0⟩ | ⟨g, cap, cur, rfl, hb, hh, hle, _, hsz, hx⟩⟩ := h
  · exact ⟨none, 0, by rw [h0], fun hp => by omega⟩
  · refine ⟨_, cap, rfl, fun _ => ⟨g, 0, rfl, fun i hi => ?_⟩⟩
    have h1 : (ints l)[i]? = some (.int .i64 (l.getD i 0)) := by
      simp [ints, List.getElem?_map, List.getElem?_eq_getElem hi, List.getD_eq_getElem?_getD]
    rw [← hx, List.getElem?_take] at h1
    split at h1
    · rw [Nat.zero_add]
      exact blk_cell (cur := cur.toList) (e := 2) (by simpa using hh) i _ h1
    · cases h1
theorem blk_list {w : World} {g n : Nat} {l : List Int} (h : w.heap[g]? = some (.cells (ints l).toArray 2 (0, 0))) (hn : n = l.length) : IsList w (.slice (some ⟨g, 0, none⟩) n n) l := by
  subst hn
  refine ⟨_, _, rfl, fun _ => ⟨g, 0, rfl, fun i hi => ?_⟩⟩
  rw [Nat.zero_add]
  exact blk_cell h i _ (by simp [ints, List.getElem?_map, List.getElem?_eq_getElem hi, List.getD_eq_getElem?_getD])

set_option maxHeartbeats 1000000 in
/-- A slice that is not nil is copied. -/
theorem clone_any (ad : Addr) (cap : Nat) (l : List Int) (w : World) (hv : IsList w (.slice (some ad) l.length cap) l) (hl : l.length ≤ 100000) :
    Calls Try.prog 23 #[.slice (some ad) l.length cap] w (Owned w l) := by
  obtain ⟨i0, hi, hz0, hz1, hz2⟩ := info_parts info_i64
  obtain ⟨a, cap', he, hcells⟩ := hv
  injection he with he1 he2 he3
  subst he1 he3
  have hnil := fun w' => Lib.run_eql_slice_nil (P := Try.prog) w' 28 2 (some ad) l.length cap 0 0 Try.underlying28
  have hsrc := src_of hcells ((Below.refl w.heap.size w).alloc (Nat.le_refl _) (.cells #[] 2))
  clear hcells
  have hown : (w.alloc (.cells #[] 2)).ownsRow w.heap.size 2 1 (.slice (some ⟨w.heap.size, 0, none⟩) 0 0) 0 [] := by
    refine ⟨rfl, .inr ⟨w.heap.size, 0, #[], rfl, Nat.le_refl _, ?_, Nat.le_refl _, by unfold maxLen; omega, rfl, rfl⟩⟩
    exact (MapKept.heap_alloc w _).1
  go_enter Try.func23, Try.ntmps23
  go_wp2_with (with_reducible refine wpList_append_own _ rfl (.tmp 5) (.tmp 6) 28 rfl w.heap.size 2 i0 (.int .i64 0) 1 8 Try.underlying28 hi hz0 hz1 hz2 rfl (by decide) (.slice (some ⟨w.heap.size, 0, none⟩) 0 0) 0 [] rfl hown ad l.length cap (ints l) rfl ?c1 ?c2 (ints_one l) ?c3 ?c4 ?c5 ?_)
  case c1 => exact ints_len l
  case c2 =>
    intro j u hj
    obtain ⟨ad', e1, h1⟩ := hsrc (by rw [ints_len]; exact Nat.lt_of_le_of_lt (Nat.zero_le _) (ints_get l j u hj).1)
    injection e1 with e1
    subst e1
    exact h1 j u hj
  case c3 => unfold maxLen; omega
  case c4 => omega
  intro v' w2 hown2 hg hn
  have hb2 : Below w.heap.size w w2 := ((Below.refl w.heap.size w).alloc (Nat.le_refl _) _).grown hg (by simp) (fun k h => by simp [Value.ownBlock] at h; omega)
  go_wp2
  go_ret
  exact ⟨v', rfl, hown2, hb2⟩

def DecEq (l1 l2 : List Int) (w : World) (e : Ending) (w' : World) : Prop := e = .returned (.bool (decide (l1 = l2))) ∧ Below w.heap.size w w'

set_option maxHeartbeats 1000000 in
/-- Two slices that read as the same list are equal. -/
theorem equal_same (v1 v2 : Value) (l : List Int) (w : World) (h1 : IsList w v1 l) (h2 : IsList w v2 l) (hl : l.length ≤ 100000) :
    Calls Try.prog 26 #[v1, v2] w fun e w' => e = .returned (.bool true) ∧ Below w.heap.size w w' := by
  obtain ⟨a1, cap1, rfl, hc1⟩ := h1
  obtain ⟨a2, cap2, rfl, hc2⟩ := h2
  rcases Nat.eq_zero_or_pos l.length with h0 | hp
  · have hc1 := Lib.hid hc1
    rw [h0]
    go_enter Try.func26, Try.ntmps26
    go_wp2
    refine wp_loop_rounds 1 ?_
    rw [rounds_succ]
    go_wp2
    go_ret
    exact ⟨rfl, Below.refl _ _⟩
  · obtain ⟨b1, o1, rfl, hd1⟩ := hc1 hp
    obtain ⟨b2, o2, rfl, hd2⟩ := hc2 hp
    have hb1 : b1 < w.heap.size := World.block_lt_of_cell? w _ (hd1 0 hp)
    have hb2 : b2 < w.heap.size := World.block_lt_of_cell? w _ (hd2 0 hp)
    clear hc1 hc2
    have hc1 := Lib.hid hd1
    have hc2 := Lib.hid hd2
    clear hd1 hd2
    go_enter Try.func26, Try.ntmps26
    go_wp2
    go_loopw [13] (fun i wr => ∃ k : Nat, k ≤ l.length ∧ i = .int .i64 k ∧ Below w.heap.size w wr) (fun i _ => l.length - (intOf i).toNat)
    case atStart => exact ⟨0, Nat.zero_le _, rfl, Below.refl _ _⟩
    case round =>
      obtain ⟨k, hk, rfl, hbel⟩ := hrel
      by_cases hlt : k < l.length
      · have g1 : wr.cell? ⟨b1, o1 + k, none⟩ = some (.int .i64 (l.getD k 0)) := by
          rw [hbel.cell (p := ⟨b1, o1 + k, none⟩) hb1]; exact hc1.out k hlt
        have g2 : wr.cell? ⟨b2, o2 + k, none⟩ = some (.int .i64 (l.getD k 0)) := by
          rw [hbel.cell (p := ⟨b2, o2 + k, none⟩) hb2]; exact hc2.out k hlt
        generalize l.getD k 0 = z at *
        have i1 : 0 ≤ (k : Int) := by omega
        have i2 : (k : Int) < (l.length : Int) := by omega
        go_wp2
        go_region
        all_goals
          go_wp2
          go_roundw
          case rel => exact ⟨k + 1, by omega, by go_num, hbel.drew⟩
          case measure => simp [intOf]; omega
      · go_wp2
        go_ret
        exact ⟨rfl, hbel⟩

end Go.Proofs.Ytkphkjcpbnnpfaa.Num
