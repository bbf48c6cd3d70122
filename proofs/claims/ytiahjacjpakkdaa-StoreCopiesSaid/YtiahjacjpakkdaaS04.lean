/- Contracts of num.Sum, Clamp, Zig and Zag. -/
import Derived.Test.YtiahjacjpakkdaaS03
namespace Go.Proofs.Ytiahjacjpakkdaa.Num
open Go.RowKit

def sumB (l : List Int) : Bool := l.all okB && okB l.sum

/-- The total, which lies in the block B, is that of the first k numbers; what was there before is as it was. -/
structure SumAt (w : World) (B : Nat) (l : List Int) (k : Nat) (wr : World) : Prop where
  c0 : wr.cell? ⟨B, 0, none⟩ = some (.int .u64 (lo (l.take k).sum))
  c1 : wr.cell? ⟨B, 1, none⟩ = some (.int .u64 (hi (l.take k).sum))
  f0 : wr.frozen? ⟨B, 0, none⟩ = false
  f1 : wr.frozen? ⟨B, 1, none⟩ = false
  bel : Below B w wr
  size : B < wr.heap.size
  ok : ∀ z ∈ l.take k, Ok z

theorem SumAt.later {w : World} {B : Nat} {l : List Int} {k : Nat} {w1 w2 : World} (h : SumAt w B l k w1) (hb : Below w1.heap.size w1 w2) : SumAt w B l k w2 := by
  obtain ⟨h1, h2, h3, h4, h5, h6, h7⟩ := h
  refine ⟨?_, ?_, ?_, ?_, h5.trans (hb.mono (by omega)), Nat.lt_of_lt_of_le h6 hb.size, h7⟩
  · rw [hb.cell (p := ⟨B, 0, none⟩) h6]; exact h1
  · rw [hb.cell (p := ⟨B, 1, none⟩) h6]; exact h2
  · rw [hb.frozen (p := ⟨B, 0, none⟩) h6]; exact h3
  · rw [hb.frozen (p := ⟨B, 1, none⟩) h6]; exact h4
theorem SumAt.drew {w : World} {B : Nat} {l : List Int} {k : Nat} {w1 : World} (h : SumAt w B l k w1) : SumAt w B l k w1.drew := ⟨h.c0, h.c1, h.f0, h.f1, h.bel.drew, h.size, h.ok⟩
theorem sum_take (l : List Int) (k : Nat) (hk : k < l.length) : (l.take (k + 1)).sum = (l.take k).sum + l.getD k 0 := by
  rw [List.take_succ_eq_append_getElem hk, List.sum_append]
  simp [List.getD_eq_getElem?_getD, List.getElem?_eq_getElem hk]
theorem mem_take {l : List Int} {k : Nat} (hk : k < l.length) (h : ∀ z ∈ l.take k, Ok z) (hz : Ok (l.getD k 0)) : ∀ z ∈ l.take (k + 1), Ok z := by
  intro z h1
  rw [List.take_succ_eq_append_getElem hk] at h1
  rw [List.mem_append, List.mem_singleton] at h1
  rcases h1 with h1 | h1
  · exact h z h1
  · subst h1
    simpa [List.getD_eq_getElem?_getD, List.getElem?_eq_getElem hk] using hz
/-- Behind the stores of a round. -/
theorem SumAt.next {w : World} {B : Nat} {l : List Int} {k : Nat} {w1 : World} (h : SumAt w B l k w1) (hk : k < l.length) (hz : Ok (l.getD k 0)) :
    SumAt w B l (k + 1) ((w1.setCell ⟨B, 0, none⟩ (.int .u64 (lo ((l.take k).sum + l.getD k 0)))).setCell ⟨B, 1, none⟩ (.int .u64 (hi ((l.take k).sum + l.getD k 0)))) := by
  rw [← sum_take l k hk]
  obtain ⟨y0, y1⟩ := two_stores (.int .u64 (lo (l.take (k + 1)).sum)) (.int .u64 (hi (l.take (k + 1)).sum)) h.c0 h.c1
  refine ⟨y0, y1, ?_, ?_, (h.bel.setCell (Nat.le_refl _) _).setCell (Nat.le_refl _) _, ?_, mem_take hk h.ok hz⟩
  · rw [World.frozen?_setCell, World.frozen?_setCell]; exact h.f0
  · rw [World.frozen?_setCell, World.frozen?_setCell]; exact h.f1
  · simpa [World.setCell] using h.size

theorem sumB_bad {l : List Int} {k : Nat} (hk : k < l.length) (h : ¬ Ok (l.getD k 0)) : sumB l = false := by
  have : l.all okB = false := by
    rw [List.all_eq_false]
    refine ⟨l[k], List.getElem_mem hk, ?_⟩
    have e : l.getD k 0 = l[k] := by simp [List.getD_eq_getElem?_getD, List.getElem?_eq_getElem hk]
    rw [e] at h
    simp [okB, h]
  simp [sumB, this]
theorem sumB_good {l : List Int} (h : ∀ z ∈ l, Ok z) : sumB l = okB l.sum := by
  have : l.all okB = true := by
    rw [List.all_eq_true]
    intro z hz
    exact okB_t (h z hz)
  simp [sumB, this]
theorem sum_bd : ∀ (l : List Int), (∀ z ∈ l, Ok z) → -(1152921504606846976 * (l.length : Int)) ≤ l.sum ∧ l.sum ≤ 1152921504606846976 * (l.length : Int)
  | [], _ => by simp
  | z :: l, h => by
    have h1 := sum_bd l (fun y hy => h y (List.mem_cons_of_mem _ hy))
    have h2 := h z (List.mem_cons_self ..)
    unfold Ok at h2
    simp only [List.sum_cons, List.length_cons]
    omega

set_option maxHeartbeats 2000000 in
theorem sum_some (b off cap : Nat) (l : List Int) (w : World) (hne : 0 < l.length) (hlen : l.length ≤ 10000)
    (hr : ∀ i, i < l.length → w.cell? ⟨b, off + i, none⟩ = some (.int .i64 (l.getD i 0))) (hz : ∀ i, i < l.length → I64 (l.getD i 0)) :
    Calls Try.prog 33 #[.slice (some ⟨b, off, none⟩) l.length cap] w fun e w' => e = .returned (.tuple #[.int .i64 (vl (sumB l) l.sum), .int .i64 (er (sumB l))]) ∧ Below w.heap.size w w' := by
  have hbw : b < w.heap.size := World.block_lt_of_cell? w _ (hr 0 hne)
  have Hr := Lib.hid hr
  have Hz := Lib.hid hz
  clear hr hz
  have h9 : decide (10000 < (l.length : Int)) = false := by simp; omega
  go_enter Try.func33, Try.ntmps33
  go_wp2
  go_loopw [12] (fun i wr => ∃ k : Nat, k ≤ l.length ∧ i = .int .i64 k ∧ SumAt w w.heap.size l k wr) (fun i _ => l.length - (intOf i).toNat)
  case atStart => exact ⟨0, Nat.zero_le _, rfl, ⟨by simp [go_sem, lo], by simp [go_sem, hi], by simp [go_sem], by simp [go_sem], (Below.refl _ _).alloc (Nat.le_refl _) _, by simp, by simp⟩⟩
  case round =>
    obtain ⟨k, hk, rfl, hs⟩ := hrel
    by_cases hlt : k < l.length
    · have hc : wr.cell? ⟨b, off + k, none⟩ = some (.int .i64 (l.getD k 0)) := by
        rw [hs.bel.cell (p := ⟨b, off + k, none⟩) hbw]; exact Hr.out k hlt
      have hn := SumAt.drew hs
      have HS := Lib.hid hs
      have x1 := hs.c0
      have x2 := hs.c1
      clear hs
      by_cases hok : Ok (l.getD k 0)
      · have hnext := fun w1 (h : SumAt w w.heap.size l k w1) => SumAt.next h hlt hok
        have hok := Lib.hid hok
        generalize hg : l.getD k 0 = z at *
        clear hg
        have Hn := Lib.hid hnext
        clear hnext
        go_wp2_with (first | (go_at_call 44; refine (check_ok _ _ hok.out).mono ?_; rintro e w' ⟨rfl, rfl⟩))
        (go_region_with (first
          | (go_at_call 52; refine (widen_any _ _ (ok_i64 hok.out)).mono ?_; rintro e w' ⟨rfl, hb⟩; have hn := SumAt.later hn hb; have x1 := hn.c0; have x2 := hn.c1)
          | (go_at_call 51; refine (plus_any _ _ _).mono ?_; rintro e w' ⟨rfl, hb⟩; have hn := SumAt.later hn hb; have x1 := hn.c0; have x2 := hn.c1; have x3 := hn.f0; have x4 := hn.f1)))
        all_goals
          go_wp2
          go_roundw
          case rel => exact ⟨k + 1, by omega, by go_num, Hn.out _ hn⟩
          case measure => simp [intOf]; omega
      · have hbad := Lib.hid (sumB_bad hlt hok)
        have hok := Lib.hid hok
        generalize hg : l.getD k 0 = z at *
        clear hg
        have hbel := HS.out.bel
        go_wp2_with (first | (go_at_call 44; refine (check_no _ _ hok.out).mono ?_; rintro e w' ⟨rfl, rfl⟩))
        go_ret2
        exact ⟨by rw [hbad.out]; rfl, hbel⟩
    · obtain rfl : k = l.length := by omega
      have hall : ∀ z ∈ l, Ok z := by have := hs.ok; rwa [List.take_length] at this
      have x1 := hs.c0
      have x2 := hs.c1
      rw [List.take_length] at x1 x2
      have hb0 := hs.bel
      have hbd := sum_bd l hall
      have hgood := sumB_good hall
      have Hbd : Hid (-170141183460469231731687303715884105728 ≤ l.sum ∧ l.sum < 170141183460469231731687303715884105728) := by show _ ∧ _; omega
      clear hall hbd hs
      by_cases hok : Ok l.sum
      · have hfin := Lib.hid (hgood.trans (okB_t hok))
        clear hgood
        have hok := Lib.hid hok
        go_wp2_with (first | (go_at_call 53; refine (narrow_ok _ _ hok.out).mono ?_; rintro e w2 ⟨rfl, hb2⟩))
        go_ret2
        exact ⟨by rw [hfin.out]; rfl, hb0.trans (hb2.mono hb0.size)⟩
      · have hfin := Lib.hid (hgood.trans (okB_f hok))
        clear hgood
        have hok := Lib.hid hok
        go_wp2_with (first | (go_at_call 53; refine (narrow_no _ _ Hbd.out hok.out).mono ?_; rintro e w2 ⟨rfl, hb2⟩))
        go_ret2
        exact ⟨by rw [hfin.out]; rfl, hb0.trans (hb2.mono hb0.size)⟩

theorem narrow_zero (w : World) :
    Calls Try.prog 53 #[.agg #[.int .u64 0, .int .u64 0]] w fun e w' => e = .returned (.tuple #[.int .i64 0, .int .i64 0]) ∧ Below w.heap.size w w' :=
  narrow_ok 0 w (by unfold Ok; omega)
/-- No numbers. -/
theorem sum_none (a : Option Addr) (cap : Nat) (w : World) :
    Calls Try.prog 33 #[.slice a 0 cap] w fun e w' => e = .returned (.tuple #[.int .i64 0, .int .i64 0]) ∧ Below w.heap.size w w' := by
  go_enter Try.func33, Try.ntmps33
  go_wp2
  refine wp_loop_rounds 1 ?_
  rw [rounds_succ]
  go_wp2_with (first | (go_at_call 53; refine (narrow_zero _).mono ?_; rintro e w2 ⟨rfl, hb2⟩))
  go_ret2
  exact ⟨rfl, Below.more (by go_grown) hb2⟩

/-- Too many numbers. -/
theorem sum_many (a : Option Addr) (n cap : Nat) (w : World) (h : 10000 < n) :
    Calls Try.prog 33 #[.slice a n cap] w fun e w' => e = .returned (.tuple #[.int .i64 0, .int .i64 12]) ∧ Below w.heap.size w w' := by
  go_enter Try.func33, Try.ntmps33
  go_wp2
  go_ret2
  exact ⟨rfl, by go_grown⟩

end Go.Proofs.Ytiahjacjpakkdaa.Num
