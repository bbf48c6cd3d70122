/- The walks of NumExact and NumRing. -/
import Derived.Test.YtkphkjcpbnnpfaaC07
namespace Go.Proofs.Ytkphkjcpbnnpfaa.Num
open Go.RowKit Go.ChangeShapes
set_option linter.unusedVariables false

theorem ex_sum2 (b cap : Nat) (a : Int) (w : World) (ha : I64 a) (h : ¬ Ok a) (h0 : w.cell? ⟨b, 0, none⟩ = some (.int .i64 0)) (h1 : w.cell? ⟨b, 1, none⟩ = some (.int .i64 a)) :
    Calls Try.prog 24 #[.slice (some ⟨b, 0, none⟩) 2 cap] w fun e w' => e = .returned (.tuple #[.int .i64 0, .int .i64 7]) ∧ Below w.heap.size w w' := by
  have := sum_some b 0 cap [0, a] w (by simp) (by simp)
    (fun i hi => by
      have : i = 0 ∨ i = 1 := by simp at hi; omega
      rcases this with rfl | rfl
      · exact h0
      · exact h1)
    (fun i hi => by
      have : i = 0 ∨ i = 1 := by simp at hi; omega
      rcases this with rfl | rfl
      · show I64 0; unfold I64; omega
      · exact ha)
  have e : sumB [0, a] = false := sumB_bad (k := 1) (by simp) h
  rw [e] at this
  exact this

theorem small_mul {x y : Int} (hx : -1073741824 ≤ x ∧ x ≤ 1073741824) (hy : -1073741824 ≤ y ∧ y ≤ 1073741824) : Ok (x * y) := by
  have h1 : x.natAbs ≤ 1073741824 := by omega
  have h2 : y.natAbs ≤ 1073741824 := by omega
  have h3 := Nat.mul_le_mul h1 h2
  rw [← Int.natAbs_mul] at h3
  unfold Ok
  generalize x * y = P at *
  omega

set_option maxRecDepth 100000 in
set_option maxHeartbeats 4000000 in
theorem w_numExact (a0 : Int) (a1 : Int) (w0 : (Lit.int .i64 a0).wf = true) (w1 : (Lit.int .i64 a1).wf = true) (w : World) :
    Calls Try.prog 8 #[.int .i64 a0, .int .i64 a1] w fun e w' => e = .returned (.bool true) ∧ Below w.heap.size w w' := by
  have i0 := Lib.hid (wf_i64 w0)
  have i1 := Lib.hid (wf_i64 w1)
  clear w0 w1
  have hX : -1073741824 ≤ a0 / 8589934592 ∧ a0 / 8589934592 ≤ 1073741824 := by have := i0.out; unfold I64 at this; omega
  have hY : -1073741824 ≤ a1 / 8589934592 ∧ a1 / 8589934592 ≤ 1073741824 := by have := i1.out; unfold I64 at this; omega
  obtain ⟨X, eX⟩ : ∃ X, a0 / 8589934592 = X := ⟨_, rfl⟩
  obtain ⟨Y, eY⟩ : ∃ Y, a1 / 8589934592 = Y := ⟨_, rfl⟩
  rw [eX] at hX
  rw [eY] at hY
  have ox := Lib.hid (show Ok X by unfold Ok; omega)
  have oy := Lib.hid (show Ok Y by unfold Ok; omega)
  have oa := Lib.hid (show Ok (X + Y) by unfold Ok; omega)
  have os := Lib.hid (show Ok (X - Y) by unfold Ok; omega)
  have om := Lib.hid (small_mul hX hY)
  have nm : IntKind.i64.wrap (X * Y) = X * Y := IntWalk.i64_in _ (by have := om.out; unfold Ok at this; omega)
  have G := Below.refl w.heap.size w
  rcases (by omega : (-1152921504606846976 ≤ a0 ∧ a0 ≤ 1152921504606846976) ∨ a0 < -1152921504606846976 ∨ 1152921504606846976 < a0) with c | c | c
  · have oc := Lib.hid (show Ok a0 from c)
    go_enter Try.func8, Try.ntmps8
    go_wp2_with (first
      | (go_at_call 13; refine (add_ok _ _ _ ox.out oy.out oa.out).mono ?_; rintro e w' ⟨rfl, hb⟩; have G := Below.more G hb; clear hb)
      | (go_at_call 17; refine (sub_ok _ _ _ ox.out oy.out os.out).mono ?_; rintro e w' ⟨rfl, hb⟩; have G := Below.more G hb; clear hb)
      | (go_at_call 19; refine (mul_ok _ _ _ ox.out oy.out om.out).mono ?_; rintro e w' ⟨rfl, hb⟩; have G := Below.more G hb; clear hb)
      | (go_at_call 15; refine (check_ok _ _ oc.out).mono ?_; rintro e w' ⟨rfl, rfl⟩)
      | (go_at_call 21; refine (works_any _).mono ?_; rintro e w' ⟨rfl, hb⟩; have G := Below.more G hb; clear hb))
    go_ret
    exact ⟨rfl, G⟩
  all_goals
    have oc := Lib.hid (show ¬ Ok a0 by unfold Ok; omega)
    have o0 := Lib.hid (show Ok 0 by unfold Ok; omega)
    go_enter Try.func8, Try.ntmps8
    go_wp2_with (first
      | (go_at_call_of 13 (X); refine (add_ok _ _ _ ox.out oy.out oa.out).mono ?_; rintro e w' ⟨rfl, hb⟩; have G := Below.more G hb; clear hb)
      | (go_at_call_of 17 (X); refine (sub_ok _ _ _ ox.out oy.out os.out).mono ?_; rintro e w' ⟨rfl, hb⟩; have G := Below.more G hb; clear hb)
      | (go_at_call_of 19 (X); refine (mul_ok _ _ _ ox.out oy.out om.out).mono ?_; rintro e w' ⟨rfl, hb⟩; have G := Below.more G hb; clear hb)
      | (go_at_call 13; refine (add_no1 a0 0 _ oc.out).mono ?_; rintro e w' ⟨rfl, hb⟩; have G := Below.more G hb; clear hb)
      | (go_at_call 17; refine (sub_no2 0 a0 _ o0.out oc.out).mono ?_; rintro e w' ⟨rfl, hb⟩; have G := Below.more G hb; clear hb)
      | (go_at_call 19; refine (mul_no2 0 a0 _ o0.out oc.out).mono ?_; rintro e w' ⟨rfl, hb⟩; have G := Below.more G hb; clear hb)
      | (go_at_call 24; refine (ex_sum2 _ _ a0 _ i0.out oc.out (by simp [go_sem]) (by simp [go_sem])).mono ?_; rintro e w' ⟨rfl, hb⟩; have G := Below.more (G.alloc G.size _) hb; clear hb)
      | (go_at_call 15; refine (check_no _ _ oc.out).mono ?_; rintro e w' ⟨rfl, rfl⟩)
      | (go_at_call 21; refine (works_any _).mono ?_; rintro e w' ⟨rfl, hb⟩; have G := Below.more G hb; clear hb))
    go_ret
    exact ⟨rfl, G⟩


/-! NumRing -/
def cutV (a : Int) : Int := if Ok a then a else a.tmod 1152921504606846977
theorem cutV_ok (a : Int) : Ok (cutV a) := by
  unfold cutV
  split
  · assumption
  · unfold Ok
    have h1 := Int.tmod_lt_of_pos a (show (0 : Int) < 1152921504606846977 by omega)
    have h2 := Int.lt_tmod_of_pos a (show (0 : Int) < 1152921504606846977 by omega)
    omega
theorem cut_any (a : Int) (w : World) (h : I64 a) :
    Calls Try.prog 35 #[.int .i64 a] w fun e w' => e = .returned (.int .i64 (cutV a)) ∧ w = w' := by
  unfold I64 at h
  rcases (by omega : (-1152921504606846976 ≤ a ∧ a ≤ 1152921504606846976) ∨ a < -1152921504606846976 ∨ 1152921504606846976 < a) with c | c | c
  · have e : cutV a = a := by unfold cutV; rw [if_pos (show Ok a from c)]
    rw [e]
    clear e
    go_enter Try.func35, Try.ntmps35
    go_wp2
    go_ret
    exact ⟨rfl, rfl⟩
  all_goals
    have e : cutV a = a.tmod 1152921504606846977 := by unfold cutV; rw [if_neg (by unfold Ok; omega)]
    have e := Lib.hid e
    go_enter Try.func35, Try.ntmps35
    go_wp2
    go_ret
    refine ⟨ret_int ?_, rfl⟩
    first | rfl | exact e.out.symm | exact (Int.tmod_eq_emod_of_nonneg (by omega)).symm | exact (e.out.trans (Int.tmod_eq_emod_of_nonneg (by omega))).symm

theorem cut_to (a A : Int) (w : World) (h : I64 a) (e : cutV a = A) :
    Calls Try.prog 35 #[.int .i64 a] w fun e w' => e = .returned (.int .i64 A) ∧ w = w' := by
  rw [← e]; exact cut_any a w h

theorem vl_ok (c : Bool) (n : Int) (h : c = true → Ok n) : Ok (vl c n) := by
  unfold vl
  split
  · rename_i g; exact h g
  · unfold Ok; omega
theorem addB_ok {a b : Int} (h : addB a b = true) : Ok (a + b) := by simp [addB, okB] at h; exact h.2
theorem mulB_ok {a b : Int} (h : mulB a b = true) : Ok (a * b) := by simp [mulB, okB] at h; exact h.2
theorem addB_comm (a b : Int) : addB b a = addB a b := by simp [addB, Int.add_comm, Bool.and_comm]
theorem mulB_comm (a b : Int) : mulB b a = mulB a b := by simp [mulB, Int.mul_comm, Bool.and_comm]
theorem add_sw (a b : Int) (w : World) :
    Calls Try.prog 13 #[.int .i64 b, .int .i64 a] w fun e w' => e = .returned (.tuple #[.int .i64 (vl (addB a b) (a + b)), .int .i64 (er (addB a b))]) ∧ Below w.heap.size w w' := by
  have := add_any b a w
  rwa [addB_comm a b, Int.add_comm b a] at this
theorem mul_sw (a b : Int) (w : World) :
    Calls Try.prog 19 #[.int .i64 b, .int .i64 a] w fun e w' => e = .returned (.tuple #[.int .i64 (vl (mulB a b) (a * b)), .int .i64 (er (mulB a b))]) ∧ Below w.heap.size w w' := by
  have := mul_any b a w
  rwa [mulB_comm a b, Int.mul_comm b a] at this

set_option maxRecDepth 100000 in
set_option maxHeartbeats 4000000 in
theorem ring_no (a b c A B C : Int) (w : World) (ia : Hid (I64 a)) (ib : Hid (I64 b)) (ic : Hid (I64 c)) (ea : Hid (cutV a = A)) (eb : Hid (cutV b = B)) (ec : Hid (cutV c = C)) (h : addB A B = false) :
    Calls Try.prog 7 #[.int .i64 a, .int .i64 b, .int .i64 c] w fun e w' => e = .returned (.bool true) ∧ Below w.heap.size w w' := by
  have a1 : ∀ w, Calls Try.prog 13 #[.int .i64 A, .int .i64 B] w fun e w' => e = .returned (.tuple #[.int .i64 0, .int .i64 7]) ∧ Below w.heap.size w w' := fun w => by
    have := add_any A B w; rw [h] at this; exact this
  have a2 : ∀ w, Calls Try.prog 13 #[.int .i64 B, .int .i64 A] w fun e w' => e = .returned (.tuple #[.int .i64 0, .int .i64 7]) ∧ Below w.heap.size w w' := fun w => by
    have := add_sw A B w; rw [h] at this; exact this
  have A1 := Lib.hid a1
  have A2 := Lib.hid a2
  clear a1 a2
  have G := Below.refl w.heap.size w
  go_enter Try.func7, Try.ntmps7
  go_wp2_with (first
    | (go_at_call_of 35 (a); refine (cut_to a A _ ia.out ea.out).mono ?_; rintro e w' ⟨rfl, rfl⟩)
    | (go_at_call_of 35 (b); refine (cut_to b B _ ib.out eb.out).mono ?_; rintro e w' ⟨rfl, rfl⟩)
    | (go_at_call_of 35 (c); refine (cut_to c C _ ic.out ec.out).mono ?_; rintro e w' ⟨rfl, rfl⟩)
    | (go_at_call 13; ((with_reducible refine (A1.out _).mono ?_)); rintro e w' ⟨rfl, hb⟩; have G := Below.more G hb; clear hb)
    | (go_at_call 13; ((with_reducible refine (A2.out _).mono ?_)); rintro e w' ⟨rfl, hb⟩; have G := Below.more G hb; clear hb)
    | (go_at_call 19; ((with_reducible refine (mul_any A B _).mono ?_)); rintro e w' ⟨rfl, hb⟩; have G := Below.more G hb; clear hb)
    | (go_at_call 19; ((with_reducible refine (mul_sw A B _).mono ?_)); rintro e w' ⟨rfl, hb⟩; have G := Below.more G hb; clear hb)
    | (go_at_call_of 15 (0 : Int); refine (check_ok _ _ (by unfold Ok; omega)).mono ?_; rintro e w' ⟨rfl, rfl⟩)
    | (go_at_call 15; refine (check_ok _ _ (vl_ok _ _ mulB_ok)).mono ?_; rintro e w' ⟨rfl, rfl⟩)
    | (go_at_call 21; refine (works_any _).mono ?_; rintro e w' ⟨rfl, hb⟩; have G := Below.more G hb; clear hb))
  go_ret
  exact ⟨rfl, G⟩


set_option maxRecDepth 100000 in
set_option maxHeartbeats 4000000 in
theorem ring_y1 (a b c A B C S P P1 P2 k l : Int) (w : World) (ia : Hid (I64 a)) (ib : Hid (I64 b)) (ic : Hid (I64 c)) (ea : Hid (cutV a = A)) (eb : Hid (cutV b = B)) (ec : Hid (cutV c = C)) (os : Hid (Ok S))
    (A1 : Hid (∀ w, Calls Try.prog 13 #[.int .i64 A, .int .i64 B] w fun e w' => e = .returned (.tuple #[.int .i64 S, .int .i64 0]) ∧ Below w.heap.size w w')) (A2 : Hid (∀ w, Calls Try.prog 13 #[.int .i64 B, .int .i64 A] w fun e w' => e = .returned (.tuple #[.int .i64 S, .int .i64 0]) ∧ Below w.heap.size w w')) (S1 : Hid (∀ w, Calls Try.prog 17 #[.int .i64 S, .int .i64 B] w fun e w' => e = .returned (.tuple #[.int .i64 A, .int .i64 0]) ∧ Below w.heap.size w w')) (M0 : Hid (∀ w, Calls Try.prog 19 #[.int .i64 S, .int .i64 C] w fun e w' => e = .returned (.tuple #[.int .i64 P, .int .i64 k]) ∧ Below w.heap.size w w')) (M1 : Hid (∀ w, Calls Try.prog 19 #[.int .i64 A, .int .i64 C] w fun e w' => e = .returned (.tuple #[.int .i64 P1, .int .i64 7]) ∧ Below w.heap.size w w')) (M2 : Hid (∀ w, Calls Try.prog 19 #[.int .i64 B, .int .i64 C] w fun e w' => e = .returned (.tuple #[.int .i64 P2, .int .i64 l]) ∧ Below w.heap.size w w')) :
    Calls Try.prog 7 #[.int .i64 a, .int .i64 b, .int .i64 c] w fun e w' => e = .returned (.bool true) ∧ Below w.heap.size w w' := by
  have G := Below.refl w.heap.size w
  go_enter Try.func7, Try.ntmps7
  go_wp2_with (first
    | (go_at_call_of 35 (a); refine (cut_to a A _ ia.out ea.out).mono ?_; rintro e w' ⟨rfl, rfl⟩)
    | (go_at_call_of 35 (b); refine (cut_to b B _ ib.out eb.out).mono ?_; rintro e w' ⟨rfl, rfl⟩)
    | (go_at_call_of 35 (c); refine (cut_to c C _ ic.out ec.out).mono ?_; rintro e w' ⟨rfl, rfl⟩)
    | (go_at_call 13; ((with_reducible refine (A1.out _).mono ?_)); rintro e w' ⟨rfl, hb⟩; have G := Below.more G hb; clear hb)
    | (go_at_call 13; ((with_reducible refine (A2.out _).mono ?_)); rintro e w' ⟨rfl, hb⟩; have G := Below.more G hb; clear hb)
    | (go_at_call 17; ((with_reducible refine (S1.out _).mono ?_)); rintro e w' ⟨rfl, hb⟩; have G := Below.more G hb; clear hb)
    | (go_at_call 19; ((with_reducible refine (mul_any A B _).mono ?_)); rintro e w' ⟨rfl, hb⟩; have G := Below.more G hb; clear hb)
    | (go_at_call 19; ((with_reducible refine (mul_sw A B _).mono ?_)); rintro e w' ⟨rfl, hb⟩; have G := Below.more G hb; clear hb)
    | (go_at_call 19; ((with_reducible refine (M0.out _).mono ?_)); rintro e w' ⟨rfl, hb⟩; have G := Below.more G hb; clear hb)
    | (go_at_call 19; ((with_reducible refine (M1.out _).mono ?_)); rintro e w' ⟨rfl, hb⟩; have G := Below.more G hb; clear hb)
    | (go_at_call 19; ((with_reducible refine (M2.out _).mono ?_)); rintro e w' ⟨rfl, hb⟩; have G := Below.more G hb; clear hb)
    | (go_at_call_of 15 (S); refine (check_ok _ _ os.out).mono ?_; rintro e w' ⟨rfl, rfl⟩)
    | (go_at_call 15; refine (check_ok _ _ (vl_ok _ _ mulB_ok)).mono ?_; rintro e w' ⟨rfl, rfl⟩)
    | (go_at_call 21; refine (works_any _).mono ?_; rintro e w' ⟨rfl, hb⟩; have G := Below.more G hb; clear hb))
  go_ret
  exact ⟨rfl, G⟩

set_option maxRecDepth 100000 in
set_option maxHeartbeats 4000000 in
theorem ring_y2 (a b c A B C S P P1 P2 k l : Int) (w : World) (ia : Hid (I64 a)) (ib : Hid (I64 b)) (ic : Hid (I64 c)) (ea : Hid (cutV a = A)) (eb : Hid (cutV b = B)) (ec : Hid (cutV c = C)) (os : Hid (Ok S))
    (A1 : Hid (∀ w, Calls Try.prog 13 #[.int .i64 A, .int .i64 B] w fun e w' => e = .returned (.tuple #[.int .i64 S, .int .i64 0]) ∧ Below w.heap.size w w')) (A2 : Hid (∀ w, Calls Try.prog 13 #[.int .i64 B, .int .i64 A] w fun e w' => e = .returned (.tuple #[.int .i64 S, .int .i64 0]) ∧ Below w.heap.size w w')) (S1 : Hid (∀ w, Calls Try.prog 17 #[.int .i64 S, .int .i64 B] w fun e w' => e = .returned (.tuple #[.int .i64 A, .int .i64 0]) ∧ Below w.heap.size w w')) (M0 : Hid (∀ w, Calls Try.prog 19 #[.int .i64 S, .int .i64 C] w fun e w' => e = .returned (.tuple #[.int .i64 P, .int .i64 k]) ∧ Below w.heap.size w w')) (M1 : Hid (∀ w, Calls Try.prog 19 #[.int .i64 A, .int .i64 C] w fun e w' => e = .returned (.tuple #[.int .i64 P1, .int .i64 0]) ∧ Below w.heap.size w w')) (M2 : Hid (∀ w, Calls Try.prog 19 #[.int .i64 B, .int .i64 C] w fun e w' => e = .returned (.tuple #[.int .i64 P2, .int .i64 7]) ∧ Below w.heap.size w w')) :
    Calls Try.prog 7 #[.int .i64 a, .int .i64 b, .int .i64 c] w fun e w' => e = .returned (.bool true) ∧ Below w.heap.size w w' := by
  have G := Below.refl w.heap.size w
  go_enter Try.func7, Try.ntmps7
  go_wp2_with (first
    | (go_at_call_of 35 (a); refine (cut_to a A _ ia.out ea.out).mono ?_; rintro e w' ⟨rfl, rfl⟩)
    | (go_at_call_of 35 (b); refine (cut_to b B _ ib.out eb.out).mono ?_; rintro e w' ⟨rfl, rfl⟩)
    | (go_at_call_of 35 (c); refine (cut_to c C _ ic.out ec.out).mono ?_; rintro e w' ⟨rfl, rfl⟩)
    | (go_at_call 13; ((with_reducible refine (A1.out _).mono ?_)); rintro e w' ⟨rfl, hb⟩; have G := Below.more G hb; clear hb)
    | (go_at_call 13; ((with_reducible refine (A2.out _).mono ?_)); rintro e w' ⟨rfl, hb⟩; have G := Below.more G hb; clear hb)
    | (go_at_call 17; ((with_reducible refine (S1.out _).mono ?_)); rintro e w' ⟨rfl, hb⟩; have G := Below.more G hb; clear hb)
    | (go_at_call 19; ((with_reducible refine (mul_any A B _).mono ?_)); rintro e w' ⟨rfl, hb⟩; have G := Below.more G hb; clear hb)
    | (go_at_call 19; ((with_reducible refine (mul_sw A B _).mono ?_)); rintro e w' ⟨rfl, hb⟩; have G := Below.more G hb; clear hb)
    | (go_at_call 19; ((with_reducible refine (M0.out _).mono ?_)); rintro e w' ⟨rfl, hb⟩; have G := Below.more G hb; clear hb)
    | (go_at_call 19; ((with_reducible refine (M1.out _).mono ?_)); rintro e w' ⟨rfl, hb⟩; have G := Below.more G hb; clear hb)
    | (go_at_call 19; ((with_reducible refine (M2.out _).mono ?_)); rintro e w' ⟨rfl, hb⟩; have G := Below.more G hb; clear hb)
    | (go_at_call_of 15 (S); refine (check_ok _ _ os.out).mono ?_; rintro e w' ⟨rfl, rfl⟩)
    | (go_at_call 15; refine (check_ok _ _ (vl_ok _ _ mulB_ok)).mono ?_; rintro e w' ⟨rfl, rfl⟩)
    | (go_at_call 21; refine (works_any _).mono ?_; rintro e w' ⟨rfl, hb⟩; have G := Below.more G hb; clear hb))
  go_ret
  exact ⟨rfl, G⟩

set_option maxRecDepth 100000 in
set_option maxHeartbeats 4000000 in
theorem ring_y3 (a b c A B C S P P1 P2 k l : Int) (w : World) (ia : Hid (I64 a)) (ib : Hid (I64 b)) (ic : Hid (I64 c)) (ea : Hid (cutV a = A)) (eb : Hid (cutV b = B)) (ec : Hid (cutV c = C)) (os : Hid (Ok S))
    (A1 : Hid (∀ w, Calls Try.prog 13 #[.int .i64 A, .int .i64 B] w fun e w' => e = .returned (.tuple #[.int .i64 S, .int .i64 0]) ∧ Below w.heap.size w w')) (A2 : Hid (∀ w, Calls Try.prog 13 #[.int .i64 B, .int .i64 A] w fun e w' => e = .returned (.tuple #[.int .i64 S, .int .i64 0]) ∧ Below w.heap.size w w')) (S1 : Hid (∀ w, Calls Try.prog 17 #[.int .i64 S, .int .i64 B] w fun e w' => e = .returned (.tuple #[.int .i64 A, .int .i64 0]) ∧ Below w.heap.size w w')) (M0 : Hid (∀ w, Calls Try.prog 19 #[.int .i64 S, .int .i64 C] w fun e w' => e = .returned (.tuple #[.int .i64 P, .int .i64 k]) ∧ Below w.heap.size w w')) (M1 : Hid (∀ w, Calls Try.prog 19 #[.int .i64 A, .int .i64 C] w fun e w' => e = .returned (.tuple #[.int .i64 P1, .int .i64 0]) ∧ Below w.heap.size w w')) (M2 : Hid (∀ w, Calls Try.prog 19 #[.int .i64 B, .int .i64 C] w fun e w' => e = .returned (.tuple #[.int .i64 P2, .int .i64 0]) ∧ Below w.heap.size w w')) (A3 : Hid (∀ w, Calls Try.prog 13 #[.int .i64 P1, .int .i64 P2] w fun e w' => e = .returned (.tuple #[.int .i64 P, .int .i64 k]) ∧ Below w.heap.size w w')) :
    Calls Try.prog 7 #[.int .i64 a, .int .i64 b, .int .i64 c] w fun e w' => e = .returned (.bool true) ∧ Below w.heap.size w w' := by
  have G := Below.refl w.heap.size w
  go_enter Try.func7, Try.ntmps7
  go_wp2_with (first
    | (go_at_call_of 35 (a); refine (cut_to a A _ ia.out ea.out).mono ?_; rintro e w' ⟨rfl, rfl⟩)
    | (go_at_call_of 35 (b); refine (cut_to b B _ ib.out eb.out).mono ?_; rintro e w' ⟨rfl, rfl⟩)
    | (go_at_call_of 35 (c); refine (cut_to c C _ ic.out ec.out).mono ?_; rintro e w' ⟨rfl, rfl⟩)
    | (go_at_call 13; ((with_reducible refine (A1.out _).mono ?_)); rintro e w' ⟨rfl, hb⟩; have G := Below.more G hb; clear hb)
    | (go_at_call 13; ((with_reducible refine (A2.out _).mono ?_)); rintro e w' ⟨rfl, hb⟩; have G := Below.more G hb; clear hb)
    | (go_at_call 13; ((with_reducible refine (A3.out _).mono ?_)); rintro e w' ⟨rfl, hb⟩; have G := Below.more G hb; clear hb)
    | (go_at_call 17; ((with_reducible refine (S1.out _).mono ?_)); rintro e w' ⟨rfl, hb⟩; have G := Below.more G hb; clear hb)
    | (go_at_call 19; ((with_reducible refine (mul_any A B _).mono ?_)); rintro e w' ⟨rfl, hb⟩; have G := Below.more G hb; clear hb)
    | (go_at_call 19; ((with_reducible refine (mul_sw A B _).mono ?_)); rintro e w' ⟨rfl, hb⟩; have G := Below.more G hb; clear hb)
    | (go_at_call 19; ((with_reducible refine (M0.out _).mono ?_)); rintro e w' ⟨rfl, hb⟩; have G := Below.more G hb; clear hb)
    | (go_at_call 19; ((with_reducible refine (M1.out _).mono ?_)); rintro e w' ⟨rfl, hb⟩; have G := Below.more G hb; clear hb)
    | (go_at_call 19; ((with_reducible refine (M2.out _).mono ?_)); rintro e w' ⟨rfl, hb⟩; have G := Below.more G hb; clear hb)
    | (go_at_call_of 15 (S); refine (check_ok _ _ os.out).mono ?_; rintro e w' ⟨rfl, rfl⟩)
    | (go_at_call 15; refine (check_ok _ _ (vl_ok _ _ mulB_ok)).mono ?_; rintro e w' ⟨rfl, rfl⟩)
    | (go_at_call 21; refine (works_any _).mono ?_; rintro e w' ⟨rfl, hb⟩; have G := Below.more G hb; clear hb))
  go_ret
  exact ⟨rfl, G⟩

theorem w_numRing (a0 : Int) (a1 : Int) (a2 : Int) (w0 : (Lit.int .i64 a0).wf = true) (w1 : (Lit.int .i64 a1).wf = true) (w2 : (Lit.int .i64 a2).wf = true) (w : World) :
    Calls Try.prog 7 #[.int .i64 a0, .int .i64 a1, .int .i64 a2] w fun e w' => e = .returned (.bool true) ∧ Below w.heap.size w w' := by
  have ia := Lib.hid (wf_i64 w0)
  have ib := Lib.hid (wf_i64 w1)
  have ic := Lib.hid (wf_i64 w2)
  have oA := cutV_ok a0
  have oB := cutV_ok a1
  have oC := cutV_ok a2
  obtain ⟨A, ea⟩ : ∃ A, Hid (cutV a0 = A) := ⟨_, rfl⟩
  obtain ⟨B, eb⟩ : ∃ B, Hid (cutV a1 = B) := ⟨_, rfl⟩
  obtain ⟨C, ec⟩ : ∃ C, Hid (cutV a2 = C) := ⟨_, rfl⟩
  rw [ea.out] at oA
  rw [eb.out] at oB
  rw [ec.out] at oC
  by_cases h : addB A B = true
  · have oS : Ok (A + B) := addB_ok h
    have hA1 : ∀ w, Calls Try.prog 13 #[.int .i64 A, .int .i64 B] w fun e w' => e = .returned (.tuple #[.int .i64 (A + B), .int .i64 0]) ∧ Below w.heap.size w w' := fun w => add_ok A B w oA oB oS
    have hA2 : ∀ w, Calls Try.prog 13 #[.int .i64 B, .int .i64 A] w fun e w' => e = .returned (.tuple #[.int .i64 (A + B), .int .i64 0]) ∧ Below w.heap.size w w' := fun w => by
      have := add_ok B A w oB oA (by rw [Int.add_comm]; exact oS)
      rwa [Int.add_comm B A] at this
    have hS1 : ∀ w, Calls Try.prog 17 #[.int .i64 (A + B), .int .i64 B] w fun e w' => e = .returned (.tuple #[.int .i64 A, .int .i64 0]) ∧ Below w.heap.size w w' := fun w => by
      have := sub_ok (A + B) B w oS oB (by rw [Int.add_sub_cancel]; exact oA)
      rwa [Int.add_sub_cancel] at this
    have hM0 := fun w => mul_any (A + B) C w
    have hM1 := fun w => mul_any A C w
    have hM2 := fun w => mul_any B C w
    by_cases m1 : mulB A C = true
    · rw [m1] at hM1
      by_cases m2 : mulB B C = true
      · rw [m2] at hM2
        refine ring_y3 a0 a1 a2 A B C (A + B) _ _ _ _ 0 w ia ib ic ea eb ec oS hA1 hA2 hS1 hM0 hM1 hM2 (fun w => ?_)
        have := add_any (A * C) (B * C) w
        have e1 : addB (A * C) (B * C) = mulB (A + B) C := by
          simp [addB, mulB, okB_t (mulB_ok m1), okB_t (mulB_ok m2), okB_t oS, okB_t oC, Int.add_mul]
        rw [e1, ← Int.add_mul] at this
        exact this
      · have m2 : mulB B C = false := by simpa using m2
        rw [m2] at hM2
        exact ring_y2 a0 a1 a2 A B C (A + B) _ _ _ _ 0 w ia ib ic ea eb ec oS hA1 hA2 hS1 hM0 hM1 hM2
    · have m1 : mulB A C = false := by simpa using m1
      rw [m1] at hM1
      exact ring_y1 a0 a1 a2 A B C (A + B) _ _ _ _ _ w ia ib ic ea eb ec oS hA1 hA2 hS1 hM0 hM1 hM2
  · exact ring_no a0 a1 a2 A B C w ia ib ic ea eb ec (by simpa using h)

end Go.Proofs.Ytkphkjcpbnnpfaa.Num
