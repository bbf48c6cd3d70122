/- The document's Make, Join and Size; the walk of FrameMakes. -/
import Derived.Test.YtojeccmnhgcmcaaDoorG14
namespace Go.Proofs.YtojeccmnhgcmcaaDoor.Frame
open Go.RowKit Go.ChangeShapes
open Crc (Hv more more_lt ret_u32)
set_option linter.unusedVariables false
set_option linter.unusedSimpArgs false

theorem own_lit (w : World) (l : List Nat) (h8 : Byt l) (h : l.length ≤ 1000) : Mine (w.alloc (.cells (bv l).toArray 5)) w.heap.size (.slice (some ⟨w.heap.size, 0, none⟩) l.length l.length) l :=
  ⟨⟨by rw [bv_len, Nat.mul_one], .inr ⟨w.heap.size, l.length, (bv l).toArray, rfl, Nat.le_refl _, heap_alloc_new w _, Nat.le_refl _, by unfold maxLen; omega, by simp [bv_len], by rw [Nat.mul_one, ← bv_len l, List.take_length]⟩⟩, h8⟩
theorem rmake_long (F : Nat → Prop) (v : Value) (c : List Nat) (w : World) (hv : Bs w F v c) (h : 65536 < c.length) :
    Calls Tryd.prog 42 #[v] w (JoinR w w.heap.size [] 11) := by
  obtain ⟨_, a, cap, rfl, _⟩ := hv
  have hd : decide ((65536 : Int) < (c.length : Int)) = true := by simp; omega
  replace h := Lib.hid h
  go_enter Tryd.func42, Tryd.ntmps42
  go_wp2
  go_ret2
  exact ⟨_, rfl, nil_mine _ _, Below.refl _ _⟩
set_option maxHeartbeats 1000000 in
theorem rmake_ok (F : Nat → Prop) (v : Value) (c : List Nat) (w : World) (hv : Bs w F v c) (hF : ∀ k, F k → k < w.heap.size) (h : c.length ≤ 65536) :
    Calls Tryd.prog 42 #[v] w (JoinR w w.heap.size (rc c) 0) := by
  have hv0 := hv
  obtain ⟨h8, a, cap, rfl, _, _⟩ := hv0
  have hdm : decide ((65536 : Int) < (c.length : Int)) = false := by simp; omega
  have hwu : IntKind.u32.wrap (c.length : Int) = c.length := by rw [IntKind.wrap_u32']; omega
  have ml := more_lt 0 c (by omega) h8
  have hrc : hd c ++ c = rc c := rfl
  have hb1 : Below w.heap.size w (w.alloc (.cells (bv (be4 c.length)).toArray 5)) := (Below.refl _ _).alloc (Nat.le_refl _) _
  have hb2 : Below w.heap.size w ((w.alloc (.cells (bv (be4 c.length)).toArray 5)).alloc (.cells (bv (be4 (more 0 c))).toArray 5)) := hb1.alloc hb1.size _
  have m1 := own_lit w (be4 c.length) (be4_lt _) (by rw [be4_len]; omega)
  have m2 := Lib.hid (m1.later ((Below.refl _ (w.alloc (.cells (bv (be4 c.length)).toArray 5))).alloc (Nat.le_refl _) (.cells (bv (be4 (more 0 c))).toArray 5)))
  have B2 : Blk ((w.alloc (.cells (bv (be4 c.length)).toArray 5)).alloc (.cells (bv (be4 (more 0 c))).toArray 5)) (w.heap.size + 1) (bv (be4 (more 0 c))) 5 := by
    have := heap_alloc_new (w.alloc (.cells (bv (be4 c.length)).toArray 5)) (.cells (bv (be4 (more 0 c))).toArray 5)
    rwa [World.size_alloc] at this
  have bs2 := Lib.hid (B2.bs (be4_lt _) (Nat.le_refl 4))
  have hv1 := Lib.hid (hv.kept (Same.of_below hb1 hF))
  clear m1 B2
  have HV := Lib.hid hv
  clear hv
  go_enter Tryd.func42, Tryd.ntmps42
  go_wp2_with fail
  refine (four_any c.length (by omega) _).mono ?_
  rintro e w' ⟨rfl, rfl⟩
  go_wp2_with fail
  refine (ref_sum_any _ F c _ hv1.out (by omega)).mono ?_
  rintro e w' ⟨rfl, rfl⟩
  go_wp2_with fail
  refine (four_any (more 0 c) ml _).mono ?_
  rintro e w' ⟨rfl, rfl⟩
  rw [World.size_alloc]
  go_wp2_with (first
    | (at_builtin; refine wpList_append_b rfl _ _ rfl w.heap.size _ 4 (bv (be4 c.length)) rfl m2.out.own _ (some ⟨w.heap.size + 1, 0, none⟩) 4 4 (be4 (more 0 c)) rfl bs2.out (by omega) hb2.size ?_; intro v3 w3 hown3 hg3 _; have m3 : Mine w3 w.heap.size v3 (hd c) := mine_app m2.out (be4_lt _) hown3; have bel3 := grown_bel hb2 m2.out.own hg3 hb2.size; clear hown3 hg3; obtain ⟨a3, cap3, rfl⟩ := m3.form; have m3 := Lib.hid m3)
    | (at_builtin; refine wpList_append_b rfl _ _ rfl w.heap.size _ 8 (bv (hd c)) rfl m3.out.own _ a c.length cap c rfl (HV.out.kept (Same.of_below bel3 hF)) (by omega) bel3.size ?_; intro v4 w4 hown4 hg4 _; have m4 : Mine w4 w.heap.size v4 (hd c ++ c) := mine_app m3.out h8 hown4; have bel4 := grown_bel bel3 m3.out.own hg4 bel3.size; clear hown4 hg4; obtain ⟨a4, cap4, rfl⟩ := m4.form; have m4 := Lib.hid m4))
  go_ret2
  exact ⟨_, rfl, m4.out, bel4⟩
theorem rmake_any (F : Nat → Prop) (v : Value) (c : List Nat) (w : World) (hv : Bs w F v c) (hF : ∀ k, F k → k < w.heap.size) :
    Calls Tryd.prog 42 #[v] w (JoinR w w.heap.size (makeL c) (makeE c : Nat)) := by
  unfold makeL makeE
  by_cases h : 65536 < c.length
  · rw [if_pos h, if_pos h]; exact rmake_long F v c w hv h
  · rw [if_neg h, if_neg h]; exact rmake_ok F v c w hv hF (by omega)

end Go.Proofs.YtojeccmnhgcmcaaDoor.Frame
