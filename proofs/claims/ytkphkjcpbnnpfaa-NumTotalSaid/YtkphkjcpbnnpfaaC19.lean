/- The law NumTotal. -/
import Derived.Test.YtkphkjcpbnnpfaaC18
namespace Go.Proofs.Ytkphkjcpbnnpfaa.Num
open Go.RowKit Go.ChangeShapes
set_option linter.unusedVariables false

theorem nil_list (w : World) : IsList w (.slice none 0 0) [] := ⟨none, 0, rfl, fun h => absurd h (Nat.lt_irrefl 0)⟩
set_option maxHeartbeats 4000000 in
theorem total_zero (a : Option Addr) (cap : Nat) (t : Nat) (w : World) (ht : t < 65536) :
    Calls Try.prog 9 #[.slice a 0 cap, .int .u16 t] w fun e w' => e = .returned (.bool true) ∧ Below w.heap.size w w' := by
  have hmin := min2n 0 0 rfl
  have q0 : (0 : Int) ≤ (cap : Int) := by omega
  have S0 : Hid (∀ (v : Value) (w : World), IsList w v [] → Calls Try.prog 24 #[v] w fun r w' => r = .returned (.tuple #[.int .i64 0, .int .i64 0]) ∧ Below w.heap.size w w') := fun v w h => sum_ok [] (fun z hz => absurd hz List.not_mem_nil) (by simp) (by unfold Ok; simp) v w h
  have ADD := Lib.hid (add_is 0 0 0 rfl (by unfold Ok; omega) (by unfold Ok; omega))
  have HZ := Lib.hid (Below.refl w.heap.size w)
  go_enter Try.func9, Try.ntmps9
  go_wp2
  refine wp_loop_rounds 1 ?_
  rw [rounds_succ]
  go_wp2_with fail
  refine (S0.out _ _ (nil_list _)).mono ?_
  rintro e w1 ⟨rfl, hb1⟩
  have HZ := Lib.hid (Below.more HZ.out hb1)
  go_wp2_with fail
  go_region_with (first
    | (go_at_call 36; refine (concat_two w1.heap.size 2 (.slice none 0 0) (.slice none 0 0) [] [] _ (by simp [go_sem]) (by simp [go_sem]) (nil_list _) (nil_list _) (by simp) (by simp)).mono ?_; rintro e w3 ⟨v3, rfl, hown3, hb3⟩; have HZ := Lib.hid (HZ.out.trans ((((Below.refl w1.heap.size w1).alloc (Nat.le_refl _) (.cells #[.slice none 0 0, .slice none 0 0] 28)).drew.trans (hb3.mono (by simp [go_sem]))).mono HZ.out.size)); have L3 := own_list hown3; clear hown3)
    | (go_at_call 24; refine (S0.out _ _ L3).mono ?_; rintro e w4 ⟨rfl, hb4⟩; have HZ := Lib.hid (Below.more HZ.out hb4); clear L3))
  simp only [List.getElem_toArray, List.getElem_cons_succ, List.getElem_cons_zero]
  go_frame
  go_wp2_with fail
  refine (rev_any w.heap.size (.slice none 0 0) [] _ ⟨rfl, .inl ⟨rfl, rfl⟩⟩ (by simp)).mono ?_
  rintro e w5 ⟨rfl, ho5, hg5⟩
  have HZ := Lib.hid (HZ.out.grown hg5 HZ.out.size (fun _ h => by cases h))
  clear ho5 hg5
  go_wp2_with fail
  refine (concat_two w5.heap.size 2 (.slice none 0 0) (.slice none 0 0) [] [] _ (by simp [go_sem]) (by simp [go_sem]) (nil_list _) (nil_list _) (by simp) (by simp)).mono ?_
  rintro e w6 ⟨v6, rfl, hown6, hb6⟩
  have HZ := Lib.hid (HZ.out.trans ((((Below.refl w5.heap.size w5).alloc (Nat.le_refl _) (.cells #[.slice none 0 0, .slice none 0 0] 28)).trans (hb6.mono (by simp [go_sem]))).mono HZ.out.size))
  have L6 := own_list hown6
  clear hown6
  go_wp2_with fail
  refine (S0.out _ _ L6).mono ?_
  rintro e w7 ⟨rfl, hb7⟩
  have HZ := Lib.hid (Below.more HZ.out hb7)
  clear L6
  go_wp2_with (first
    | (go_at_call 24; refine (S0.out _ _ (nil_list _)).mono ?_; rintro e w8 ⟨rfl, hb8⟩; have HZ := Lib.hid (Below.more HZ.out hb8))
    | (go_at_call 13; refine (ADD.out _).mono ?_; rintro e w10 ⟨rfl, hb10⟩; have HZ := Lib.hid (Below.more HZ.out hb10))
    | (go_at_call 21; refine (works_any _).mono ?_; rintro e w11 ⟨rfl, hb11⟩; have HZ := Lib.hid (Below.more HZ.out hb11)))
  go_ret
  exact ⟨rfl, HZ.out⟩
theorem w_numTotal (a0 : Option Addr) (len0 cap0 : Nat) (z0 : List Int) (a1 : Int) (w : World) (w0 : IsRow .i64 w a0 len0 cap0 z0) (w1 : (Lit.int .u16 a1).wf = true) :
    Calls Try.prog 9 #[.slice a0 len0 cap0, .int .u16 a1] w fun e w' => e = .returned (.bool true) ∧ Below w.heap.size w w' := by
  have hb := bounds_u16 w1
  obtain ⟨t, rfl⟩ := Int.eq_ofNat_of_zero_le hb.1
  obtain ⟨hv, hlen, hz⟩ := row_list w0
  rcases Nat.eq_zero_or_pos len0 with h0 | h0
  · subst h0
    exact total_zero a0 cap0 t w (by omega)
  · have hcap : len0 ≤ cap0 := by
      rcases w0 with ⟨_, h, _⟩ | ⟨_, _, h, _⟩
      · omega
      · exact h
    obtain ⟨a', c', e, hc⟩ := hv
    have hv' : IsList w (.slice a0 len0 cap0) (z0.take len0) := (row_list w0).1
    rw [hlen] at hc
    injection e with e1 e2 e3
    obtain ⟨b, o, e4, _⟩ := hc h0
    subst e1
    subst e4
    generalize z0.take len0 = zs at *
    subst hlen
    exact total_pos b o cap0 zs t (min zs.length 500) w hv' hz hcap rfl (by omega) (by omega)
end Go.Proofs.Ytkphkjcpbnnpfaa.Num
