/- The walk of CrcThree, the rest. -/
import Derived.Test.YtnpkdieblejliaaDoorK16
namespace Go.Proofs.YtnpkdieblejliaaDoor.Crc
open Go.RowKit Go.ChangeShapes
set_option linter.unusedVariables false

theorem take_none (l : List Nat) : more 0 (l.take 0) = 0 := inv_inv 0
set_option maxHeartbeats 1000000 in
theorem three_zero (a0 : Option Addr) (cap0 : Nat) (a1 : Option Addr) (cap1 : Nat) (a2 : Option Addr) (cap2 : Nat) (l m p : List Nat) (w : World) (h0 : Bs w (.slice a0 l.length cap0) l) (h1 : Bs w (.slice a1 m.length cap1) m) (h2 : Bs w (.slice a2 p.length cap2) p)
    (hn : min (min l.length m.length) p.length = 0) (hH : Hv w) :
    Calls Tryd.prog 8 #[.slice a0 l.length cap0, .slice a1 m.length cap1, .slice a2 p.length cap2] w fun e w' => e = .returned (.bool true) ∧ Below w.heap.size w w' := by
  have hmin := min3 _ _ _ _ hn
  clear hn
  have c0 := h0.cut (Nat.zero_le _)
  have c1 := h1.cut (Nat.zero_le _)
  have c2 := h2.cut (Nat.zero_le _)
  have cX : Bs w (.slice none 0 0) [] := ⟨fun c hc => absurd hc (List.not_mem_nil), none, 0, rfl, fun hp => absurd hp (Nat.lt_irrefl 0)⟩
  have SA := Lib.hid (sum_st _ (l.take 0) 0 (take_none _) w.drew c0 (by simp) hH)
  have SB := Lib.hid (sum_st _ (m.take 0) 0 (take_none _) w.drew c1 (by simp) hH)
  have SC := Lib.hid (sum_st _ (p.take 0) 0 (take_none _) w.drew c2 (by simp) hH)
  have SX := Lib.hid (sum_st _ [] 0 (take_none []) w.drew cX (by simp) hH)
  have hx : bits .xor .u32 (bits .xor .u32 0 0) 0 = 0 := by decide
  go_enter Tryd.func8, Tryd.ntmps8
  go_wp2
  refine wp_loop_rounds 1 ?_
  rw [rounds_succ]
  go_wp2
  go_still_tail 18, (by kernel_rfl)
  still_call SA.out
  repeat still_step
  still_call SB.out
  repeat still_step
  still_call SC.out
  repeat still_step
  still_call SX.out
  repeat still_step
  refine wpStill_nil ?_
  change wpList _ _ _ _ _ w.drew
  go_wp2_with (go_at_call 13; refine (works_any w.drew hH).mono ?_; rintro e w4 ⟨rfl, hb4⟩)
  go_ret
  exact ⟨rfl, more_b (Below.refl _ _).drew hb4⟩
theorem three_long (a0 : Option Addr) (cap0 : Nat) (a1 : Option Addr) (cap1 : Nat) (a2 : Option Addr) (cap2 : Nat) (l m p n : Nat) (w : World)
    (hn : min (min l m) p = n) (hn2 : 2000 < n) (hH : Hv w) :
    Calls Tryd.prog 8 #[.slice a0 l cap0, .slice a1 m cap1, .slice a2 p cap2] w fun e w' => e = .returned (.bool true) ∧ Below w.heap.size w w' := by
  have hmin := min3 _ _ _ _ hn
  have hd : decide (2000 < (n : Int)) = true := by simp; omega
  clear hn
  go_enter Tryd.func8, Tryd.ntmps8
  go_wp2_with (go_at_call 13; refine (works_any _ hH).mono ?_; rintro e w4 ⟨rfl, G⟩)
  go_ret
  exact ⟨rfl, G⟩
theorem row_cap {w : World} {a : Option Addr} {len cap : Nat} {zs : List Int} (h : IsRow .u8 w a len cap zs) : len ≤ cap := by
  rcases h with ⟨_, h1, h2, _⟩ | ⟨_, _, h, _⟩ <;> omega
theorem Bs.addr {w : World} {a : Option Addr} {cap : Nat} {l : List Nat} (h : Bs w (.slice a l.length cap) l) (hp : 0 < l.length) : ∃ b off, a = some ⟨b, off, none⟩ := by
  obtain ⟨_, a', cap', hv, hc⟩ := h
  injection hv with e1
  subst e1
  obtain ⟨b, off, e, _⟩ := hc hp
  exact ⟨b, off, e⟩
theorem w_crcThree (a0 : Option Addr) (len0 cap0 : Nat) (z0 : List Int) (a1 : Option Addr) (len1 cap1 : Nat) (z1 : List Int) (a2 : Option Addr) (len2 cap2 : Nat) (z2 : List Int) (w : World) (w0 : IsRow .u8 w a0 len0 cap0 z0) (w1 : IsRow .u8 w a1 len1 cap1 z1) (w2 : IsRow .u8 w a2 len2 cap2 z2) (hH : Hv w) :
    Calls Tryd.prog 8 #[.slice a0 len0 cap0, .slice a1 len1 cap1, .slice a2 len2 cap2] w fun e w' => e = .returned (.bool true) ∧ Below w.heap.size w w' := by
  obtain ⟨l, rfl, h0⟩ := row_bs w0
  obtain ⟨m, rfl, h1⟩ := row_bs w1
  obtain ⟨p, rfl, h2⟩ := row_bs w2
  have q0 := row_cap w0
  have q1 := row_cap w1
  have q2 := row_cap w2
  obtain ⟨n, hn⟩ : ∃ n, min (min l.length m.length) p.length = n := ⟨_, rfl⟩
  by_cases h : 2000 < n
  · exact three_long a0 cap0 a1 cap1 a2 cap2 _ _ _ n w hn h hH
  · rcases Nat.eq_zero_or_pos n with hz | hz
    · subst hz
      exact three_zero a0 cap0 a1 cap1 a2 cap2 l m p w h0 h1 h2 hn hH
    · obtain ⟨b0, o0, rfl⟩ := h0.addr (by omega)
      obtain ⟨b1, o1, rfl⟩ := h1.addr (by omega)
      obtain ⟨b2, o2, rfl⟩ := h2.addr (by omega)
      exact three_pos b0 o0 cap0 b1 o1 cap1 b2 o2 cap2 l m p n w h0 h1 h2 hn (by omega) hz q0 q1 q2 hH
end Go.Proofs.YtnpkdieblejliaaDoor.Crc
