/- The walk of NumLists. -/
import Derived.Test.YthippkbaehcfeaaC13
namespace Go.Proofs.Ythippkbaehcfeaa.Num
open Go.RowKit Go.ChangeShapes
set_option linter.unusedVariables false

theorem repeat_int (v : Value) (l : List Int) (c : Nat) (ci : Int) (hci : ci = (c : Int)) (w : World) (hv : IsList w v l) (hc1 : 1 ≤ c) (hs : (rep l c).length ≤ 12000) (hc : c ≤ 70000) (hl : l.length ≤ 12000) :
    Calls Try.prog 22 #[v, .int .i64 ci] w fun e w' => e = .returned (.slice (some ⟨w.heap.size, 0, none⟩) (rep l c).length (rep l c).length) ∧ IsList w' (.slice (some ⟨w.heap.size, 0, none⟩) (rep l c).length (rep l c).length) (rep l c) ∧ Below w.heap.size w w' := by
  subst hci
  exact (repeat_any v l c (rep l c).length w hv hc1 (rep_len l c).symm hs hc hl).mono fun e w' ⟨h1, h2, h3⟩ => ⟨h1, blk_list h2.out rfl, h3⟩

set_option maxRecDepth 100000 in
set_option maxHeartbeats 2000000 in
/-- The law behind the test of the length, the count c known. -/
theorem lists_go (a : Option Addr) (len cap : Nat) (l : List Int) (t c : Nat) (w : World) (hlen : l.length = len) (h1000 : len ≤ 1000) (hv : IsList w (.slice a len cap) l) (hz : Hid (∀ i, i < (rep l c).length → I64 ((rep l c).getD i 0)))
    (hc1 : Hid (1 ≤ c)) (hs : Hid ((rep l c).length ≤ 12000)) (hc : Hid (c ≤ 70000)) (ht : t ≤ 65535)
    (mn : (len = 0 ∧ c = 12000 ∧ 12000 < 1 + t) ∨ (len = 0 ∧ c = 1 + t ∧ 1 + t ≤ 12000) ∨ (0 < len ∧ c = 12000 / len ∧ 12000 / len < 1 + t) ∨ (0 < len ∧ c = 1 + t ∧ 1 + t ≤ 12000 / len)) :
    Calls Try.prog 4 #[.slice a len cap, .int .u16 t] w fun e w' => e = .returned (.bool true) ∧ Below w.heap.size w w' := by
  obtain ⟨L, hL⟩ : ∃ L, rep l c = L := ⟨_, rfl⟩
  have hcl := Lib.hid hlen
  have rp := fun (ci : Int) (hci : ci = (c : Int)) => repeat_int (.slice a len cap) l c ci hci w hv hc1.out hs.out hc.out (by omega)
  rw [hL] at rp hz hs
  have RP := Lib.hid rp
  clear rp hlen hL hv
  have d0 : decide (1000 < (len : Int)) = false := by simp; omega
  rcases mn with ⟨rfl, rfl, m⟩ | ⟨rfl, rfl, m⟩ | ⟨m0, m1, m⟩ | ⟨m0, rfl, m⟩
  · skip
    go_enter Try.func4, Try.ntmps4
    go_wp2_with (first
      | (go_at_call 22; refine (RP.out _ (by omega)).mono ?_; rintro e w1 ⟨rfl, hl1, hb1⟩)
      | (go_at_call 23; refine (clone_any _ _ L _ hl1 (by have := hs.out; omega)).mono ?_; rintro e w2 ⟨v2, rfl, hown, hb2⟩; have hl2 := own_list hown; have hl1 := hl1.later hb2; have G := Below.more hb1 hb2; clear hown)
      | (go_at_call 24; refine (sum_list _ L _ hl2 hz.out).mono ?_; rintro e w3 ⟨rfl, hb3⟩; have hl1 := hl1.later hb3; have hl2 := hl2.later hb3; have G := Below.more G hb3)
      | (go_at_call 25; refine (rsum_list _ L _ hl1).mono ?_; rintro e w' ⟨rfl, rfl⟩)
      | (go_at_call 26; refine (equal_same _ _ L _ hl2 hl1 (by have := hs.out; omega)).mono ?_; rintro e w4 ⟨rfl, hb4⟩; have G := Below.more G hb4)
      | (go_at_call 21; refine (works_any _).mono ?_; rintro e w5 ⟨rfl, hb5⟩; have G := Below.more G hb5))
    go_ret
    exact ⟨rfl, G⟩
  · skip
    go_enter Try.func4, Try.ntmps4
    go_wp2_with (first
      | (go_at_call 22; refine (RP.out _ (by omega)).mono ?_; rintro e w1 ⟨rfl, hl1, hb1⟩)
      | (go_at_call 23; refine (clone_any _ _ L _ hl1 (by have := hs.out; omega)).mono ?_; rintro e w2 ⟨v2, rfl, hown, hb2⟩; have hl2 := own_list hown; have hl1 := hl1.later hb2; have G := Below.more hb1 hb2; clear hown)
      | (go_at_call 24; refine (sum_list _ L _ hl2 hz.out).mono ?_; rintro e w3 ⟨rfl, hb3⟩; have hl1 := hl1.later hb3; have hl2 := hl2.later hb3; have G := Below.more G hb3)
      | (go_at_call 25; refine (rsum_list _ L _ hl1).mono ?_; rintro e w' ⟨rfl, rfl⟩)
      | (go_at_call 26; refine (equal_same _ _ L _ hl2 hl1 (by have := hs.out; omega)).mono ?_; rintro e w4 ⟨rfl, hb4⟩; have G := Below.more G hb4)
      | (go_at_call 21; refine (works_any _).mono ?_; rintro e w5 ⟨rfl, hb5⟩; have G := Below.more G hb5))
    go_ret
    exact ⟨rfl, G⟩
  · have hq : (12000 : Int) / (len : Int) = (c : Int) := by rw [m1]; rfl
    rw [← m1] at m
    clear m1
    go_enter Try.func4, Try.ntmps4
    go_wp2_with (first
      | (go_at_call 22; refine (RP.out _ (by omega)).mono ?_; rintro e w1 ⟨rfl, hl1, hb1⟩)
      | (go_at_call 23; refine (clone_any _ _ L _ hl1 (by have := hs.out; omega)).mono ?_; rintro e w2 ⟨v2, rfl, hown, hb2⟩; have hl2 := own_list hown; have hl1 := hl1.later hb2; have G := Below.more hb1 hb2; clear hown)
      | (go_at_call 24; refine (sum_list _ L _ hl2 hz.out).mono ?_; rintro e w3 ⟨rfl, hb3⟩; have hl1 := hl1.later hb3; have hl2 := hl2.later hb3; have G := Below.more G hb3)
      | (go_at_call 25; refine (rsum_list _ L _ hl1).mono ?_; rintro e w' ⟨rfl, rfl⟩)
      | (go_at_call 26; refine (equal_same _ _ L _ hl2 hl1 (by have := hs.out; omega)).mono ?_; rintro e w4 ⟨rfl, hb4⟩; have G := Below.more G hb4)
      | (go_at_call 21; refine (works_any _).mono ?_; rintro e w5 ⟨rfl, hb5⟩; have G := Below.more G hb5))
    go_ret
    exact ⟨rfl, G⟩
  · obtain ⟨q, hq⟩ : ∃ q : Nat, 12000 / len = q := ⟨_, rfl⟩
    have hq2 : (12000 : Int) / (len : Int) = (q : Int) := by rw [← hq]; rfl
    rw [hq] at m
    clear hq
    go_enter Try.func4, Try.ntmps4
    go_wp2_with (first
      | (go_at_call 22; refine (RP.out _ (by omega)).mono ?_; rintro e w1 ⟨rfl, hl1, hb1⟩)
      | (go_at_call 23; refine (clone_any _ _ L _ hl1 (by have := hs.out; omega)).mono ?_; rintro e w2 ⟨v2, rfl, hown, hb2⟩; have hl2 := own_list hown; have hl1 := hl1.later hb2; have G := Below.more hb1 hb2; clear hown)
      | (go_at_call 24; refine (sum_list _ L _ hl2 hz.out).mono ?_; rintro e w3 ⟨rfl, hb3⟩; have hl1 := hl1.later hb3; have hl2 := hl2.later hb3; have G := Below.more G hb3)
      | (go_at_call 25; refine (rsum_list _ L _ hl1).mono ?_; rintro e w' ⟨rfl, rfl⟩)
      | (go_at_call 26; refine (equal_same _ _ L _ hl2 hl1 (by have := hs.out; omega)).mono ?_; rintro e w4 ⟨rfl, hb4⟩; have G := Below.more G hb4)
      | (go_at_call 21; refine (works_any _).mono ?_; rintro e w5 ⟨rfl, hb5⟩; have G := Below.more G hb5))
    go_ret
    exact ⟨rfl, G⟩

theorem lists_long (a : Option Addr) (len cap : Nat) (t : Int) (w : World) (h : 1000 < len) :
    Calls Try.prog 4 #[.slice a len cap, .int .u16 t] w fun e w' => e = .returned (.bool true) ∧ Below w.heap.size w w' := by
  go_enter Try.func4, Try.ntmps4
  go_wp2_with (first
    | (go_at_call 21; refine (works_any _).mono ?_; rintro e w5 ⟨rfl, hb5⟩))
  go_ret
  exact ⟨rfl, hb5⟩

theorem w_numLists (a0 : Option Addr) (len0 cap0 : Nat) (z0 : List Int) (a1 : Int) (w : World) (w0 : IsRow .i64 w a0 len0 cap0 z0) (w1 : (Lit.int .u16 a1).wf = true) :
    Calls Try.prog 4 #[.slice a0 len0 cap0, .int .u16 a1] w fun e w' => e = .returned (.bool true) ∧ Below w.heap.size w w' := by
  have hb := bounds_u16 w1
  obtain ⟨t, rfl⟩ := Int.eq_ofNat_of_zero_le hb.1
  obtain ⟨hv, hlen, hz⟩ := row_list w0
  by_cases h : 1000 < len0
  · exact lists_long a0 len0 cap0 t w h
  · generalize z0.take len0 = l at *
    have go : ∀ c, 1 ≤ c → (rep l c).length ≤ 12000 → c ≤ 70000 → ((len0 = 0 ∧ c = 12000 ∧ 12000 < 1 + t) ∨ (len0 = 0 ∧ c = 1 + t ∧ 1 + t ≤ 12000) ∨ (0 < len0 ∧ c = 12000 / len0 ∧ 12000 / len0 < 1 + t) ∨ (0 < len0 ∧ c = 1 + t ∧ 1 + t ≤ 12000 / len0)) →
        Calls Try.prog 4 #[.slice a0 len0 cap0, .int .u16 t] w fun e w' => e = .returned (.bool true) ∧ Below w.heap.size w w' :=
      fun c h1 h2 h3 h4 => lists_go a0 len0 cap0 l t c w hlen (by omega) hv (rep_get l c (by rw [hlen]; exact hz)) h1 h2 h3 (by omega) h4
    rcases Nat.eq_zero_or_pos len0 with h0 | h0
    · rcases Nat.lt_or_ge 12000 (1 + t) with m | m
      · exact go 12000 (by omega) (by rw [rep_len, hlen, h0]; omega) (by omega) (.inl ⟨h0, rfl, m⟩)
      · exact go (1 + t) (by omega) (by rw [rep_len, hlen, h0]; omega) (by omega) (.inr (.inl ⟨h0, rfl, m⟩))
    · have q1 : 1 ≤ 12000 / len0 := (Nat.le_div_iff_mul_le h0).2 (by omega)
      have q2 : 12000 / len0 * len0 ≤ 12000 := Nat.div_mul_le_self _ _
      have q3 : 12000 / len0 ≤ 12000 := Nat.div_le_self _ _
      rcases Nat.lt_or_ge (12000 / len0) (1 + t) with m | m
      · exact go (12000 / len0) q1 (by rw [rep_len, hlen]; exact q2) (by omega) (.inr (.inr (.inl ⟨h0, rfl, m⟩)))
      · exact go (1 + t) (by omega) (by rw [rep_len, hlen]; exact Nat.le_trans (Nat.mul_le_mul_right _ m) q2) (by omega) (.inr (.inr (.inr ⟨h0, rfl, m⟩)))

end Go.Proofs.Ythippkbaehcfeaa.Num
