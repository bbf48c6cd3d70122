/- The walk of CrcBursts. -/
import Derived.Test.YtnpkdieblejliaaDoorK17
namespace Go.Proofs.YtnpkdieblejliaaDoor.Crc
open Go.RowKit Go.ChangeShapes
set_option linter.unusedVariables false

theorem set_lt {l : List Nat} (h : ∀ c ∈ l, c < 256) (j x : Nat) (hx : x < 256) : ∀ c ∈ l.set j x, c < 256 := by
  intro c hc
  rcases List.mem_or_eq_of_mem_set hc with h1 | rfl
  · exact h c h1
  · exact hx
theorem pow_bit (b : Nat) (h : b < 8) : (2 : Int) ^ b % 256 = ((2 ^ b : Nat) : Int) ∧ 2 ^ b < 256 := by
  have h1 : 2 ^ b < 256 := Nat.pow_lt_pow_right (n := 8) (by omega) h
  refine ⟨?_, h1⟩
  have h2 : (2 : Int) ^ b = ((2 ^ b : Nat) : Int) := by rw [Int.natCast_pow]; rfl
  rw [h2]
  generalize 2 ^ b = q at *
  omega
/-- What is known when the first k of the 32 bits from p on were looked at: L the bytes, M the bits that were changed. -/
structure XAt (l : List Nat) (p k : Nat) (L : List Nat) (M : Nat) : Prop where
  sum : takes (inv 0) L = takes (inv 0) l ^^^ stps (8 * l.length - p) M
  len : L.length = l.length
  lt : ∀ c ∈ L, c < 256
  m : M < 2 ^ k
theorem XAt.flip {l L : List Nat} {p k M : Nat} (h : XAt l p k L M) (hp : p + k < 8 * l.length) :
    XAt l p (k + 1) (L.set ((p + k) / 8) (L.getD ((p + k) / 8) 0 ^^^ 2 ^ ((p + k) % 8))) (M ^^^ 2 ^ k) := by
  have hj : (p + k) / 8 < L.length := by rw [h.len]; omega
  have hb : (p + k) % 8 < 8 := by omega
  refine ⟨?_, by rw [List.length_set, h.len], set_lt h.lt _ _ (Nat.xor_lt_two_pow (n := 8) (getD_lt h.lt _) (pow_bit _ hb).2), ?_⟩
  · rw [takes_flip L (inv 0) _ _ hj hb, h.sum, h.len, stps_xor, Nat.xor_assoc]
    congr 1
    congr 1
    rw [stps_one _ k, show 8 * l.length - (8 * ((p + k) / 8) + (p + k) % 8) + k = 8 * l.length - p by omega]
  · refine Nat.xor_lt_two_pow (n := k + 1) (Nat.lt_trans h.m (Nat.pow_lt_pow_right (by omega) (by omega))) (Nat.pow_lt_pow_right (by omega) (by omega))
theorem XAt.pos {l L : List Nat} {p k M : Nat} (h : XAt l p k L M) : 0 < M ^^^ 2 ^ k := by
  rcases Nat.eq_zero_or_pos (M ^^^ 2 ^ k) with h0 | h0
  · have e : M = 2 ^ k := by
      have := congrArg (fun x => x ^^^ 2 ^ k) h0
      simp only [Nat.xor_assoc, Nat.xor_self, Nat.xor_zero, Nat.zero_xor] at this
      exact this
    have := h.m
    omega
  · exact h0
theorem XAt.stay {l L : List Nat} {p k M : Nat} (h : XAt l p k L M) : XAt l p (k + 1) L M :=
  ⟨h.sum, h.len, h.lt, Nat.lt_trans h.m (Nat.pow_lt_pow_right (by omega) (by omega))⟩
theorem XAt.same {l L : List Nat} {p k : Nat} (h : XAt l p k L 0) : more 0 L = more 0 l := by
  unfold more
  rw [h.sum, stps_zero, Nat.xor_zero]
theorem XAt.other {l L : List Nat} {p k M : Nat} (h : XAt l p k L M) (hk : k ≤ 32) (hM : 0 < M) : more 0 L ≠ more 0 l := by
  intro e
  have e2 : takes (inv 0) L = takes (inv 0) l := by
    have := congrArg inv e
    unfold more at this
    rwa [inv_inv, inv_inv] at this
  rw [h.sum] at e2
  have e3 : stps (8 * l.length - p) M = 0 := by
    have := congrArg (fun x => takes (inv 0) l ^^^ x) e2
    simp only [xor_xor, Nat.xor_self] at this
    exact this
  have hlt : M < 4294967296 := Nat.lt_of_lt_of_le h.m (Nat.pow_le_pow_right (n := 2) (by omega) hk)
  have := stps_inj0 _ M hlt e3
  omega
theorem XAt.start (l : List Nat) (p : Nat) (h : ∀ c ∈ l, c < 256) : XAt l p 0 l 0 := ⟨by rw [stps_zero, Nat.xor_zero], rfl, h, by decide⟩

/-- The copy lies in the block g. -/
structure YAt (w : World) (g cap : Nat) (l : List Nat) (p k : Nat) (L : List Nat) (M : Nat) (wr : World) : Prop where
  own : wr.ownsRow w.heap.size 5 1 (.slice (some ⟨g, 0, none⟩) l.length cap) l.length (u8l L)
  bel : Below w.heap.size w wr
  x : XAt l p k L M

theorem YAt.next {w wr : World} {g cap p k M : Nat} {l L : List Nat} (h : YAt w g cap l p k L M wr) (hp : p + k < 8 * l.length) (hg : w.heap.size ≤ g) :
    YAt w g cap l p (k + 1) (L.set ((p + k) / 8) (L.getD ((p + k) / 8) 0 ^^^ 2 ^ ((p + k) % 8))) (M ^^^ 2 ^ k) (wr.setCell ⟨g, (p + k) / 8, none⟩ (.int .u8 (L.getD ((p + k) / 8) 0 ^^^ 2 ^ ((p + k) % 8) : Nat))) := by
  refine ⟨?_, h.bel.setCell hg _, h.x.flip hp⟩
  have := h.own.stored ((p + k) / 8) (.int .u8 (L.getD ((p + k) / 8) 0 ^^^ 2 ^ ((p + k) % 8) : Nat))
  unfold u8l at *
  rw [List.map_set]
  exact this.1
theorem YAt.drew {w wr : World} {g cap p k M : Nat} {l L : List Nat} (h : YAt w g cap l p k L M wr) : YAt w g cap l p k L M wr.drew := ⟨h.own.drew, h.bel.drew, h.x⟩
theorem YAt.stay {w wr : World} {g cap p k M : Nat} {l L : List Nat} (h : YAt w g cap l p k L M wr) : YAt w g cap l p (k + 1) L M wr := ⟨h.own, h.bel, h.x.stay⟩
set_option maxHeartbeats 1000000 in
set_option maxRecDepth 100000 in
theorem bursts_go (b0 o0 cap0 : Nat) (l : List Nat) (t y : Nat) (w : World) (h0 : Bs w (.slice (some ⟨b0, o0, none⟩) l.length cap0) l) (hl : 0 < l.length) (hl2 : l.length ≤ 2000) (ht : t < 65536) (hy : y < 4294967296) (hH : Hv w) :
    Calls Tryd.prog 7 #[.slice (some ⟨b0, o0, none⟩) l.length cap0, .int .u16 t, .int .u32 y] w fun e w' => e = .returned (.bool true) ∧ Below w.heap.size w w' := by
  have hd0 : decide (2000 < (l.length : Int)) = false := by simp; omega
  have hd1 : ((l.length : Int) == 0) = false := by rw [beq_eq_false_iff_ne]; omega
  obtain ⟨p, hp, hp2⟩ : ∃ p : Nat, (t : Int) % (8 * (l.length : Int)) = (p : Int) ∧ p < 8 * l.length := ⟨t % (8 * l.length), by rw [Int.natCast_emod, Int.natCast_mul]; rfl, Nat.mod_lt _ (by omega)⟩
  have hown0 := World.ownsRow_lit (base := w.heap.size) (e := 5) (size := 1) w #[] 0 (Nat.le_refl _) (by decide) rfl
  have hb0 : Below w.heap.size w (w.alloc (.cells #[] 5)) := (Below.refl _ _).alloc (Nat.le_refl _) _
  have Hown0 := Lib.hid hown0
  clear hown0
  go_enter Tryd.func7, Tryd.ntmps7
  go_wp2_with (first
    | (at_builtin; refine wpList_append_bs rfl _ _ rfl w.heap.size _ 0 [] rfl Hown0.out (some ⟨b0, o0, none⟩) l.length cap0 l rfl (h0.later hb0) (by omega) (by simp) ?_; intro v1 w1 hown1 hg1 _; have hb1 := grown_below hb0 Hown0.out hg1 (by simp); obtain ⟨g, cap, hv1, hgge, hglt⟩ := World.ownsRow.form hown1 (by omega); rw [Nat.zero_add] at hv1; subst hv1; rw [Nat.zero_add] at hown1; have HY := Lib.hid (YAt.mk (w := w) (l := l) (p := p) (k := 0) (L := l) (M := 0) hown1 hb1 (XAt.start l p h0.1)); clear hown1 hg1 Hown0))
  rw [hp]
  clear hp
  go_loopw [9, 10] (fun c i wr => ∃ (k : Nat) (L : List Nat) (M : Nat), k ≤ 32 ∧ i = .int .i64 k ∧ c = .bool (decide (0 < M)) ∧ YAt w g cap l p k L M wr) (fun _ i _ => 32 - (intOf i).toNat)
  case atStart => exact ⟨0, l, 0, Nat.zero_le _, rfl, rfl, HY.out⟩
  case round =>
    obtain ⟨k, L, M, hk, rfl, rfl, hm⟩ := hrel
    clear HY
    by_cases hlt : k < 32 ∧ p + k < 8 * l.length
    · obtain ⟨hk32, hpk⟩ := hlt
      have hd3 : decide ((p : Int) + (k : Int) < 8 * (l.length : Int)) = true := by simp; omega
      by_cases hbit : y / 2 ^ k % 2 = 1
      · have hy1 := bit_yes y k hy hbit
        have hj : (p + k) / 8 < l.length := by omega
        have hb8 : (p + k) % 8 < 8 := by omega
        have hpw := pow_bit _ hb8
        have hLl := hm.x.len
        have hc : wr.cell? ⟨g, (p + k) / 8, none⟩ = some (.int .u8 (L.getD ((p + k) / 8) 0 : Nat)) := by
          rw [hm.own.cellAt _ (by omega)]
          unfold u8l
          rw [List.getElem?_map, List.getElem?_eq_getElem (by omega), List.getD_eq_getElem?_getD, List.getElem?_eq_getElem (by omega)]
          rfl
        have hf := hm.own.frozenAt ((p + k) / 8)
        have hx : bits .xor .u8 ((L.getD ((p + k) / 8) 0 : Nat) : Int) ((2 : Int) ^ ((p + k) % 8) % 256) = ((L.getD ((p + k) / 8) 0 ^^^ 2 ^ ((p + k) % 8) : Nat) : Int) := by
          rw [hpw.1]
          exact u8_xor_nat _ _ (getD_lt hm.x.lt _) hpw.2
        have hq1 : ((p : Int) + (k : Int)) / 8 < (l.length : Int) := by omega
        have hi1 : (((p : Int) + (k : Int)) / 8).toNat = (p + k) / 8 := by omega
        have hi2 : (((p : Int) + (k : Int)) % 8).toNat = (p + k) % 8 := by omega
        have HM := Lib.hid (hm.next hpk hgge)
        have hpos := decide_eq_true hm.x.pos
        have HP := Lib.hid hpos
        clear hm hLl hpos hpw
        generalize L.getD ((p + k) / 8) 0 = x at *
        go_wp2
        go_region
        all_goals
          go_wp2
          go_roundw
          case rel => exact ⟨k + 1, _, M ^^^ 2 ^ k, by omega, by go_num, by rw [HP.out], by first | exact HM.out.drew | exact HM.out⟩
          case measure => simp [intOf]; omega
      · have hy1 := bit_no y k hy hbit
        have HM := Lib.hid hm.stay
        clear hm
        go_wp2
        go_roundw
        case rel => exact ⟨k + 1, L, M, by omega, by go_num, rfl, HM.out⟩
        case measure => simp [intOf]; omega
    · have hx := hm.x
      have hown := hm.own
      have hb := hm.bel
      have hr0 := h0.later hb
      have hr1 := own_bs hown hx.lt
      have hHr := hH.later hb
      obtain ⟨X, hX⟩ : ∃ r, more 0 l = r := ⟨_, rfl⟩
      have hXl : more 0 l < 4294967296 := more_lt 0 l (by omega) h0.1
      rcases Nat.eq_zero_or_pos M with hM | hM
      · subst hM
        have hS := hx.same
        rw [hX] at hS
        have S0 := Lib.hid (sum_is _ l X hX wr hr0 (by omega) hHr)
        have S1 := Lib.hid (sum_is _ L X hS wr hr1 (by rw [hx.len]; omega) hHr)
        have C1 := Lib.hid (check_any _ L X wr hr1 (by rw [hx.len]; omega) hHr)
        have hdc : decide (more 0 L = X) = true := by simpa using hS
        rw [hdc] at C1
        have hdm : decide (0 < 0) = false := rfl
        clear hX hXl hm hx hown hdc hS
        by_cases hk32 : k < 32
        · have hd3 : decide ((p : Int) + (k : Int) < 8 * (l.length : Int)) = false := by simp; omega
          go_wp2_with (first
            | (go_at_call 14; refine (S0.out).mono ?_; rintro e w' ⟨rfl, rfl⟩)
            | (go_at_call 14; refine (S1.out).mono ?_; rintro e w' ⟨rfl, rfl⟩)
            | (go_at_call 18; refine (C1.out).mono ?_; rintro e w' ⟨rfl, rfl⟩)
            | (go_at_call 13; refine (works_any _ hHr).mono ?_; rintro e w4 ⟨rfl, hb4⟩))
          go_ret
          exact ⟨rfl, more_b hb hb4⟩
        · obtain rfl : k = 32 := by omega
          go_wp2_with (first
            | (go_at_call 14; refine (S0.out).mono ?_; rintro e w' ⟨rfl, rfl⟩)
            | (go_at_call 14; refine (S1.out).mono ?_; rintro e w' ⟨rfl, rfl⟩)
            | (go_at_call 18; refine (C1.out).mono ?_; rintro e w' ⟨rfl, rfl⟩)
            | (go_at_call 13; refine (works_any _ hHr).mono ?_; rintro e w4 ⟨rfl, hb4⟩))
          go_ret
          exact ⟨rfl, more_b hb hb4⟩
      · have hS := hx.other hk hM
        rw [hX] at hS hXl
        obtain ⟨Y, hY⟩ : ∃ r, more 0 L = r := ⟨_, rfl⟩
        have S0 := Lib.hid (sum_is _ l X hX wr hr0 (by omega) hHr)
        have S1 := Lib.hid (sum_is _ L Y hY wr hr1 (by rw [hx.len]; omega) hHr)
        have C1 := Lib.hid (check_any _ L X wr hr1 (by rw [hx.len]; omega) hHr)
        have hdc : decide (more 0 L = X) = false := by simpa using hS
        rw [hdc] at C1
        rw [hY] at hS
        have hne : ((X : Int) != (Y : Int)) = true := by rw [bne_iff_ne]; omega
        have hdm : decide (0 < M) = true := decide_eq_true hM
        clear hX hXl hm hx hown hdc hS hY
        by_cases hk32 : k < 32
        · have hd3 : decide ((p : Int) + (k : Int) < 8 * (l.length : Int)) = false := by simp; omega
          go_wp2_with (first
            | (go_at_call 14; refine (S0.out).mono ?_; rintro e w' ⟨rfl, rfl⟩)
            | (go_at_call 14; refine (S1.out).mono ?_; rintro e w' ⟨rfl, rfl⟩)
            | (go_at_call 18; refine (C1.out).mono ?_; rintro e w' ⟨rfl, rfl⟩)
            | (go_at_call 13; refine (works_any _ hHr).mono ?_; rintro e w4 ⟨rfl, hb4⟩))
          go_ret
          exact ⟨rfl, more_b hb hb4⟩
        · obtain rfl : k = 32 := by omega
          go_wp2_with (first
            | (go_at_call 14; refine (S0.out).mono ?_; rintro e w' ⟨rfl, rfl⟩)
            | (go_at_call 14; refine (S1.out).mono ?_; rintro e w' ⟨rfl, rfl⟩)
            | (go_at_call 18; refine (C1.out).mono ?_; rintro e w' ⟨rfl, rfl⟩)
            | (go_at_call 13; refine (works_any _ hHr).mono ?_; rintro e w4 ⟨rfl, hb4⟩))
          go_ret
          exact ⟨rfl, more_b hb hb4⟩

theorem bursts_out (a0 : Option Addr) (len0 cap0 : Nat) (t y : Int) (w : World) (hH : Hv w) (h : 2000 < len0 ∨ len0 = 0) :
    Calls Tryd.prog 7 #[.slice a0 len0 cap0, .int .u16 t, .int .u32 y] w fun e w' => e = .returned (.bool true) ∧ Below w.heap.size w w' := by
  by_cases h0 : 2000 < len0
  · have hd0 : decide (2000 < (len0 : Int)) = true := by simp; omega
    go_enter Tryd.func7, Tryd.ntmps7
    go_wp2_with (go_at_call 13; refine (works_any _ hH).mono ?_; rintro e w4 ⟨rfl, G⟩)
    go_ret
    exact ⟨rfl, G⟩
  · obtain rfl : len0 = 0 := by omega
    clear h h0
    go_enter Tryd.func7, Tryd.ntmps7
    go_wp2_with (go_at_call 13; refine (works_any _ hH).mono ?_; rintro e w4 ⟨rfl, G⟩)
    go_ret
    exact ⟨rfl, G⟩
theorem w_crcBursts (a0 : Option Addr) (len0 cap0 : Nat) (z0 : List Int) (a1 : Int) (a2 : Int) (w : World) (w0 : IsRow .u8 w a0 len0 cap0 z0) (w1 : (Lit.int .u16 a1).wf = true) (w2 : (Lit.int .u32 a2).wf = true) (hH : Hv w) :
    Calls Tryd.prog 7 #[.slice a0 len0 cap0, .int .u16 a1, .int .u32 a2] w fun e w' => e = .returned (.bool true) ∧ Below w.heap.size w w' := by
  obtain ⟨l, rfl, h0⟩ := row_bs w0
  by_cases h : 2000 < l.length ∨ l.length = 0
  · exact bursts_out a0 _ cap0 a1 a2 w hH h
  · obtain ⟨y, rfl, hy⟩ := nat_u32 w2
    have hb := bounds_u16 w1
    obtain ⟨t, rfl⟩ := Int.eq_ofNat_of_zero_le hb.1
    obtain ⟨b0, o0, rfl⟩ := h0.addr (by omega)
    exact bursts_go b0 o0 cap0 l t y w h0 (by omega) (by omega) (by omega) hy hH
end Go.Proofs.YtnpkdieblejliaaDoor.Crc
