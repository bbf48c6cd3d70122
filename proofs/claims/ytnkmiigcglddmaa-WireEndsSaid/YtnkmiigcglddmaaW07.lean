/- The first number that bytes begin with: firstUint, isLast. -/
import Derived.Test.YtnkmiigcglddmaaW06
namespace Go.Proofs.Ytnkmiigcglddmaa.Wire
open Go.RowKit Go.ChangeShapes
set_option linter.unusedVariables false
set_option linter.unusedSimpArgs false

def lastB (d i : Nat) : Bool := if i = 9 then decide (d = 1) else (decide (0 < d) || decide (i = 0))
theorem islast_any (d i : Nat) (w : World) (hd : d < 256) (hi : i ≤ 9) :
    Calls Try.prog 80 #[.int .u8 (d : Nat), .int .i64 (i : Nat)] w fun e w' => e = .returned (.bool (lastB d i)) ∧ w = w' := by
  by_cases h9 : i = 9
  · subst h9
    by_cases h1 : d = 1
    · subst h1
      go_enter Try.func80, Try.ntmps80
      go_wp2
      go_ret
      exact ⟨rfl, rfl⟩
    · have e1 : ((d : Int) == 1) = false := by rw [beq_eq_false_iff_ne]; omega
      have e2 : lastB d 9 = false := by simp [lastB, h1]
      rw [e2]
      clear e2 h1
      go_enter Try.func80, Try.ntmps80
      go_wp2
      go_ret
      exact ⟨rfl, rfl⟩
  · have e1 : ((i : Int) == 9) = false := by rw [beq_eq_false_iff_ne]; omega
    by_cases h1 : 0 < d
    · have e2 : lastB d i = true := by simp [lastB, h1, h9]
      have e3 : decide (0 < (d : Int)) = true := by simp; omega
      rw [e2]
      clear e2 h9
      go_enter Try.func80, Try.ntmps80
      go_wp2
      go_ret
      exact ⟨rfl, rfl⟩
    · obtain rfl : d = 0 := by omega
      by_cases h0 : i = 0
      · subst h0
        go_enter Try.func80, Try.ntmps80
        go_wp2
        go_ret
        exact ⟨rfl, rfl⟩
      · have e3 : ((i : Int) == 0) = false := by rw [beq_eq_false_iff_ne]; omega
        have e2 : lastB 0 i = false := by simp [lastB, h0, h9]
        rw [e2]
        clear e2 h9 h0 h1
        go_enter Try.func80, Try.ntmps80
        go_wp2
        go_ret
        exact ⟨rfl, rfl⟩

theorem min_n (k a n : Nat) (h : min a k = n) (ts : Array TypeId) (t : TypeId) (w : World) :
    (Builtin.min_ ts t #[.int .i64 a, .int .i64 k]).run Try.prog w = .ok (.int .i64 n) w := by
  have e : (if (k : Int) < (a : Int) then (k : Int) else (a : Int)) = (n : Int) := by split <;> omega
  have h3 := run_min_int2 (P := Try.prog) w ts t .i64 .i64 a k
  rw [h3, e]
theorem or_step (u d k : Nat) (hu : u < 128 ^ k) (hk : k ≤ 9) : bits .or .u64 (u : Int) (IntKind.u64.wrap ((d : Int) % 128 * 2 ^ (7 * k))) = (((u + d % 128 * 128 ^ k) % 18446744073709551616 : Nat) : Int) := by
  have e128 : 128 ^ k = 2 ^ (7 * k) := by rw [Nat.pow_mul]
  rw [e128] at hu ⊢
  have hle : 7 * k ≤ 63 := by omega
  have e64 : 18446744073709551616 = 2 ^ (7 * k) * 2 ^ (64 - 7 * k) := by rw [← Nat.pow_add, show 7 * k + (64 - 7 * k) = 64 by omega]
  have hx : d % 128 * 2 ^ (7 * k) % 18446744073709551616 = 2 ^ (7 * k) * (d % 128 % 2 ^ (64 - 7 * k)) := by
    conv => lhs; rw [e64, Nat.mul_comm (d % 128), Nat.mul_mod_mul_left]
  have hw : IntKind.u64.wrap ((d : Int) % 128 * 2 ^ (7 * k)) = ((2 ^ (7 * k) * (d % 128 % 2 ^ (64 - 7 * k)) : Nat) : Int) := by
    rw [← hx, IntKind.wrap_u64]
    have e : ((d : Int) % 128 * 2 ^ (7 * k)) = ((d % 128 * 2 ^ (7 * k) : Nat) : Int) := by push_cast; rfl
    rw [e]
    generalize d % 128 * 2 ^ (7 * k) = y
    omega
  rw [hw]
  have hb : d % 128 % 2 ^ (64 - 7 * k) < 2 ^ (64 - 7 * k) := Nat.mod_lt _ (Nat.pow_pos (by omega))
  have hxl : 2 ^ (7 * k) * (d % 128 % 2 ^ (64 - 7 * k)) < 18446744073709551616 := by rw [e64]; exact Nat.mul_lt_mul_of_pos_left hb (Nat.pow_pos (by omega))
  have hul : u < 18446744073709551616 := by
    refine Nat.lt_of_lt_of_le hu ?_
    rw [e64]
    exact Nat.le_mul_of_pos_right _ (Nat.pow_pos (by omega))
  rw [bits_or_u64_nat _ _ hul hxl]
  have hor := Nat.two_pow_add_eq_or_of_lt hu (d % 128 % 2 ^ (64 - 7 * k))
  rw [Nat.or_comm, ← hor]
  congr 1
  have hsum : 2 ^ (7 * k) * (d % 128 % 2 ^ (64 - 7 * k)) + u < 18446744073709551616 := by
    rw [e64]
    have h1 : d % 128 % 2 ^ (64 - 7 * k) + 1 ≤ 2 ^ (64 - 7 * k) := hb
    have h2 := Nat.mul_le_mul_left (2 ^ (7 * k)) h1
    rw [Nat.mul_add, Nat.mul_one] at h2
    omega
  rw [Nat.add_mod, hx]
  omega
/-- The number that the first k digits make, as 64 bits hold it. -/
def low (l : List Nat) (k : Nat) : Nat := val (l.take k) % 18446744073709551616
theorem low_zero (l : List Nat) : low l 0 = 0 := by simp [low, val]
theorem take_val (l : List Nat) (k : Nat) (h : k < l.length) : val (l.take (k + 1)) = val (l.take k) + l.getD k 0 % 128 * 128 ^ k := by
  rw [List.take_succ_eq_append_getElem h, val_snoc, List.length_take, Nat.min_eq_left (by omega), List.getD_eq_getElem?_getD, List.getElem?_eq_getElem h]
  rfl
theorem low_small (l : List Nat) (k : Nat) (hk : k ≤ 9) : low l k = val (l.take k) ∧ low l k < 128 ^ k := by
  have h1 := val_lt (l.take k)
  have h2 : 128 ^ (l.take k).length ≤ 128 ^ k := Nat.pow_le_pow_right (by omega) (by rw [List.length_take]; omega)
  have h3 : 128 ^ k ≤ 128 ^ 9 := Nat.pow_le_pow_right (by omega) hk
  have : low l k = val (l.take k) := by unfold low; exact Nat.mod_eq_of_lt (by omega)
  omega
theorem low_succ (l : List Nat) (k : Nat) (hk : k ≤ 9) (h : k < l.length) : (low l k + l.getD k 0 % 128 * 128 ^ k) % 18446744073709551616 = low l (k + 1) := by
  rw [(low_small l k hk).1, ← take_val l k h]; rfl
def On (l : List Nat) (k : Nat) : Prop := ∀ c ∈ l.take k, 128 ≤ c
theorem On.zero (l : List Nat) : On l 0 := fun c hc => by simp at hc
theorem On.succ {l : List Nat} {k : Nat} (h : On l k) (hk : k < l.length) (hd : 128 ≤ l.getD k 0) : On l (k + 1) := by
  intro c hc
  rw [List.take_succ_eq_append_getElem hk] at hc
  rcases List.mem_append.1 hc with hc | hc
  · exact h c hc
  · simp at hc
    rw [List.getD_eq_getElem?_getD, List.getElem?_eq_getElem hk] at hd
    subst hc; exact hd
theorem cut_at {l : List Nat} {k : Nat} (hk : k < l.length) : l = l.take k ++ l.getD k 0 :: l.drop (k + 1) := by
  conv => lhs; rw [← List.take_append_drop k l, List.drop_eq_getElem_cons hk]
  rw [List.getD_eq_getElem?_getD, List.getElem?_eq_getElem hk]
  rfl
/-- The digits end at place k. -/
theorem On.stop {l : List Nat} {k : Nat} (h : On l k) (hk : k < l.length) (hk9 : k ≤ 9) (hd : l.getD k 0 < 128) :
    rdU l = if lastB (l.getD k 0) k = true then some (low l (k + 1), l.drop (k + 1)) else none := by
  have hs := rdU_stop (l.take k) (l.getD k 0) (l.drop (k + 1)) h hd
  rw [← cut_at hk] at hs
  have hl : (l.take k).length = k := by rw [List.length_take]; omega
  have hne : l.take k ≠ [] ↔ k ≠ 0 := by rw [← List.length_pos_iff, hl]; omega
  have hv := val_lt (l.take k)
  rw [hl] at hs hv
  have hlow : low l (k + 1) = (val (l.take k) + 128 ^ k * l.getD k 0) % 18446744073709551616 := by
    unfold low
    rw [take_val l k hk, Nat.mod_eq_of_lt hd, Nat.mul_comm]
  rw [hs, hlow]
  clear hs hlow
  generalize l.getD k 0 = d at *
  generalize val (l.take k) = v at *
  by_cases h9 : k = 9
  · subst h9
    unfold lastB
    rw [if_pos rfl]
    by_cases h1 : d = 1
    · subst h1
      rw [if_neg, if_pos (by simp), Nat.mod_eq_of_lt (by omega)]
      rintro (h2 | h2)
      · omega
      · omega
    · rw [if_neg (c := decide (d = 1) = true) (by simpa using h1), if_pos]
      rcases Nat.eq_zero_or_pos d with h2 | h2
      · exact .inl ⟨h2, hne.2 (by omega)⟩
      · exact .inr (by omega)
  · have hk8 : k ≤ 8 := by omega
    have hp : 128 ^ k ≤ 128 ^ 8 := Nat.pow_le_pow_right (by omega) hk8
    have hm : 128 ^ k * d ≤ 128 ^ 8 * 127 := Nat.mul_le_mul hp (by omega)
    unfold lastB
    rw [if_neg h9]
    by_cases h2 : d = 0 ∧ k ≠ 0
    · rw [if_pos (.inl ⟨h2.1, hne.2 h2.2⟩), if_neg]
      simp; omega
    · rw [if_neg, if_pos, Nat.mod_eq_of_lt (by omega)]
      · simp; omega
      · rintro (h3 | h3)
        · exact h2 ⟨h3.1, hne.1 h3.2⟩
        · omega
theorem On.out {l : List Nat} {m : Nat} (h : On l m) (hm : min l.length 10 = m) : rdU l = none := by
  have := rdU_on (l.take m) (l.drop m) h (by
    rcases Nat.lt_or_ge l.length 10 with h1 | h1
    · left; rw [List.drop_eq_nil_iff]; omega
    · right; rw [List.length_take]; omega)
  rw [List.take_append_drop] at this
  exact this
/-- What firstUint says of the bytes l. -/
def FirstU (l : List Nat) (w : World) (e : Ending) (w' : World) : Prop :=
  ∃ u j ok, e = .returned (.tuple #[.int .u64 (u : Nat), .int .i64 (j : Nat), .bool ok]) ∧ u < 18446744073709551616 ∧ j ≤ l.length ∧ rdU l = (if ok = true then some (u, l.drop j) else none) ∧ w = w'

set_option maxRecDepth 100000 in
set_option maxHeartbeats 1000000 in
theorem first_pos (b off cap : Nat) (l : List Nat) (m : Nat) (w : World) (hm : min l.length 10 = m) (hcap : l.length ≤ cap) (hlen : l.length ≤ 1000000000) (h8 : ∀ c ∈ l, c < 256)
    (hc : ∀ i, i < l.length → w.cell? ⟨b, off + i, none⟩ = some (.int .u8 (l.getD i 0 : Nat))) :
    Calls Try.prog 61 #[.slice (some ⟨b, off, none⟩) l.length cap] w (FirstU l w) := by
  have hmin : ∀ (ts : Array TypeId) (t : TypeId) (w : World), (Builtin.min_ ts t #[.int .i64 (l.length : Nat), .int .i64 10]).run Try.prog w = .ok (.int .i64 m) w := min_n 10 _ _ hm
  have hml : m ≤ l.length := by omega
  have q0 : (m : Int) ≤ (cap : Int) := by omega
  have hm10 : m ≤ 10 := by omega
  have HM := Lib.hid hm
  have HC := Lib.hid hc
  have H8 := Lib.hid h8
  clear hm hc h8
  go_enter Try.func61, Try.ntmps61
  go_wp2
  clear hmin q0
  go_loop [5, 14] (fun t i => ∃ k : Nat, k ≤ m ∧ i = .int .i64 k ∧ t = .int .u64 (low l k : Nat) ∧ On l k) (fun _ i => m - (intOf i).toNat)
  case atStart => exact ⟨0, Nat.zero_le _, rfl, by rw [low_zero]; rfl, On.zero l⟩
  case round =>
    obtain ⟨k, hk, rfl, rfl, hon⟩ := hrel
    by_cases hlt : k < m
    · have hcell := HC.out k (by omega)
      have hd := byte_lt H8.out k
      have hst := Lib.hid (fun h => hon.stop (show k < l.length by omega) (show k ≤ 9 by omega) h)
      have hnx := Lib.hid (fun h => hon.succ (show k < l.length by omega) h)
      have hor := or_step (low l k) (l.getD k 0) k (low_small l k (by omega)).2 (by omega)
      rw [low_succ l k (by omega) (by omega)] at hor
      have hll : low l (k + 1) < 18446744073709551616 := Nat.mod_lt _ (by omega)
      have HON := Lib.hid hon
      clear hon
      generalize hu1 : low l (k + 1) = u at *
      have HU1 := Lib.hid hu1
      clear hu1
      generalize low l k = u0 at *
      generalize l.getD k 0 = d at *
      by_cases hd1 : d < 128
      · go_wp2_with (go_at_call 80; refine (islast_any d k _ hd (by omega)).mono ?_; rintro e w' ⟨rfl, rfl⟩)
        refine bodyPost_ret (v := .tuple #[.int .u64 u, .int .i64 ((k + 1 : Nat) : Int), .bool (lastB d k)]) (by simp [results, Try.results61, go_sem]) rfl ?_
        exact ⟨u, k + 1, lastB d k, rfl, hll, by omega, hst.out hd1, rfl⟩
      · go_wp2
        go_round
        case rel => exact ⟨k + 1, by omega, by go_num, by rw [HU1.out], hnx.out (by omega)⟩
        case measure => simp [intOf]; omega
    · obtain rfl : k = m := by omega
      have hno := hon.out HM.out
      go_wp2
      refine bodyPost_ret (v := .tuple #[.int .u64 0, .int .i64 0, .bool false]) (by simp [results, Try.results61, go_sem]) rfl ?_
      exact ⟨0, 0, false, rfl, by omega, by omega, hno, rfl⟩
theorem first_any (F : Nat → Prop) (v : Value) (l : List Nat) (w : World) (h : Bs w F v l) (hlen : l.length ≤ 1000000000) :
    Calls Try.prog 61 #[v] w (FirstU l w) := by
  obtain ⟨h8, a, cap, rfl, hcap, hc⟩ := h
  rcases Nat.eq_zero_or_pos l.length with h0 | h0
  · have hl := List.eq_nil_of_length_eq_zero h0
    subst hl
    clear hc h0 hlen
    have hmin : ∀ (ts : Array TypeId) (t : TypeId) (w : World), (Builtin.min_ ts t #[.int .i64 0, .int .i64 10]).run Try.prog w = .ok (.int .i64 0) w := min_n 10 0 0 rfl
    show Calls _ _ #[.slice a 0 cap] _ _
    go_enter Try.func61, Try.ntmps61
    go_wp2
    refine wp_loop_rounds 1 ?_
    rw [rounds_succ]
    go_wp2
    refine bodyPost_ret (v := .tuple #[.int .u64 0, .int .i64 0, .bool false]) (by simp [results, Try.results61, go_sem]) rfl ?_
    exact ⟨0, 0, false, rfl, by omega, by omega, rfl, rfl⟩
  · obtain ⟨b, off, rfl, _, hcell⟩ := hc h0
    exact first_pos b off cap l _ w rfl hcap hlen h8 hcell
end Go.Proofs.Ytnkmiigcglddmaa.Wire
