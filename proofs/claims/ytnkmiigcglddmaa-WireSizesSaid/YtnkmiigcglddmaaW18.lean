/- The walk of WireSizes. -/
import Derived.Test.YtnkmiigcglddmaaW17
import Derived.Shelf.Strconv.Itoa0
namespace Go.Proofs.Ytnkmiigcglddmaa.Wire
open Go.RowKit Go.ChangeShapes
set_option linter.unusedVariables false
set_option linter.unusedSimpArgs false

def len_ren : Go.Shelf.Ren := ⟨fun | 129 => 42 | n => n, fun | 3 => 3 | 4 => 4 | 5 => 5 | 9 => 9 | 46 => 64 | 53 => 29 | n => n, fun | n => n⟩
theorem len_lays : Go.Proofs.Lays.n129 Try.prog len_ren := {
  mixed := by kernel_rfl
  f129 := Try.func42.trans (congrArg some (by kernel_rfl))
  t3 := Try.underlying3
  a3 := Try.isAgg3
  z3 := Try.sizeOf3
  v3 := Try.zeroValue3
  t4 := Try.underlying4
  a4 := Try.isAgg4
  z4 := Try.sizeOf4
  v4 := Try.zeroValue4
  t5 := Try.underlying5
  a5 := Try.isAgg5
  z5 := Try.sizeOf5
  v5 := Try.zeroValue5
  t9 := Try.underlying9
  a9 := Try.isAgg9
  z9 := Try.sizeOf9
  v9 := Try.zeroValue9
  t46 := Try.underlying64
  a46 := Try.isAgg64
  z46 := Try.sizeOf64
  v46 := Try.zeroValue64
  t53 := Try.underlying29
  a53 := Try.isAgg29
  z53 := Try.sizeOf29
  v53 := Try.zeroValue29 }
theorem aux_spec : ∀ (f x : Nat), x < 2 ^ f → x < 2 ^ Lib.bitLenAux f x ∧ (x ≠ 0 → 0 < Lib.bitLenAux f x ∧ 2 ^ (Lib.bitLenAux f x - 1) ≤ x) ∧ Lib.bitLenAux f x ≤ f
  | 0, x, h => by
    have : x = 0 := by simpa using h
    subst this
    exact ⟨by simp [Lib.bitLenAux], fun h => absurd rfl h, Nat.le_refl _⟩
  | f + 1, x, h => by
    by_cases h0 : x = 0
    · subst h0
      exact ⟨by simp [Lib.bitLenAux], fun h => absurd rfl h, by simp [Lib.bitLenAux]⟩
    · rw [Nat.pow_succ] at h
      obtain ⟨h1, h2, h3⟩ := aux_spec f (x / 2) (by omega)
      have e : Lib.bitLenAux (f + 1) x = 1 + Lib.bitLenAux f (x / 2) := by simp [Lib.bitLenAux, h0]
      rw [e]
      refine ⟨by rw [Nat.add_comm, Nat.pow_succ]; omega, fun _ => ⟨by omega, ?_⟩, by omega⟩
      rw [show 1 + Lib.bitLenAux f (x / 2) - 1 = Lib.bitLenAux f (x / 2) by omega]
      by_cases h4 : x / 2 = 0
      · have : Lib.bitLenAux f (x / 2) = 0 := by
          rw [h4]
          cases f <;> simp [Lib.bitLenAux]
        rw [this]
        have : 2 ^ 0 = 1 := rfl
        omega
      · obtain ⟨h5, h6⟩ := h2 h4
        have e2 : Lib.bitLenAux f (x / 2) = (Lib.bitLenAux f (x / 2) - 1) + 1 := by omega
        rw [e2, Nat.pow_succ]
        omega
theorem digs_bits (n : Nat) (h : n < 18446744073709551616) : (digs n).length = max 1 ((Lib.bitLen n + 6) / 7) := by
  obtain ⟨h1, h2, h3⟩ := aux_spec 64 n (by omega)
  have hb : Lib.bitLen n = Lib.bitLenAux 64 n := rfl
  generalize Lib.bitLenAux 64 n = b at *
  rw [hb]
  by_cases h0 : n = 0
  · subst h0
    have hb0 : b = 0 ∨ 0 < b := by omega
    have : (digs 0).length = 1 := by rw [digs_small (by omega)]; rfl
    rw [this]
    rcases hb0 with hb0 | hb0
    · subst hb0; rfl
    · exfalso
      have : Lib.bitLen 0 = 0 := rfl
      omega
  · obtain ⟨h4, h5⟩ := h2 h0
    obtain ⟨q, hq⟩ : ∃ q, (b + 6) / 7 = q + 1 := ⟨(b + 6) / 7 - 1, by omega⟩
    rw [hq, Nat.max_eq_right (by omega)]
    have e1 : 128 ^ (q + 1) = 2 ^ (7 * (q + 1)) := by rw [Nat.pow_mul]
    have e2 : 128 ^ q = 2 ^ (7 * q) := by rw [Nat.pow_mul]
    have u := digs_len n q (by rw [e1]; exact Nat.lt_of_lt_of_le h1 (Nat.pow_le_pow_right (by omega) (by omega)))
    have v := digs_len_min n q (by rw [e2]; exact Nat.le_trans (Nat.pow_le_pow_right (by omega) (by omega)) h5)
    omega
theorem bitLen_le (n : Nat) (h : n < 18446744073709551616) : Lib.bitLen n ≤ 64 := (aux_spec 64 n (by omega)).2.2
/-- All digits but the last one are 128 or more. -/
theorem digs_mark : ∀ (m n i : Nat), n ≤ m → i < (digs n).length → (128 ≤ (digs n).getD i 0 ↔ i + 1 < (digs n).length)
  | m, n, i, hm, hi => by
    by_cases h : n < 128
    · rw [digs_small h] at hi ⊢
      have : i = 0 := by simp at hi; omega
      subst this
      simp; omega
    · cases m with
      | zero => omega
      | succ m =>
        rw [digs_big (by omega)] at hi ⊢
        cases i with
        | zero =>
          have := digs_pos (n / 128)
          simp; omega
        | succ i =>
          have hi' : i < (digs (n / 128)).length := by simpa using hi
          have := digs_mark m (n / 128) i (by omega) hi'
          simp only [List.length_cons]
          rw [show ((n % 128 + 128) :: digs (n / 128)).getD (i + 1) 0 = (digs (n / 128)).getD i 0 by simp [List.getD_eq_getElem?_getD]]
          omega
theorem len64_any (n : Nat) (b : Nat) (hb : Lib.bitLen n = b) (h : n < 18446744073709551616) (w : World) :
    Calls Try.prog 42 #[.int .u64 (n : Nat)] w fun e w' => e = .returned (.int .i64 (b : Nat)) ∧ w = w' := by
  subst hb
  exact (Any.bits_Len64 len_lays (n : Int) w (by omega) (by omega)).mono fun e w' ⟨h1, h2⟩ => ⟨by simpa using h1, h2.symm⟩
theorem max_n (k a n : Nat) (h : max k a = n) (ts : Array TypeId) (t : TypeId) (w : World) :
    (Builtin.max_ ts t #[.int .i64 k, .int .i64 a]).run Try.prog w = .ok (.int .i64 n) w := by
  have e : (if (k : Int) < (a : Int) then (a : Int) else (k : Int)) = (n : Int) := by split <;> omega
  have h3 := run_max_int2 (P := Try.prog) w ts t .i64 .i64 k a
  rw [h3, e]
set_option maxRecDepth 100000 in
set_option maxHeartbeats 2000000 in
theorem sizes_go (n : Nat) (m : Int) (w : World) (hn : n < 18446744073709551616) (hm : I64 m) :
    Calls Try.prog 8 #[.int .u64 (n : Nat), .int .i64 m] w fun e w' => e = .returned (.bool true) ∧ Below w.heap.size w w' := by
  obtain ⟨bl, hbl⟩ : ∃ b, Lib.bitLen n = b := ⟨_, rfl⟩
  have hb64 := bitLen_le n hn
  obtain ⟨D, hD⟩ : ∃ D, digs n = D := ⟨_, rfl⟩
  have hlen := digs_bits n hn
  have hten := digs_ten n hn
  have hpos := digs_pos n
  have hmark := fun i => digs_mark n n i (Nat.le_refl _)
  rw [hD, hbl] at hlen
  rw [hbl] at hb64
  rw [hD] at hten hpos hmark
  have hmx : ∀ (ts : Array TypeId) (t : TypeId) (w : World), (Builtin.max_ ts t #[.int .i64 1, .int .i64 (((bl : Nat) + 6 : Int) / 7)]).run Try.prog w = .ok (.int .i64 (D.length : Nat)) w := by
    have := max_n 1 ((bl + 6) / 7) D.length hlen.symm
    have e : (((bl + 6) / 7 : Nat) : Int) = ((bl : Int) + 6) / 7 := by omega
    rw [e] at this
    exact this
  have HBL := Lib.hid hbl
  have HD := Lib.hid hD
  have HMK := Lib.hid hmark
  have HI := Lib.hid hm
  have H := Lib.hid (Has.start w)
  have hzl := Lib.hid (digs_ten (zig m) (zig_lt hm))
  clear hbl hD hlen hmark hm
  go_enter Try.func8, Try.ntmps8
  go_wp2_with fail
  refine (h_new w _ _ H.out).mono ?_
  rintro e w1 ⟨p, rfl, h⟩
  have H := Lib.hid h
  clear h
  go_wp2_with fail
  refine (h_uint w _ _ p [] n H.out hn (by simp)).mono ?_
  rintro e w2 ⟨rfl, h⟩
  rw [List.nil_append, HD.out] at h
  have H := Lib.hid h
  clear h
  go_wp2_with fail
  refine (h_bytes w _ _ p D H.out (by omega)).mono ?_
  rintro e w3 ⟨a3, c3, rfl, h⟩
  have H := Lib.hid h
  clear h
  go_wp2_with fail
  refine (len64_any n bl HBL.out hn _).mono ?_
  rintro e w' ⟨rfl, rfl⟩
  go_wp2_with fail
  refine (h_len w _ _ p D H.out.swap).mono ?_
  rintro e w' ⟨rfl, rfl⟩
  go_wp2
  clear hmx
  go_loop [35] (fun i => ∃ j : Nat, j ≤ D.length ∧ i = .int .i64 j) (fun i => D.length - (intOf i).toNat)
  case atStart => exact ⟨0, Nat.zero_le _, rfl⟩
  case round =>
    obtain ⟨j, hj, rfl⟩ := hrel
    by_cases hlt : j < D.length
    · obtain ⟨F3, hF3, _⟩ := H.out.fst
      obtain ⟨b, off, ha, hcell⟩ := (ow_bs hF3).at_ hlt
      have hk := byte_lt (ow_bs hF3).1 j
      have hmk := HMK.out j hlt
      clear hF3
      subst ha
      generalize D.getD j 0 = c at *
      by_cases hl : j + 1 < D.length
      · have hc := hmk.2 hl
        clear hmk
        have d1 : decide (128 ≤ (c : Int)) = true := decide_eq_true (by omega)
        have d2 : decide ((j : Int) < (D.length : Int) - 1) = true := decide_eq_true (by omega)
        go_wp2
        go_round
        case rel => exact ⟨j + 1, by omega, by go_num⟩
        case measure => simp [intOf]; omega
      · have hc : ¬ 128 ≤ c := fun h => hl (hmk.1 h)
        clear hmk
        have d1 : decide (128 ≤ (c : Int)) = false := decide_eq_false (by omega)
        have d2 : decide ((j : Int) < (D.length : Int) - 1) = false := decide_eq_false (by omega)
        go_wp2
        go_round
        case rel => exact ⟨j + 1, by omega, by go_num⟩
        case measure => simp [intOf]; omega
    · obtain rfl : j = D.length := by omega
      obtain ⟨i1, i2⟩ := HI.out
      by_cases g : m < 0
      · have n1 := not_u64 (IntKind.u64.wrap (IntKind.u64.wrap m * 2)) (by rw [IntKind.wrap_u64]; omega) (by rw [IntKind.wrap_u64]; omega)
        have e1 : 18446744073709551615 - IntKind.u64.wrap (IntKind.u64.wrap m * 2) = (zig m : Nat) := by
          rw [IntKind.wrap_u64, IntKind.wrap_u64]; unfold zig; rw [if_pos g]; omega
        rw [e1] at n1
        clear e1
        have s1 := sg_u64
        go_wp2_with fail
        refine (h_new w _ _ H.out).mono ?_
        rintro e w4 ⟨x, rfl, h⟩
        have H := Lib.hid h
        clear h
        go_wp2_with fail
        refine (h_new w _ _ H.out).mono ?_
        rintro e w5 ⟨y, rfl, h⟩
        have H := Lib.hid h.swap
        clear h
        go_wp2_with fail
        refine (h_int w _ _ x [] m H.out HI.out (by simp)).mono ?_
        rintro e w6 ⟨rfl, h⟩
        rw [List.nil_append] at h
        have H := Lib.hid h.swap
        clear h
        go_wp2_with fail
        refine (h_uint w _ _ y [] (zig m) H.out (zig_lt HI.out) (by simp)).mono ?_
        rintro e w7 ⟨rfl, h⟩
        rw [List.nil_append] at h
        have H := Lib.hid h.swap
        clear h
        go_wp2_with fail
        refine (h_bytes w _ _ x _ H.out (by have := hzl.out; omega)).mono ?_
        rintro e w8 ⟨a8, c8, rfl, h⟩
        have H := Lib.hid h.up3
        clear h
        go_wp2_with fail
        refine (h_bytes w _ _ y _ H.out (by have := hzl.out; omega)).mono ?_
        rintro e w9 ⟨a9, c9, rfl, h⟩
        obtain ⟨F9, hF9, _⟩ := h.fst
        obtain ⟨F8, hF8, _⟩ := h.up3.fst
        have HE := Lib.hid (equal_same F8 F9 _ _ _ _ (ow_bs hF8) (ow_bs hF9))
        have H := Lib.hid h
        clear h hF8 hF9
        go_wp2_with fail
        refine HE.out.mono ?_
        rintro e w' ⟨rfl, rfl⟩
        go_wp2_with fail
        refine (works_any _).mono ?_
        rintro e w10 ⟨rfl, hb⟩
        have H := Lib.hid (H.out.below hb)
        clear hb
        go_wp2
        go_ret
        exact ⟨rfl, H.out.bel⟩
      · have e1 : m * 2 = (zig m : Nat) := by unfold zig; rw [if_neg g]; omega
        go_wp2_with fail
        refine (h_new w _ _ H.out).mono ?_
        rintro e w4 ⟨x, rfl, h⟩
        have H := Lib.hid h
        clear h
        go_wp2_with fail
        refine (h_new w _ _ H.out).mono ?_
        rintro e w5 ⟨y, rfl, h⟩
        have H := Lib.hid h.swap
        clear h
        go_wp2_with fail
        refine (h_int w _ _ x [] m H.out HI.out (by simp)).mono ?_
        rintro e w6 ⟨rfl, h⟩
        rw [List.nil_append] at h
        have H := Lib.hid h.swap
        clear h
        go_wp2_with fail
        refine (h_uint w _ _ y [] (zig m) H.out (zig_lt HI.out) (by simp)).mono ?_
        rintro e w7 ⟨rfl, h⟩
        rw [List.nil_append] at h
        have H := Lib.hid h.swap
        clear h
        go_wp2_with fail
        refine (h_bytes w _ _ x _ H.out (by have := hzl.out; omega)).mono ?_
        rintro e w8 ⟨a8, c8, rfl, h⟩
        have H := Lib.hid h.up3
        clear h
        go_wp2_with fail
        refine (h_bytes w _ _ y _ H.out (by have := hzl.out; omega)).mono ?_
        rintro e w9 ⟨a9, c9, rfl, h⟩
        obtain ⟨F9, hF9, _⟩ := h.fst
        obtain ⟨F8, hF8, _⟩ := h.up3.fst
        have HE := Lib.hid (equal_same F8 F9 _ _ _ _ (ow_bs hF8) (ow_bs hF9))
        have H := Lib.hid h
        clear h hF8 hF9
        go_wp2_with fail
        refine HE.out.mono ?_
        rintro e w' ⟨rfl, rfl⟩
        go_wp2_with fail
        refine (works_any _).mono ?_
        rintro e w10 ⟨rfl, hb⟩
        have H := Lib.hid (H.out.below hb)
        clear hb
        go_wp2
        go_ret
        exact ⟨rfl, H.out.bel⟩
theorem w_wireSizes (a0 : Int) (a1 : Int) (w0 : (Lit.int .u64 a0).wf = true) (w1 : (Lit.int .i64 a1).wf = true) (w : World) :
    Calls Try.prog 8 #[.int .u64 a0, .int .i64 a1] w fun e w' => e = .returned (.bool true) ∧ Below w.heap.size w w' := by
  have h0 := bounds_u64 w0
  have h1 := bounds_i64 w1
  obtain ⟨n, rfl⟩ := Int.eq_ofNat_of_zero_le h0.1
  exact sizes_go n a1 w (by omega) h1
end Go.Proofs.Ytnkmiigcglddmaa.Wire
