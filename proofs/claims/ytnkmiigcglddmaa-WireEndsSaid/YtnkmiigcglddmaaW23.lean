/- The walk of WireWrites. -/
import Derived.Test.YtnkmiigcglddmaaW22
namespace Go.Proofs.Ytnkmiigcglddmaa.Wire
open Go.RowKit Go.ChangeShapes
set_option linter.unusedVariables false
set_option linter.unusedSimpArgs false

theorem pv_len (k n : Nat) (s : ByteArray) (hn : n < 18446744073709551616) (hs : s.size ≤ 100000000) : (pv k n s).length ≤ s.size + 10 := by
  unfold pv
  by_cases h0 : k % 4 = 0
  · rw [if_pos h0]; have := digs_ten n hn; omega
  · rw [if_neg h0]
    by_cases h1 : k % 4 = 1
    · rw [if_pos h1]; have := digs_ten _ (zig_lt (i64_in hn)); omega
    · rw [if_neg h1]
      by_cases h2 : k % 4 = 2
      · rw [if_pos h2, List.length_append, sb_len]; have := digs_ten s.size (by omega); omega
      · rw [if_neg h2]; have := digs_ten (if n % 2 = 1 then 1 else 0) (by split <;> omega); omega
/-- The bytes of all values. -/
def pvs : List Val → List Nat
  | [] => []
  | x :: l => pv x.k x.n x.s ++ pvs l
theorem pvs_append (l m : List Val) : pvs (l ++ m) = pvs l ++ pvs m := by
  induction l with
  | nil => rfl
  | cons x l ih => rw [List.cons_append, pvs, ih, pvs, List.append_assoc]
theorem pvs_len : ∀ (xs : List Val), (∀ x ∈ xs, x.ok) → tot xs ≤ 100000 → (pvs xs).length ≤ tot xs + 10 * xs.length
  | [], _, _ => by simp [pvs]
  | x :: l, hok, ht => by
    rw [tot] at ht
    have ih := pvs_len l (fun y hy => hok y (List.mem_cons_of_mem _ hy)) (by omega)
    obtain ⟨_, hn, _⟩ := hok x (List.mem_cons_self ..)
    have h1 := pv_len x.k x.n x.s hn (by omega)
    rw [pvs, tot, List.length_append, List.length_cons]
    omega
theorem pvs_take (xs : List Val) (i : Nat) (h : i < xs.length) : pvs (xs.take (i + 1)) = pvs (xs.take i) ++ pv (xs.getD i zv).k (xs.getD i zv).n (xs.getD i zv).s := by
  rw [List.take_succ_eq_append_getElem h, pvs_append, List.getD_eq_getElem?_getD, List.getElem?_eq_getElem h]
  simp [pvs]
theorem tot_le (xs : List Val) (i : Nat) : tot (xs.take i) ≤ tot xs := by
  have := tot_append (xs.take i) (xs.drop i)
  rw [List.take_append_drop] at this
  omega
/-- The bytes of the first of the values. -/
theorem pvs_short {w : World} {a : Option Addr} {len cap : Nat} {xs : List Val} (h : IsVals w a len cap xs) (hl : len ≤ 100) (ht : tot xs ≤ 100000) (i : Nat) : (pvs (xs.take i)).length ≤ 1000000 := by
  have h1 := pvs_len (xs.take i) (fun x hx => h.2.2.1 x (List.mem_of_mem_take hx)) (by have := tot_le xs i; omega)
  have := tot_le xs i
  have := h.1
  rw [List.length_take] at h1
  omega
theorem IsVals.size {w : World} {a : Option Addr} {len cap : Nat} {xs : List Val} (h : IsVals w a len cap xs) (ht : tot xs ≤ 100000) {i : Nat} (hi : i < len) : (xs.getD i zv).s.size ≤ 100000 := by
  obtain ⟨hl, _, _, _⟩ := h
  rw [List.getD_eq_getElem?_getD, List.getElem?_eq_getElem (by omega)]
  exact Nat.le_trans (tot_ge (List.getElem_mem _)) ht
set_option maxRecDepth 100000 in
set_option maxHeartbeats 2000000 in
theorem writes_go (a : Option Addr) (len cap : Nat) (xs : List Val) (w : World) (h : IsVals w a len cap xs) (hl : len ≤ 100) (ht : tot xs ≤ 100000) (hf : Calls Try.prog 12 #[.slice a len cap] w (Quiet w (.bool true))) :
    Calls Try.prog 3 #[.slice a len cap] w fun e w' => e = .returned (.bool true) ∧ Below w.heap.size w w' := by
  have HV := Lib.hid h
  have HF := Lib.hid hf
  have HT := Lib.hid ht
  have HS := Lib.hid (pvs_short h hl ht)
  have hlen : xs.length = len := h.1
  have HL := Lib.hid hlen
  clear h hf ht hlen
  go_enter Try.func3, Try.ntmps3
  go_wp2_with fail
  refine HF.out.mono ?_
  rintro e w1 ⟨rfl, hb⟩
  have H := Lib.hid ((Has.start w).below hb)
  clear hb
  go_wp2_with fail
  refine (h_new w _ _ H.out).mono ?_
  rintro e w2 ⟨p, rfl, h⟩
  have H := Lib.hid h
  clear h
  go_wp2_with fail
  refine (h_rnew w _ _ H.out).mono ?_
  rintro e w3 ⟨q, rfl, h⟩
  have H := Lib.hid h.swap
  clear h
  go_wp2
  go_loopw [15] (fun i wr => ∃ (j : Nat), j ≤ len ∧ i = .int .i64 j ∧ Has w wr [Wr TW p (pvs (xs.take j)), Wr TW' q (pvs (xs.take j))]) (fun i _ => len - (intOf i).toNat)
  case atStart => exact ⟨0, Nat.zero_le _, rfl, H.out⟩
  case round =>
    obtain ⟨j, hj, rfl, h⟩ := hrel
    have H := Lib.hid h
    by_cases hlt : j < len
    · obtain ⟨b, off, ha, c0, c1, c2⟩ := HV.out.at_ h.bel hlt
      obtain ⟨hk, hn, _⟩ := HV.out.okAt hlt
      have hs := HV.out.size HT.out hlt
      have HN := Lib.hid (pvs_take xs j (by rw [HL.out]; exact hlt))
      have HS1 := Lib.hid (HS.out j)
      subst ha
      clear h
      generalize (xs.getD j zv).s = s at *
      generalize (xs.getD j zv).k = k at *
      generalize (xs.getD j zv).n = n at *
      generalize pvs (xs.take j) = l at *
      have HH := Lib.hid (H.out.alloc (.cells #[.int .u8 (k : Nat), .int .u64 (n : Nat), .string s] TV))
      clear H
      go_wp2_with fail
      refine (h_write w _ _ p q l l k n s HH.out hk hn (by omega) (by have := HS1.out; omega) (by have := HS1.out; omega)).mono ?_
      rintro e w4 ⟨rfl, h⟩
      rw [← HN.out] at h
      have HS2 := Lib.hid (HS.out (j + 1))
      obtain ⟨l2, hl2⟩ : ∃ l2, pvs (xs.take (j + 1)) = l2 := ⟨_, rfl⟩
      have HL2 := Lib.hid hl2
      rw [hl2] at h
      rw [HL2.out] at HS2
      have H := Lib.hid h
      clear h hl2
      go_wp2_with fail
      refine (h_len w _ _ p l2 H.out).mono ?_
      rintro e w' ⟨rfl, rfl⟩
      go_wp2_with fail
      refine (h_wlen w _ _ q l2 H.out.swap (by have := HS2.out; omega)).mono ?_
      rintro e w5 ⟨rfl, h⟩
      have H := Lib.hid h.swap
      clear h
      go_wp2
      go_roundw
      case rel => exact ⟨j + 1, by omega, by go_num, by rw [HL2.out]; exact H.out⟩
      case measure => simp [intOf]; omega
    · obtain rfl : j = len := by omega
      have HS2 := Lib.hid (HS.out j)
      generalize pvs (xs.take j) = l at *
      clear h
      go_wp2_with fail
      refine (h_bytes w _ _ p l H.out (by have := HS2.out; omega)).mono ?_
      rintro e w5 ⟨a5, c5, rfl, h⟩
      have H := Lib.hid h.up3
      clear h
      go_wp2_with fail
      refine (h_wbytes w _ _ q l H.out (by have := HS2.out; omega)).mono ?_
      rintro e w6 ⟨a6, c6, rfl, h⟩
      obtain ⟨F6, hF6, _⟩ := h.fst
      obtain ⟨F5, hF5, _⟩ := h.up3.fst
      have HE := Lib.hid (equal_same F5 F6 _ _ l _ (ow_bs hF5) (ow_bs hF6))
      have H := Lib.hid h
      clear h hF5 hF6
      go_wp2_with fail
      refine HE.out.mono ?_
      rintro e w' ⟨rfl, rfl⟩
      go_wp2_with fail
      refine (works_any _).mono ?_
      rintro e w7 ⟨rfl, hb⟩
      have H := Lib.hid (H.out.below hb)
      clear hb
      go_wp2
      go_ret
      exact ⟨rfl, H.out.bel⟩
theorem writes_no (a : Option Addr) (len cap : Nat) (w : World) (hf : Calls Try.prog 12 #[.slice a len cap] w (Quiet w (.bool false))) :
    Calls Try.prog 3 #[.slice a len cap] w fun e w' => e = .returned (.bool true) ∧ Below w.heap.size w w' := by
  have HF := Lib.hid hf
  clear hf
  go_enter Try.func3, Try.ntmps3
  go_wp2_with fail
  refine HF.out.mono ?_
  rintro e w1 ⟨rfl, hb⟩
  have HB := Lib.hid hb
  clear hb
  go_wp2_with fail
  refine (works_any _).mono ?_
  rintro e w2 ⟨rfl, hb2⟩
  have HB2 := Lib.hid (HB.out.trans (hb2.mono HB.out.size))
  clear hb2
  go_wp2
  go_ret
  exact ⟨rfl, HB2.out⟩
theorem w_wireWrites (a0 : Option Addr) (len0 cap0 : Nat) (x0 : List Val) (w : World) (w0 : IsVals w a0 len0 cap0 x0) :
    Calls Try.prog 3 #[.slice a0 len0 cap0] w fun e w' => e = .returned (.bool true) ∧ Below w.heap.size w w' := by
  rcases few_any a0 len0 cap0 x0 w w w0 (Below.refl _ _) with ⟨hl, ht, hf⟩ | hf
  · exact writes_go a0 len0 cap0 x0 w w0 hl ht hf
  · exact writes_no a0 len0 cap0 w hf
end Go.Proofs.Ytnkmiigcglddmaa.Wire
