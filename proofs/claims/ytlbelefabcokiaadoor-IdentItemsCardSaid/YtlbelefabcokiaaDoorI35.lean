/- The document's Item. -/
import Derived.Test.YtlbelefabcokiaaDoorI30
namespace Go.Proofs.YtlbelefabcokiaaDoor.Ident
open Go.RowKit Go.Lib
set_option linter.unusedVariables false
set_option linter.unusedSimpArgs false
set_option maxRecDepth 20000

theorem ref_item_bad (a b p m : Int) (i : Bool) (g : Int) (h : ¬ okIt ⟨a, b, p, m, i, g⟩) (w : World) :
    Calls Tryd.prog 23 #[.agg #[.int .i64 a, .int .i64 b, .int .i64 p, .int .i64 m, .bool i, .int .i64 g]] w fun e w' => e = .returned (.tuple #[.string (tx []), .int .i64 2]) ∧ Below w.heap.size w w' := by
  have hb := alloc_b w (.cells #[.int .i64 a, .int .i64 b, .int .i64 p, .int .i64 m, .bool i, .int .i64 g] TI)
  have hc := fun W => ref_checkI a b p m i g W
  rw [ck_no h] at hc
  replace hc := Lib.hid hc
  go_enter Tryd.func23, Tryd.ntmps23
  go_wp2_with (go_at_call 27; refine (hc.out _).mono ?_; rintro e w' ⟨rfl, hb2⟩)
  go_ret2
  exact ⟨rfl, below2 hb hb2⟩
theorem ref_item_eff (a b p g : Nat) (h : okIt ⟨a, b, p, 0, false, g⟩) (w : World) (hH : Hv w) :
    Calls Tryd.prog 23 #[.agg #[.int .i64 a, .int .i64 b, .int .i64 p, .int .i64 0, .bool false, .int .i64 g]] w fun e w' => e = .returned (.tuple #[.string (tx (itT ⟨a, b, p, 0, false, g⟩)), .int .i64 0]) ∧ Below w.heap.size w w' := by
  have hc := fun W => ref_checkI a b p 0 false g W
  rw [ck_yes h] at hc
  replace hc := Lib.hid hc
  have ho : effOk a b p := by
    obtain ⟨_, _, h | h⟩ := h
    · exact h.2.2
    · have := h.1; simp only at this; omega
  have hg7 : (g : Int) ≤ 7 := h.2.1
  have X0 := Lib.hid (box6_new hH ⟨a, b, p, 0, false, g⟩)
  have hE := fun W hW => ref_effect a b p W hW
  rw [ok_yes ho, show effS a b p = effT a b p from if_pos ho] at hE
  replace hE := Lib.hid hE
  have hI := Lib.hid (fun W => digits_any g (by omega) W)
  have hT : tx (effT a b p) ++ ByteArray.mk #[64] ++ tx (decDigits g) = tx (itT ⟨a, b, p, 0, false, g⟩) := by
    rw [show ByteArray.mk #[64] = tx [64] from rfl, tx_app, tx_app]
    unfold itT hdT
    simp
  have hlE : (tx (effT a b p)).size ≤ 20 := by
    obtain ⟨h1, h2, h3, h4, h5, h6⟩ := ho
    have l1 := dec_len_lt a (by omega)
    have l2 := dec_len_lt b (by omega)
    rw [tx_size]
    simp [effT]
    omega
  have hlG : (tx (decDigits g)).size ≤ 4 := by rw [tx_size]; exact dec_len_lt g (by omega)
  replace hT := Lib.hid hT
  generalize tx (effT a b p) = E at *
  generalize tx (decDigits g) = G at *
  have hz : (ByteArray.mk #[64]).size = 1 := rfl
  have m1 : ¬ 9223372036854775807 < E.size + 1 := by omega
  have m2 : ¬ 9223372036854775807 < E.size + 1 + G.size := by omega
  clear h ho hg7 hlE hlG
  go_enter Tryd.func23, Tryd.ntmps23
  go_wp2_with fail
  refine (hc.out _).mono ?_
  rintro e w1 ⟨rfl, hb1⟩
  have X1 := Lib.hid (X0.out.later hb1)
  obtain ⟨x0, x1, x2, x3, x4, x5⟩ := X1.out.cells
  clear X0 hb1
  go_wp2_with fail
  refine (hE.out _ X1.out.hv).mono ?_
  rintro e w2 ⟨rfl, hb2⟩
  have X2 := Lib.hid (X1.out.later hb2)
  clear X1 hb2 x0 x1 x2 x3 x4 x5
  obtain ⟨x0, x1, x2, x3, x4, x5⟩ := X2.out.cells
  go_wp2_with fail
  refine (hI.out _).mono ?_
  rintro e w3 ⟨rfl, hb3⟩
  have X3 := Lib.hid (X2.out.later hb3)
  clear X2 hb3 x0 x1 x2 x3 x4 x5
  go_wp2
  go_ret2
  exact ⟨congrArg (fun s => Ending.returned (.tuple #[.string s, .int .i64 0])) hT.out, X3.out.bel⟩
theorem ref_item_out (m : Nat) (g : Nat) (h : okIt ⟨0, 0, 0, m, false, g⟩) (w : World) (hH : Hv w) :
    Calls Tryd.prog 23 #[.agg #[.int .i64 0, .int .i64 0, .int .i64 0, .int .i64 m, .bool false, .int .i64 g]] w fun e w' => e = .returned (.tuple #[.string (tx (itT ⟨0, 0, 0, m, false, g⟩)), .int .i64 0]) ∧ Below w.heap.size w w' := by
  have hc := fun W => ref_checkI 0 0 0 m false g W
  rw [ck_yes h] at hc
  replace hc := Lib.hid hc
  have hm : 1 ≤ m ∧ m ≤ 64 := by
    obtain ⟨_, _, h | h⟩ := h
    · have h0 : effOk 0 0 0 := h.2.2
      unfold effOk at h0
      omega
    · have h1 := h.1; have h2 := h.2.1; simp only at h1 h2; omega
  have hg7 : (g : Int) ≤ 7 := h.2.1
  have X0 := Lib.hid (box6_new hH ⟨0, 0, 0, m, false, g⟩)
  obtain ⟨ES, EO, hE⟩ : ∃ (ES : ByteArray) (EO : Int), ∀ W, Hv W → Calls Tryd.prog 17 #[.agg #[.int .i64 0, .int .i64 0, .int .i64 0]] W fun e w' => e = .returned (.tuple #[.string ES, .int .i64 EO]) ∧ Below W.heap.size W w' := ⟨_, _, fun W hW => ref_effect 0 0 0 W hW⟩
  replace hE := Lib.hid hE
  have hI := Lib.hid (fun W => digits_any g (by omega) W)
  have hJ := Lib.hid (fun W => digits_any m (by omega) W)
  have hT : ByteArray.mk #[109] ++ tx (decDigits m) ++ ByteArray.mk #[47, 111, 117, 116] ++ ByteArray.mk #[64] ++ tx (decDigits g) = tx (itT ⟨0, 0, 0, m, false, g⟩) := by
    rw [tx_cons, show ByteArray.mk #[64] = tx [64] from rfl, show ByteArray.mk #[47, 111, 117, 116] = tx [47, 111, 117, 116] from rfl, tx_app, tx_app, tx_app]
    unfold itT hdT
    rw [if_neg (by show ¬ (m : Int) = 0; omega)]
    simp [List.append_assoc, wayT]
  have hlG : (tx (decDigits g)).size ≤ 4 := by rw [tx_size]; exact dec_len_lt g (by omega)
  have hlM : (tx (decDigits m)).size ≤ 4 := by rw [tx_size]; exact dec_len_lt m (by omega)
  have hd : decide (0 < (m : Int)) = true := by simp; omega
  have hd2 : (0 < m) = True := eq_true (by omega)
  obtain ⟨RR, hRR⟩ : ∃ RR, tx (itT ⟨0, 0, 0, m, false, g⟩) = RR := ⟨_, rfl⟩
  rw [hRR] at hT ⊢
  clear hRR
  replace hT := Lib.hid hT
  generalize tx (decDigits g) = G at *
  generalize tx (decDigits m) = M at *
  have hz : (ByteArray.mk #[64]).size = 1 := rfl
  have hz1 : (ByteArray.mk #[109]).size = 1 := rfl
  have hz3 : (ByteArray.mk #[47, 105, 110]).size = 3 := rfl
  have hz4 : (ByteArray.mk #[47, 111, 117, 116]).size = 4 := rfl
  obtain ⟨A1, hA1⟩ : ∃ A1, ByteArray.mk #[109] ++ M = A1 := ⟨_, rfl⟩
  obtain ⟨A2, hA2⟩ : ∃ A2, A1 ++ ByteArray.mk #[47, 111, 117, 116] = A2 := ⟨_, rfl⟩
  obtain ⟨Q, hQ⟩ : ∃ Q, A2 ++ ByteArray.mk #[64] = Q := ⟨_, rfl⟩
  have s1 : A1.size = 1 + M.size := by rw [← hA1]; simp [ByteArray.size_append, hz1]
  have s2 : A2.size = A1.size + 4 := by rw [← hA2]; simp [ByteArray.size_append, hz4]
  have s3 : Q.size = A2.size + 1 := by rw [← hQ]; simp [ByteArray.size_append, hz]
  have m1 : ¬ 9223372036854775807 < 1 + M.size := by omega
  have m2 : ¬ 9223372036854775807 < A1.size + 4 := by omega
  have m3 : ¬ 9223372036854775807 < A2.size + 1 := by omega
  have m4 : ¬ 9223372036854775807 < Q.size + G.size := by omega
  replace hT := hT.out
  rw [hA1, hA2, hQ] at hT
  replace hT := Lib.hid hT
  clear h hm hg7 hlG hlM s1 s2 s3
  go_enter Tryd.func23, Tryd.ntmps23
  go_wp2_with fail
  refine (hc.out _).mono ?_
  rintro e w1 ⟨rfl, hb1⟩
  have X1 := Lib.hid (X0.out.later hb1)
  obtain ⟨x0, x1, x2, x3, x4, x5⟩ := X1.out.cells
  clear X0 hb1
  go_wp2_with fail
  refine (hE.out _ X1.out.hv).mono ?_
  rintro e w2 ⟨rfl, hb2⟩
  have X2 := Lib.hid (X1.out.later hb2)
  clear X1 hb2 x0 x1 x2 x3 x4 x5
  obtain ⟨x0, x1, x2, x3, x4, x5⟩ := X2.out.cells
  go_wp2_with fail
  refine (hJ.out _).mono ?_
  rintro e w3 ⟨rfl, hb3⟩
  have X3 := Lib.hid (X2.out.later hb3)
  clear X2 hb3 x0 x1 x2 x3 x4 x5
  obtain ⟨x0, x1, x2, x3, x4, x5⟩ := X3.out.cells
  go_wp2_with fail
  refine (hI.out _).mono ?_
  rintro e w4 ⟨rfl, hb4⟩
  have X4 := Lib.hid (X3.out.later hb4)
  clear X3 hb4 x0 x1 x2 x3 x4 x5
  go_wp2
  go_ret2
  exact ⟨congrArg (fun s => Ending.returned (.tuple #[.string s, .int .i64 0])) hT.out, X4.out.bel⟩
theorem ref_item_in (m : Nat) (g : Nat) (h : okIt ⟨0, 0, 0, m, true, g⟩) (w : World) (hH : Hv w) :
    Calls Tryd.prog 23 #[.agg #[.int .i64 0, .int .i64 0, .int .i64 0, .int .i64 m, .bool true, .int .i64 g]] w fun e w' => e = .returned (.tuple #[.string (tx (itT ⟨0, 0, 0, m, true, g⟩)), .int .i64 0]) ∧ Below w.heap.size w w' := by
  have hc := fun W => ref_checkI 0 0 0 m true g W
  rw [ck_yes h] at hc
  replace hc := Lib.hid hc
  have hm : 1 ≤ m ∧ m ≤ 64 := by
    obtain ⟨_, _, h | h⟩ := h
    · have h0 : effOk 0 0 0 := h.2.2
      unfold effOk at h0
      omega
    · have h1 := h.1; have h2 := h.2.1; simp only at h1 h2; omega
  have hg7 : (g : Int) ≤ 7 := h.2.1
  have X0 := Lib.hid (box6_new hH ⟨0, 0, 0, m, true, g⟩)
  obtain ⟨ES, EO, hE⟩ : ∃ (ES : ByteArray) (EO : Int), ∀ W, Hv W → Calls Tryd.prog 17 #[.agg #[.int .i64 0, .int .i64 0, .int .i64 0]] W fun e w' => e = .returned (.tuple #[.string ES, .int .i64 EO]) ∧ Below W.heap.size W w' := ⟨_, _, fun W hW => ref_effect 0 0 0 W hW⟩
  replace hE := Lib.hid hE
  have hI := Lib.hid (fun W => digits_any g (by omega) W)
  have hJ := Lib.hid (fun W => digits_any m (by omega) W)
  have hT : ByteArray.mk #[109] ++ tx (decDigits m) ++ ByteArray.mk #[47, 105, 110] ++ ByteArray.mk #[64] ++ tx (decDigits g) = tx (itT ⟨0, 0, 0, m, true, g⟩) := by
    rw [tx_cons, show ByteArray.mk #[64] = tx [64] from rfl, show ByteArray.mk #[47, 105, 110] = tx [47, 105, 110] from rfl, tx_app, tx_app, tx_app]
    unfold itT hdT
    rw [if_neg (by show ¬ (m : Int) = 0; omega)]
    simp [List.append_assoc, wayT]
  have hlG : (tx (decDigits g)).size ≤ 4 := by rw [tx_size]; exact dec_len_lt g (by omega)
  have hlM : (tx (decDigits m)).size ≤ 4 := by rw [tx_size]; exact dec_len_lt m (by omega)
  have hd : decide (0 < (m : Int)) = true := by simp; omega
  have hd2 : (0 < m) = True := eq_true (by omega)
  obtain ⟨RR, hRR⟩ : ∃ RR, tx (itT ⟨0, 0, 0, m, true, g⟩) = RR := ⟨_, rfl⟩
  rw [hRR] at hT ⊢
  clear hRR
  replace hT := Lib.hid hT
  generalize tx (decDigits g) = G at *
  generalize tx (decDigits m) = M at *
  have hz : (ByteArray.mk #[64]).size = 1 := rfl
  have hz1 : (ByteArray.mk #[109]).size = 1 := rfl
  have hz3 : (ByteArray.mk #[47, 105, 110]).size = 3 := rfl
  have hz4 : (ByteArray.mk #[47, 111, 117, 116]).size = 4 := rfl
  obtain ⟨A1, hA1⟩ : ∃ A1, ByteArray.mk #[109] ++ M = A1 := ⟨_, rfl⟩
  obtain ⟨A2, hA2⟩ : ∃ A2, A1 ++ ByteArray.mk #[47, 105, 110] = A2 := ⟨_, rfl⟩
  obtain ⟨A3, hA3⟩ : ∃ A3, A1 ++ ByteArray.mk #[47, 111, 117, 116] = A3 := ⟨_, rfl⟩
  obtain ⟨Q, hQ⟩ : ∃ Q, A2 ++ ByteArray.mk #[64] = Q := ⟨_, rfl⟩
  have s1 : A1.size = 1 + M.size := by rw [← hA1]; simp [ByteArray.size_append, hz1]
  have s2 : A2.size = A1.size + 3 := by rw [← hA2]; simp [ByteArray.size_append, hz3]
  have s3 : Q.size = A2.size + 1 := by rw [← hQ]; simp [ByteArray.size_append, hz]
  have m1 : ¬ 9223372036854775807 < 1 + M.size := by omega
  have m2 : ¬ 9223372036854775807 < A1.size + 3 := by omega
  have m5 : ¬ 9223372036854775807 < A1.size + 4 := by omega
  have m3 : ¬ 9223372036854775807 < A2.size + 1 := by omega
  have m4 : ¬ 9223372036854775807 < Q.size + G.size := by omega
  replace hT := hT.out
  rw [hA1, hA2, hQ] at hT
  replace hT := Lib.hid hT
  clear h hm hg7 hlG hlM s1 s2 s3
  go_enter Tryd.func23, Tryd.ntmps23
  go_wp2_with fail
  refine (hc.out _).mono ?_
  rintro e w1 ⟨rfl, hb1⟩
  have X1 := Lib.hid (X0.out.later hb1)
  obtain ⟨x0, x1, x2, x3, x4, x5⟩ := X1.out.cells
  clear X0 hb1
  go_wp2_with fail
  refine (hE.out _ X1.out.hv).mono ?_
  rintro e w2 ⟨rfl, hb2⟩
  have X2 := Lib.hid (X1.out.later hb2)
  clear X1 hb2 x0 x1 x2 x3 x4 x5
  obtain ⟨x0, x1, x2, x3, x4, x5⟩ := X2.out.cells
  go_wp2_with fail
  refine (hJ.out _).mono ?_
  rintro e w3 ⟨rfl, hb3⟩
  have X3 := Lib.hid (X2.out.later hb3)
  clear X2 hb3 x0 x1 x2 x3 x4 x5
  obtain ⟨x0, x1, x2, x3, x4, x5⟩ := X3.out.cells
  go_wp2_with fail
  refine (hJ.out _).mono ?_
  rintro e w4 ⟨rfl, hb4⟩
  have X4 := Lib.hid (X3.out.later hb4)
  clear X3 hb4 x0 x1 x2 x3 x4 x5
  obtain ⟨x0, x1, x2, x3, x4, x5⟩ := X4.out.cells
  go_wp2_with fail
  refine (hI.out _).mono ?_
  rintro e w5 ⟨rfl, hb5⟩
  have X5 := Lib.hid (X4.out.later hb5)
  clear X4 hb5 x0 x1 x2 x3 x4 x5
  go_wp2
  go_ret2
  exact ⟨congrArg (fun s => Ending.returned (.tuple #[.string s, .int .i64 0])) hT.out, X5.out.bel⟩
theorem ref_item (x : It) (w : World) (hH : Hv w) :
    Calls Tryd.prog 23 #[itV x] w fun e w' => e = .returned (.tuple #[.string (tx (itS x)), .int .i64 (ckI x)]) ∧ Below w.heap.size w w' := by
  obtain ⟨a, b, p, m, i, g⟩ := x
  by_cases h : okIt ⟨a, b, p, m, i, g⟩
  · rw [show itS ⟨a, b, p, m, i, g⟩ = itT ⟨a, b, p, m, i, g⟩ from if_pos h, show ckI ⟨a, b, p, m, i, g⟩ = 0 from if_pos h]
    have h' := h
    obtain ⟨g1, g7, ⟨hm, hi, ho⟩ | ⟨h1, h2, h3, h4, h5⟩⟩ := h'
    · simp only at g1 g7 hm hi ho
      subst hm hi
      obtain ⟨h1, h2, h3, h4, h5, h6⟩ := ho
      obtain ⟨x, rfl⟩ := Int.eq_ofNat_of_zero_le (show 0 ≤ a by omega)
      obtain ⟨y, rfl⟩ := Int.eq_ofNat_of_zero_le (show 0 ≤ b by omega)
      obtain ⟨z, rfl⟩ := Int.eq_ofNat_of_zero_le (show 0 ≤ p by omega)
      obtain ⟨u, rfl⟩ := Int.eq_ofNat_of_zero_le (show 0 ≤ g by omega)
      exact ref_item_eff x y z u h w hH
    · simp only at g1 g7 h1 h2 h3 h4 h5
      subst h3 h4 h5
      obtain ⟨x, rfl⟩ := Int.eq_ofNat_of_zero_le (show 0 ≤ m by omega)
      obtain ⟨u, rfl⟩ := Int.eq_ofNat_of_zero_le (show 0 ≤ g by omega)
      cases i
      · exact ref_item_out x u h w hH
      · exact ref_item_in x u h w hH
  · rw [show itS ⟨a, b, p, m, i, g⟩ = [] from if_neg h, show ckI ⟨a, b, p, m, i, g⟩ = 2 from if_neg h]
    exact ref_item_bad a b p m i g h w
end Go.Proofs.YtlbelefabcokiaaDoor.Ident
