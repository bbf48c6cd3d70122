/- The walk of BallotCounts. -/
import Derived.Test.YtabfpdlnljkgpaaDoorB09
namespace Go.Proofs.YtabfpdlnljkgpaaDoor.Bal
open Go.RowKit Go.Lib
set_option linter.unusedVariables false
set_option linter.unusedSimpArgs false
set_option maxRecDepth 20000

theorem nm_val {n R M : Int} (hn : 1 ≤ n ∧ n ≤ 7) (h : bOk n R M) : nmV R M n = if R = 0 then 0 else (R - 1) * n + M + 1 := if_pos ⟨hn, h⟩
theorem nm_lt {n R M R' M' : Int} (hn : 1 ≤ n ∧ n ≤ 7) (h : bOk n R M) (h' : bOk n R' M') : nmV R M n < nmV R' M' n ↔ ordV R M R' M' < 0 := by
  rw [nm_val hn h, nm_val hn h', ord_lt]
  unfold bOk at h h'
  obtain rfl | rfl | rfl | rfl | rfl | rfl | rfl : n = 1 ∨ n = 2 ∨ n = 3 ∨ n = 4 ∨ n = 5 ∨ n = 6 ∨ n = 7 := by omega
  all_goals (split <;> split <;> omega)
theorem nm_eq {n R M R' M' : Int} (hn : 1 ≤ n ∧ n ≤ 7) (h : bOk n R M) (h' : bOk n R' M') (e : nmV R M n = nmV R' M' n) : R = R' ∧ M = M' := by
  rw [nm_val hn h, nm_val hn h'] at e
  unfold bOk at h h'
  obtain rfl | rfl | rfl | rfl | rfl | rfl | rfl : n = 1 ∨ n = 2 ∨ n = 3 ∨ n = 4 ∨ n = 5 ∨ n = 6 ∨ n = 7 := by omega
  all_goals (split at e <;> split at e <;> omega)
theorem nm_range {n R M : Int} (hn : 1 ≤ n ∧ n ≤ 7) (h : bOk n R M) : 0 ≤ nmV R M n ∧ nmV R M n ≤ 1073741824 * n := by
  rw [nm_val hn h]
  unfold bOk at h
  obtain rfl | rfl | rfl | rfl | rfl | rfl | rfl : n = 1 ∨ n = 2 ∨ n = 3 ∨ n = 4 ∨ n = 5 ∨ n = 6 ∨ n = 7 := by omega
  all_goals (split <;> omega)
theorem nm_from {n R M : Int} (hn : 1 ≤ n ∧ n ≤ 7) (h : bOk n R M) : FnIs (nmV R M n) n R M 0 := by
  have hr := nm_range hn h
  by_cases h0 : nmV R M n = 0
  · obtain ⟨a, b, c⟩ := fn_0 hn h0
    have e : R = 0 ∧ M = 0 := by
      rw [nm_val hn h] at h0
      unfold bOk at h
      obtain rfl | rfl | rfl | rfl | rfl | rfl | rfl : n = 1 ∨ n = 2 ∨ n = 3 ∨ n = 4 ∨ n = 5 ∨ n = 6 ∨ n = 7 := by omega
      all_goals (split at h0 <;> omega)
    exact ⟨a.trans e.1.symm, b.trans e.2.symm, c⟩
  · obtain ⟨a, b, c⟩ := fn_ok hn hr h0
    have e : (nmV R M n - 1) / n + 1 = R ∧ (nmV R M n - 1) % n = M := by
      rw [nm_val hn h] at h0 ⊢
      unfold bOk at h
      obtain rfl | rfl | rfl | rfl | rfl | rfl | rfl : n = 1 ∨ n = 2 ∨ n = 3 ∨ n = 4 ∨ n = 5 ∨ n = 6 ∨ n = 7 := by omega
      all_goals (split at h0 <;> first | (exact absurd rfl h0) | (rename_i hz; rw [if_neg hz]; omega))
    exact ⟨a.trans e.1, b.trans e.2, c⟩
theorem from_nm {n k : Int} (hn : 1 ≤ n ∧ n ≤ 7) (hk : 0 ≤ k ∧ k ≤ 1073741824 * n) : bOk n (fnA k n) (fnB k n) ∧ nmV (fnA k n) (fnB k n) n = k ∧ fnE k n = 0 := by
  by_cases h0 : k = 0
  · obtain ⟨a, b, c⟩ := fn_0 hn h0
    rw [a, b]
    exact ⟨.inl ⟨rfl, rfl⟩, by rw [nm_val hn (.inl ⟨rfl, rfl⟩), if_pos rfl, h0], c⟩
  · obtain ⟨a, b, c⟩ := fn_ok hn hk h0
    rw [a, b]
    have hb : bOk n ((k - 1) / n + 1) ((k - 1) % n) := by
      refine .inr ?_
      obtain rfl | rfl | rfl | rfl | rfl | rfl | rfl : n = 1 ∨ n = 2 ∨ n = 3 ∨ n = 4 ∨ n = 5 ∨ n = 6 ∨ n = 7 := by omega
      all_goals omega
    refine ⟨hb, ?_, c⟩
    have hz : ¬ (k - 1) / n + 1 = 0 := by
      obtain rfl | rfl | rfl | rfl | rfl | rfl | rfl : n = 1 ∨ n = 2 ∨ n = 3 ∨ n = 4 ∨ n = 5 ∨ n = 6 ∨ n = 7 := by omega
      all_goals omega
    rw [nm_val hn hb, if_neg hz]
    obtain rfl | rfl | rfl | rfl | rfl | rfl | rfl : n = 1 ∨ n = 2 ∨ n = 3 ∨ n = 4 ∨ n = 5 ∨ n = 6 ∨ n = 7 := by omega
    all_goals omega
set_option maxHeartbeats 2000000 in
theorem counts_lt (c : Nat) (hc : c < 256) (n : Nat) (hn : 1 ≤ n ∧ n ≤ 7) (hcn : 1 + (c : Int) % 7 = n) (r1 r2 k1 k2 : Nat) (hr1 : r1 < 4294967296) (hr2 : r2 < 4294967296) (hk1 : k1 < 256) (hk2 : k2 < 256) (k m : Nat) (hk : k < 18446744073709551616)
    (hm : k % (n * 1073741824 + 1) = m) (hX : nmV (mdA r1) (mdB r1 k1 n) n < nmV (mdA r2) (mdB r2 k2 n) n) (w : World) (hH : Hv w) :
    Calls Tryd.prog 9 #[.int .u8 c, .int .u32 r1, .int .u32 r2, .int .u8 k1, .int .u8 k2, .int .u64 k] w fun e w' => e = .returned (.bool true) ∧ Below w.heap.size w w' := by
  have hA := fun W => made_any r1 k1 n hr1 hk1 hn W
  have hB := fun W => made_any r2 k2 n hr2 hk2 hn W
  have oA : bOk n (mdA r1) (mdB r1 k1 n) := made_ok r1 k1 n hn
  have oB : bOk n (mdA r2) (mdB r2 k2 n) := made_ok r2 k2 n hn
  generalize mdA r1 = R at *
  generalize mdB r1 k1 n = M at *
  generalize mdA r2 = R' at *
  generalize mdB r2 k2 n = M' at *
  have hn' : 1 ≤ (n : Int) ∧ (n : Int) ≤ 7 := by omega
  have hNA := fun W => number_any R M n W
  have hNB := fun W => number_any R' M' n W
  rw [ck_ok oA hn'] at hNA
  rw [ck_ok oB hn'] at hNB
  have hF := fun W => from_any (nmV R M n) n W
  obtain ⟨e1, e2, e3⟩ := nm_from hn' oA
  rw [e1, e2, e3] at hF
  have hO := fun W => order_any R M R' M' W
  have hne : ¬ (R = R' ∧ M = M') := fun x => by rw [x.1, x.2] at hX; omega
  have qy := fun W => eq_b R M R' M' W
  rw [eqB_f hne] at qy
  clear hne
  have hX2 := (nm_lt hn' oA oB).1 hX
  have hX3 : (nmV R M n == nmV R' M' n) = false := by simp; omega
  have hX4 : ¬ nmV R M n = nmV R' M' n := by omega
  have hxr := nm_range hn' oA
  have hxa : ¬ nmV R M n < 0 := by omega
  have hxb : ¬ (n : Int) * 1073741824 < nmV R M n := by omega
  have hmr : m ≤ 1073741824 * n := by rw [← hm]; have := Nat.mod_lt k (y := n * 1073741824 + 1) (by omega); omega
  obtain ⟨g1, g2, g3⟩ := from_nm hn' (k := (m : Int)) (by omega)
  have hG := fun W => from_any (m : Int) n W
  rw [g3] at hG
  have hGN := fun W => number_any (fnA m n) (fnB m n) n W
  have hGC := fun W => check_any (fnA m n) (fnB m n) n W
  rw [ck_ok g1 hn'] at hGC hGN
  rw [g2] at hGN
  have hZ := fun W => from_any (1073741824 * (n : Int) + 1) n W
  obtain ⟨f1, f2, f3⟩ := fn_k (k := 1073741824 * (n : Int) + 1) hn' (by omega)
  rw [f1, f2, f3] at hZ
  generalize fnA m n = D at *
  generalize fnB m n = E at *
  generalize nmV R M n = X at *
  generalize nmV R' M' n = Y at *
  generalize ordV R M R' M' = o at *
  have qz := fun W => eq_b R M R M W
  rw [eqB_t ⟨rfl, rfl⟩] at qz
  have s1 : IntKind.i64.wrap (c : Int) = c := wr (by omega) (by omega)
  have s2 : IntKind.i64.wrap (1 + (c : Int) % 7) = n := by rw [hcn]; exact wr (by omega) (by omega)
  have s3 : (k : Int) % ((n : Int) * 1073741824 + 1) = m := by rw [← hm]; simp
  have s4 : IntKind.i64.wrap (m : Int) = m := wr (by omega) (by omega)
  have s5 : wrap64 (m : Int) = m := by unfold wrap64; omega
  clear hm
  have t1 : IntKind.i64.wrap ((n : Int) * 1073741824 + 1) = 1073741824 * (n : Int) + 1 := by rw [wr (by omega) (by omega)]; omega
  clear hxr hmr
  replace hA := Lib.hid hA
  replace hB := Lib.hid hB
  replace hNA := Lib.hid hNA
  replace hNB := Lib.hid hNB
  replace hF := Lib.hid hF
  replace hO := Lib.hid hO
  replace hG := Lib.hid hG
  replace hGN := Lib.hid hGN
  replace hGC := Lib.hid hGC
  replace hZ := Lib.hid hZ
  clear e1 e2 e3 f1 f2 f3 g1 g2 g3 oA oB
  go_enter Tryd.func9, Tryd.ntmps9
  go_wp2_with fail
  refine (hA.out _).mono ?_
  rintro e w1 ⟨rfl, hb1⟩
  have A1 := Lib.hid (bx_at hb1 R M)
  clear hb1
  go_wp2_with fail
  refine (hB.out _).mono ?_
  rintro e w2 ⟨rfl, hb2⟩
  have A2' := A1.out.later hb2
  have A2 := A2'.alloc (.cells #[.int .i64 R', .int .i64 M'] TB)
  have B2 := bx_at A2'.bel R' M'
  obtain ⟨a0, a1, _, _⟩ := A2.cells
  clear A1 hb2 A2'
  replace A2 := Lib.hid A2
  replace B2 := Lib.hid B2
  go_wp2_with fail
  refine (hNA.out _).mono ?_
  rintro e w3 ⟨rfl, hb3⟩
  have A3 := Lib.hid (A2.out.later hb3)
  have B3 := B2.out.later hb3
  obtain ⟨b0, b1, _, _⟩ := B3.cells
  replace B3 := Lib.hid B3
  clear a0 a1 A2 B2 hb3
  go_wp2_with fail
  refine (hNB.out _).mono ?_
  rintro e w4 ⟨rfl, hb4⟩
  have A4 := Lib.hid (A3.out.later hb4)
  have B4 := Lib.hid (B3.out.later hb4)
  clear b0 b1 A3 B3 hb4
  go_wp2_with fail
  refine (hF.out _).mono ?_
  rintro e w5 ⟨rfl, hb5⟩
  have A5' := A4.out.later hb5
  have A5 := A5'.alloc (.cells #[.int .i64 R, .int .i64 M] TB)
  have B5 := (B4.out.later hb5).alloc (.cells #[.int .i64 R, .int .i64 M] TB)
  have C5 := bx_at A5'.bel R M
  obtain ⟨a0, a1, _, _⟩ := A5.cells
  obtain ⟨b0, b1, _, _⟩ := B5.cells
  obtain ⟨c0, c1, _, _⟩ := C5.cells
  clear A4 B4 hb5 A5'
  replace A5 := Lib.hid A5
  replace B5 := Lib.hid B5
  clear C5
  go_wp2_with fail
  refine (hO.out _).mono ?_
  rintro e w6 ⟨rfl, hb6⟩
  have A6 := A5.out.later hb6
  have B6 := B5.out.later hb6
  obtain ⟨a0, a1, _, _⟩ := A6.cells
  obtain ⟨b0, b1, _, _⟩ := B6.cells
  replace A6 := Lib.hid A6
  go_wp2_with fail
  refine (hG.out _).mono ?_
  rintro e w7 ⟨rfl, hb7⟩
  have A7' := A6.out.bel.trans (hb7.mono A6.out.bel.size)
  have C7 := bx_at A7' D E
  obtain ⟨a0, a1, _, _⟩ := C7.cells
  clear A6 hb7 A7'
  replace C7 := Lib.hid C7
  go_wp2_with fail
  refine (hGN.out _).mono ?_
  rintro e w8 ⟨rfl, hb8⟩
  have C8 := Lib.hid (C7.out.later hb8)
  clear a0 a1 C7 hb8
  go_wp2_with fail
  refine (hZ.out _).mono ?_
  rintro e w9 ⟨rfl, hb9⟩
  have C9 := (C8.out.later hb9).alloc (.cells #[.int .i64 0, .int .i64 0] TB)
  obtain ⟨a0, a1, _, _⟩ := C9.cells
  clear C8 hb9
  replace C9 := Lib.hid C9
  go_wp2_with fail
  refine (hGC.out _).mono ?_
  rintro e w10 ⟨rfl, hb10⟩
  have C10 := (C9.out.later hb10).bel
  clear a0 a1 C9 hb10
  go_wp2_with fail
  refine (works_any _ (hH.later C10)).mono ?_
  rintro e w11 ⟨rfl, hb11⟩
  have hz := below2 C10 hb11
  go_wp2
  go_ret
  exact ⟨rfl, hz⟩
set_option maxHeartbeats 2000000 in
theorem counts_gt (c : Nat) (hc : c < 256) (n : Nat) (hn : 1 ≤ n ∧ n ≤ 7) (hcn : 1 + (c : Int) % 7 = n) (r1 r2 k1 k2 : Nat) (hr1 : r1 < 4294967296) (hr2 : r2 < 4294967296) (hk1 : k1 < 256) (hk2 : k2 < 256) (k m : Nat) (hk : k < 18446744073709551616)
    (hm : k % (n * 1073741824 + 1) = m) (hX : nmV (mdA r2) (mdB r2 k2 n) n < nmV (mdA r1) (mdB r1 k1 n) n) (w : World) (hH : Hv w) :
    Calls Tryd.prog 9 #[.int .u8 c, .int .u32 r1, .int .u32 r2, .int .u8 k1, .int .u8 k2, .int .u64 k] w fun e w' => e = .returned (.bool true) ∧ Below w.heap.size w w' := by
  have hA := fun W => made_any r1 k1 n hr1 hk1 hn W
  have hB := fun W => made_any r2 k2 n hr2 hk2 hn W
  have oA : bOk n (mdA r1) (mdB r1 k1 n) := made_ok r1 k1 n hn
  have oB : bOk n (mdA r2) (mdB r2 k2 n) := made_ok r2 k2 n hn
  generalize mdA r1 = R at *
  generalize mdB r1 k1 n = M at *
  generalize mdA r2 = R' at *
  generalize mdB r2 k2 n = M' at *
  have hn' : 1 ≤ (n : Int) ∧ (n : Int) ≤ 7 := by omega
  have hNA := fun W => number_any R M n W
  have hNB := fun W => number_any R' M' n W
  rw [ck_ok oA hn'] at hNA
  rw [ck_ok oB hn'] at hNB
  have hF := fun W => from_any (nmV R M n) n W
  obtain ⟨e1, e2, e3⟩ := nm_from hn' oA
  rw [e1, e2, e3] at hF
  have hO := fun W => order_any R M R' M' W
  have hne : ¬ (R = R' ∧ M = M') := fun x => by rw [x.1, x.2] at hX; omega
  have qy := fun W => eq_b R M R' M' W
  rw [eqB_f hne] at qy
  clear hne
  have hX5 : ¬ nmV R M n < nmV R' M' n := by omega
  have hX2 : ¬ ordV R M R' M' < 0 := fun x => hX5 ((nm_lt hn' oA oB).2 x)
  have hX3 : (nmV R M n == nmV R' M' n) = false := by simp; omega
  have hX4 : ¬ nmV R M n = nmV R' M' n := by omega
  have hxr := nm_range hn' oA
  have hxa : ¬ nmV R M n < 0 := by omega
  have hxb : ¬ (n : Int) * 1073741824 < nmV R M n := by omega
  have hmr : m ≤ 1073741824 * n := by rw [← hm]; have := Nat.mod_lt k (y := n * 1073741824 + 1) (by omega); omega
  obtain ⟨g1, g2, g3⟩ := from_nm hn' (k := (m : Int)) (by omega)
  have hG := fun W => from_any (m : Int) n W
  rw [g3] at hG
  have hGN := fun W => number_any (fnA m n) (fnB m n) n W
  have hGC := fun W => check_any (fnA m n) (fnB m n) n W
  rw [ck_ok g1 hn'] at hGC hGN
  rw [g2] at hGN
  have hZ := fun W => from_any (1073741824 * (n : Int) + 1) n W
  obtain ⟨f1, f2, f3⟩ := fn_k (k := 1073741824 * (n : Int) + 1) hn' (by omega)
  rw [f1, f2, f3] at hZ
  generalize fnA m n = D at *
  generalize fnB m n = E at *
  generalize nmV R M n = X at *
  generalize nmV R' M' n = Y at *
  generalize ordV R M R' M' = o at *
  have qz := fun W => eq_b R M R M W
  rw [eqB_t ⟨rfl, rfl⟩] at qz
  have s1 : IntKind.i64.wrap (c : Int) = c := wr (by omega) (by omega)
  have s2 : IntKind.i64.wrap (1 + (c : Int) % 7) = n := by rw [hcn]; exact wr (by omega) (by omega)
  have s3 : (k : Int) % ((n : Int) * 1073741824 + 1) = m := by rw [← hm]; simp
  have s4 : IntKind.i64.wrap (m : Int) = m := wr (by omega) (by omega)
  have s5 : wrap64 (m : Int) = m := by unfold wrap64; omega
  clear hm
  have t1 : IntKind.i64.wrap ((n : Int) * 1073741824 + 1) = 1073741824 * (n : Int) + 1 := by rw [wr (by omega) (by omega)]; omega
  clear hxr hmr
  replace hA := Lib.hid hA
  replace hB := Lib.hid hB
  replace hNA := Lib.hid hNA
  replace hNB := Lib.hid hNB
  replace hF := Lib.hid hF
  replace hO := Lib.hid hO
  replace hG := Lib.hid hG
  replace hGN := Lib.hid hGN
  replace hGC := Lib.hid hGC
  replace hZ := Lib.hid hZ
  clear e1 e2 e3 f1 f2 f3 g1 g2 g3 oA oB
  go_enter Tryd.func9, Tryd.ntmps9
  go_wp2_with fail
  refine (hA.out _).mono ?_
  rintro e w1 ⟨rfl, hb1⟩
  have A1 := Lib.hid (bx_at hb1 R M)
  clear hb1
  go_wp2_with fail
  refine (hB.out _).mono ?_
  rintro e w2 ⟨rfl, hb2⟩
  have A2' := A1.out.later hb2
  have A2 := A2'.alloc (.cells #[.int .i64 R', .int .i64 M'] TB)
  have B2 := bx_at A2'.bel R' M'
  obtain ⟨a0, a1, _, _⟩ := A2.cells
  clear A1 hb2 A2'
  replace A2 := Lib.hid A2
  replace B2 := Lib.hid B2
  go_wp2_with fail
  refine (hNA.out _).mono ?_
  rintro e w3 ⟨rfl, hb3⟩
  have A3 := Lib.hid (A2.out.later hb3)
  have B3 := B2.out.later hb3
  obtain ⟨b0, b1, _, _⟩ := B3.cells
  replace B3 := Lib.hid B3
  clear a0 a1 A2 B2 hb3
  go_wp2_with fail
  refine (hNB.out _).mono ?_
  rintro e w4 ⟨rfl, hb4⟩
  have A4 := Lib.hid (A3.out.later hb4)
  have B4 := Lib.hid (B3.out.later hb4)
  clear b0 b1 A3 B3 hb4
  go_wp2_with fail
  refine (hF.out _).mono ?_
  rintro e w5 ⟨rfl, hb5⟩
  have A5' := A4.out.later hb5
  have A5 := A5'.alloc (.cells #[.int .i64 R, .int .i64 M] TB)
  have B5 := (B4.out.later hb5).alloc (.cells #[.int .i64 R, .int .i64 M] TB)
  have C5 := bx_at A5'.bel R M
  obtain ⟨a0, a1, _, _⟩ := A5.cells
  obtain ⟨b0, b1, _, _⟩ := B5.cells
  obtain ⟨c0, c1, _, _⟩ := C5.cells
  clear A4 B4 hb5 A5'
  replace A5 := Lib.hid A5
  replace B5 := Lib.hid B5
  clear C5
  go_wp2_with fail
  refine (hO.out _).mono ?_
  rintro e w6 ⟨rfl, hb6⟩
  have A6 := A5.out.later hb6
  have B6 := B5.out.later hb6
  obtain ⟨a0, a1, _, _⟩ := A6.cells
  obtain ⟨b0, b1, _, _⟩ := B6.cells
  replace A6 := Lib.hid A6
  go_wp2_with fail
  refine (hG.out _).mono ?_
  rintro e w7 ⟨rfl, hb7⟩
  have A7' := A6.out.bel.trans (hb7.mono A6.out.bel.size)
  have C7 := bx_at A7' D E
  obtain ⟨a0, a1, _, _⟩ := C7.cells
  clear A6 hb7 A7'
  replace C7 := Lib.hid C7
  go_wp2_with fail
  refine (hGN.out _).mono ?_
  rintro e w8 ⟨rfl, hb8⟩
  have C8 := Lib.hid (C7.out.later hb8)
  clear a0 a1 C7 hb8
  go_wp2_with fail
  refine (hZ.out _).mono ?_
  rintro e w9 ⟨rfl, hb9⟩
  have C9 := (C8.out.later hb9).alloc (.cells #[.int .i64 0, .int .i64 0] TB)
  obtain ⟨a0, a1, _, _⟩ := C9.cells
  clear C8 hb9
  replace C9 := Lib.hid C9
  go_wp2_with fail
  refine (hGC.out _).mono ?_
  rintro e w10 ⟨rfl, hb10⟩
  have C10 := (C9.out.later hb10).bel
  clear a0 a1 C9 hb10
  go_wp2_with fail
  refine (works_any _ (hH.later C10)).mono ?_
  rintro e w11 ⟨rfl, hb11⟩
  have hz := below2 C10 hb11
  go_wp2
  go_ret
  exact ⟨rfl, hz⟩
set_option maxHeartbeats 2000000 in
theorem counts_eq (c : Nat) (hc : c < 256) (n : Nat) (hn : 1 ≤ n ∧ n ≤ 7) (hcn : 1 + (c : Int) % 7 = n) (r1 r2 k1 k2 : Nat) (hr1 : r1 < 4294967296) (hr2 : r2 < 4294967296) (hk1 : k1 < 256) (hk2 : k2 < 256) (k m : Nat) (hk : k < 18446744073709551616)
    (hm : k % (n * 1073741824 + 1) = m) (hX : nmV (mdA r1) (mdB r1 k1 n) n = nmV (mdA r2) (mdB r2 k2 n) n) (w : World) (hH : Hv w) :
    Calls Tryd.prog 9 #[.int .u8 c, .int .u32 r1, .int .u32 r2, .int .u8 k1, .int .u8 k2, .int .u64 k] w fun e w' => e = .returned (.bool true) ∧ Below w.heap.size w w' := by
  have hA := fun W => made_any r1 k1 n hr1 hk1 hn W
  have hB := fun W => made_any r2 k2 n hr2 hk2 hn W
  have oA : bOk n (mdA r1) (mdB r1 k1 n) := made_ok r1 k1 n hn
  have oB : bOk n (mdA r2) (mdB r2 k2 n) := made_ok r2 k2 n hn
  generalize mdA r1 = R at *
  generalize mdB r1 k1 n = M at *
  generalize mdA r2 = R' at *
  generalize mdB r2 k2 n = M' at *
  have hn' : 1 ≤ (n : Int) ∧ (n : Int) ≤ 7 := by omega
  have hNA := fun W => number_any R M n W
  have hNB := fun W => number_any R' M' n W
  rw [ck_ok oA hn'] at hNA
  rw [ck_ok oB hn'] at hNB
  have hF := fun W => from_any (nmV R M n) n W
  obtain ⟨e1, e2, e3⟩ := nm_from hn' oA
  rw [e1, e2, e3] at hF
  have hO := fun W => order_any R M R' M' W
  obtain ⟨x1, x2⟩ := nm_eq hn' oA oB hX
  subst x1 x2
  have hX2 : ¬ ordV R M R M < 0 := fun x => by have := (nm_lt hn' oA oB).2 x; omega
  clear hX
  have hxr := nm_range hn' oA
  have hxa : ¬ nmV R M n < 0 := by omega
  have hxb : ¬ (n : Int) * 1073741824 < nmV R M n := by omega
  have hmr : m ≤ 1073741824 * n := by rw [← hm]; have := Nat.mod_lt k (y := n * 1073741824 + 1) (by omega); omega
  obtain ⟨g1, g2, g3⟩ := from_nm hn' (k := (m : Int)) (by omega)
  have hG := fun W => from_any (m : Int) n W
  rw [g3] at hG
  have hGN := fun W => number_any (fnA m n) (fnB m n) n W
  have hGC := fun W => check_any (fnA m n) (fnB m n) n W
  rw [ck_ok g1 hn'] at hGC hGN
  rw [g2] at hGN
  have hZ := fun W => from_any (1073741824 * (n : Int) + 1) n W
  obtain ⟨f1, f2, f3⟩ := fn_k (k := 1073741824 * (n : Int) + 1) hn' (by omega)
  rw [f1, f2, f3] at hZ
  generalize fnA m n = D at *
  generalize fnB m n = E at *
  generalize nmV R M n = X at *
  generalize nmV R M n = Y at *
  generalize ordV R M R M = o at *
  have qz := fun W => eq_b R M R M W
  rw [eqB_t ⟨rfl, rfl⟩] at qz
  have s1 : IntKind.i64.wrap (c : Int) = c := wr (by omega) (by omega)
  have s2 : IntKind.i64.wrap (1 + (c : Int) % 7) = n := by rw [hcn]; exact wr (by omega) (by omega)
  have s3 : (k : Int) % ((n : Int) * 1073741824 + 1) = m := by rw [← hm]; simp
  have s4 : IntKind.i64.wrap (m : Int) = m := wr (by omega) (by omega)
  have s5 : wrap64 (m : Int) = m := by unfold wrap64; omega
  clear hm
  have t1 : IntKind.i64.wrap ((n : Int) * 1073741824 + 1) = 1073741824 * (n : Int) + 1 := by rw [wr (by omega) (by omega)]; omega
  clear hxr hmr
  replace hA := Lib.hid hA
  replace hB := Lib.hid hB
  replace hNA := Lib.hid hNA
  replace hNB := Lib.hid hNB
  replace hF := Lib.hid hF
  replace hO := Lib.hid hO
  replace hG := Lib.hid hG
  replace hGN := Lib.hid hGN
  replace hGC := Lib.hid hGC
  replace hZ := Lib.hid hZ
  clear e1 e2 e3 f1 f2 f3 g1 g2 g3 oA oB
  go_enter Tryd.func9, Tryd.ntmps9
  go_wp2_with fail
  refine (hA.out _).mono ?_
  rintro e w1 ⟨rfl, hb1⟩
  have A1 := Lib.hid (bx_at hb1 R M)
  clear hb1
  go_wp2_with fail
  refine (hB.out _).mono ?_
  rintro e w2 ⟨rfl, hb2⟩
  have A2' := A1.out.later hb2
  have A2 := A2'.alloc (.cells #[.int .i64 R, .int .i64 M] TB)
  have B2 := bx_at A2'.bel R M
  obtain ⟨a0, a1, _, _⟩ := A2.cells
  clear A1 hb2 A2'
  replace A2 := Lib.hid A2
  replace B2 := Lib.hid B2
  go_wp2_with fail
  refine (hNA.out _).mono ?_
  rintro e w3 ⟨rfl, hb3⟩
  have A3 := Lib.hid (A2.out.later hb3)
  have B3 := B2.out.later hb3
  obtain ⟨b0, b1, _, _⟩ := B3.cells
  replace B3 := Lib.hid B3
  clear a0 a1 A2 B2 hb3
  go_wp2_with fail
  refine (hNB.out _).mono ?_
  rintro e w4 ⟨rfl, hb4⟩
  have A4 := Lib.hid (A3.out.later hb4)
  have B4 := Lib.hid (B3.out.later hb4)
  clear b0 b1 A3 B3 hb4
  go_wp2_with fail
  refine (hF.out _).mono ?_
  rintro e w5 ⟨rfl, hb5⟩
  have A5' := A4.out.later hb5
  have A5 := A5'.alloc (.cells #[.int .i64 R, .int .i64 M] TB)
  have B5 := (B4.out.later hb5).alloc (.cells #[.int .i64 R, .int .i64 M] TB)
  have C5 := bx_at A5'.bel R M
  obtain ⟨a0, a1, _, _⟩ := A5.cells
  obtain ⟨b0, b1, _, _⟩ := B5.cells
  obtain ⟨c0, c1, _, _⟩ := C5.cells
  clear A4 B4 hb5 A5'
  replace A5 := Lib.hid A5
  replace B5 := Lib.hid B5
  clear C5
  go_wp2_with fail
  refine (hO.out _).mono ?_
  rintro e w6 ⟨rfl, hb6⟩
  have A6 := A5.out.later hb6
  have B6 := B5.out.later hb6
  obtain ⟨a0, a1, _, _⟩ := A6.cells
  obtain ⟨b0, b1, _, _⟩ := B6.cells
  replace A6 := Lib.hid A6
  go_wp2_with fail
  refine (hG.out _).mono ?_
  rintro e w7 ⟨rfl, hb7⟩
  have A7' := A6.out.bel.trans (hb7.mono A6.out.bel.size)
  have C7 := bx_at A7' D E
  obtain ⟨a0, a1, _, _⟩ := C7.cells
  clear A6 hb7 A7'
  replace C7 := Lib.hid C7
  go_wp2_with fail
  refine (hGN.out _).mono ?_
  rintro e w8 ⟨rfl, hb8⟩
  have C8 := Lib.hid (C7.out.later hb8)
  clear a0 a1 C7 hb8
  go_wp2_with fail
  refine (hZ.out _).mono ?_
  rintro e w9 ⟨rfl, hb9⟩
  have C9 := (C8.out.later hb9).alloc (.cells #[.int .i64 0, .int .i64 0] TB)
  obtain ⟨a0, a1, _, _⟩ := C9.cells
  clear C8 hb9
  replace C9 := Lib.hid C9
  go_wp2_with fail
  refine (hGC.out _).mono ?_
  rintro e w10 ⟨rfl, hb10⟩
  have C10 := (C9.out.later hb10).bel
  clear a0 a1 C9 hb10
  go_wp2_with fail
  refine (works_any _ (hH.later C10)).mono ?_
  rintro e w11 ⟨rfl, hb11⟩
  have hz := below2 C10 hb11
  go_wp2
  go_ret
  exact ⟨rfl, hz⟩
theorem w_ballotCounts (a0 a1 a2 a3 a4 a5 : Int) (w0 : (Lit.int .u8 a0).wf = true) (w1 : (Lit.int .u32 a1).wf = true) (w2 : (Lit.int .u32 a2).wf = true) (w3 : (Lit.int .u8 a3).wf = true) (w4 : (Lit.int .u8 a4).wf = true) (w5 : (Lit.int .u64 a5).wf = true) (w : World) (hH : Hv w) :
    Calls Tryd.prog 9 #[.int .u8 a0, .int .u32 a1, .int .u32 a2, .int .u8 a3, .int .u8 a4, .int .u64 a5] w fun e w' => e = .returned (.bool true) ∧ Below w.heap.size w w' := by
  have b0 := bounds_u8 w0
  have b1 := bounds_u32 w1
  have b2 := bounds_u32 w2
  have b3 := bounds_u8 w3
  have b4 := bounds_u8 w4
  have b5 := bounds_u64 w5
  obtain ⟨c, rfl⟩ := Int.eq_ofNat_of_zero_le b0.1
  obtain ⟨r1, rfl⟩ := Int.eq_ofNat_of_zero_le b1.1
  obtain ⟨r2, rfl⟩ := Int.eq_ofNat_of_zero_le b2.1
  obtain ⟨k1, rfl⟩ := Int.eq_ofNat_of_zero_le b3.1
  obtain ⟨k2, rfl⟩ := Int.eq_ofNat_of_zero_le b4.1
  obtain ⟨k, rfl⟩ := Int.eq_ofNat_of_zero_le b5.1
  rcases Int.lt_trichotomy (nmV (mdA r1) (mdB r1 k1 (1 + c % 7)) (1 + c % 7 : Nat)) (nmV (mdA r2) (mdB r2 k2 (1 + c % 7)) (1 + c % 7 : Nat)) with h | h | h
  · exact counts_lt c (by omega) (1 + c % 7) (by omega) (by omega) r1 r2 k1 k2 (by omega) (by omega) (by omega) (by omega) k _ (by omega) rfl h w hH
  · exact counts_eq c (by omega) (1 + c % 7) (by omega) (by omega) r1 r2 k1 k2 (by omega) (by omega) (by omega) (by omega) k _ (by omega) rfl h w hH
  · exact counts_gt c (by omega) (1 + c % 7) (by omega) (by omega) r1 r2 k1 k2 (by omega) (by omega) (by omega) (by omega) k _ (by omega) rfl h w hH
end Go.Proofs.YtabfpdlnljkgpaaDoor.Bal
