/- The walk of IdentBack. -/
import Derived.Test.YtllhgjenkchniaaDoorI18
import Derived.Shelf.Strings.Count
namespace Go.Proofs.YtllhgjenkchniaaDoor.Ident
open Go.RowKit Go.Lib
set_option linter.unusedVariables false
set_option linter.unusedSimpArgs false
set_option maxRecDepth 20000

def count_lays_ren : Go.Shelf.Ren := ⟨fun | 138 => 35 | 195 => 52 | 218 => 53 | 143 => 54 | 219 => 68 | 217 => 77 | 225 => 78 | 224 => 79 | 267 => 80 | 266 => 90 | 314 => 91 | n => n, fun | 9 => 9 | 3 => 3 | 4 => 4 | 5 => 5 | 0 => 0 | 46 => 57 | 146 => 97 | 51 => 50 | n => n, fun | 1 => 0 | n => n⟩
theorem count_lays : Go.Proofs.Lays.n138 Tryd.prog count_lays_ren := {
  mixed := by kernel_rfl
  f138 := Tryd.func35.trans (congrArg some (by kernel_rfl))
  f143 := Tryd.func54.trans (congrArg some (by kernel_rfl))
  f195 := Tryd.func52.trans (congrArg some (by kernel_rfl))
  f217 := Tryd.func77.trans (congrArg some (by kernel_rfl))
  f218 := Tryd.func53.trans (congrArg some (by kernel_rfl))
  f219 := Tryd.func68.trans (congrArg some (by kernel_rfl))
  f224 := Tryd.func79.trans (congrArg some (by kernel_rfl))
  f225 := Tryd.func78.trans (congrArg some (by kernel_rfl))
  f266 := Tryd.func90.trans (congrArg some (by kernel_rfl))
  f267 := Tryd.func80.trans (congrArg some (by kernel_rfl))
  f314 := Tryd.func91.trans (congrArg some (by kernel_rfl))
  t0 := Tryd.underlying0
  a0 := Tryd.isAgg0
  z0 := Tryd.sizeOf0
  v0 := Tryd.zeroValue0
  t3 := Tryd.underlying3
  a3 := Tryd.isAgg3
  z3 := Tryd.sizeOf3
  v3 := Tryd.zeroValue3
  t4 := Tryd.underlying4
  a4 := Tryd.isAgg4
  z4 := Tryd.sizeOf4
  v4 := Tryd.zeroValue4
  t5 := Tryd.underlying5
  a5 := Tryd.isAgg5
  z5 := Tryd.sizeOf5
  v5 := Tryd.zeroValue5
  t9 := Tryd.underlying9
  a9 := Tryd.isAgg9
  z9 := Tryd.sizeOf9
  v9 := Tryd.zeroValue9
  t46 := Tryd.underlying57
  a46 := Tryd.isAgg57
  z46 := Tryd.sizeOf57
  v46 := Tryd.zeroValue57
  t51 := Tryd.underlying50
  a51 := Tryd.isAgg50
  z51 := Tryd.sizeOf50
  v51 := Tryd.zeroValue50
  t146 := Tryd.underlying97
  a146 := Tryd.isAgg97
  z146 := Tryd.sizeOf97
  v146 := Tryd.zeroValue97
  g1 := by kernel_rfl }

theorem count_any (l : List UInt8) (c : UInt8) (w : World) : Calls Tryd.prog 35 #[.string (tx l), .string ⟨#[c]⟩] w fun e w' => e = .returned (.int .i64 (l.count c : Nat)) ∧ w = w' := by
  refine (Any.strings_Count_one count_lays (tx l) c w).mono ?_
  rintro e w' ⟨rfl, rfl⟩
  rw [tx_list]
  exact ⟨rfl, rfl⟩
theorem law_effect (n m k : Nat) (hn : n < 65536) (hm : m < 256) (hk : k < 256) (w : World) :
    Calls Tryd.prog 34 #[.int .u16 n, .int .u8 m, .int .u8 k] w fun e w' => e = .returned (.agg #[.int .i64 ((1 + n % 9999 : Nat) : Int), .int .i64 ((m % 8 : Nat) : Int), .int .i64 ((1 + k % 3 : Nat) : Int)]) ∧ Below w.heap.size w w' := by
  have w1 : IntKind.i64.wrap (n : Int) = n := wr (by omega) (by omega)
  have w2 : IntKind.i64.wrap (m : Int) = m := wr (by omega) (by omega)
  have w3 : IntKind.i64.wrap (k : Int) = k := wr (by omega) (by omega)
  have w4 : IntKind.i64.wrap (1 + (n : Int) % 9999) = 1 + (n : Int) % 9999 := wr (by omega) (by omega)
  have w5 : IntKind.i64.wrap (1 + (k : Int) % 3) = 1 + (k : Int) % 3 := wr (by omega) (by omega)
  have e1 : ((1 + n % 9999 : Nat) : Int) = 1 + (n : Int) % 9999 := by omega
  have e2 : ((m % 8 : Nat) : Int) = (m : Int) % 8 := by omega
  have e3 : ((1 + k % 3 : Nat) : Int) = 1 + (k : Int) % 3 := by omega
  rw [e1, e2, e3]
  have hb := kp_new w #[.int .i64 (1 + (n : Int) % 9999), .int .i64 ((m : Int) % 8), .int .i64 (1 + (k : Int) % 3)] TE
  clear e1 e2 e3
  go_enter Tryd.func34, Tryd.ntmps34
  go_wp2
  exact bodyPost_ret (res3 Tryd.results34 _ _ w.heap.size rfl (cell_of_row _ _ 0 _ _ _ hb) (cell_of_row _ _ 1 _ _ _ hb) (cell_of_row _ _ 2 _ _ _ hb)) rfl ⟨rfl, alloc_b _ _⟩
theorem count_dig (l : List UInt8) (h : ∀ c ∈ l, isDig c = true) : l.count 47 = 0 := by
  rw [List.count_eq_zero]
  intro hc
  have := h 47 hc
  revert this
  decide
theorem effT_count (a b p : Nat) : (effT a b p).count 47 = 2 := by
  have h1 := count_dig _ (decDigits_dig a)
  have h2 := count_dig _ (decDigits_dig b)
  have h3 : (letB p == 47) = false := by unfold letB; split <;> (try split) <;> rfl
  unfold effT
  rw [List.count_append, List.count_cons, List.count_append, h1, h2]
  simp [List.count_cons, h3]
theorem effT_len (a b p : Nat) (ha : a ≤ 9999) (hb : b ≤ 7) : 5 ≤ (effT a b p).length ∧ (effT a b p).length ≤ 8 := by
  have h1 := dec_len_lt a ha
  have h2 := decDigits_len_pos a
  have h3 : (decDigits b).length = 1 := by rw [decDigits_one (by omega)]; rfl
  unfold effT
  simp [h3]
  omega
theorem back_works (l : List UInt8) (hl : 100 < l.length) (A B P : Nat) (ho : effOk A B P) (n m k : Nat) (hn : n < 65536) (hm : m < 256) (hk : k < 256) (eA : 1 + n % 9999 = A) (eB : m % 8 = B) (eP : 1 + k % 3 = P) (w : World) (hH : Hv w) :
    Calls Tryd.prog 7 #[.int .u16 n, .int .u8 m, .int .u8 k, .string (tx l)] w fun e w' => e = .returned (.bool true) ∧ Below w.heap.size w w' := by
  have hL := fun W => law_effect n m k hn hm hk W
  rw [eA, eB, eP] at hL
  replace hL := Lib.hid hL
  have hE := fun W hW => effect_ok A B P ho W hW
  have hlen := effT_len A B P (by unfold effOk at ho; omega) (by unfold effOk at ho; omega)
  have hPa := fun W hW => parse_any (effT A B P) (by omega) W hW
  have hpe : pE (effT A B P) = some ((A : Int), (B : Int), (P : Int)) := pE_text (a := A) (b := B) (p := P) ho
  rw [hpe] at hPa
  have hCk := fun W => check_any A B P W
  rw [show okE A B P = 0 from if_pos ho] at hCk
  have hCn := fun W => count_any (effT A B P) 47 W
  rw [effT_count] at hCn
  have hz := tx_size (effT A B P)
  have hzl := tx_size l
  unfold peV effV peE at hPa
  replace hE := Lib.hid hE
  replace hPa := Lib.hid hPa
  replace hCk := Lib.hid hCk
  replace hCn := Lib.hid hCn
  generalize (effT A B P).length = tl at *
  generalize tx (effT A B P) = T at *
  generalize hll : l.length = ll at *
  generalize tx l = s at *
  have d1 : decide ((tl : Int) < 5) = false := by simp; omega
  have d2 : decide (8 < (tl : Int)) = false := by simp; omega
  have d3 : decide (100 < (ll : Int)) = true := by simp; omega
  clear ho hlen hpe hl eA eB eP hll
  go_enter Tryd.func7, Tryd.ntmps7
  go_wp2_with fail
  refine (hL.out _).mono ?_
  rintro e w1 ⟨rfl, hb1⟩
  have b1 := alloc_b w1 (.cells #[.int .i64 A, .int .i64 B, .int .i64 P] TE)
  have B1 := Lib.hid (below2 hb1 b1)
  have E1 := Lib.hid (kp_new w1 #[.int .i64 A, .int .i64 B, .int .i64 P] TE)
  clear hb1 b1
  go_wp2_with fail
  refine (hE.out _ (hH.later B1.out)).mono ?_
  rintro e w2 ⟨rfl, hb2⟩
  have B2 := Lib.hid (below2 B1.out hb2)
  have E2 := Lib.hid (E1.out.later hb2)
  clear B1 E1 hb2
  go_wp2_with fail
  refine (hPa.out _ (hH.later B2.out)).mono ?_
  rintro e w3 ⟨rfl, hb3⟩
  have b3 := alloc_b w3 (.cells #[.int .i64 A, .int .i64 B, .int .i64 P] TE)
  have B3 := Lib.hid (below2 (below2 B2.out hb3) b3)
  have E3 := (E2.out.later hb3).later b3
  have F3 := kp_new w3 #[.int .i64 A, .int .i64 B, .int .i64 P] TE
  have x0 := cell_of_row _ _ 0 _ _ _ E3
  have x1 := cell_of_row _ _ 1 _ _ _ E3
  have x2 := cell_of_row _ _ 2 _ _ _ E3
  clear B2 E2 hb3 b3 E3 F3
  go_wp2_with fail
  refine (hCk.out _).mono ?_
  rintro e w4 ⟨rfl, hb4⟩
  have B4 := Lib.hid (below2 B3.out hb4)
  clear B3 hb4 x0 x1 x2
  go_wp2_with fail
  refine (hCn.out _).mono ?_
  rintro e w5 ⟨rfl, rfl⟩
  go_wp2_with fail
  refine (works_any _ (hH.later B4.out)).mono ?_
  rintro e w6 ⟨rfl, hb6⟩
  have B6 := below2 B4.out hb6
  go_wp2
  go_ret
  exact ⟨rfl, B6⟩
theorem back_none (l : List UInt8) (hl : ¬ 100 < l.length) (hp : pE l = none) (A B P : Nat) (ho : effOk A B P) (n m k : Nat) (hn : n < 65536) (hm : m < 256) (hk : k < 256) (eA : 1 + n % 9999 = A) (eB : m % 8 = B) (eP : 1 + k % 3 = P) (w : World) (hH : Hv w) :
    Calls Tryd.prog 7 #[.int .u16 n, .int .u8 m, .int .u8 k, .string (tx l)] w fun e w' => e = .returned (.bool true) ∧ Below w.heap.size w w' := by
  have hL := fun W => law_effect n m k hn hm hk W
  rw [eA, eB, eP] at hL
  replace hL := Lib.hid hL
  have hE := fun W hW => effect_ok A B P ho W hW
  have hlen := effT_len A B P (by unfold effOk at ho; omega) (by unfold effOk at ho; omega)
  have hPa := fun W hW => parse_any (effT A B P) (by omega) W hW
  have hpe : pE (effT A B P) = some ((A : Int), (B : Int), (P : Int)) := pE_text (a := A) (b := B) (p := P) ho
  rw [hpe] at hPa
  have hCk := fun W => check_any A B P W
  rw [show okE A B P = 0 from if_pos ho] at hCk
  have hCn := fun W => count_any (effT A B P) 47 W
  rw [effT_count] at hCn
  have hz := tx_size (effT A B P)
  have hzl := tx_size l
  unfold peV effV peE at hPa
  replace hE := Lib.hid hE
  replace hPa := Lib.hid hPa
  replace hCk := Lib.hid hCk
  replace hCn := Lib.hid hCn
  have hS := fun W hW => parse_any l (by omega) W hW
  rw [hp] at hS
  unfold peV effV peE at hS
  replace hS := Lib.hid hS
  clear hp
  generalize (effT A B P).length = tl at *
  generalize tx (effT A B P) = T at *
  generalize hll : l.length = ll at *
  generalize tx l = s at *
  have d1 : decide ((tl : Int) < 5) = false := by simp; omega
  have d2 : decide (8 < (tl : Int)) = false := by simp; omega
  have d3 : decide (100 < (ll : Int)) = false := by simp; omega
  clear ho hlen hpe hl eA eB eP hll
  go_enter Tryd.func7, Tryd.ntmps7
  go_wp2_with fail
  refine (hL.out _).mono ?_
  rintro e w1 ⟨rfl, hb1⟩
  have b1 := alloc_b w1 (.cells #[.int .i64 A, .int .i64 B, .int .i64 P] TE)
  have B1 := Lib.hid (below2 hb1 b1)
  have E1 := Lib.hid (kp_new w1 #[.int .i64 A, .int .i64 B, .int .i64 P] TE)
  clear hb1 b1
  go_wp2_with fail
  refine (hE.out _ (hH.later B1.out)).mono ?_
  rintro e w2 ⟨rfl, hb2⟩
  have B2 := Lib.hid (below2 B1.out hb2)
  have E2 := Lib.hid (E1.out.later hb2)
  clear B1 E1 hb2
  go_wp2_with fail
  refine (hPa.out _ (hH.later B2.out)).mono ?_
  rintro e w3 ⟨rfl, hb3⟩
  have b3 := alloc_b w3 (.cells #[.int .i64 A, .int .i64 B, .int .i64 P] TE)
  have B3 := Lib.hid (below2 (below2 B2.out hb3) b3)
  have E3 := (E2.out.later hb3).later b3
  have F3 := kp_new w3 #[.int .i64 A, .int .i64 B, .int .i64 P] TE
  have x0 := cell_of_row _ _ 0 _ _ _ E3
  have x1 := cell_of_row _ _ 1 _ _ _ E3
  have x2 := cell_of_row _ _ 2 _ _ _ E3
  clear B2 E2 hb3 b3 E3 F3
  go_wp2_with fail
  refine (hCk.out _).mono ?_
  rintro e w4 ⟨rfl, hb4⟩
  have B4 := Lib.hid (below2 B3.out hb4)
  clear B3 hb4 x0 x1 x2
  go_wp2_with fail
  refine (hCn.out _).mono ?_
  rintro e w5 ⟨rfl, rfl⟩
  go_wp2_with fail
  refine (hS.out _ (hH.later B4.out)).mono ?_
  rintro e w6 ⟨rfl, hb6⟩
  have b6 := alloc_b w6 (.cells #[.int .i64 0, .int .i64 0, .int .i64 0] TE)
  have B6 := Lib.hid (below2 (below2 B4.out hb6) b6)
  clear B4 hb6 b6
  go_wp2_with fail
  refine (works_any _ (hH.later B6.out)).mono ?_
  rintro e w7 ⟨rfl, hb7⟩
  have B7 := below2 B6.out hb7
  go_wp2
  go_ret
  exact ⟨rfl, B7⟩
theorem back_some (l : List UInt8) (hl : ¬ 100 < l.length) (a b p : Int) (hp : pE l = some (a, b, p)) (A B P : Nat) (ho : effOk A B P) (n m k : Nat) (hn : n < 65536) (hm : m < 256) (hk : k < 256) (eA : 1 + n % 9999 = A) (eB : m % 8 = B) (eP : 1 + k % 3 = P) (w : World) (hH : Hv w) :
    Calls Tryd.prog 7 #[.int .u16 n, .int .u8 m, .int .u8 k, .string (tx l)] w fun e w' => e = .returned (.bool true) ∧ Below w.heap.size w w' := by
  have hL := fun W => law_effect n m k hn hm hk W
  rw [eA, eB, eP] at hL
  replace hL := Lib.hid hL
  have hE := fun W hW => effect_ok A B P ho W hW
  have hlen := effT_len A B P (by unfold effOk at ho; omega) (by unfold effOk at ho; omega)
  have hPa := fun W hW => parse_any (effT A B P) (by omega) W hW
  have hpe : pE (effT A B P) = some ((A : Int), (B : Int), (P : Int)) := pE_text (a := A) (b := B) (p := P) ho
  rw [hpe] at hPa
  have hCk := fun W => check_any A B P W
  rw [show okE A B P = 0 from if_pos ho] at hCk
  have hCn := fun W => count_any (effT A B P) 47 W
  rw [effT_count] at hCn
  have hz := tx_size (effT A B P)
  have hzl := tx_size l
  unfold peV effV peE at hPa
  replace hE := Lib.hid hE
  replace hPa := Lib.hid hPa
  replace hCk := Lib.hid hCk
  replace hCn := Lib.hid hCn
  have hS := fun W hW => parse_any l (by omega) W hW
  rw [hp] at hS
  unfold peV effV peE at hS
  obtain ⟨hok, htx⟩ := pE_some hp
  have hF := fun W hW => effect_any a b p W hW
  rw [show effS a b p = l by unfold effS; rw [if_pos hok]; exact htx.symm, show okE a b p = 0 from if_pos hok] at hF
  have hq : ((tx l).toList == (tx l).toList) = true := by rw [tx_beq]; simp
  replace hS := Lib.hid hS
  replace hF := Lib.hid hF
  clear hp hok htx
  generalize (effT A B P).length = tl at *
  generalize tx (effT A B P) = T at *
  generalize hll : l.length = ll at *
  generalize tx l = s at *
  have d1 : decide ((tl : Int) < 5) = false := by simp; omega
  have d2 : decide (8 < (tl : Int)) = false := by simp; omega
  have d3 : decide (100 < (ll : Int)) = false := by simp; omega
  clear ho hlen hpe hl eA eB eP hll
  go_enter Tryd.func7, Tryd.ntmps7
  go_wp2_with fail
  refine (hL.out _).mono ?_
  rintro e w1 ⟨rfl, hb1⟩
  have b1 := alloc_b w1 (.cells #[.int .i64 A, .int .i64 B, .int .i64 P] TE)
  have B1 := Lib.hid (below2 hb1 b1)
  have E1 := Lib.hid (kp_new w1 #[.int .i64 A, .int .i64 B, .int .i64 P] TE)
  clear hb1 b1
  go_wp2_with fail
  refine (hE.out _ (hH.later B1.out)).mono ?_
  rintro e w2 ⟨rfl, hb2⟩
  have B2 := Lib.hid (below2 B1.out hb2)
  have E2 := Lib.hid (E1.out.later hb2)
  clear B1 E1 hb2
  go_wp2_with fail
  refine (hPa.out _ (hH.later B2.out)).mono ?_
  rintro e w3 ⟨rfl, hb3⟩
  have b3 := alloc_b w3 (.cells #[.int .i64 A, .int .i64 B, .int .i64 P] TE)
  have B3 := Lib.hid (below2 (below2 B2.out hb3) b3)
  have E3 := (E2.out.later hb3).later b3
  have F3 := kp_new w3 #[.int .i64 A, .int .i64 B, .int .i64 P] TE
  have x0 := cell_of_row _ _ 0 _ _ _ E3
  have x1 := cell_of_row _ _ 1 _ _ _ E3
  have x2 := cell_of_row _ _ 2 _ _ _ E3
  clear B2 E2 hb3 b3 E3 F3
  go_wp2_with fail
  refine (hCk.out _).mono ?_
  rintro e w4 ⟨rfl, hb4⟩
  have B4 := Lib.hid (below2 B3.out hb4)
  clear B3 hb4 x0 x1 x2
  go_wp2_with fail
  refine (hCn.out _).mono ?_
  rintro e w5 ⟨rfl, rfl⟩
  go_wp2_with fail
  refine (hS.out _ (hH.later B4.out)).mono ?_
  rintro e w6 ⟨rfl, hb6⟩
  have b6 := alloc_b w6 (.cells #[.int .i64 a, .int .i64 b, .int .i64 p] TE)
  have B6 := Lib.hid (below2 (below2 B4.out hb6) b6)
  clear B4 hb6 b6
  go_wp2_with fail
  refine (hF.out _ (hH.later B6.out)).mono ?_
  rintro e w7 ⟨rfl, hb7⟩
  have B7 := Lib.hid (below2 B6.out hb7)
  clear B6 hb7
  go_wp2_with fail
  refine (works_any _ (hH.later B7.out)).mono ?_
  rintro e w8 ⟨rfl, hb8⟩
  have B8 := below2 B7.out hb8
  go_wp2
  go_ret
  exact ⟨rfl, B8⟩
theorem nat_of {k : IntKind} {a : Int} (h : (Lit.int k a).wf = true) (h0 : 0 ≤ a) : ∃ n : Nat, a = n := Int.eq_ofNat_of_zero_le h0
theorem w_identBack (a0 : Int) (a1 : Int) (a2 : Int) (a3 : ByteArray) (w0 : (Lit.int .u16 a0).wf = true) (w1 : (Lit.int .u8 a1).wf = true) (w2 : (Lit.int .u8 a2).wf = true) (w3 : a3.size ≤ maxLen) (w : World) (hH : Hv w) :
    Calls Tryd.prog 7 #[.int .u16 a0, .int .u8 a1, .int .u8 a2, .string a3] w fun e w' => e = .returned (.bool true) ∧ Below w.heap.size w w' := by
  have b0 := bounds_u16 w0
  have b1 := bounds_u8 w1
  have b2 := bounds_u8 w2
  obtain ⟨n, rfl⟩ := Int.eq_ofNat_of_zero_le b0.1
  obtain ⟨m, rfl⟩ := Int.eq_ofNat_of_zero_le b1.1
  obtain ⟨k, rfl⟩ := Int.eq_ofNat_of_zero_le b2.1
  have ho : effOk ((1 + n % 9999 : Nat) : Int) ((m % 8 : Nat) : Int) ((1 + k % 3 : Nat) : Int) := by unfold effOk; omega
  rw [← tx_of a3]
  generalize a3.data.toList = l
  by_cases hl : 100 < l.length
  · exact back_works l hl _ _ _ ho n m k (by omega) (by omega) (by omega) rfl rfl rfl w hH
  · cases hp : pE l with
    | none => exact back_none l hl hp _ _ _ ho n m k (by omega) (by omega) (by omega) rfl rfl rfl w hH
    | some x => obtain ⟨a, b, p⟩ := x; exact back_some l hl a b p hp _ _ _ ho n m k (by omega) (by omega) (by omega) rfl rfl rfl w hH
end Go.Proofs.YtllhgjenkchniaaDoor.Ident
