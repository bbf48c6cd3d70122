/- The walk of StoreSums. -/
import Derived.Test.YtdihlgbnmpefiaaS35
namespace Go.Proofs.Ytdihlgbnmpefiaa.Sto
open Go.RowKit Go.Lib
open Cnt (Ct cA OkC quietB appC)
open Rng (tx tx_of tx_size nameOk bl)
set_option linter.unusedVariables false
set_option linter.unusedSimpArgs false
set_option maxRecDepth 20000

def hs : List Int → Int | [] => 0 | z :: l => z / 1073741824 + hs l
def ls : List Int → Int | [] => 0 | z :: l => z % 1073741824 + ls l
theorem hs_app (a b : List Int) : hs (a ++ b) = hs a + hs b := by induction a with | nil => simp [hs] | cons z l ih => simp [hs, ih]; omega
theorem ls_app (a b : List Int) : ls (a ++ b) = ls a + ls b := by induction a with | nil => simp [ls] | cons z l ih => simp [ls, ih]; omega
theorem hl_sum (l : List Int) : hs l * 1073741824 + ls l = l.sum := by
  induction l with
  | nil => simp [hs, ls]
  | cons z l ih => simp only [hs, ls, List.sum_cons, ← ih]; omega
theorem hs_bd : ∀ (l : List Int), (∀ z ∈ l, Num.Ok z) → -(1073741824 * (l.length : Int)) ≤ hs l ∧ hs l ≤ 1073741824 * (l.length : Int)
  | [], _ => by simp [hs]
  | z :: l, h => by
    have h1 := hs_bd l (fun y hy => h y (List.mem_cons_of_mem _ hy))
    have h2 := h z (List.mem_cons_self ..)
    unfold Num.Ok at h2
    simp only [hs, List.length_cons]
    omega
theorem ls_bd : ∀ (l : List Int), 0 ≤ ls l ∧ ls l ≤ 1073741823 * (l.length : Int)
  | [] => by simp [ls]
  | z :: l => by
    have h1 := ls_bd l
    simp only [ls, List.length_cons]
    omega
theorem and_low (z : Int) : bits .and .i64 z 1073741823 = z % 1073741824 := by
  show IntKind.i64.wrap ((BitVec.ofInt 64 z &&& BitVec.ofInt 64 1073741823).toNat : Int) = _
  rw [BitVec.toNat_and, BitVec.toNat_ofInt, BitVec.toNat_ofInt]
  have e : ((1073741823 : Int) % ((2 ^ 64 : Nat) : Int)).toNat = 2 ^ 30 - 1 := by decide
  rw [e, Nat.and_two_pow_sub_one_eq_mod, IntKind.wrap_i64]
  omega
def qt (M : List En) : Bool := M.all fun p => quietB p.2
theorem qt_is {M : List En} (h : ∀ p ∈ M, nameOk p.1 = true ∧ OkC p.2) : quietM M = qt M := by
  unfold quietM qt
  rw [Bool.eq_iff_iff, List.all_eq_true, List.all_eq_true]
  constructor
  · intro hh p hp
    have := hh p hp
    unfold q1B at this
    rw [Bool.and_eq_true] at this
    exact this.2
  · intro hh p hp
    unfold q1B
    rw [Cnt.okC_t (h p hp).2, Bool.true_and]
    exact hh p hp
theorem vals_snoc (M : List En) (p : En) : valsM (M ++ [p]) = valsM M ++ [p.2.v] := by simp [valsM]
theorem qt_snoc (M : List En) (p : En) : qt (M ++ [p]) = (qt M && (decide (p.2.u = 0) && decide (p.2.d = 0))) := by simp [qt, quietB]
set_option maxHeartbeats 16000000 in
theorem sums_any (a : Option Addr) (len cap : Nat) (S : Nat → Sp) (w : World) (h : IsSt w a len cap S) :
    Calls Try.prog 8 #[.slice a len cap] w fun e w' => e = .returned (.bool true) ∧ Below w.heap.size w w' := by
  have hW := Lib.hid (fun W => works_any W)
  have hS := Lib.hid (short_any a len cap S w h)
  by_cases hl : len ≤ 100
  · have hd : decide (100 < (len : Int)) = false := by simp; omega
    cases h1 : shortB S len with
    | false =>
      rw [h1] at hS
      clear hl h1 h
      go_enter Try.func8, Try.ntmps8
      go_wp2_with fail
      refine hS.out.mono ?_
      rintro e w' ⟨rfl, rfl⟩
      go_wp2_with fail
      refine (hW.out _).mono ?_
      rintro e w2 ⟨rfl, hb2⟩
      go_wp2_with fail
      go_ret
      exact ⟨rfl, hb2⟩
    | true =>
      rw [h1] at hS
      have hF := filled_any a len cap S w h h1
      generalize fillM S len = M at hF
      replace hF := Lib.hid hF
      clear hl h1 h
      go_enter Try.func8, Try.ntmps8
      go_wp2_with fail
      refine hS.out.mono ?_
      rintro e w' ⟨rfl, rfl⟩
      go_wp2_with fail
      refine hF.out.mono ?_
      rintro e w3 ⟨sb, b, rfl, hK, hsb⟩
      clear hF hS
      go_wp2_with fail
      refine (keys_str _ hK.sx).mono ?_
      rintro e w4 ⟨ka, kc, rfl, G, hkc, hb4⟩
      have hK := hK.later hb4
      replace G := Lib.hid G
      have hlen := hK.sx.len
      have hoks := Lib.hid (fun k => (show ∀ z ∈ valsM (M.take k), Num.Ok z from fun z hz => by
        unfold valsM at hz
        obtain ⟨p, hp, rfl⟩ := List.mem_map.1 hz
        exact (hK.sx.ok p (List.mem_of_mem_take hp)).2.1))
      have hvl := Lib.hid (fun k => (show (valsM (M.take k)).length ≤ 64 by unfold valsM; rw [List.length_map, List.length_take]; omega))
      go_wp2_with fail
      go_loopw [5, 6, 7, 8] (fun hv lv qv i wr => ∃ k : Nat, k ≤ M.length ∧ i = .int .i64 k ∧ hv = .int .i64 (hs (valsM (M.take k))) ∧ lv = .int .i64 (ls (valsM (M.take k))) ∧ qv = .bool (qt (M.take k)) ∧ Below w4.heap.size w4 wr) (fun _ _ _ i _ => M.length - (intOf i).toNat)
      case atStart => exact ⟨0, Nat.zero_le _, rfl, rfl, rfl, rfl, Below.refl _ _⟩
      case round =>
        obtain ⟨k, hk, rfl, rfl, rfl, rfl, hb⟩ := hrel
        have hb1 := hs_bd _ (hoks.out k)
        have hb2 := ls_bd (valsM (M.take k))
        have hl1 := hvl.out k
        have hK2 := hK.later hb
        by_cases hlt : k < M.length
        · obtain ⟨q1, o1, rfl, hlq, e1⟩ := G.out wr hb k hlt
          have hgk := get_at hK2.sx.srt hlt
          have hok := hK2.sx.ok _ (List.getElem_mem hlt)
          have hkl := name_len hok.1
          have hoc := hok.2
          have t0 : M.take (k + 1) = M.take k ++ [M[k]] := by rw [List.take_succ_eq_append_getElem hlt]
          have t1 : hs (valsM (M.take (k + 1))) = hs (valsM (M.take k)) + M[k].2.v / 1073741824 := by rw [t0, vals_snoc, hs_app]; simp only [hs, Int.add_zero]
          have t2 : ls (valsM (M.take (k + 1))) = ls (valsM (M.take k)) + M[k].2.v % 1073741824 := by rw [t0, vals_snoc, ls_app]; simp only [ls, Int.add_zero]
          have t3 : qt (M.take (k + 1)) = (qt (M.take k) && (decide (M[k].2.u = 0) && decide (M[k].2.d = 0))) := by rw [t0, qt_snoc]
          clear t0 hok
          generalize M[k] = p at *
          obtain ⟨key, v, u, d, l, g⟩ := p
          dsimp only at *
          generalize hsk : tx key = s at *
          have hG := Lib.hid (show ∀ W, Sx W sb b M → Calls Try.prog 12 #[.pointer (some ⟨sb, 0, none⟩), .string s] W fun e w' => e = .returned (.tuple #[cA v u d l g, .int .i64 0]) ∧ Below W.heap.size W w' from fun W h' => by rw [← hsk]; exact get_yes key v u d l g W h' hkl hgk)
          have hC := Lib.hid (fun W => Cnt.chk_ok hoc W)
          have hq : -1073741824 ≤ v / 1073741824 ∧ v / 1073741824 ≤ 1073741824 := by have hv0 : Cnt.Ok v := hoc.1; unfold Cnt.Ok at hv0; omega
          have hm : 0 ≤ v % 1073741824 ∧ v % 1073741824 ≤ 1073741823 := by omega
          have hand := and_low v
          generalize hs (valsM (M.take k)) = H at *
          generalize ls (valsM (M.take k)) = L at *
          generalize qt (M.take k) = Q at *
          have hb1' : -68719476736 ≤ H ∧ H ≤ 68719476736 := by omega
          have hb2' : 0 ≤ L ∧ L ≤ 68719476736 := by omega
          have hml : (k : Int) < (M.length : Int) := by omega
          replace t1 := Lib.hid t1
          replace t2 := Lib.hid t2
          replace t3 := Lib.hid t3
          clear hb1 hb2 hl1 hgk hkl hoc hsk G hoks hvl hK
          go_wp2_with fail
          refine (hG.out _ hK2.sx).mono ?_
          rintro e y1 ⟨rfl, hy1⟩
          have hB1 := hy1.trans ((Cnt.alloc_b y1 (Cnt.cRow v u d l g)).mono hy1.size)
          have hc := Cr.new y1 v u d l g
          obtain ⟨d0, d1, d2, d3, d4⟩ := hc.cells
          clear e1 hG
          go_wp2_with fail
          refine (hC.out _).mono ?_
          rintro e y2 ⟨rfl, hy2⟩
          have hc := hc.later hy2
          have hB2 := hB1.trans (hy2.mono hB1.size)
          clear d0 d1 d2 d3 d4 hC
          obtain ⟨d0, d1, d2, d3, d4⟩ := hc.cells
          have fin := Lib.hid (fun (Q' : Bool) (hQ : qt (M.take (k + 1)) = Q') => (show ∃ k' : Nat, k' ≤ M.length ∧ (.int .i64 ((k : Int) + 1) : Value) = .int .i64 k' ∧ (.int .i64 (H + v / 1073741824) : Value) = .int .i64 (hs (valsM (M.take k'))) ∧ (.int .i64 (L + v % 1073741824) : Value) = .int .i64 (ls (valsM (M.take k'))) ∧ (.bool Q' : Value) = .bool (qt (M.take k')) ∧ Below w4.heap.size w4 y2 from
            ⟨k + 1, by omega, by go_num, by rw [t1.out], by rw [t2.out], by rw [hQ], hb.trans (hB2.mono hb.size)⟩))
          clear hc
          cases Q with
          | false =>
            have t4 := Lib.hid (show qt (M.take (k + 1)) = false by rw [t3.out]; rfl)
            clear t3
            go_wp2
            go_roundw
            case rel => exact fin.out _ t4.out
            case measure => simp [intOf]; omega
          | true =>
            by_cases hu : u = 0
            · subst hu
              by_cases hdd : d = 0
              · subst hdd
                have t4 := Lib.hid (show qt (M.take (k + 1)) = true by rw [t3.out]; rfl)
                clear t3
                go_wp2
                go_roundw
                case rel => exact fin.out _ t4.out
                case measure => simp [intOf]; omega
              · have v1 : (d == 0) = false := by simpa using hdd
                have v2 : (d = 0) = False := by simpa using hdd
                have t4 := Lib.hid (show qt (M.take (k + 1)) = false by rw [t3.out]; simp [hdd])
                clear t3 hdd
                go_wp2
                go_roundw
                case rel => exact fin.out _ t4.out
                case measure => simp [intOf]; omega
            · have v1 : (u == 0) = false := by simpa using hu
              have v2 : (u = 0) = False := by simpa using hu
              have t4 := Lib.hid (show qt (M.take (k + 1)) = false by rw [t3.out]; simp [hu])
              clear t3 hu
              go_wp2
              go_roundw
              case rel => exact fin.out _ t4.out
              case measure => simp [intOf]; omega
        · obtain rfl : k = M.length := by omega
          rw [List.take_length] at *
          have hq := Lib.hid (qt_is hK2.sx.ok)
          have hSm := Lib.hid (fun W (h' : Sx W sb b M) => sum_any W h')
          have hQm := Lib.hid (fun W (h' : Sx W sb b M) => quiet_any W h')
          have hsum := hl_sum (valsM M)
          have hv : sumV M = if Num.okB (valsM M).sum then (valsM M).sum else 0 := rfl
          have he : sumE M = if Num.okB (valsM M).sum then 0 else 7 := rfl
          rw [hq.out] at hQm
          generalize hs (valsM M) = H at *
          generalize ls (valsM M) = L at *
          generalize qt M = Q at *
          generalize sumV M = sv at *
          generalize sumE M = se at *
          have hb1' : -68719476736 ≤ H ∧ H ≤ 68719476736 := by omega
          have hb2' : 0 ≤ L ∧ L ≤ 68719476736 := by omega
          clear hb1 hb2 hl1 hK G hoks hvl hq hlt
          have ha := and_low L
          obtain ⟨T, hT⟩ : ∃ T, H + L / 1073741824 = T := ⟨_, rfl⟩
          obtain ⟨R, hR⟩ : ∃ R, L % 1073741824 = R := ⟨_, rfl⟩
          rw [hR] at ha
          have hsum2 : (valsM M).sum = T * 1073741824 + R := by omega
          have hTb : -137438953472 ≤ T ∧ T ≤ 137438953472 := by omega
          have hRb : 0 ≤ R ∧ R ≤ 1073741823 := by omega
          rw [hsum2] at hv he
          clear hsum hsum2
          have hlb : 0 ≤ L / 1073741824 ∧ L / 1073741824 ≤ 68719476736 := by omega
          rcases (by omega : T < -1073741824 ∨ 1073741824 < T ∨ (T = 1073741824 ∧ 0 < R) ∨ (T = 1073741824 ∧ R = 0) ∨ (-1073741824 ≤ T ∧ T < 1073741824)) with c | c | ⟨rfl, c⟩ | ⟨rfl, rfl⟩ | ⟨c1, c2⟩
          · rw [Num.okB_f (by unfold Num.Ok; omega)] at hv he
            simp only [if_true, if_false, Bool.false_eq_true] at hv he
            subst hv he
            have b1 : decide (-1073741824 ≤ T) = false := by simp; omega
            have b2 : (-1073741824 ≤ T) = False := by simp; omega
            cases Q
            all_goals
              go_wp2_with fail
              refine (hSm.out _ hK2.sx).mono ?_
              rintro e y1 ⟨rfl, hy1⟩
              have hK3 := hK2.later hy1
              go_wp2_with fail
              refine (hQm.out _ hK3.sx).mono ?_
              rintro e y2 ⟨rfl, hy2⟩
              have hK4 := hK3.later hy2
              go_wp2_with fail
              refine (hW.out _).mono ?_
              rintro e y3 ⟨rfl, hy3⟩
              have hK5 := hK4.later hy3
              go_wp2_with fail
              go_ret
              exact ⟨rfl, hK5.bel⟩
          · rw [Num.okB_f (by unfold Num.Ok; omega)] at hv he
            simp only [if_true, if_false, Bool.false_eq_true] at hv he
            subst hv he
            have b1 : decide (-1073741824 ≤ T) = true := by simp; omega
            have b2 : decide (T < 1073741824) = false := by simp; omega
            have b3 : (T == 1073741824) = false := beq_eq_false_iff_ne.2 (by omega)
            have b4 : (T = 1073741824) = False := by simp; omega
            have b5 : (T < 1073741824) = False := by simp; omega
            cases Q
            all_goals
              go_wp2_with fail
              refine (hSm.out _ hK2.sx).mono ?_
              rintro e y1 ⟨rfl, hy1⟩
              have hK3 := hK2.later hy1
              go_wp2_with fail
              refine (hQm.out _ hK3.sx).mono ?_
              rintro e y2 ⟨rfl, hy2⟩
              have hK4 := hK3.later hy2
              go_wp2_with fail
              refine (hW.out _).mono ?_
              rintro e y3 ⟨rfl, hy3⟩
              have hK5 := hK4.later hy3
              go_wp2_with fail
              go_ret
              exact ⟨rfl, hK5.bel⟩
          · rw [Num.okB_f (by unfold Num.Ok; omega)] at hv he
            simp only [if_true, if_false, Bool.false_eq_true] at hv he
            subst hv he
            have b3 : (R == 0) = false := beq_eq_false_iff_ne.2 (by omega)
            have b4 : (R = 0) = False := by simp; omega
            cases Q
            all_goals
              go_wp2_with fail
              refine (hSm.out _ hK2.sx).mono ?_
              rintro e y1 ⟨rfl, hy1⟩
              have hK3 := hK2.later hy1
              go_wp2_with fail
              refine (hQm.out _ hK3.sx).mono ?_
              rintro e y2 ⟨rfl, hy2⟩
              have hK4 := hK3.later hy2
              go_wp2_with fail
              refine (hW.out _).mono ?_
              rintro e y3 ⟨rfl, hy3⟩
              have hK5 := hK4.later hy3
              go_wp2_with fail
              go_ret
              exact ⟨rfl, hK5.bel⟩
          · rw [Num.okB_t (by unfold Num.Ok; omega)] at hv he
            simp only [if_true, if_false, Bool.false_eq_true] at hv he
            subst hv he
            have g1 := and_low (1073741824 * 1073741824 + 0)
            cases Q
            all_goals
              go_wp2_with fail
              refine (hSm.out _ hK2.sx).mono ?_
              rintro e y1 ⟨rfl, hy1⟩
              have hK3 := hK2.later hy1
              go_wp2_with fail
              refine (hQm.out _ hK3.sx).mono ?_
              rintro e y2 ⟨rfl, hy2⟩
              have hK4 := hK3.later hy2
              go_wp2_with fail
              refine (hW.out _).mono ?_
              rintro e y3 ⟨rfl, hy3⟩
              have hK5 := hK4.later hy3
              go_wp2_with fail
              go_ret
              exact ⟨rfl, hK5.bel⟩
          · rw [Num.okB_t (by unfold Num.Ok; omega)] at hv he
            simp only [if_true, if_false, Bool.false_eq_true] at hv he
            subst hv he
            have b1 : decide (-1073741824 ≤ T) = true := by simp; omega
            have b2 : decide (T < 1073741824) = true := by simp; omega
            have g1 := and_low (T * 1073741824 + R)
            have g2 : (T * 1073741824 + R) % 1073741824 = R := by omega
            have g3 : (T * 1073741824 + R) / 1073741824 = T := by omega
            rw [g2] at g1
            cases Q
            all_goals
              go_wp2_with fail
              refine (hSm.out _ hK2.sx).mono ?_
              rintro e y1 ⟨rfl, hy1⟩
              have hK3 := hK2.later hy1
              go_wp2_with fail
              refine (hQm.out _ hK3.sx).mono ?_
              rintro e y2 ⟨rfl, hy2⟩
              have hK4 := hK3.later hy2
              go_wp2_with fail
              refine (hW.out _).mono ?_
              rintro e y3 ⟨rfl, hy3⟩
              have hK5 := hK4.later hy3
              go_wp2_with fail
              go_ret
              exact ⟨rfl, hK5.bel⟩
  · have hd : decide (100 < (len : Int)) = true := by simp; omega
    clear hl h hS
    go_enter Try.func8, Try.ntmps8
    go_wp2_with fail
    refine (hW.out _).mono ?_
    rintro e w2 ⟨rfl, hb2⟩
    go_wp2_with fail
    go_ret
    exact ⟨rfl, hb2⟩
end Go.Proofs.Ytdihlgbnmpefiaa.Sto
