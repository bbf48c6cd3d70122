/- ProposeOrder. -/
import Derived.Test.YtffiooclkchoiaaP23
import Derived.Deep.CutRange
import Derived.BigQuiet
namespace Go.Proofs.Ytffiooclkchoiaa.Prp
open Go.RowKit Go.Lib
open Bal (TB bOk ckB ordV eqB eqB_t eqB_f eq_b alloc_b check_any order_any)
set_option linter.unusedVariables false
set_option linter.unusedSimpArgs false
set_option maxRecDepth 100000

set_option maxHeartbeats 16000000 in
theorem order_go (a0 a1 a2 : Nat) (a3 : Option Addr) (len3 cap3 : Nat) (S : Nat → Td) (w : World) (h0 : a0 ≤ 255) (h1 : a1 ≤ 255) (h2 : a2 ≤ 255) (h3 : IsTd w a3 len3 cap3 S) :
    Calls Try.prog 6 #[.int .u8 (a0 : Nat), .int .u8 (a1 : Nat), .int .u8 (a2 : Nat), .slice a3 len3 cap3] w (Yes w) := by
  have HW := Lib.hid (fun W => works_any W)
  obtain ⟨m, hm⟩ : ∃ m, m = a1 % 7 := ⟨_, rfl⟩
  obtain ⟨r, hr⟩ : ∃ r, r = 1 + a0 := ⟨_, rfl⟩
  have f1 : IntKind.i64.wrap (a0 : Nat) = (a0 : Nat) := by rw [IntKind.wrap_i64]; omega
  have f2 : IntKind.i64.wrap (a1 : Nat) = (a1 : Nat) := by rw [IntKind.wrap_i64]; omega
  have f3 : IntKind.i64.wrap (a2 : Nat) = (a2 : Nat) := by rw [IntKind.wrap_i64]; omega
  have f4 : IntKind.i64.wrap (1 + (a0 : Nat)) = (r : Nat) := by rw [hr, IntKind.wrap_i64]; omega
  have f5 : (a1 : Int).tmod 7 = (m : Nat) := by rw [hm]; exact (Int.ofNat_tmod a1 7).symm
  have hok : newOk 7 (r : Nat) (m : Nat) (a2 : Nat) := ⟨by omega, ⟨by omega, by omega, by omega, by omega⟩, by omega, by omega⟩
  clear hm hr
  have hS1 := Lib.hid (fun W (hb : Below w.heap.size w W) => short_any (a2 : Nat) a3 len3 cap3 S W (h3.later hb))
  replace h3 := Lib.hid h3
  have hNw := Lib.hid (fun W hb => new_at 7 (r : Nat) (m : Nat) (a2 : Nat) hok w W hb)
  have hOk0 := ok_new hok
  obtain ⟨s0, hs0⟩ : ∃ s0, s0 = newS 7 (r : Nat) (m : Nat) (a2 : Nat) := ⟨_, rfl⟩
  rw [← hs0] at hNw hOk0
  have hP0 : ∀ i, s0.P i = zP := fun i => by rw [hs0]; rfl
  have hst0 := Lib.hid (st_nil hP0)
  have hsn := Lib.hid (show s0.n = 7 by rw [hs0]; rfl)
  have hsr := Lib.hid (show s0.r = (r : Nat) by rw [hs0]; rfl)
  have hsm := Lib.hid (show s0.m = (m : Nat) by rw [hs0]; rfl)
  have hsf := Lib.hid (show s0.f = (a2 : Nat) by rw [hs0]; rfl)
  replace hOk0 := Lib.hid hOk0
  clear hs0 hP0 hok
  go_enter Try.func6, Try.ntmps6
  go_wp2_with fail
  refine (hS1.out _ (Below.refl _ _)).mono ?_
  rintro e W1 ⟨B1, rfl, hB1, hb1⟩
  replace hB1 := Lib.hid hB1
  cases B1 with
  | false =>
    go_wp2_with (go_at_call 11; refine (HW.out _).mono ?_; rintro e w1 ⟨rfl, hb⟩)
    go_ret
    exact ⟨rfl, below2 hb1 hb⟩
  | true =>
    obtain ⟨hl20, hl40⟩ := hB1.out rfl
    have hb2 := hb1.trans ((alloc_b W1 (.cells #[.int .i64 (r : Nat), .int .i64 (m : Nat)] TB)).mono hb1.size)
    have hq := heap_alloc_new W1 (.cells #[.int .i64 (r : Nat), .int .i64 (m : Nat)] TB)
    have hq1 : W1.heap.size < (W1.alloc (.cells #[.int .i64 (r : Nat), .int .i64 (m : Nat)] TB)).heap.size := by rw [World.size_alloc]; omega
    have c0 := cell_of_row _ _ 0 _ TB _ hq
    have c1 := cell_of_row _ _ 1 _ TB _ hq
    have hCl := Lib.hid (fun W (h : Below (W1.alloc (.cells #[.int .i64 (r : Nat), .int .i64 (m : Nat)] TB)).heap.size (W1.alloc (.cells #[.int .i64 (r : Nat), .int .i64 (m : Nat)] TB)) W) => show Below w.heap.size w W ∧ W.cell? ⟨W1.heap.size, 0, none⟩ = some (.int .i64 (r : Nat)) ∧ W.cell? ⟨W1.heap.size, 1, none⟩ = some (.int .i64 (m : Nat)) from
      ⟨hb2.trans (h.mono hb2.size), (h.cell (p := ⟨W1.heap.size, 0, none⟩) hq1).trans c0, (h.cell (p := ⟨W1.heap.size, 1, none⟩) hq1).trans c1⟩)
    have hw0 := hb2.size
    clear hq
    replace hl40 := Lib.hid hl40
    replace hb2 := Lib.hid hb2
    clear hb1 hq1
    as_aux_lemma =>
      go_wp2_with fail
      refine (hNw.out _ hb2.out).mono ?_
      rintro e W2 ⟨b, rfl, hp2, hbl, hb3⟩
      generalize (W1.alloc (.cells #[.int .i64 (r : Nat), .int .i64 (m : Nat)] TB)) = W0 at *
      generalize W1.heap.size = q0 at *
      clear c0 c1 f1 f2 f4 f5
      obtain ⟨hw2, y0, y1⟩ := hCl.out _ hb3
      go_wp2_with fail
      refine (hNw.out _ hw2).mono ?_
      rintro e W3 ⟨c, rfl, hq3, hcl, hb4⟩
      have hF : Fx w W0 W3.heap.size b c := ⟨by have := hp2.lt; omega, hbl, Nat.le_trans hb3.size hcl, Nat.lt_of_lt_of_le hp2.lt hb4.size, hq3.lt, hw0⟩
      have hx0 : OA w W0 W3.heap.size b c (stT s0 []) s0 [] (.slice none 0 0) W3 := ⟨by rw [hst0.out]; exact hp2.later hb4, hq3, OwT.nil _ _, hb3.trans (hb4.mono hb3.size), Nat.le_refl _⟩
      have hf0 : (0 : Int) ≤ beg (stT s0 []) := by rw [hst0.out]; exact (beg_bd hOk0.out).1
      replace hf0 := Lib.hid hf0
      replace hF := Lib.hid hF
      generalize W3.heap.size = base at *
      clear y0 y1 hw2 hp2 hq3 hb3 hb4 hbl hcl
      go_wp2
      go_loopw [14, 15, 16] (fun tv fv iv wr => ∃ (j : Nat) (T : List Td) (F : Int) (ta : Option Addr) (td : Nat), j ≤ len3 ∧ iv = .int .i64 j ∧ fv = .int .i64 F ∧ tv = .slice ta T.length td ∧ GdT s0 T ∧ T.length ≤ j ∧ (∀ t ∈ T, TdW w t ∧ t.L.length ≤ 40) ∧ 0 ≤ F ∧ F ≤ beg (stT s0 T) ∧ OA w W0 base b c (stT s0 T) s0 T (.slice ta T.length td) wr) (fun _ _ i _ => len3 - nOf i)
      case atStart => exact ⟨0, [], 0, none, 0, by omega, rfl, rfl, rfl, gd_nil _, Nat.le_refl _, (fun t h => by cases h), Int.le_refl 0, hf0.out, hx0⟩
      case round =>
        clear hx0 hf0
        obtain ⟨j, T, F, ta, td, hj, rfl, rfl, rfl, hG, hTj, hTw, hF0, hFb, hx⟩ := hrel
        by_cases hlt : j < len3
        · have hwj := h3.out.wf j
          obtain ⟨lb, off, rfl, hlb, c0, c1, c2⟩ := h3.out.at (Below.refl _ _) hlt
          have hLj := hl40.out j hlt
          generalize S j = tj at *
          have hIj := Lib.hid (fun W (hb : Below w.heap.size w W) => (hwj.later hb).2.2.1)
          obtain ⟨tk, tu, L, v⟩ := tj
          obtain ⟨_, _, _, _, ja, jc, hjv, _⟩ := id hwj
          simp only at hjv c0 c1 c2 hIj hLj
          subst hjv
          obtain ⟨tj, htj⟩ : ∃ tj : Td, tj = ⟨tk, tu, L, .slice ja L.length jc⟩ := ⟨_, rfl⟩
          rw [← htj] at hwj
          obtain ⟨jn, hjn⟩ : ∃ jn, jn = L.length := ⟨_, rfl⟩
          rw [← hjn] at c2 hIj htj
          replace hwj := Lib.hid hwj
          have i2 : (j : Int) < (len3 : Nat) := by omega
          have i3 : decide ((j : Int) < (len3 : Int)) = true := by simpa using i2
          have i4 : (0 : Int) ≤ (j : Nat) := by omega
          have hC : Hid (∀ W, Below W0.heap.size W0 W → (W.cell? ⟨lb, off + j * 3, none⟩ = some (.int .i64 tk) ∧ W.cell? ⟨lb, off + j * 3 + 1, none⟩ = some (.int .i64 tu) ∧ W.cell? ⟨lb, off + j * 3 + 2, none⟩ = some (.slice ja jn jc))) := Lib.hid fun W h => by
            have hw := (hCl.out W h).1
            exact ⟨(hw.cell (p := ⟨lb, _, none⟩) hlb).trans c0, (hw.cell (p := ⟨lb, _, none⟩) hlb).trans c1, (hw.cell (p := ⟨lb, _, none⟩) hlb).trans c2⟩
          have hA0 : ∀ W, OA w W0 base b c (stT s0 T) s0 T (.slice ta T.length td) W → Calls Try.prog 27 #[.pointer (some ⟨b, 0, none⟩), .int .i64 tk, .slice ja jn jc, .int .i64 tu] W fun e W' => e = .returned (.tuple #[.bool (addB (stT s0 T) tk L tu), .int .i64 (addE (stT s0 T) tk L tu)]) ∧ OA w W0 base b c (addS (stT s0 T) tk L tu) s0 T (.slice ta T.length td) W' := fun W h => by
            refine (h.p.add tk _ tu L (hIj.out W h.p.bel) (by omega)).mono ?_
            rintro e W' ⟨rfl, h2, hK⟩
            exact ⟨rfl, h.add hF.out h2 hK⟩
          have hx1 := Lib.hid hx.drew
          clear c0 c1 c2
          by_cases hE : addE (stT s0 T) tk L tu = 0
          · obtain ⟨hG2, hS2⟩ := add_gd hG tj (by rw [htj]; exact hE)
            rw [htj] at hS2
            simp only at hS2
            have hok2 := hx.p.ok.add tk L tu
            rw [hS2, ← htj] at hok2
            obtain ⟨hb12, hu2⟩ := beg_snoc hG2 (by rw [hsn.out]; exact Int.le_refl 7)
            have hu3 : tu ≤ upK (PL (T ++ [tj])) 7 := by have := hu2; rw [htj] at this ⊢; exact this
            have hrd := rdy_gd hok2 hsn.out hG2
            have hlen : (T ++ [tj]).length = T.length + 1 := by simp
            rw [hlen] at hrd
            have hB : addB (stT s0 T) tk L tu = decide (4 ≤ T.length + 1) := by
              unfold addB
              rw [if_pos hE, hS2, ← htj, hrd]
            rw [hE, hB, hS2, ← htj] at hA0
            obtain ⟨R, hR⟩ : ∃ R, R = decide (4 ≤ T.length + 1) := ⟨_, rfl⟩
            rw [← hR] at hA0 hrd
            have v1 : (valE (stT s0 (T ++ [tj])) == 0) = R := by unfold valE; rw [hrd]; cases R <;> rfl
            have v3 : decide ((4 : Int) ≤ ((T.length + 1 : Nat) : Int)) = R := by rw [hR]; exact decide_eq_decide.2 (by omega)
            have hTw2 : ∀ t ∈ T ++ [tj], TdW w t ∧ t.L.length ≤ 40 := fun t ht => by
              rcases List.mem_append.1 ht with ht | ht
              · exact hTw t ht
              · simp only [List.mem_singleton] at ht
                subst ht
                exact ⟨hwj.out, by rw [htj]; exact hLj⟩
            have hvl := valL_len hok2
            have hat := Lib.hid (fun k e (h : (valL (stT s0 (T ++ [tj])))[k]? = some e) => valL_at h)
            have hbd := beg_bd hok2
            have hd : decide (upK (stT s0 (T ++ [tj])).P 7 < tu) = false := decide_eq_false (by show ¬ upK (PL (T ++ [tj])) 7 < tu; omega)
            have hVl := fun W (h : PAt w b (stT s0 (T ++ [tj])) W) => h.values
            have hUp := fun W (h : PAt w b (stT s0 (T ++ [tj])) W) => h.upto
            have htcv : tc tj = [.int .i64 tk, .int .i64 tu, .slice ja jn jc] := by rw [htj]; rfl
            have hvf : ∃ a n c, tj.v = .slice a n c := ⟨_, _, _, by rw [htj]⟩
            have hT20 : T.length ≤ 100000 := by omega
            have hrr := hsr.out
            have hmm := hsm.out
            have hff := hsf.out
            replace hff : (a2 : Int) ≤ beg (stT s0 (T ++ [tj])) := by have := hbd.2.2.1; rw [← hff]; exact this
            replace hF0 := Lib.hid hF0
            generalize upK (stT s0 (T ++ [tj])).P 7 = U at *
            generalize valE (stT s0 (T ++ [tj])) = VE at *
            generalize hBG : beg (stT s0 (T ++ [tj])) = BG at *
            generalize hVV : valL (stT s0 (T ++ [tj])) = VL at *
            have hbgF : F ≤ BG := by omega
            replace hBG := Lib.hid hBG
            obtain ⟨n2, hn2⟩ : ∃ n2, n2 = T.length + 1 := ⟨_, rfl⟩
            rw [← hn2] at hlen v3
            have hn2j : n2 ≤ j + 1 := by omega
            replace hn2 := Lib.hid hn2
            replace hlen := Lib.hid hlen
            replace hG2 := Lib.hid hG2
            replace hTw2 := Lib.hid hTw2
            replace htcv := Lib.hid htcv
            replace hvf := Lib.hid hvf
            have hVl2 := Lib.hid hVl
            have hUp2 := Lib.hid hUp
            have hAd := Lib.hid hA0
            clear hA0 hVl hUp hE hS2 hok2 hB hrd hR htj hG hTw hjn hLj hwj hVV hu2 hu3 hb12 hrr hmm hIj hx
            as_aux_lemma =>
              go_wp2
              go_region_held3 (fun W => W.cell? ⟨lb, off + j * 3, none⟩ = some (.int .i64 tk) ∧ W.cell? ⟨lb, off + j * 3 + 1, none⟩ = some (.int .i64 tu) ∧ W.cell? ⟨lb, off + j * 3 + 2, none⟩ = some (.slice ja jn jc))
                (first | exact hC.out _ hx1.out.bel | exact hC.out _ (OA.bel (by assumption)) | assumption)
                ((go_at_call 27; refine (hAd.out _ hx1.out).mono ?_; rintro e w5 ⟨rfl, hx5⟩))
              obtain ⟨d0, d1, d2⟩ := hC.out _ hx5.bel
              have hx5' := Lib.hid hx5
              have hsz5 : base ≤ w5.heap.size := hx5.sz
              clear hx5 hx1
              go_wp2_with (at_builtin; refine wpList_append_t rfl _ _ rfl base _ T rfl (hx5'.out.alloc _).t _ _ tj hvf.out rfl (by rw [htcv.out]; exact heap_alloc_new _ _) hT20 (by rw [World.size_alloc]; omega) ?_; intro v6 w6 hO6 hg6; obtain ⟨ta6, td6, rfl⟩ := hO6.form; rw [hlen.out] at hO6 ⊢)
              have hx6 := (hx5'.out.alloc (.cells #[.int .i64 tk, .int .i64 tu, .slice ja jn jc] TTd)).push hF.out hO6 hg6
              clear hO6 hg6 hx5' d0 d1 d2 hsz5
              refine (hVl2.out _ hx6.p).mono ?_
              rintro e w7 ⟨v7, rfl, hO7, hb7⟩
              obtain ⟨xa, xn, xc, rfl, hxn⟩ := owe_form hO7
              have hx7 := Lib.hid (hx6.later hb7).drew
              have hO7' := Lib.hid (hO7.later (Below.refl _ _).drew)
              have hsz7 := Lib.hid hb7.size
              clear hx6 hb7 hO7
              have hxn2 : xn ≤ 4096 := by omega
              generalize w6.heap.size = b6 at *
              replace hxn := Lib.hid hxn
              go_wp2
              go_region_held3 (fun W => W.cell? ⟨lb, off + j * 3 + 1, none⟩ = some (.int .i64 tu))
                (first | exact (hC.out _ hx7.out.bel).2.1 | exact (hC.out _ (OA.bel (by assumption))).2.1 | assumption)
                ((go_at_call 21; refine (hUp2.out _ hx7.out.p).mono ?_; rintro e w8 ⟨rfl, hb8⟩; have hx8 := hx7.out.later hb8))
              have hO8 := hO7'.out.later hb8
              clear hx7 hO7' hb8
              go_wp2
              go_loopw [21] (fun kv wr => ∃ k : Nat, k ≤ xn ∧ kv = .int .i64 k ∧ OwE b6 VL (.slice xa xn xc) wr ∧ OA w W0 base b c (stT s0 (T ++ [tj])) s0 (T ++ [tj]) (.slice ta6 n2 td6) wr) (fun kv _ => xn - nOf kv)
              case atStart => exact ⟨0, by omega, rfl, hO8, hx8⟩
              case round =>
                clear hx8 hO8
                obtain ⟨k, hk, rfl, hO, hx⟩ := hrel
                by_cases hkx : k < xn
                · obtain ⟨g, cap', hv', hg1, hg2, hcs⟩ := hO.cells (by rw [← hxn.out]; omega)
                  injection hv' with ha hl2 hcap
                  clear hl2 hcap
                  subst ha
                  obtain ⟨e, he⟩ : ∃ e, VL[k]? = some e := ⟨_, List.getElem?_eq_getElem (by rw [← hxn.out]; exact hkx)⟩
                  obtain ⟨e0, he0⟩ : ∃ e, VL[0]? = some e := ⟨_, List.getElem?_eq_getElem (by rw [← hxn.out]; omega)⟩
                  obtain ⟨b0, b1, b2, _⟩ := hcs k e he
                  obtain ⟨z0, _, _, _⟩ := hcs 0 e0 he0
                  obtain ⟨q1, q2, q3⟩ := hat.out k e he
                  obtain ⟨q4, _, _⟩ := hat.out 0 e0 he0
                  rw [q1] at b0
                  rw [q2, show (stT s0 (T ++ [tj])).r = (r : Nat) from hsr.out] at b1
                  rw [q3, show (stT s0 (T ++ [tj])).m = (m : Nat) from hsm.out] at b2
                  rw [q4, Nat.zero_mul, show BG + ((0 : Nat) : Int) = BG by omega] at z0
                  obtain ⟨_, y0, y1⟩ := hCl.out _ hx.bel
                  have hbl := hx.bel
                  have hCk : Hid (∀ W, Below wr.drew.heap.size wr.drew W → W.cell? ⟨g, k * 4, none⟩ = some (.int .i64 (BG + (k : Nat))) ∧ W.cell? ⟨g, k * 4 + 1, none⟩ = some (.int .i64 (r : Nat)) ∧ W.cell? ⟨g, k * 4 + 2, none⟩ = some (.int .i64 (m : Nat)) ∧ W.cell? ⟨g, 0, none⟩ = some (.int .i64 BG) ∧ W.cell? ⟨q0, 0, none⟩ = some (.int .i64 (r : Nat)) ∧ W.cell? ⟨q0, 1, none⟩ = some (.int .i64 (m : Nat))) := Lib.hid fun W h => by
                    have h2 := below2 ((Below.refl wr.heap.size wr).drew) h
                    obtain ⟨_, x0, x1⟩ := hCl.out W (hbl.trans (h2.mono hbl.size))
                    exact ⟨(h2.cell (p := ⟨g, k * 4, none⟩) hg2).trans b0, (h2.cell (p := ⟨g, k * 4 + 1, none⟩) hg2).trans b1, (h2.cell (p := ⟨g, k * 4 + 2, none⟩) hg2).trans b2, (h2.cell (p := ⟨g, 0, none⟩) hg2).trans z0, x0, x1⟩
                  have hxd := Lib.hid hx.drew
                  have hOd := Lib.hid (hO.later (Below.refl _ _).drew)
                  have hE33 := fun W => (eq_b (r : Nat) (m : Nat) (r : Nat) (m : Nat) W).trans (by rw [eqB_t ⟨rfl, rfl⟩])
                  have z1 : (0 : Int) ≤ (k : Nat) := by omega
                  have z2 : (k : Int) < (xn : Nat) := by omega
                  have z3 : decide ((k : Int) < (xn : Int)) = true := by simpa using z2
                  have z4 : (0 : Int) < (xn : Nat) := by omega
                  have z4a : 0 < xn := by omega
                  have z4b : (0 : Int) ≤ 0 := Int.le_refl 0
                  have z4c : decide ((0 : Int) < (xn : Nat)) = true := decide_eq_true z4
                  have z5 : IntKind.i64.wrap (BG + (k : Nat)) = BG + (k : Nat) := by rw [IntKind.wrap_i64]; omega
                  have z6 : decide (BG + (k : Nat) < F) = false := decide_eq_false (by omega)
                  have z7 : decide (BG + (k : Nat) < U) = false := decide_eq_false (by omega)
                  have z8 : decide (BG + (k : Nat) < (a2 : Nat)) = false := decide_eq_false (by omega)
                  obtain ⟨BK, hBK⟩ : ∃ BK, BK = BG + ((k : Nat) : Int) := ⟨_, rfl⟩
                  rw [← hBK] at z6 z7 z8 hCk
                  replace z5 : IntKind.i64.wrap (BG + (k : Nat)) = BK := by rw [hBK]; exact z5
                  have z9 : (BK != BK) = false := by simp
                  clear b0 b1 b2 z0 y0 y1 hO hx hbl hcs he he0 q1 q2 q3 q4 hBK
                  as_aux_lemma =>
                    go_wp2
                    go_region_held3 (fun W => W.cell? ⟨g, k * 4, none⟩ = some (.int .i64 BK) ∧ W.cell? ⟨g, k * 4 + 1, none⟩ = some (.int .i64 (r : Nat)) ∧ W.cell? ⟨g, k * 4 + 2, none⟩ = some (.int .i64 (m : Nat)) ∧ W.cell? ⟨g, 0, none⟩ = some (.int .i64 BG) ∧ W.cell? ⟨q0, 0, none⟩ = some (.int .i64 (r : Nat)) ∧ W.cell? ⟨q0, 1, none⟩ = some (.int .i64 (m : Nat)))
                      (first | exact hCk.out _ (Below.refl _ _) | exact hCk.out _ (by assumption) | assumption)
                      ((go_at_call 21; refine (hUp2.out _ hxd.out.p).mono ?_; rintro e w5 ⟨rfl, hb5⟩))
                    go_wp2
                    go_roundw
                    case rel => exact ⟨k + 1, by omega, by go_num, hOd.out.later hb5, hxd.out.later hb5⟩
                    case measure => simp [nOf]; omega
                · obtain rfl : k = xn := by omega
                  have z3 : decide ((k : Int) < (k : Int)) = false := by simp
                  have hbl := hx.bel
                  by_cases hk0 : 0 < k
                  · obtain ⟨g, cap', hv', hg1, hg2, hcs⟩ := hO.cells (by rw [← hxn.out]; omega)
                    injection hv' with ha hl2 hcap
                    clear hl2 hcap
                    subst ha
                    obtain ⟨e0, he0⟩ : ∃ e, VL[0]? = some e := ⟨_, List.getElem?_eq_getElem (by rw [← hxn.out]; omega)⟩
                    obtain ⟨z0, _, _, _⟩ := hcs 0 e0 he0
                    obtain ⟨q4, _, _⟩ := hat.out 0 e0 he0
                    rw [q4, Nat.zero_mul, show BG + ((0 : Nat) : Int) = BG by omega] at z0
                    have z4 : (0 : Int) < (k : Nat) := by omega
                    have z6 : decide ((0 : Int) < (k : Nat)) = true := by simpa using hk0
                    replace hx := Lib.hid hx
                    have hb0 := hbd.1
                    clear hO hcs he0 q4
                    as_aux_lemma =>
                      go_wp2
                      go_roundw
                      case rel => exact ⟨j + 1, T ++ [tj], BG, ta6, td6, by omega, by go_num, rfl, by rw [hlen.out], hG2.out, by rw [hlen.out]; omega, hTw2.out, hb0, by rw [hBG.out]; exact Int.le_refl _, by rw [hlen.out]; exact hx.out⟩
                      case measure => simp [nOf]; omega
                  · obtain rfl : k = 0 := by omega
                    replace hx := Lib.hid hx
                    as_aux_lemma =>
                      go_wp2
                      go_roundw
                      case rel => exact ⟨j + 1, T ++ [tj], F, ta6, td6, by omega, by go_num, rfl, by rw [hlen.out], hG2.out, by rw [hlen.out]; omega, hTw2.out, hF0.out, by rw [hBG.out]; exact hbgF, by rw [hlen.out]; exact hx.out⟩
                      case measure => simp [nOf]; omega
          · have hS2 : addS (stT s0 T) tk L tu = stT s0 T := if_neg hE
            have hB : addB (stT s0 T) tk L tu = false := if_neg hE
            rw [hS2, hB] at hA0
            generalize addE (stT s0 T) tk L tu = E at *
            have e1 : (E == 0) = false := by simpa using hE
            have e2 : (E != 0) = true := by simpa using hE
            have e3 : decide (E = 0) = false := by simpa using hE
            have hAd := Lib.hid hA0
            replace hG := Lib.hid hG
            replace hTw := Lib.hid hTw
            clear hA0 hS2 hB htj hjn hLj hwj hIj hx
            as_aux_lemma =>
              go_wp2
              go_region_held3 (fun W => W.cell? ⟨lb, off + j * 3, none⟩ = some (.int .i64 tk) ∧ W.cell? ⟨lb, off + j * 3 + 1, none⟩ = some (.int .i64 tu) ∧ W.cell? ⟨lb, off + j * 3 + 2, none⟩ = some (.slice ja jn jc))
                (first | exact hC.out _ hx1.out.bel | exact hC.out _ (OA.bel (by assumption)) | assumption)
                ((go_at_call 27; refine (hAd.out _ hx1.out).mono ?_; rintro e w5 ⟨rfl, hx5⟩))
              clear hx1
              go_wp2
              go_roundw
              case rel => exact ⟨j + 1, T, F, ta, td, by omega, by go_num, rfl, rfl, hG.out, by omega, hTw.out, hF0, hFb, hx5⟩
              case measure => simp [nOf]; omega
        · obtain rfl : j = len3 := by omega
          have i3 : decide ((j : Int) < (j : Int)) = false := by simp
          have hok := Lib.hid hx.p.ok
          have hfin : Hid (∀ W, OA w W0 base b c (stT s0 T) (stT s0 T) T (.slice ta T.length td) W → OA w W0 base b c (stT s0 T) (stT s0 T) T (.slice ta T.length td) W) := Lib.hid fun _ h => h
          obtain ⟨n, hn⟩ : ∃ n, n = T.length := ⟨_, rfl⟩
          rw [← hn] at hx hTj ⊢
          have hxs : OA w W0 base b c (stT s0 T) (stT s0 (T.drop n)) T (.slice ta n td) wr := by rw [hn, List.drop_length, hst0.out, ← hn]; exact hx
          have n1 : IntKind.i64.wrap ((n : Int) - 1) = (n : Int) - 1 := by rw [IntKind.wrap_i64]; omega
          replace hn := Lib.hid hn
          replace hG := Lib.hid hG
          replace hTw := Lib.hid hTw
          clear hx
          as_aux_lemma =>
            go_wp2
            go_loopw [22] (fun iv wr => ∃ k : Nat, k ≤ n ∧ iv = .int .i64 ((k : Int) - 1) ∧ OA w W0 base b c (stT s0 T) (stT s0 (T.drop k)) T (.slice ta n td) wr) (fun iv _ => (intOf iv + 1).toNat)
            case atStart => exact ⟨n, Nat.le_refl _, rfl, hxs⟩
            case round =>
              clear hxs
              obtain ⟨k, hk, hiv, hx⟩ := hrel
              cases k with
              | succ k =>
                rw [show (((k + 1 : Nat) : Int) - 1) = (k : Nat) by omega] at hiv
                subst hiv
                obtain ⟨t, ht⟩ : ∃ t, T[k]? = some t := ⟨_, List.getElem?_eq_getElem (by rw [← hn.out]; omega)⟩
                have hdr : T.drop k = t :: T.drop (k + 1) := by
                  obtain ⟨hlt, e⟩ := List.getElem?_eq_some_iff.1 ht
                  rw [← e]
                  exact List.drop_eq_getElem_cons hlt
                have hGd := hG.out.drop k
                rw [hdr] at hGd
                obtain ⟨hE, hS⟩ := add_cons hGd
                obtain ⟨hwt, hLt⟩ := hTw.out t (List.mem_of_getElem? ht)
                obtain ⟨g, cap', hv', hg1, hg2, hcs⟩ := hx.t.cells (by rw [← hn.out]; omega)
                rw [← hn.out] at hv'
                injection hv' with ha hl2 hcap
                clear hl2 hcap
                subst ha
                obtain ⟨c0, c1, c2⟩ := hcs k t ht
                have hIt := fun W (hb : Below w.heap.size w W) => (hwt.later hb).2.2.1
                have hA0 : ∀ W, OA w W0 base b c (stT s0 T) (stT s0 (T.drop (k + 1))) T (.slice (some ⟨g, 0, none⟩) n td) W → Calls Try.prog 27 #[.pointer (some ⟨c, 0, none⟩), .int .i64 t.k, t.v, .int .i64 t.u] W fun e W' => e = .returned (.tuple #[.bool (addB (stT s0 (T.drop (k + 1))) t.k t.L t.u), .int .i64 0]) ∧ OA w W0 base b c (stT s0 T) (stT s0 (T.drop k)) T (.slice (some ⟨g, 0, none⟩) n td) W' := fun W h => by
                  refine (h.q.add t.k _ t.u t.L (hIt W h.q.bel) (by omega)).mono ?_
                  rintro e W' ⟨rfl, h2, hK⟩
                  rw [hS, ← hdr] at h2
                  rw [hE]
                  exact ⟨rfl, h.addq hF.out h2 hK⟩
                have hCk : Hid (∀ W, OA w W0 base b c (stT s0 T) (stT s0 (T.drop (k + 1))) T (.slice (some ⟨g, 0, none⟩) n td) W ∨ OA w W0 base b c (stT s0 T) (stT s0 (T.drop k)) T (.slice (some ⟨g, 0, none⟩) n td) W → W.cell? ⟨g, k * 3, none⟩ = some (.int .i64 t.k) ∧ W.cell? ⟨g, k * 3 + 1, none⟩ = some (.int .i64 t.u) ∧ W.cell? ⟨g, k * 3 + 2, none⟩ = some t.v) := Lib.hid fun W h => by
                  have hO : OwT base T (.slice (some ⟨g, 0, none⟩) n td) W := by rcases h with h | h <;> exact h.t
                  obtain ⟨g', cap'', hv', _, _, hcs⟩ := hO.cells (by rw [← hn.out]; omega)
                  injection hv' with ha _ _
                  injection ha with ha
                  injection ha with ha _ _
                  subst ha
                  exact hcs k t ht
                obtain ⟨_, _, _, _, ja, jc, hjv, _⟩ := id hwt
                rw [hjv] at hA0 hCk
                generalize addB (stT s0 (T.drop (k + 1))) t.k t.L t.u = R at *
                obtain ⟨jn, hjn⟩ : ∃ jn, jn = t.L.length := ⟨_, rfl⟩
                rw [← hjn] at hA0 hCk
                generalize t.k = tk at *
                generalize t.u = tu at *
                have hxd := Lib.hid hx.drew
                have hAd := Lib.hid hA0
                have z1 : (0 : Int) ≤ (k : Nat) := by omega
                have z2 : (k : Int) < (n : Nat) := by omega
                have z4 : IntKind.i64.wrap ((k : Int) - 1) = (k : Int) - 1 := by rw [IntKind.wrap_i64]; omega
                clear hA0 hx hcs c0 c1 c2 hIt hE hS hGd hdr ht hwt hLt hjv hjn
                as_aux_lemma =>
                  go_wp2
                  go_region_held3 (fun W => W.cell? ⟨g, k * 3, none⟩ = some (.int .i64 tk) ∧ W.cell? ⟨g, k * 3 + 1, none⟩ = some (.int .i64 tu) ∧ W.cell? ⟨g, k * 3 + 2, none⟩ = some (.slice ja jn jc))
                    (first | exact hCk.out _ (.inl hxd.out) | exact hCk.out _ (.inr (by assumption)) | assumption)
                    ((go_at_call 27; refine (hAd.out _ hxd.out).mono ?_; rintro e w5 ⟨rfl, hx5⟩))
                  clear hxd
                  go_wp2
                  go_roundw
                  case rel => exact ⟨k, by omega, by go_num, hx5⟩
                  case measure => first | (simp [intOf]; done) | (simp [intOf]; omega)
              | zero =>
                rw [show (((0 : Nat) : Int) - 1) = -1 by rfl] at hiv
                subst hiv
                rw [List.drop_zero] at hx
                have hvl : (valL (stT s0 T)).length ≤ 100000 := by have := valL_len hok.out; omega
                have hSm : Hid (∀ v1 v2 W, IsE W v1 (valL (stT s0 T)) → IsE W v2 (valL (stT s0 T)) → Calls Try.prog 18 #[v1, v2] W fun e W' => e = .returned (.bool true) ∧ Below W.heap.size W W') := Lib.hid fun v1 v2 W h1 h2 => by
                  have := same_any v1 v2 _ _ W h1 h2 hvl hvl
                  rwa [eqLs_t] at this
                have hVl : Hid (∀ W q, PAt w q (stT s0 T) W → Calls Try.prog 16 #[.pointer (some ⟨q, 0, none⟩)] W fun e W' => ∃ v, e = .returned (.tuple #[v, .int .i64 (valE (stT s0 T))]) ∧ IsE W' v (valL (stT s0 T)) ∧ Below W.heap.size W W') := Lib.hid fun W q h => by
                  refine h.values.mono ?_
                  rintro e W' ⟨v, rfl, hO, hb⟩
                  exact ⟨v, rfl, hO.is, hb⟩
                have hNn : Hid (∀ W q, PAt w q (stT s0 T) W → Calls Try.prog 25 #[.pointer (some ⟨q, 0, none⟩)] W fun e W' => e = .returned (.int .u64 (nodesK (stT s0 T).P 7 : Nat)) ∧ Below W.heap.size W W') := Lib.hid fun W q h => h.nodes
                have hUp : Hid (∀ W q, PAt w q (stT s0 T) W → Calls Try.prog 21 #[.pointer (some ⟨q, 0, none⟩)] W fun e W' => e = .returned (.int .i64 (upK (stT s0 T).P 7)) ∧ Below W.heap.size W W') := Lib.hid fun W q h => h.upto
                have hRd : Hid (∀ W q, PAt w q (stT s0 T) W → Calls Try.prog 19 #[.pointer (some ⟨q, 0, none⟩)] W fun e W' => e = .returned (.bool (rdy (stT s0 T))) ∧ Below W.heap.size W W') := Lib.hid fun W q h => h.ready
                have hp := hx.p
                have hq := hx.q
                clear hx hok hn hG hTw hst0 hvl
                generalize nodesK (stT s0 T).P 7 = N at *
                generalize upK (stT s0 T).P 7 = U at *
                generalize valE (stT s0 T) = VE at *
                generalize valL (stT s0 T) = VL at *
                generalize rdy (stT s0 T) = R at *
                generalize stT s0 T = s at *
                as_aux_lemma =>
                  go_wp2_with fail
                  refine (hVl.out _ _ hp).mono ?_
                  rintro e W9 ⟨v1, rfl, hv1, hb⟩
                  replace hp := hp.later hb
                  replace hq := hq.later hb
                  clear hb
                  go_wp2_with fail
                  refine (hVl.out _ _ hq).mono ?_
                  rintro e W10 ⟨v2, rfl, hv2, hb⟩
                  replace hp := hp.later hb
                  replace hq := hq.later hb
                  replace hv1 := hv1.later hb
                  clear hb
                  go_wp2_with fail
                  refine (hSm.out _ _ _ hv1 hv2).mono ?_
                  rintro e W11 ⟨rfl, hb⟩
                  replace hp := hp.later hb
                  replace hq := hq.later hb
                  clear hb hv1 hv2
                  go_wp2_with fail
                  refine (hNn.out _ _ hp).mono ?_
                  rintro e W12 ⟨rfl, hb⟩
                  replace hp := hp.later hb
                  replace hq := hq.later hb
                  clear hb
                  go_wp2_with fail
                  refine (hNn.out _ _ hq).mono ?_
                  rintro e W13 ⟨rfl, hb⟩
                  replace hp := hp.later hb
                  replace hq := hq.later hb
                  clear hb
                  go_wp2_with fail
                  refine (hUp.out _ _ hp).mono ?_
                  rintro e W14 ⟨rfl, hb⟩
                  replace hp := hp.later hb
                  replace hq := hq.later hb
                  clear hb
                  go_wp2_with fail
                  refine (hUp.out _ _ hq).mono ?_
                  rintro e W15 ⟨rfl, hb⟩
                  replace hp := hp.later hb
                  replace hq := hq.later hb
                  clear hb
                  go_wp2_with fail
                  refine (hRd.out _ _ hp).mono ?_
                  rintro e W16 ⟨rfl, hb⟩
                  replace hp := hp.later hb
                  replace hq := hq.later hb
                  clear hb
                  go_wp2_with fail
                  refine (hRd.out _ _ hq).mono ?_
                  rintro e W17 ⟨rfl, hb⟩
                  replace hp := hp.later hb
                  replace hq := hq.later hb
                  clear hb
                  go_wp2_with fail
                  refine (HW.out _).mono ?_
                  rintro e W18 ⟨rfl, hb⟩
                  go_wp2_with fail
                  go_ret
                  exact ⟨rfl, below2 hp.bel hb⟩
theorem order_law (a0 a1 a2 : Int) (a3 : Option Addr) (len3 cap3 : Nat) (S3 : Nat → Td) (w : World) (h0 : (Lit.int .u8 a0).wf = true) (h1 : (Lit.int .u8 a1).wf = true) (h2 : (Lit.int .u8 a2).wf = true) (h3 : IsTd w a3 len3 cap3 S3) :
    Calls Try.prog 6 #[.int .u8 a0, .int .u8 a1, .int .u8 a2, .slice a3 len3 cap3] w (Yes w) := by
  have b0 := bounds_u8 h0
  have b1 := bounds_u8 h1
  have b2 := bounds_u8 h2
  obtain ⟨n0, rfl⟩ := Int.eq_ofNat_of_zero_le b0.1
  obtain ⟨n1, rfl⟩ := Int.eq_ofNat_of_zero_le b1.1
  obtain ⟨n2, rfl⟩ := Int.eq_ofNat_of_zero_le b2.1
  exact order_go n0 n1 n2 a3 len3 cap3 S3 w (by have := b0.2; omega) (by have := b1.2; omega) (by have := b2.2; omega) h3
end Go.Proofs.Ytffiooclkchoiaa.Prp
