/- ProposeGreatest. -/
import Derived.Test.YtffiooclkchoiaaP25
import Derived.Deep.CutRange
import Derived.BigQuiet
namespace Go.Proofs.Ytffiooclkchoiaa.Prp
open Go.RowKit Go.Lib
open Bal (TB bOk ckB ordV eqB eqB_t eqB_f eq_b alloc_b check_any order_any)
set_option linter.unusedVariables false
set_option linter.unusedSimpArgs false
set_option maxRecDepth 100000

theorem el_nil2 : ByteArray.toList ⟨#[]⟩ = [] := by rw [ByteArray.toList_eq]
theorem box_of {W : World} {q : Nat} {cs : Array Value} {T : TypeId} {f : Nat × Nat} (h : W.heap[q]? = some (.cells cs T f)) : q < W.heap.size := (Array.getElem?_eq_some_iff.1 h).1
theorem box_set2 {W : World} {q : Nat} {x y x' y' : Int} (h : W.heap[q]? = some (.cells #[.int .i64 x, .int .i64 y] TB (0, 0))) :
    ((W.setCell ⟨q, 0, none⟩ (.int .i64 x')).setCell ⟨q, 1, none⟩ (.int .i64 y')).heap[q]? = some (.cells #[.int .i64 x', .int .i64 y'] TB (0, 0)) ∧
    Keeps (fun j => j = q) W ((W.setCell ⟨q, 0, none⟩ (.int .i64 x')).setCell ⟨q, 1, none⟩ (.int .i64 y')) :=
  ⟨Go.heap_setCell_same _ q 1 _ TB _ (Go.heap_setCell_same W q 0 _ TB _ h), ((Keeps.refl (fun j => j = q) W).setCell (p := ⟨q, 0, none⟩) (.inl rfl) _).setCell (p := ⟨q, 1, none⟩) (.inl rfl) _⟩
def fndB (b : Int) (k : Nat) (V : ByteArray) (G : Et) (x : Et) : Bool := decide (x.s = b + k) && (decide (x.r = G.r ∧ x.m = G.m) && decide (x.v = V))
theorem any_snoc (f : Et → Bool) (A : List Et) (x : Et) : (A ++ [x]).any f = (A.any f || f x) := by simp
theorem take_snoc {A : List Et} {i : Nat} {e : Et} (h : A[i]? = some e) : A.take (i + 1) = A.take i ++ [e] := by
  rw [List.take_add_one, h]; rfl
/-- What stays: the row of all entries and the values. -/
structure Vw (w : World) (b1 b2 : Nat) (T VL : List Et) (v u : Value) (W : World) : Prop where
  t : OwE b1 T v W
  u : OwE b2 VL u W
  bel : Below w.heap.size w W
theorem Vw.later {w W W' : World} {b1 b2 : Nat} {T VL : List Et} {v u : Value} (h : Vw w b1 b2 T VL v u W) (hb : Below W.heap.size W W') : Vw w b1 b2 T VL v u W' := ⟨h.t.later hb, h.u.later hb, h.bel.trans (hb.mono h.bel.size)⟩
theorem Vw.drew {w W : World} {b1 b2 : Nat} {T VL : List Et} {v u : Value} (h : Vw w b1 b2 T VL v u W) : Vw w b1 b2 T VL v u W.drew := h.later (Below.refl _ _).drew

set_option maxHeartbeats 16000000 in
theorem great_go (a0 : Nat) (a1 : Option Addr) (len1 cap1 : Nat) (S : Nat → Td) (w : World) (h0 : a0 ≤ 255) (h1 : IsTd w a1 len1 cap1 S) :
    Calls Try.prog 7 #[.int .u8 (a0 : Nat), .slice a1 len1 cap1] w (Yes w) := by
  have HW := Lib.hid (fun W => works_any W)
  have f1 : IntKind.i64.wrap (a0 : Nat) = (a0 : Nat) := by rw [IntKind.wrap_i64]; omega
  have hok : newOk 7 1073741824 6 (a0 : Nat) := ⟨by omega, ⟨by omega, by omega, by omega, by omega⟩, by omega, by omega⟩
  have hS1 := Lib.hid (fun W (hb : Below w.heap.size w W) => short_any (a0 : Nat) a1 len1 cap1 S W (h1.later hb))
  replace h1 := Lib.hid h1
  have hNw := Lib.hid (fun W hb => new_at 7 1073741824 6 (a0 : Nat) hok w W hb)
  obtain ⟨s0, hs0⟩ : ∃ s0, s0 = newS 7 1073741824 6 (a0 : Nat) := ⟨_, rfl⟩
  rw [← hs0] at hNw
  have hsn : s0.n = 7 := by rw [hs0]; rfl
  have hsf : s0.f = (a0 : Nat) := by rw [hs0]; rfl
  have hal : ∀ e, e ∈ ([] : List Et) ↔ e ∈ allK s0.P 7 := fun e => by
    rw [hs0, all_nil (newS 7 1073741824 6 (a0 : Nat)).P (fun j => rfl) 7]
  have hst := Lib.hid (⟨hsn, hsf, hal⟩ : s0.n = 7 ∧ s0.f = (a0 : Nat) ∧ ∀ e, e ∈ ([] : List Et) ↔ e ∈ allK s0.P 7)
  clear hs0 hsn hsf hal hok
  go_enter Try.func7, Try.ntmps7
  go_wp2_with fail
  refine (hS1.out _ (Below.refl _ _)).mono ?_
  rintro e W1 ⟨B1, rfl, hB1, hb1⟩
  replace hB1 := Lib.hid hB1
  cases B1 with
  | false =>
    go_wp2_with (go_at_call 11; refine (HW.out _).mono ?_; rintro e w1 ⟨rfl, hb⟩)
    go_ret
    exact ⟨rfl, below2 hb1 hb⟩
  | true =>
    obtain ⟨hl20, hl40⟩ := hB1.out rfl
    replace hl40 := Lib.hid hl40
    as_aux_lemma =>
      go_wp2_with fail
      refine (hNw.out _ hb1).mono ?_
      rintro e W2 ⟨b, rfl, hp2, hbl, hb3⟩
      have hx0 : GA w W2.heap.size b s0 [] (.slice none 0 0) W2 := GA.start hp2 hp2.lt
      generalize W2.heap.size = base at *
      clear hp2 hb3 hbl hb1
      go_wp2
      go_loopw [7, 8] (fun av iv wr => ∃ (j : Nat) (s : St) (T : List Et) (ta : Option Addr) (tn td : Nat), j ≤ len1 ∧ iv = .int .i64 j ∧ av = .slice ta tn td ∧ tn = T.length ∧ T.length ≤ 40 * j ∧ (s.n = 7 ∧ s.f = (a0 : Nat) ∧ ∀ e, e ∈ T ↔ e ∈ allK s.P 7) ∧ GA w base b s T (.slice ta tn td) wr) (fun _ i _ => len1 - nOf i)
      case atStart => exact ⟨0, s0, [], none, 0, 0, by omega, rfl, rfl, rfl, Nat.le_refl _, hst.out, hx0⟩
      case round =>
        clear hx0 hst
        obtain ⟨j, s, T, ta, tn, td, hj, rfl, rfl, htn, hTj, hs, hx⟩ := hrel
        replace htn := Lib.hid htn
        by_cases hlt : j < len1
        · have hwj := h1.out.wf j
          obtain ⟨lb, off, rfl, hlb, c0, c1, c2⟩ := h1.out.at (Below.refl _ _) hlt
          have hLj := hl40.out j hlt
          generalize S j = tj at *
          have hIj := Lib.hid (fun W (hb : Below w.heap.size w W) => (hwj.later hb).2.2.1)
          obtain ⟨tk, tu, L, v⟩ := tj
          obtain ⟨_, _, _, _, ja, jc, hjv, _⟩ := id hwj
          simp only at hjv c0 c1 c2 hIj hLj
          subst hjv
          obtain ⟨jn, hjn⟩ : ∃ jn, jn = L.length := ⟨_, rfl⟩
          rw [← hjn] at c2 hIj
          have hLj2 : L.length ≤ 40 := hLj
          clear hjn hLj
          have i2 : (j : Int) < (len1 : Nat) := by omega
          have i3 : decide ((j : Int) < (len1 : Int)) = true := by simpa using i2
          have i4 : (0 : Int) ≤ (j : Nat) := by omega
          have hC : Hid (∀ W, Below w.heap.size w W → (W.cell? ⟨lb, off + j * 3, none⟩ = some (.int .i64 tk) ∧ W.cell? ⟨lb, off + j * 3 + 1, none⟩ = some (.int .i64 tu) ∧ W.cell? ⟨lb, off + j * 3 + 2, none⟩ = some (.slice ja jn jc))) := Lib.hid fun W hw =>
            ⟨(hw.cell (p := ⟨lb, _, none⟩) hlb).trans c0, (hw.cell (p := ⟨lb, _, none⟩) hlb).trans c1, (hw.cell (p := ⟨lb, _, none⟩) hlb).trans c2⟩
          have hA0 : ∀ W, GA w base b s T (.slice ta tn td) W → Calls Try.prog 27 #[.pointer (some ⟨b, 0, none⟩), .int .i64 tk, .slice ja jn jc, .int .i64 tu] W fun e W' => e = .returned (.tuple #[.bool (addB s tk L tu), .int .i64 (addE s tk L tu)]) ∧ GA w base b (addS s tk L tu) T (.slice ta tn td) W' := fun W h =>
            h.add tk _ tu L (hIj.out W h.bel) (by omega)
          have hx1 := Lib.hid hx.drew
          have hsok := hx.ok
          clear c0 c1 c2 hwj hx
          have hRg : Hid (∀ W, GA w base b s T (.slice ta tn td) W → Below w.heap.size w W) := Lib.hid fun W h => h.bel
          by_cases hE : addE s tk L tu = 0
          · have hal := all_add hsok (by rw [hs.1]; exact Int.le_refl 7) hE
            have hs2 : (addS s tk L tu).n = 7 ∧ (addS s tk L tu).f = (a0 : Nat) ∧ ∀ e, e ∈ T ++ L ↔ e ∈ allK (addS s tk L tu).P 7 := by
              refine ⟨?_, ?_, fun e => ?_⟩
              · unfold addS; rw [if_pos hE]; exact hs.1
              · unfold addS; rw [if_pos hE]; exact hs.2.1
              · rw [hal, List.mem_append, hs.2.2]
            rw [hE] at hA0
            generalize addS s tk L tu = s2 at *
            generalize addB s tk L tu = R at *
            replace hs2 := Lib.hid hs2
            have hAd := Lib.hid hA0
            clear hA0 hE hal hs hsok
            as_aux_lemma =>
              go_wp2
              go_region_held3 (fun W => W.cell? ⟨lb, off + j * 3, none⟩ = some (.int .i64 tk) ∧ W.cell? ⟨lb, off + j * 3 + 1, none⟩ = some (.int .i64 tu) ∧ W.cell? ⟨lb, off + j * 3 + 2, none⟩ = some (.slice ja jn jc))
                (first | exact hC.out _ hx1.out.bel | exact hC.out _ (GA.bel (by assumption)) | assumption)
                ((go_at_call 27; refine (hAd.out _ hx1.out).mono ?_; rintro e w5 ⟨rfl, hx5⟩))
              obtain ⟨d0, d1, d2⟩ := hC.out _ hx5.bel
              have hI5 := hIj.out _ hx5.bel
              go_wp2_with (at_builtin; refine wpList_append_l rfl _ _ rfl base _ _ T L rfl rfl hx5.t hI5 (by omega) (by omega) hx5.sz ?_; intro v6 w6 hO6 hg6 hv6; obtain ⟨ta6, tn6, td6, rfl, htn6⟩ := owe_form hO6; replace htn6 := Lib.hid htn6)
              have hx6 := hx5.push hO6 hg6 hv6
              go_wp2
              go_roundw
              case rel => exact ⟨j + 1, s2, T ++ L, ta6, tn6, td6, by omega, by go_num, rfl, htn6.out, by rw [List.length_append]; omega, hs2.out, hx6⟩
              case measure => simp [nOf]; omega
          · have hS2 : addS s tk L tu = s := if_neg hE
            have hB : addB s tk L tu = false := if_neg hE
            rw [hS2, hB] at hA0
            generalize addE s tk L tu = E at *
            have e1 : (E == 0) = false := by simpa using hE
            have e2 : (E != 0) = true := by simpa using hE
            have e3 : decide (E = 0) = false := by simpa using hE
            replace hs := Lib.hid hs
            have hAd := Lib.hid hA0
            clear hA0 hS2 hB hIj hsok
            as_aux_lemma =>
              go_wp2
              go_region_held3 (fun W => W.cell? ⟨lb, off + j * 3, none⟩ = some (.int .i64 tk) ∧ W.cell? ⟨lb, off + j * 3 + 1, none⟩ = some (.int .i64 tu) ∧ W.cell? ⟨lb, off + j * 3 + 2, none⟩ = some (.slice ja jn jc))
                (first | exact hC.out _ hx1.out.bel | exact hC.out _ (GA.bel (by assumption)) | assumption)
                ((go_at_call 27; refine (hAd.out _ hx1.out).mono ?_; rintro e w5 ⟨rfl, hx5⟩))
              go_wp2
              go_roundw
              case rel => exact ⟨j + 1, s, T, ta, tn, td, by omega, by go_num, rfl, htn.out, by omega, hs.out, hx5⟩
              case measure => simp [nOf]; omega
        · obtain rfl : j = len1 := by omega
          have htb : tn ≤ 800 := by rw [htn.out]; omega
          have i3 : decide ((j : Int) < (j : Int)) = false := by simp
          clear hS1 hNw hl40 h1 hB1
          obtain ⟨hsn, hsf, hal⟩ := hs
          have hp := hx.p
          have hVl := Lib.hid hp.values
          have hRd := Lib.hid (fun W (h : PAt w b s W) => h.ready)
          have hUp := Lib.hid (fun W (h : PAt w b s W) => h.upto)
          have hvl := valL_len hx.ok
          have hbd := beg_bd hx.ok
          cases hr : rdy s with
          | false =>
            have hv9 : valE s = 9 := by unfold valE; rw [hr]; rfl
            rw [hv9] at hVl
            rw [hr] at hRd
            clear hr
            as_aux_lemma =>
              go_wp2_with fail
              refine hVl.out.mono ?_
              rintro e W3 ⟨v3, rfl, hO3, hb3⟩
              obtain ⟨xa, xn, xc, rfl, hxn⟩ := owe_form hO3
              clear hxn
              replace hp := hp.later hb3
              go_wp2_with fail
              refine (hRd.out _ hp).mono ?_
              rintro e W4 ⟨rfl, hb4⟩
              go_wp2_with fail
              refine (HW.out _).mono ?_
              rintro e W5 ⟨rfl, hb5⟩
              go_wp2_with fail
              go_ret
              exact ⟨rfl, below2 (hp.bel.trans (hb4.mono hp.bel.size)) hb5⟩
          | true =>
            have hv9 : valE s = 0 := by unfold valE; rw [hr]; rfl
            have hvL : valL s = valsOf s := by unfold valL; rw [hr]; rfl
            rw [hv9, hvL] at hVl
            rw [hvL] at hvl
            obtain ⟨BG, hBG⟩ : ∃ BG, BG = beg s := ⟨_, rfl⟩
            obtain ⟨L, hL⟩ : ∃ L, L = allK s.P 7 := ⟨_, rfl⟩
            obtain ⟨N, hN⟩ : ∃ N, N = topN BG L := ⟨_, rfl⟩
            have hVV : valsOf s = lst N (fun j => ⟨BG + j, s.r, s.m, (bestF BG L j).v⟩) := by rw [hN, hL, hBG]; rfl
            rw [hVV] at hVl hvl
            rw [lst_len] at hvl
            have hmx : max (a0 : Int) (upK s.P 7) = BG := by rw [hBG]; unfold beg; rw [hsf]
            have hTL : ∀ e, e ∈ T ↔ e ∈ L := by rw [hL]; exact hal
            have htop := Lib.hid (fun (e : Et) (he : e ∈ T) => show e.s < BG + (N : Nat) from by rw [hN]; exact top_mem e ((hTL e).1 he))
            have hFd := Lib.hid (fun k => found_at BG k hTL)
            have hVat := Lib.hid (fun k (hk : k < N) => lst_at N (fun j => (⟨BG + j, s.r, s.m, (bestF BG L j).v⟩ : Et)) k hk)
            have hVln := lst_len N (fun j => (⟨BG + j, s.r, s.m, (bestF BG L j).v⟩ : Et))
            have hBd : 0 ≤ BG ∧ BG ≤ 4096 := by rw [hBG]; exact ⟨hbd.1, hbd.2.1⟩
            clear hBG hL hN hVV hal hTL hbd hv9 hvL hr hRd hsf hsn
            generalize upK s.P 7 = U at *
            generalize lst N (fun j => (⟨BG + j, s.r, s.m, (bestF BG L j).v⟩ : Et)) = VL at *
            generalize s.r = sr at *
            generalize s.m = sm at *
            generalize hVf : (fun j => (bestF BG L j).v) = V at *
            have hV2 : ∀ k, (bestF BG L k).v = V k := fun k => by rw [← hVf]
            simp only [hV2] at hVat hFd
            clear hV2 hVf
            replace hVln := Lib.hid hVln
            have htv := hx.t
            clear hx
            as_aux_lemma =>
              go_wp2_with fail
              refine hVl.out.mono ?_
              rintro e W3 ⟨v3, rfl, hO3, hb3⟩
              obtain ⟨xa, xn, xc, rfl, hxn⟩ := owe_form hO3
              rw [hVln.out] at hxn
              subst hxn
              replace hp := hp.later hb3
              have hV0 : Vw w base wr.heap.size T VL (.slice ta tn td) (.slice xa xn xc) W3 := ⟨htv.later hb3, hO3, hp.bel⟩
              generalize wr.heap.size = b3 at *
              clear htv hO3 hb3 hVl
              go_wp2_with fail
              refine (hUp.out _ hp).mono ?_
              rintro e W4 ⟨rfl, hb4⟩
              replace hV0 := hV0.later hb4
              clear hp hb4 hUp
              go_wp2
              go_loopw [14] (fun iv wr => ∃ i : Nat, i ≤ tn ∧ iv = .int .i64 i ∧ Vw w base b3 T VL (.slice ta tn td) (.slice xa xn xc) wr) (fun iv _ => tn - nOf iv)
              case atStart => exact ⟨0, by omega, rfl, hV0⟩
              case round =>
                clear hV0
                obtain ⟨i, hi, rfl, hV⟩ := hrel
                by_cases hlt : i < tn
                · obtain ⟨e, he⟩ : ∃ e, T[i]? = some e := ⟨_, List.getElem?_eq_getElem (by rw [← htn.out]; exact hlt)⟩
                  obtain ⟨g, cap', hv', hg1, hg2, hcs⟩ := hV.t.cells (by rw [← htn.out]; omega)
                  injection hv' with ha hl2 hcap
                  clear hl2 hcap
                  subst ha
                  obtain ⟨c0, _, _, _⟩ := hcs i e he
                  have z0 := htop.out e (List.mem_of_getElem? he)
                  have z1 : (0 : Int) ≤ (i : Nat) := by omega
                  have z2 : (i : Int) < (tn : Nat) := by omega
                  have z3 : decide ((i : Int) < (tn : Int)) = true := by simpa using z2
                  have z4 : IntKind.i64.wrap (BG + (xn : Nat)) = BG + (xn : Nat) := by rw [IntKind.wrap_i64]; omega
                  have z5 : decide (BG + (xn : Nat) ≤ e.s) = false := decide_eq_false (by omega)
                  generalize e.s = es at *
                  replace hV := Lib.hid hV
                  clear hcs he z0
                  as_aux_lemma =>
                    go_wp2
                    go_roundw
                    case rel => exact ⟨i + 1, by omega, by go_num, hV.out⟩
                    case measure => simp [nOf]; omega
                · obtain rfl : i = tn := by omega
                  have z3 : decide ((i : Int) < (i : Int)) = false := by simp
                  clear htop
                  as_aux_lemma =>
                    go_wp2
                    go_loopw [15] (fun kv wr => ∃ k : Nat, k ≤ xn ∧ kv = .int .i64 k ∧ Vw w base b3 T VL (.slice ta i td) (.slice xa xn xc) wr) (fun kv _ => xn - nOf kv)
                    case atStart => exact ⟨0, by omega, rfl, hV⟩
                    case round =>
                      clear hV
                      obtain ⟨k, hk, rfl, hV⟩ := hrel
-- ROUNDS
                      by_cases hlt : k < xn
                      · obtain ⟨hg, hcap, hv', hg1, hg2', hcs⟩ := hV.u.cells (by rw [hVln.out]; omega)
                        injection hv' with ha hl2 hcap2
                        clear hl2 hcap2
                        subst ha
                        obtain ⟨m0, m1, m2, m3⟩ := hcs k _ (hVat.out k hlt)
                        simp only at m0 m1 m2 m3
                        have hFk := Lib.hid (hFd.out k)
                        generalize V k = Vk at *
                        obtain ⟨BK, hBK⟩ : ∃ BK, BK = BG + ((k : Nat) : Int) := ⟨_, rfl⟩
                        rw [← hBK] at m0
                        replace hBK := Lib.hid hBK
                        have y1 : (0 : Int) ≤ (k : Nat) := by omega
                        have y2 : (k : Int) < (xn : Nat) := by omega
                        have y3 : decide ((k : Int) < (xn : Int)) = true := by simpa using y2
                        have y4 : IntKind.i64.wrap (BG + (k : Nat)) = BK := by rw [hBK.out, IntKind.wrap_i64]; omega
                        have hVl := Lib.hid (fun W (hb : Below wr.heap.size wr W) => hV.later hb)
                        have hCm : Hid (∀ W, Below wr.heap.size wr W → W.cell? ⟨hg, k * 4, none⟩ = some (.int .i64 BK) ∧ W.cell? ⟨hg, k * 4 + 1, none⟩ = some (.int .i64 sr) ∧ W.cell? ⟨hg, k * 4 + 2, none⟩ = some (.int .i64 sm) ∧ W.cell? ⟨hg, k * 4 + 3, none⟩ = some (.string Vk)) := Lib.hid fun W h2 =>
                          ⟨(h2.cell (p := ⟨hg, k * 4, none⟩) hg2').trans m0, (h2.cell (p := ⟨hg, k * 4 + 1, none⟩) hg2').trans m1, (h2.cell (p := ⟨hg, k * 4 + 2, none⟩) hg2').trans m2, (h2.cell (p := ⟨hg, k * 4 + 3, none⟩) hg2').trans m3⟩
                        have hA := heap_alloc_new wr (.cells #[.int .i64 0, .int .i64 0] TB)
                        have hAb := alloc_b wr (.cells #[.int .i64 0, .int .i64 0] TB)
                        clear hcs hV m1 m2 m3 hFd hVat
                        as_aux_lemma =>
                          go_wp2
                          clear m0
                          generalize (wr.alloc (.cells #[.int .i64 0, .int .i64 0] TB)) = W5 at *
                          generalize hqk : wr.heap.size = q at *
                          generalize wr = Wk at *
                          replace hqk := Lib.hid hqk
                          go_loopw [17] (fun iv W => ∃ p : Nat, p ≤ i ∧ iv = .int .i64 p ∧ Below q Wk W ∧ W.heap[q]? = some (.cells #[.int .i64 (grB BG k (T.take p)).r, .int .i64 (grB BG k (T.take p)).m] TB (0, 0))) (fun iv _ => i - nOf iv)
                          case atStart => exact ⟨0, by omega, rfl, hAb, hA⟩
                          case round =>
                            clear hA hAb
                            obtain ⟨p, hp, rfl, hB, hq⟩ := hrel
                            by_cases hpl : p < i
                            · obtain ⟨e, he⟩ : ∃ e, T[p]? = some e := ⟨_, List.getElem?_eq_getElem (by rw [← htn.out]; exact hpl)⟩
                              obtain ⟨g, cap', hv', hg1, hg2, hcs⟩ := (hVl.out _ hB).t.cells (by rw [← htn.out]; omega)
                              injection hv' with ha hl2 hcap
                              clear hl2 hcap
                              subst ha
                              obtain ⟨b0, b1, b2, b3'⟩ := hcs p e he
                              obtain ⟨n0, _, _, n3⟩ := hCm.out _ hB
                              have c0 := cell_of_row _ _ 0 _ TB _ hq
                              have c1 := cell_of_row _ _ 1 _ TB _ hq
                              have hqs := box_of hq
                              have hgr : grB BG k (T.take (p + 1)) = pick (BG + k) (grB BG k (T.take p)) e := by rw [take_snoc he, gr_snoc]
                              rw [← hBK.out] at hgr
                              generalize grB BG k (T.take p) = G at *
                              obtain ⟨es, er, em, ev⟩ := e
                              simp only at b0 b1 b2
                              have hCk : Hid (∀ W, Below wr.drew.heap.size wr.drew W → W.cell? ⟨g, p * 4, none⟩ = some (.int .i64 es) ∧ W.cell? ⟨g, p * 4 + 1, none⟩ = some (.int .i64 er) ∧ W.cell? ⟨g, p * 4 + 2, none⟩ = some (.int .i64 em) ∧ W.cell? ⟨hg, k * 4, none⟩ = some (.int .i64 BK) ∧ W.cell? ⟨q, 0, none⟩ = some (.int .i64 G.r) ∧ W.cell? ⟨q, 1, none⟩ = some (.int .i64 G.m)) := Lib.hid fun W h2 =>
                                ⟨(h2.cell (p := ⟨g, p * 4, none⟩) hg2).trans b0, (h2.cell (p := ⟨g, p * 4 + 1, none⟩) hg2).trans b1, (h2.cell (p := ⟨g, p * 4 + 2, none⟩) hg2).trans b2, (h2.cell (p := ⟨hg, k * 4, none⟩) (Nat.lt_trans hg2' hqs)).trans n0, (h2.cell (p := ⟨q, 0, none⟩) hqs).trans c0, (h2.cell (p := ⟨q, 1, none⟩) hqs).trans c1⟩
                              have hBd := Lib.hid (fun W (h2 : Below wr.drew.heap.size wr.drew W) => show Below q Wk W ∧ W.heap[q]? = some (.cells #[.int .i64 G.r, .int .i64 G.m] TB (0, 0)) from ⟨hB.trans (below2 (Below.refl wr.heap.size wr).drew h2 |>.mono (by rw [← hqk.out]; exact hB.size)), (h2.block q hqs).trans hq⟩)
                              have z1 : (0 : Int) ≤ (p : Nat) := by omega
                              have z2 : (p : Int) < (i : Nat) := by omega
                              have z3 : decide ((p : Int) < (i : Int)) = true := by simpa using z2
                              clear b0 b1 b2 b3' n0 n3 c0 c1 hcs he
                              by_cases hs : es = BK
                              · have hpk : pick BK G ⟨es, er, em, ev⟩ = if gtB er em G.r G.m then ⟨es, er, em, ev⟩ else G := by
                                  unfold pick
                                  rw [decide_eq_true hs, Bool.true_and]
                                have hO := Lib.hid (fun W => order_any er em G.r G.m W)
                                have ho := ord_gt er em G.r G.m
                                rw [hpk] at hgr
                                clear hpk
                                generalize ordV er em G.r G.m = o at *
                                cases hGT : gtB er em G.r G.m with
                                | true =>
                                  rw [hGT] at ho hgr
                                  rw [if_pos rfl] at hgr
                                  replace hgr := Lib.hid hgr
                                  replace hB := Lib.hid hB
                                  replace hq := Lib.hid hq
                                  subst hs
                                  clear hGT
                                  as_aux_lemma =>
                                    go_wp2
                                    go_region_held3 (fun W => W.cell? ⟨g, p * 4, none⟩ = some (.int .i64 es) ∧ W.cell? ⟨g, p * 4 + 1, none⟩ = some (.int .i64 er) ∧ W.cell? ⟨g, p * 4 + 2, none⟩ = some (.int .i64 em) ∧ W.cell? ⟨hg, k * 4, none⟩ = some (.int .i64 es) ∧ W.cell? ⟨q, 0, none⟩ = some (.int .i64 G.r) ∧ W.cell? ⟨q, 1, none⟩ = some (.int .i64 G.m))
                                      (first | exact hCk.out _ (Below.refl _ _) | exact hCk.out _ (by assumption) | assumption)
                                      ((go_at_call 29; refine (hO.out _).mono ?_; rintro e w5 ⟨rfl, hb5⟩))
                                    obtain ⟨d0, d1, d2, d3, d4, d5⟩ := hCk.out _ hb5
                                    obtain ⟨hB5, hq5⟩ := hBd.out _ hb5
                                    have fz0 := frozen_of_row w5 q 0 _ TB hq5
                                    have fz1 := frozen_of_row w5 q 1 _ TB hq5
                                    obtain ⟨hq6, hK6⟩ := box_set2 (x' := er) (y' := em) hq5
                                    have hB6 := hB5.trans (hK6.below (by rw [← hqk.out]; exact hB5.size) fun j e => by subst e; exact Nat.le_refl _)
                                    replace hB5 := Lib.hid hB5
                                    replace hq5 := Lib.hid hq5
                                    replace hq6 := Lib.hid hq6
                                    replace hB6 := Lib.hid hB6
                                    clear hK6
                                    go_wp2
                                    go_roundw
                                    case rel => exact ⟨p + 1, by omega, by go_num, hB6.out, by rw [hgr.out]; exact hq6.out⟩
                                    case measure => simp [nOf]; omega
                                | false =>
                                  rw [hGT] at ho hgr
                                  rw [if_neg (by simp)] at hgr
                                  replace hgr := Lib.hid hgr
                                  replace hB := Lib.hid hB
                                  replace hq := Lib.hid hq
                                  subst hs
                                  clear hGT
                                  as_aux_lemma =>
                                    go_wp2
                                    go_region_held3 (fun W => W.cell? ⟨g, p * 4, none⟩ = some (.int .i64 es) ∧ W.cell? ⟨g, p * 4 + 1, none⟩ = some (.int .i64 er) ∧ W.cell? ⟨g, p * 4 + 2, none⟩ = some (.int .i64 em) ∧ W.cell? ⟨hg, k * 4, none⟩ = some (.int .i64 es) ∧ W.cell? ⟨q, 0, none⟩ = some (.int .i64 G.r) ∧ W.cell? ⟨q, 1, none⟩ = some (.int .i64 G.m))
                                      (first | exact hCk.out _ (Below.refl _ _) | exact hCk.out _ (by assumption) | assumption)
                                      ((go_at_call 29; refine (hO.out _).mono ?_; rintro e w5 ⟨rfl, hb5⟩))
                                    obtain ⟨hB5, hq5⟩ := hBd.out _ hb5
                                    replace hB5 := Lib.hid hB5
                                    replace hq5 := Lib.hid hq5
                                    go_wp2
                                    go_roundw
                                    case rel => exact ⟨p + 1, by omega, by go_num, hB5.out, by rw [hgr.out]; exact hq5.out⟩
                                    case measure => simp [nOf]; omega
                              · have hpk : pick BK G ⟨es, er, em, ev⟩ = G := by
                                  unfold pick
                                  rw [decide_eq_false hs]
                                  rfl
                                have hs1 : (es == BK) = false := by simpa using hs
                                have hs2 : decide (es = BK) = false := by simpa using hs
                                rw [hpk] at hgr
                                replace hgr := Lib.hid hgr
                                replace hB := Lib.hid hB
                                replace hq := Lib.hid hq
                                clear hpk
                                as_aux_lemma =>
                                  obtain ⟨d0, d1, d2, d3, d4, d5⟩ : wr.cell? ⟨g, p * 4, none⟩ = some (.int .i64 es) ∧ wr.cell? ⟨g, p * 4 + 1, none⟩ = some (.int .i64 er) ∧ wr.cell? ⟨g, p * 4 + 2, none⟩ = some (.int .i64 em) ∧ wr.cell? ⟨hg, k * 4, none⟩ = some (.int .i64 BK) ∧ wr.cell? ⟨q, 0, none⟩ = some (.int .i64 G.r) ∧ wr.cell? ⟨q, 1, none⟩ = some (.int .i64 G.m) := hCk.out wr.drew (Below.refl _ _)
                                  go_wp2
                                  go_quiet (fail)
                                  go_wp2
                                  go_roundw
                                  case rel => exact ⟨p + 1, by omega, by go_num, below_drewN hB.out _, by rw [hgr.out]; exact hq.out⟩
                                  case measure => simp [nOf]; omega
                            · obtain rfl : p = i := by omega
                              have z3 : decide ((p : Int) < (p : Int)) = false := by simp
                              rw [show T.take p = T from by rw [htn.out, List.take_length]] at hq
                              generalize grB BG k T = G at *
                              obtain ⟨n0, n3⟩ : wr.cell? ⟨hg, k * 4, none⟩ = some (.int .i64 BK) ∧ wr.cell? ⟨hg, k * 4 + 3, none⟩ = some (.string Vk) := ⟨(hCm.out _ hB).1, (hCm.out _ hB).2.2.2⟩
                              have c0 := cell_of_row _ _ 0 _ TB _ hq
                              have c1 := cell_of_row _ _ 1 _ TB _ hq
                              replace hq := Lib.hid hq
                              replace hB := Lib.hid hB
                              have m1 : (0 : Int) ≤ (k : Nat) := by omega
                              have m2 : (k : Int) < (xn : Nat) := by omega
                              by_cases hz : G.r = 0 ∧ G.m = 0
                              · have hE : ∀ W, (Op.equalIn 10000 TB (.agg #[.int .i64 G.r, .int .i64 G.m]) (.agg #[.int .i64 0, .int .i64 0])).run Try.prog W = .ok true W := fun W => (eq_b G.r G.m 0 0 W).trans (by rw [eqB_t hz])
                                obtain ⟨F0, hF0⟩ : ∃ F0, F0 = (Vk.toList == []) := ⟨_, rfl⟩
                                have hF2 : (Vk.toList == []) = F0 := hF0.symm
                                have hF3 : (Vk.toList == ByteArray.toList ⟨#[]⟩) = F0 := by rw [el_nil2]; exact hF2
                                have hfin : Hid ((F0 || T.any (fndB BG k Vk G)) = true) := Lib.hid (by
                                  rcases hFk.out with ⟨_, _, h⟩ | ⟨x, hx, h1, h2, h3, h4⟩
                                  · rw [hF0, h, el_nil2]; rfl
                                  · rw [Bool.or_eq_true]
                                    refine .inr (List.any_eq_true.2 ⟨x, hx, ?_⟩)
                                    unfold fndB
                                    rw [decide_eq_true h1, decide_eq_true ⟨h2, h3⟩, decide_eq_true h4]; rfl)
                                clear hF0 hz hFk
                                as_aux_lemma =>
                                  go_wp2
                                  go_loopw [18, 19] (fun fv iv W => ∃ p' : Nat, p' ≤ p ∧ fv = .bool (F0 || (T.take p').any (fndB BG k Vk G)) ∧ iv = .int .i64 p' ∧ Below q Wk W ∧ W.heap[q]? = some (.cells #[.int .i64 G.r, .int .i64 G.m] TB (0, 0))) (fun _ iv _ => p - nOf iv)
                                  case atStart => exact ⟨0, by omega, by simp, rfl, hB.out, hq.out⟩
                                  case round =>
                                    clear hB hq n0 n3 c0 c1
                                    obtain ⟨p', hp', rfl, rfl, hB, hq⟩ := hrel
                                    by_cases hpl : p' < p
                                    · obtain ⟨e, he⟩ : ∃ e, T[p']? = some e := ⟨_, List.getElem?_eq_getElem (by rw [← htn.out]; exact hpl)⟩
                                      obtain ⟨g, cap', hv', hg1, hg2, hcs⟩ := (hVl.out _ hB).t.cells (by rw [← htn.out]; omega)
                                      injection hv' with ha hl2 hcap
                                      clear hl2 hcap
                                      subst ha
                                      obtain ⟨b0, b1, b2, b3'⟩ := hcs p' e he
                                      obtain ⟨n0, _, _, n3⟩ := hCm.out _ hB
                                      have c0 := cell_of_row _ _ 0 _ TB _ hq
                                      have c1 := cell_of_row _ _ 1 _ TB _ hq
                                      have hqs := box_of hq
                                      have hnx : (F0 || (T.take (p' + 1)).any (fndB BG k Vk G)) = ((F0 || (T.take p').any (fndB BG k Vk G)) || (decide (e.s = BG + (k : Nat)) && (decide (e.r = G.r ∧ e.m = G.m) && decide (e.v = Vk)))) := by rw [take_snoc he, any_snoc, Bool.or_assoc]; rfl
                                      generalize (F0 || (T.take p').any (fndB BG k Vk G)) = B at *
                                      have z1 : (0 : Int) ≤ (p' : Nat) := by omega
                                      have z2 : (p' : Int) < (p : Nat) := by omega
                                      have z3 : decide ((p' : Int) < (p : Int)) = true := by simpa using z2
                                      rw [← hBK.out] at hnx
                                      obtain ⟨es, er, em, ev⟩ := e
                                      simp only at b0 b1 b2 b3' hnx
                                      replace hB := Lib.hid hB
                                      replace hq := Lib.hid hq
                                      have hEq := fun W => eq_b er em G.r G.m W
                                      clear hcs he hqs
                                      cases B with
                                      | true =>
                                        rw [Bool.true_or] at hnx
                                        replace hnx := Lib.hid hnx
                                        clear hEq
                                        as_aux_lemma =>
                                          go_wp2
                                          go_quiet (fail)
                                          go_wp2
                                          go_roundw
                                          case rel => exact ⟨p' + 1, by omega, by (rw [hnx.out] <;> rfl), by go_num, below_drewN hB.out _, hq.out⟩
                                          case measure => simp [nOf]; omega
                                      | false =>
                                        rw [Bool.false_or] at hnx
                                        by_cases hs : es = BK
                                        · rw [decide_eq_true hs, Bool.true_and] at hnx
                                          subst hs
                                          by_cases hb : er = G.r ∧ em = G.m
                                          · rw [decide_eq_true hb, Bool.true_and] at hnx
                                            replace hEq : ∀ W, (Op.equalIn 10000 TB (.agg #[.int .i64 er, .int .i64 em]) (.agg #[.int .i64 G.r, .int .i64 G.m])).run Try.prog W = .ok true W := fun W => (hEq W).trans (by rw [eqB_t hb])
                                            by_cases hv : ev = Vk
                                            · rw [decide_eq_true hv] at hnx
                                              have hv2 : (ev.toList == Vk.toList) = true := by rw [hv]; simp
                                              replace hnx := Lib.hid hnx
                                              clear hv hb
                                              as_aux_lemma =>
                                                go_wp2
                                                go_quiet (fail)
                                                go_wp2
                                                go_roundw
                                                case rel => exact ⟨p' + 1, by omega, by (rw [hnx.out] <;> rfl), by go_num, below_drewN hB.out _, hq.out⟩
                                                case measure => simp [nOf]; omega
                                            · rw [decide_eq_false hv] at hnx
                                              have hv2 : (ev.toList == Vk.toList) = false := by
                                                have : ¬ ev.toList = Vk.toList := fun e => hv (ba_list e)
                                                simpa using this
                                              have hv3 : ¬ ev.toList = Vk.toList := fun e => hv (ba_list e)
                                              replace hnx := Lib.hid hnx
                                              clear hv hb
                                              as_aux_lemma =>
                                                go_wp2
                                                go_quiet (fail)
                                                go_wp2
                                                go_roundw
                                                case rel => exact ⟨p' + 1, by omega, by (rw [hnx.out] <;> rfl), by go_num, below_drewN hB.out _, hq.out⟩
                                                case measure => simp [nOf]; omega
                                          · rw [decide_eq_false hb, Bool.false_and] at hnx
                                            replace hEq : ∀ W, (Op.equalIn 10000 TB (.agg #[.int .i64 er, .int .i64 em]) (.agg #[.int .i64 G.r, .int .i64 G.m])).run Try.prog W = .ok false W := fun W => (hEq W).trans (by rw [eqB_f hb])
                                            replace hnx := Lib.hid hnx
                                            clear hb
                                            as_aux_lemma =>
                                              go_wp2
                                              go_quiet (fail)
                                              go_wp2
                                              go_roundw
                                              case rel => exact ⟨p' + 1, by omega, by (rw [hnx.out] <;> rfl), by go_num, below_drewN hB.out _, hq.out⟩
                                              case measure => simp [nOf]; omega
                                        · rw [decide_eq_false hs, Bool.false_and] at hnx
                                          have hs1 : (es == BK) = false := by simpa using hs
                                          have hs2 : decide (es = BK) = false := by simpa using hs
                                          replace hnx := Lib.hid hnx
                                          clear hEq
                                          as_aux_lemma =>
                                            go_wp2
                                            go_quiet (fail)
                                            go_wp2
                                            go_roundw
                                            case rel => exact ⟨p' + 1, by omega, by (rw [hnx.out] <;> rfl), by go_num, below_drewN hB.out _, hq.out⟩
                                            case measure => simp [nOf]; omega
                                    · obtain rfl : p' = p := by omega
                                      have z3 : decide ((p' : Int) < (p' : Int)) = false := by simp
                                      rw [show T.take p' = T from by rw [htn.out, List.take_length], hfin.out]
                                      have hV' := Lib.hid (hVl.out _ hB)
                                      clear hB hq
                                      as_aux_lemma =>
                                        go_wp2
                                        go_roundw
                                        case rel => exact ⟨k + 1, by omega, by go_num, hV'.out⟩
                                        case measure => simp [nOf]; omega
                              · have hE : ∀ W, (Op.equalIn 10000 TB (.agg #[.int .i64 G.r, .int .i64 G.m]) (.agg #[.int .i64 0, .int .i64 0])).run Try.prog W = .ok false W := fun W => (eq_b G.r G.m 0 0 W).trans (by rw [eqB_f hz])
                                have hfin : Hid ((false || T.any (fndB BG k Vk G)) = true) := Lib.hid (by
                                  rcases hFk.out with ⟨h1, h2, _⟩ | ⟨x, hx, h1, h2, h3, h4⟩
                                  · exact absurd ⟨h1, h2⟩ hz
                                  · rw [Bool.false_or]
                                    refine List.any_eq_true.2 ⟨x, hx, ?_⟩
                                    unfold fndB
                                    rw [decide_eq_true h1, decide_eq_true ⟨h2, h3⟩, decide_eq_true h4]; rfl)
                                clear hz hFk
                                as_aux_lemma =>
                                  go_wp2
                                  go_loopw [18, 19] (fun fv iv W => ∃ p' : Nat, p' ≤ p ∧ fv = .bool (false || (T.take p').any (fndB BG k Vk G)) ∧ iv = .int .i64 p' ∧ Below q Wk W ∧ W.heap[q]? = some (.cells #[.int .i64 G.r, .int .i64 G.m] TB (0, 0))) (fun _ iv _ => p - nOf iv)
                                  case atStart => exact ⟨0, by omega, by simp, rfl, hB.out, hq.out⟩
                                  case round =>
                                    clear hB hq n0 n3 c0 c1
                                    obtain ⟨p', hp', rfl, rfl, hB, hq⟩ := hrel
                                    by_cases hpl : p' < p
                                    · obtain ⟨e, he⟩ : ∃ e, T[p']? = some e := ⟨_, List.getElem?_eq_getElem (by rw [← htn.out]; exact hpl)⟩
                                      obtain ⟨g, cap', hv', hg1, hg2, hcs⟩ := (hVl.out _ hB).t.cells (by rw [← htn.out]; omega)
                                      injection hv' with ha hl2 hcap
                                      clear hl2 hcap
                                      subst ha
                                      obtain ⟨b0, b1, b2, b3'⟩ := hcs p' e he
                                      obtain ⟨n0, _, _, n3⟩ := hCm.out _ hB
                                      have c0 := cell_of_row _ _ 0 _ TB _ hq
                                      have c1 := cell_of_row _ _ 1 _ TB _ hq
                                      have hqs := box_of hq
                                      have hnx : (false || (T.take (p' + 1)).any (fndB BG k Vk G)) = ((false || (T.take p').any (fndB BG k Vk G)) || (decide (e.s = BG + (k : Nat)) && (decide (e.r = G.r ∧ e.m = G.m) && decide (e.v = Vk)))) := by rw [take_snoc he, any_snoc, Bool.or_assoc]; rfl
                                      generalize (false || (T.take p').any (fndB BG k Vk G)) = B at *
                                      have z1 : (0 : Int) ≤ (p' : Nat) := by omega
                                      have z2 : (p' : Int) < (p : Nat) := by omega
                                      have z3 : decide ((p' : Int) < (p : Int)) = true := by simpa using z2
                                      rw [← hBK.out] at hnx
                                      obtain ⟨es, er, em, ev⟩ := e
                                      simp only at b0 b1 b2 b3' hnx
                                      replace hB := Lib.hid hB
                                      replace hq := Lib.hid hq
                                      have hEq := fun W => eq_b er em G.r G.m W
                                      clear hcs he hqs
                                      cases B with
                                      | true =>
                                        rw [Bool.true_or] at hnx
                                        replace hnx := Lib.hid hnx
                                        clear hEq
                                        as_aux_lemma =>
                                          go_wp2
                                          go_quiet (fail)
                                          go_wp2
                                          go_roundw
                                          case rel => exact ⟨p' + 1, by omega, by (rw [hnx.out] <;> rfl), by go_num, below_drewN hB.out _, hq.out⟩
                                          case measure => simp [nOf]; omega
                                      | false =>
                                        rw [Bool.false_or] at hnx
                                        by_cases hs : es = BK
                                        · rw [decide_eq_true hs, Bool.true_and] at hnx
                                          subst hs
                                          by_cases hb : er = G.r ∧ em = G.m
                                          · rw [decide_eq_true hb, Bool.true_and] at hnx
                                            replace hEq : ∀ W, (Op.equalIn 10000 TB (.agg #[.int .i64 er, .int .i64 em]) (.agg #[.int .i64 G.r, .int .i64 G.m])).run Try.prog W = .ok true W := fun W => (hEq W).trans (by rw [eqB_t hb])
                                            by_cases hv : ev = Vk
                                            · rw [decide_eq_true hv] at hnx
                                              have hv2 : (ev.toList == Vk.toList) = true := by rw [hv]; simp
                                              replace hnx := Lib.hid hnx
                                              clear hv hb
                                              as_aux_lemma =>
                                                go_wp2
                                                go_quiet (fail)
                                                go_wp2
                                                go_roundw
                                                case rel => exact ⟨p' + 1, by omega, by (rw [hnx.out] <;> rfl), by go_num, below_drewN hB.out _, hq.out⟩
                                                case measure => simp [nOf]; omega
                                            · rw [decide_eq_false hv] at hnx
                                              have hv2 : (ev.toList == Vk.toList) = false := by
                                                have : ¬ ev.toList = Vk.toList := fun e => hv (ba_list e)
                                                simpa using this
                                              have hv3 : ¬ ev.toList = Vk.toList := fun e => hv (ba_list e)
                                              replace hnx := Lib.hid hnx
                                              clear hv hb
                                              as_aux_lemma =>
                                                go_wp2
                                                go_quiet (fail)
                                                go_wp2
                                                go_roundw
                                                case rel => exact ⟨p' + 1, by omega, by (rw [hnx.out] <;> rfl), by go_num, below_drewN hB.out _, hq.out⟩
                                                case measure => simp [nOf]; omega
                                          · rw [decide_eq_false hb, Bool.false_and] at hnx
                                            replace hEq : ∀ W, (Op.equalIn 10000 TB (.agg #[.int .i64 er, .int .i64 em]) (.agg #[.int .i64 G.r, .int .i64 G.m])).run Try.prog W = .ok false W := fun W => (hEq W).trans (by rw [eqB_f hb])
                                            replace hnx := Lib.hid hnx
                                            clear hb
                                            as_aux_lemma =>
                                              go_wp2
                                              go_quiet (fail)
                                              go_wp2
                                              go_roundw
                                              case rel => exact ⟨p' + 1, by omega, by (rw [hnx.out] <;> rfl), by go_num, below_drewN hB.out _, hq.out⟩
                                              case measure => simp [nOf]; omega
                                        · rw [decide_eq_false hs, Bool.false_and] at hnx
                                          have hs1 : (es == BK) = false := by simpa using hs
                                          have hs2 : decide (es = BK) = false := by simpa using hs
                                          replace hnx := Lib.hid hnx
                                          clear hEq
                                          as_aux_lemma =>
                                            go_wp2
                                            go_quiet (fail)
                                            go_wp2
                                            go_roundw
                                            case rel => exact ⟨p' + 1, by omega, by (rw [hnx.out] <;> rfl), by go_num, below_drewN hB.out _, hq.out⟩
                                            case measure => simp [nOf]; omega
                                    · obtain rfl : p' = p := by omega
                                      have z3 : decide ((p' : Int) < (p' : Int)) = false := by simp
                                      rw [show T.take p' = T from by rw [htn.out, List.take_length], hfin.out]
                                      have hV' := Lib.hid (hVl.out _ hB)
                                      clear hB hq
                                      as_aux_lemma =>
                                        go_wp2
                                        go_roundw
                                        case rel => exact ⟨k + 1, by omega, by go_num, hV'.out⟩
                                        case measure => simp [nOf]; omega
                      · obtain rfl : k = xn := by omega
                        have z3 : decide ((k : Int) < (k : Int)) = false := by simp
                        have hbl := hV.bel
                        clear hV hVat hFd
                        as_aux_lemma =>
                          go_wp2_with fail
                          refine (HW.out _).mono ?_
                          rintro e W5 ⟨rfl, hb5⟩
                          go_wp2_with fail
                          go_ret
                          exact ⟨rfl, below2 hbl hb5⟩
-- END
theorem great_law (a0 : Int) (a1 : Option Addr) (len1 cap1 : Nat) (S1 : Nat → Td) (w : World) (h0 : (Lit.int .u8 a0).wf = true) (h1 : IsTd w a1 len1 cap1 S1) :
    Calls Try.prog 7 #[.int .u8 a0, .slice a1 len1 cap1] w (Yes w) := by
  have b0 := bounds_u8 h0
  obtain ⟨n0, rfl⟩ := Int.eq_ofNat_of_zero_le b0.1
  exact great_go n0 a1 len1 cap1 S1 w (by have := b0.2; omega) h1
end Go.Proofs.Ytffiooclkchoiaa.Prp
