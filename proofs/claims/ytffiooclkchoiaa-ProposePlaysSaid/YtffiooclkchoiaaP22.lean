/- ProposeKeeps. -/
import Derived.Test.YtffiooclkchoiaaP21
import Derived.Deep.CutRange
import Derived.BigQuiet
namespace Go.Proofs.Ytffiooclkchoiaa.Prp
open Go.RowKit Go.Lib
open Bal (TB bOk ckB ordV eqB eqB_t eqB_f eq_b alloc_b check_any order_any)
set_option linter.unusedVariables false
set_option linter.unusedSimpArgs false
set_option maxRecDepth 100000

/-- The state behind the promises below j. -/
def foldS (s : St) (S : Nat → Td) : Nat → St
  | 0 => s
  | j + 1 => addS (foldS s S j) (S j).k (S j).L (S j).u
theorem fold_n (s : St) (S : Nat → Td) : ∀ j, (foldS s S j).n = s.n ∧ (foldS s S j).r = s.r ∧ (foldS s S j).m = s.m ∧ (foldS s S j).f = s.f
  | 0 => ⟨rfl, rfl, rfl, rfl⟩
  | j + 1 => by
    have ih := fold_n s S j
    have h : ∀ (s : St) k L u, (addS s k L u).n = s.n ∧ (addS s k L u).r = s.r ∧ (addS s k L u).m = s.m ∧ (addS s k L u).f = s.f := fun s k L u => by
      unfold addS
      split <;> exact ⟨rfl, rfl, rfl, rfl⟩
    obtain ⟨a, b, c, d⟩ := h (foldS s S j) (S j).k (S j).L (S j).u
    exact ⟨a.trans ih.1, b.trans ih.2.1, c.trans ih.2.2.1, d.trans ih.2.2.2⟩
theorem up_upd (P : Nat → Pm) (k : Nat) (l : List Et) (u : Int) (hu : 0 ≤ u) (hz : (P k).u = 0) : ∀ j, upK (updP P k ⟨true, l, u⟩) j = max (upK P j) (if k < j then u else 0)
  | 0 => by simp [upK]
  | j + 1 => by
    have ih := up_upd P k l u hu hz j
    have hn := up_nn P j
    unfold upK
    rw [ih]
    by_cases e : j = k
    · subst e
      rw [updP_same, hz, if_neg (by omega), if_pos (by omega)]
    · rw [updP_other _ _ e]
      by_cases h : k < j
      · rw [if_pos h, if_pos (by omega)]; omega
      · rw [if_neg h, if_neg (by omega)]; omega
theorem addE_have {s : St} {k : Int} {L : List Et} {u : Int} (ha : (s.P k.toNat).a = true) : addE s k L u ≠ 0 := by
  unfold addE
  split
  · split
    · simp [ha]
    · decide
  · decide
/-- What holds where a promise is taken. -/
theorem addE_took {s : St} (hs : OkS s) {k : Int} {L : List Et} {u : Int} (h : addE s k L u = 0) : ∃ m : Nat, k = m ∧ (m : Int) < s.n ∧ 0 ≤ u ∧ (s.P m).a = false ∧ addS s k L u = ⟨s.n, s.r, s.m, s.f, updP s.P m ⟨true, L, u⟩⟩ ∧ addE (addS s k L u) k L u = 6 := by
  have h0 := h
  unfold addE at h
  split at h
  · rename_i hA
    split at h
    · rename_i hF
      split at h
      · cases h
      · rename_i ha
        have hA2 := hA
        unfold argOk at hA
        simp only [Bool.and_eq_true, decide_eq_true_eq] at hA
        obtain ⟨m, rfl⟩ := Int.eq_ofNat_of_zero_le hA.1.1.1
        rw [Int.toNat_natCast] at ha
        have hS : addS s m L u = ⟨s.n, s.r, s.m, s.f, updP s.P m ⟨true, L, u⟩⟩ := by
          unfold addS
          rw [if_pos h0, Int.toNat_natCast]
        refine ⟨m, rfl, hA.1.1.2, hA.2.1, by simpa using ha, hS, ?_⟩
        rw [hS]
        have hA3 : argOk (⟨s.n, s.r, s.m, s.f, updP s.P m ⟨true, L, u⟩⟩ : St) m L u = true := hA2
        unfold addE
        rw [if_pos hA3, if_pos hF, Int.toNat_natCast]
        show (if (updP s.P m ⟨true, L, u⟩ m).a = true then (6 : Int) else 0) = 6
        rw [updP_same]
        rfl
    · cases h
  · cases h
theorem PAt.keptP {w W W' : World} {b q : Nat} {s t : St} (x : PAt w b s W) (y : PAt w q t W) (hne : b ≠ q) (hK : Keeps (fun j => j = q) W W') : PAt w b s W' := by
  obtain ⟨vs, hx⟩ := x.px
  obtain ⟨vt, hy⟩ := y.px
  exact ⟨⟨vs, hx.kept hK hne (fun i hi k hk e => by subst e; exact row_te (hx.lst i hi) hy.box hk)⟩, x.bel.trans (hK.below x.bel.size fun k hk => by subst hk; exact y.lo), x.lo⟩
theorem bel_drewN {n : Nat} {w W : World} (k : Nat) (h : Below n w W) : Below n w (W.drewN k) := h.trans ⟨rfl, rfl, rfl, Nat.le_refl _, fun _ _ => rfl⟩
theorem PAt.drewN {w W : World} {b : Nat} {s : St} (n : Nat) (h : PAt w b s W) : PAt w b s (W.drewN n) := h.later (bel_drewN n (Below.refl _ _))
theorem PAt.copy {w W : World} {b : Nat} {s : St} (x : PAt w b s W) : Calls Try.prog 14 #[.pointer (some ⟨b, 0, none⟩)] W fun e W' => ∃ c, e = .returned (.pointer (some ⟨c, 0, none⟩)) ∧ PAt w c s W' ∧ b ≠ c ∧ W.heap.size ≤ c ∧ Below W.heap.size W W' := by
  obtain ⟨vs, hx⟩ := x.px
  refine (copy_any hx).mono ?_
  rintro e W' ⟨c, vs', rfl, hc, hlo, hb⟩
  exact ⟨c, rfl, ⟨⟨vs', hc.low x.bel.size⟩, x.bel.trans (hb.mono x.bel.size), Nat.le_trans x.bel.size hlo⟩, (by have := hx.lt; omega), hlo, hb⟩
theorem is_told {w : World} {g : Nat} {t : Td} (h : w.heap[g]? = some (.cells #[.int .i64 t.k, .int .i64 t.u, t.v] TTd (0, 0))) (ht : TdW w t) : IsTd w (some ⟨g, 0, none⟩) 1 1 (fun _ => t) :=
  ⟨⟨Nat.le_refl _, by omega⟩, fun h => (by cases h), fun _ => ⟨g, 0, rfl, (Array.getElem?_eq_some_iff.1 h).1, fun i hi => by
    have : i = 0 := by omega
    subst this
    exact ⟨cell_of_row _ _ 0 _ TTd _ h, cell_of_row _ _ 1 _ TTd _ h, cell_of_row _ _ 2 _ TTd _ h⟩⟩, fun _ => ht⟩
set_option maxHeartbeats 16000000 in
theorem keeps_go (n0 xr xm f0 : Int) (a3 : Option Addr) (len3 cap3 : Nat) (S : Nat → Td) (t : Td) (w : World) (h3 : IsTd w a3 len3 cap3 S) (h4 : TdW w t) :
    Calls Try.prog 9 #[.int .i64 n0, .agg #[.int .i64 xr, .int .i64 xm], .int .i64 f0, .slice a3 len3 cap3, tdA t] w (Yes w) := by
  have HW := Lib.hid (fun W => works_any W)
  obtain ⟨tk, tu, L, v⟩ := t
  obtain ⟨wk, wu, hI, hE, pa, pc, hpv, hpc⟩ := id h4
  simp only at hI hE hpv wk wu
  subst hpv
  have hb1 := alloc_b w (.cells #[.int .i64 xr, .int .i64 xm] TB)
  have hb2 := hb1.alloc hb1.size (.cells #[.int .i64 tk, .int .i64 tu, .slice pa L.length pc] TTd)
  have hx6 := heap_alloc_new w (.cells #[.int .i64 xr, .int .i64 xm] TB)
  have hx6' := ((alloc_b (w.alloc (.cells #[.int .i64 xr, .int .i64 xm] TB)) (.cells #[.int .i64 tk, .int .i64 tu, .slice pa L.length pc] TTd)).block _ (Array.getElem?_eq_some_iff.1 hx6).1).trans hx6
  have hx9 := heap_alloc_new (w.alloc (.cells #[.int .i64 xr, .int .i64 xm] TB)) (.cells #[.int .i64 tk, .int .i64 tu, .slice pa L.length pc] TTd)
  rw [World.size_alloc] at hx9
  obtain ⟨q6, hq6⟩ : ∃ q6, w.heap.size = q6 := ⟨_, rfl⟩
  have hBox : Hid (∀ W0 W, W0 = ((w.alloc (.cells #[.int .i64 xr, .int .i64 xm] TB)).alloc (.cells #[.int .i64 tk, .int .i64 tu, .slice pa L.length pc] TTd)) → Below W0.heap.size W0 W → Below w.heap.size w W ∧ W.cell? ⟨q6, 0, none⟩ = some (.int .i64 xr) ∧ W.cell? ⟨q6, 1, none⟩ = some (.int .i64 xm) ∧ W.cell? ⟨q6 + 1, 0, none⟩ = some (.int .i64 tk) ∧ W.cell? ⟨q6 + 1, 1, none⟩ = some (.int .i64 tu) ∧ W.cell? ⟨q6 + 1, 2, none⟩ = some (.slice pa L.length pc) ∧ q6 + 1 < W0.heap.size) := Lib.hid fun W0 W e hb => by
    subst e
    have g6 := (hb.block _ (Array.getElem?_eq_some_iff.1 hx6').1).trans hx6'
    have g9 := (hb.block _ (Array.getElem?_eq_some_iff.1 hx9).1).trans hx9
    rw [hq6] at g6
    rw [hq6] at g9
    exact ⟨below2 hb2 hb, cell_of_row W _ 0 _ TB _ g6, cell_of_row W _ 1 _ TB _ g6, cell_of_row W _ 0 _ TTd _ g9, cell_of_row W _ 1 _ TTd _ g9, cell_of_row W _ 2 _ TTd _ g9, by rw [← hq6, World.size_alloc, World.size_alloc]; omega⟩
  have hS1 := Lib.hid (fun W (hb : Below w.heap.size w W) => short_any f0 a3 len3 cap3 S W (h3.later hb))
  have hS2 := Lib.hid (fun W g (hb : Below w.heap.size w W) (hg : W.heap[g]? = some (.cells #[.int .i64 tk, .int .i64 tu, .slice pa L.length pc] TTd (0, 0))) => short_any f0 (some ⟨g, 0, none⟩) 1 1 (fun _ => ⟨tk, tu, L, .slice pa L.length pc⟩) W (is_told (t := ⟨tk, tu, L, .slice pa L.length pc⟩) hg (h4.later hb)))
  replace h3 := Lib.hid h3
  replace h4 := Lib.hid h4
  replace hI := Lib.hid hI
  obtain ⟨ln, hln⟩ : ∃ ln, ln = L.length := ⟨_, rfl⟩
  rw [← hln] at hBox hS2 hb2 ⊢
  replace hln := Lib.hid hln
  replace hb2 := Lib.hid hb2
  clear hx6 hx6' hx9 hE hpc wk wu hb1
  go_enter Try.func9, Try.ntmps9
  go_wp2_with fail
  have hb20 := hb2.out
  have hBx := Lib.hid (fun W hb => hBox.out _ W rfl hb)
  generalize (w.alloc (.cells #[.int .i64 xr, .int .i64 xm] TB)).alloc (.cells #[.int .i64 tk, .int .i64 tu, .slice pa ln pc] TTd) = W0 at *
  clear hBox hb2
  refine (hS1.out _ hb20).mono ?_
  rintro e W1 ⟨B1, rfl, hB1, hb3⟩
  obtain ⟨hbw1, x0, x1, y0, y1, y2, hq9l⟩ := hBx.out _ hb3
  have hk2 := (alloc_b W1 (.cells #[.int .i64 tk, .int .i64 tu, .slice pa ln pc] TTd))
  have hS2' := Lib.hid (hS2.out _ W1.heap.size (below2 hbw1 hk2) (heap_alloc_new _ _))
  have hb4 := Lib.hid (below2 hb3 hk2)
  replace hbw1 := Lib.hid hbw1
  replace hB1 := Lib.hid hB1
  replace hq9l := Lib.hid hq9l
  replace hb20 := Lib.hid hb20
  clear hb3 hS1 hS2 hk2
  cases B1 with
  | false =>
    go_wp2_with (go_at_call 11; refine (HW.out _).mono ?_; rintro e w1 ⟨rfl, hb⟩)
    go_ret
    exact ⟨rfl, below2 hbw1.out hb⟩
  | true =>
    obtain ⟨hl20, hl40⟩ := hB1.out rfl
    go_wp2_with fail
    refine hS2'.out.mono ?_
    rintro e W2 ⟨B2, rfl, hB2, hb5⟩
    have hb05 := below2 hb4.out hb5
    clear hb5 x0 x1 y0 y1 y2
    obtain ⟨hbw2, x0, x1, y0, y1, y2, _⟩ := hBx.out _ hb05
    replace hb05 := Lib.hid hb05
    replace hbw2 := Lib.hid hbw2
    replace hl40 := Lib.hid hl40
    cases B2 with
    | false =>
      go_wp2_with (go_at_call 11; refine (HW.out _).mono ?_; rintro e w1 ⟨rfl, hb⟩)
      go_ret
      exact ⟨rfl, below2 hbw2.out hb⟩
    | true =>
      have hln40 := Lib.hid ((hB2 rfl).2 0 (by omega))
      clear hB2
      by_cases hok : newOk n0 xr xm f0
      · have HN := Lib.hid (new_at n0 xr xm f0 hok w W2 hbw2.out)
        have hn1 := hok.1
        replace hok := Lib.hid hok
        as_aux_lemma =>
          go_wp2_with fail
          refine HN.out.mono ?_
          rintro e W3 ⟨b, rfl, hp3, hlo, hb6⟩
          have hlo0 := Nat.le_trans hb05.out.size hlo
          have hb06 := hb05.out.trans (hb6.mono hb05.out.size)
          obtain ⟨s0, hs0⟩ : ∃ s0, s0 = newS n0 xr xm f0 := ⟨_, rfl⟩
          rw [← hs0] at hp3
          replace hs0 := Lib.hid hs0
          replace hlo0 := Lib.hid hlo0
          clear hb6 x0 x1 y0 y1 y2 hlo
          go_wp2
          go_loopw [13] (fun i wr => ∃ j : Nat, j ≤ len3 ∧ i = .int .i64 j ∧ PAt w b (foldS s0 S j) wr ∧ Below W0.heap.size W0 wr) (fun i _ => len3 - nOf i)
          case atStart => exact ⟨0, by omega, rfl, hp3, hb06⟩
          case round =>
            clear hp3 hb06
            obtain ⟨j, hj, rfl, hp, hB⟩ := hrel
            by_cases hlt : j < len3
            · have hwj := (h3.out.later hp.bel).wf j
              obtain ⟨lb, off, rfl, hlb, c0, c1, c2⟩ := h3.out.at (Below.refl _ _) hlt
              have hIj := Lib.hid (fun W (hb : Below w.heap.size w W) => ((h3.out.later hb).wf j).2.2.1)
              have hLj := hl40.out j hlt
              have hst := Lib.hid (show foldS s0 S (j + 1) = addS (foldS s0 S j) (S j).k (S j).L (S j).u from rfl)
              obtain ⟨s2, hs2⟩ : ∃ s2, s2 = foldS s0 S (j + 1) := ⟨_, rfl⟩
              rw [← hs2] at hst
              replace hs2 := Lib.hid hs2
              generalize foldS s0 S j = s1 at *
              generalize S j = tj at *
              obtain ⟨jk, ju, jL, jv⟩ := tj
              obtain ⟨_, _, _, _, ja, jc, hjv, _⟩ := hwj
              simp only at hjv c0 c1 c2 hIj hst hLj
              subst hjv
              obtain ⟨jn, hjn⟩ : ∃ jn, jn = jL.length := ⟨_, rfl⟩
              rw [← hjn] at c2 hIj
              have i2 : (j : Int) < (len3 : Nat) := by omega
              have i3 : decide ((j : Int) < (len3 : Int)) = true := by simpa using i2
              have i4 : (0 : Int) ≤ (j : Nat) := by omega
              have hC : Hid (∀ W, Below W0.heap.size W0 W → (W.cell? ⟨lb, off + j * 3, none⟩ = some (.int .i64 jk) ∧ W.cell? ⟨lb, off + j * 3 + 1, none⟩ = some (.int .i64 ju) ∧ W.cell? ⟨lb, off + j * 3 + 2, none⟩ = some (.slice ja jn jc) ∧ Below W0.heap.size W0 W)) := Lib.hid fun W h => by
                have hw := (hBx.out W h).1
                exact ⟨(hw.cell (p := ⟨lb, _, none⟩) hlb).trans c0, (hw.cell (p := ⟨lb, _, none⟩) hlb).trans c1, (hw.cell (p := ⟨lb, _, none⟩) hlb).trans c2, h⟩
              have hAd : Hid (∀ W, PAt w b s1 W ∧ Below W0.heap.size W0 W → Calls Try.prog 27 #[.pointer (some ⟨b, 0, none⟩), .int .i64 jk, .slice ja jn jc, .int .i64 ju] W fun e W' => (∃ x y, e = .returned (.tuple #[x, y])) ∧ PAt w b s2 W' ∧ Below W0.heap.size W0 W') := Lib.hid fun W h => by
                refine (h.1.add jk _ ju jL (hIj.out W h.1.bel) (by omega)).mono ?_
                rintro e W' ⟨rfl, h2, hK⟩
                exact ⟨⟨_, _, rfl⟩, by rw [hst.out]; exact h2, h.2.trans (hK.below h.2.size fun k hk => by subst hk; exact hlo0.out)⟩
              have hS0 := Lib.hid (show PAt w b s1 wr.drew ∧ Below W0.heap.size W0 wr.drew from ⟨hp.drew, hB.trans ((Below.refl wr.heap.size wr).drew.mono hB.size)⟩)
              clear hjn hp hB c0 c1 c2 hIj
              as_aux_lemma =>
                go_wp2
                go_region_held3 (fun W => W.cell? ⟨lb, off + j * 3, none⟩ = some (.int .i64 jk) ∧ W.cell? ⟨lb, off + j * 3 + 1, none⟩ = some (.int .i64 ju) ∧ W.cell? ⟨lb, off + j * 3 + 2, none⟩ = some (.slice ja jn jc) ∧ Below W0.heap.size W0 W)
                  (first | exact hC.out _ hS0.out.2 | exact hC.out _ (by assumption) | assumption)
                  ((go_at_call 27; refine (hAd.out _ hS0.out).mono ?_; rintro e w5 ⟨⟨x, y, rfl⟩, hp5, hb5⟩))
                go_wp2
                go_roundw
                case rel => exact ⟨j + 1, by omega, by go_num, by rw [← hs2.out]; exact hp5, hb5⟩
                case measure => simp [nOf]; omega
            · have hje : j = len3 := by omega
              subst hje
              have i3 : decide ((j : Int) < (j : Int)) = false := by simp
              have hcp := Lib.hid hp.copy
              have hpp := Lib.hid hp
              have hok' := hp.ok
              obtain ⟨s, hs⟩ : ∃ s, s = foldS s0 S j := ⟨_, rfl⟩
              have hsn : s.n = n0 := by rw [hs, (fold_n s0 S j).1, hs0.out]; rfl
              rw [← hs] at hcp hpp hok'
              clear hp hs
              replace hB := Lib.hid hB
              have hvl := valL_len hok'
              replace hsn := Lib.hid hsn
              replace hok' := Lib.hid hok'
              as_aux_lemma =>
                go_wp2_with fail
                refine hcp.out.mono ?_
                rintro e W4 ⟨c, rfl, hq4, hbc, hloc, hb4'⟩
                have hloc := Lib.hid (Nat.le_trans hB.out.size hloc)
                have hp4 := hpp.out.later hb4'
                have hB4 := hB.out.trans (hb4'.mono hB.out.size)
                have hV4 := Lib.hid hq4.values
                clear hb4'
                go_wp2_with fail
                refine hV4.out.mono ?_
                rintro e W5 ⟨xv, rfl, hO5, hb5⟩
                obtain ⟨xa, xm', xc, rfl, hxm⟩ := owe_form hO5
                have hxm2 : xm' ≤ 4096 := by omega
                have hrow : ∃ Lk : List Et, Lk.length = xm' ∧ OwE W4.heap.size Lk (.slice xa xm' xc) W5 := ⟨_, hxm.symm, hO5⟩
                replace hp4 := Lib.hid hp4
                replace hq4 := Lib.hid hq4
                replace hB4 := Lib.hid hB4
                clear hO5 hxm hvl
                go_wp2
                go_loopw [17] (fun i wr => ∃ k : Nat, k ≤ xm' ∧ i = .int .i64 k ∧ (∃ Lk : List Et, Lk.length = xm' ∧ OwE W4.heap.size Lk (.slice xa xm' xc) wr) ∧ Below W4.heap.size W4 wr) (fun i _ => xm' - nOf i)
                case atStart => exact ⟨0, by omega, rfl, hrow, hb5⟩
                case round =>
                  clear hrow hb5
                  obtain ⟨k, hk, rfl, ⟨Lk, hLk, hO⟩, hB5⟩ := hrel
                  by_cases hkl : k < xm'
                  · obtain ⟨g, cap', hv', hg1, hg2, hcs⟩ := hO.cells (by omega)
                    injection hv' with ha hl2 hcap
                    clear hl2
                    subst ha hcap
                    obtain ⟨b0, b1', b2, b3⟩ := hcs k _ (List.getElem?_eq_getElem (show k < Lk.length by omega))
                    have hset := hO.set4 k (by omega) ⟨0, 0, 0, ⟨#[33]⟩⟩
                    have fz : ∀ i, wr.frozen? ⟨g, i, none⟩ = false := fun i => by
                      rcases hO.2 with ⟨h1, _⟩ | ⟨g', cap', cur, h1, _, hg, _⟩
                      · cases h1
                      · injection h1 with h1
                        injection h1 with h1
                        injection h1 with h1 _
                        subst h1
                        exact frozen_of_row wr _ i _ TE hg
                    have f0 := fz (k * 4)
                    have f1 := fz (k * 4 + 1)
                    have f2 := fz (k * 4 + 2)
                    have f3 := fz (k * 4 + 3)
                    have hK := Lib.hid ((((((Keeps.refl (fun j => j = g) wr).setCell (p := ⟨g, k * 4, none⟩) (.inl rfl) (.int .i64 0)).setCell (p := ⟨g, k * 4 + 1, none⟩) (.inl rfl) (.int .i64 0)).setCell (p := ⟨g, k * 4 + 2, none⟩) (.inl rfl) (.int .i64 0)).setCell (p := ⟨g, k * 4 + 3, none⟩) (.inl rfl) (.string ⟨#[33]⟩)).below hB5.size (fun k e => by subst e; exact hg1))
                    have hl' := Lib.hid (show (Lk.set k ⟨0, 0, 0, ⟨#[33]⟩⟩).length = xm' by rw [List.length_set]; exact hLk)
                    replace hset := Lib.hid hset
                    replace hB5 := Lib.hid hB5
                    replace hLk := Lib.hid hLk
                    generalize (Lk[k]'_).s = v0 at *
                    generalize (Lk[k]'_).r = v1 at *
                    generalize (Lk[k]'_).m = v2 at *
                    generalize (Lk[k]'_).v = v3 at *
                    have z1 : (0 : Int) ≤ (k : Nat) := by omega
                    have z2 : (k : Int) < (xm' : Nat) := by omega
                    have z3 : decide ((k : Int) < (xm' : Int)) = true := by simpa using z2
                    clear hO hcs fz
                    as_aux_lemma =>
                      go_wp2
                      go_roundw
                      case rel => exact ⟨k + 1, by omega, by go_num, ⟨_, hl'.out, hset.out⟩, hB5.out.trans (hK.out.mono (Nat.le_refl _))⟩
                      case measure => simp [nOf]; omega
                  · have hkm : k = xm' := by omega
                    subst hkm
                    have z3 : decide ((k : Int) < (k : Int)) = false := by simp
                    have hp6 := hp4.out.later hB5
                    have hq6' := hq4.out.later hB5
                    have hB6 := hB4.out.trans (hB5.mono hB4.out.size)
                    have hI6 := Lib.hid (fun W hb => (hI.out).later (w' := W) hb)
                    have hln2 : L.length ≤ 40 := hln40.out
                    obtain ⟨th, hthd⟩ : ∃ th : Bool, th = (decide (0 ≤ tk) && (decide (tk < n0) && (s.P tk.toNat).a)) := ⟨_, rfl⟩
                    have hth1 : th = true → addE s tk L tu ≠ 0 := fun h => by
                      rw [hthd] at h
                      simp only [Bool.and_eq_true] at h
                      exact addE_have h.2.2
                    replace hth1 := Lib.hid hth1
                    have hNd := Lib.hid (fun W (h : PAt w c s W) => h.nodes)
                    have hn7 := hok'.out.n7
                    have hN128 := nodes_128 hok'.out
                    have hbit := fun k (hk : k < 7) => bit_at (k := k) hN128
                    have hnb := fun k (hk : k < 7) => nodes_bit s.P k 7
                    replace hbit := Lib.hid hbit
                    replace hnb := Lib.hid hnb
                    rw [hsn.out] at hn7
                    replace hp6 := Lib.hid hp6
                    replace hq6' := Lib.hid hq6'
                    replace hB6 := Lib.hid hB6
                    replace hthd := Lib.hid hthd
                    clear hB5 hLk hO hp4 hq4 hB4
                    go_upto_region 18 with fail
                    go_cut [18] from 95 to 112 (fun c0 W => c0 = .bool th ∧ PAt w b s W ∧ PAt w c s W ∧ Below W0.heap.size W0 W)
                    case first =>
                      obtain ⟨_, _, _, y0, _, _, _⟩ := hBx.out _ hB6.out
                      by_cases c1 : 0 ≤ tk
                      · by_cases c2 : tk < n0
                        · obtain ⟨m, rfl⟩ := Int.eq_ofNat_of_zero_le c1
                          have d1 : decide ((0 : Int) ≤ (m : Nat)) = true := by simp
                          have d2 : decide ((m : Int) < n0) = true := by simpa using c2
                          have hm7 : m < 7 := by omega
                          have g1 := hbit.out m hm7
                          rw [hnb.out m hm7, decide_eq_true hm7, Bool.true_and] at g1
                          have hv := hthd.out
                          rw [d1, d2, Int.toNat_natCast, Bool.true_and, Bool.true_and] at hv
                          rw [← hv] at g1
                          have k2 : ¬ (m : Int) < 0 := by omega
                          clear hv
                          have hS0 := Lib.hid (show PAt w b s wr.drew ∧ PAt w c s wr.drew ∧ Below W0.heap.size W0 wr.drew from ⟨hp6.out.drew, hq6'.out.drew, hB6.out.trans ((Below.refl wr.heap.size wr).drew.mono hB6.out.size)⟩)
                          have hC : Hid (∀ W, Below W0.heap.size W0 W → W.cell? ⟨q6 + 1, 0, none⟩ = some (.int .i64 (m : Nat))) := Lib.hid fun W h => (hBx.out W h).2.2.2.1
                          have hNd2 : Hid (∀ W, PAt w b s W ∧ PAt w c s W ∧ Below W0.heap.size W0 W → Calls Try.prog 25 #[.pointer (some ⟨c, 0, none⟩)] W fun e W' => e = .returned (.int .u64 (nodesK s.P 7 : Nat)) ∧ PAt w b s W' ∧ PAt w c s W' ∧ Below W0.heap.size W0 W') := Lib.hid fun W h => by
                            refine (hNd.out W h.2.1).mono ?_
                            rintro e W' ⟨rfl, hb⟩
                            exact ⟨rfl, h.1.later hb, h.2.1.later hb, h.2.2.trans (hb.mono h.2.2.size)⟩
                          generalize nodesK s.P 7 = N at *
                          clear y0
                          cases th with
                          | true =>
                            replace g1 := g1.trans (if_pos rfl)
                            go_region_held3 (fun W => W.cell? ⟨q6 + 1, 0, none⟩ = some (.int .i64 (m : Nat)))
                              (first | exact hC.out _ hS0.out.2.2 | exact hC.out _ (by assumption) | assumption)
                              ((go_at_call 25; refine (hNd2.out _ hS0.out).mono ?_; rintro e w5 ⟨rfl, hp5, hq5, hb5⟩))
                            all_goals (go_wp2; go_meet; exact ⟨rfl, hp5, hq5, hb5⟩)
                          | false =>
                            replace g1 := g1.trans (if_neg (by decide))
                            go_region_held3 (fun W => W.cell? ⟨q6 + 1, 0, none⟩ = some (.int .i64 (m : Nat)))
                              (first | exact hC.out _ hS0.out.2.2 | exact hC.out _ (by assumption) | assumption)
                              ((go_at_call 25; refine (hNd2.out _ hS0.out).mono ?_; rintro e w5 ⟨rfl, hp5, hq5, hb5⟩))
                            all_goals (go_wp2; go_meet; exact ⟨rfl, hp5, hq5, hb5⟩)
                        · have d1 : decide (0 ≤ tk) = true := by simpa using c1
                          have d2 : decide (tk < n0) = false := by simpa using c2
                          have hv : th = false := by rw [hthd.out, d1, d2]; rfl
                          subst hv
                          go_quiet (fail)
                          go_wp2
                          go_meet
                          exact ⟨rfl, PAt.drewN _ hp6.out, PAt.drewN _ hq6'.out, bel_drewN _ hB6.out⟩
                      · have d1 : decide (0 ≤ tk) = false := by simpa using c1
                        have hv : th = false := by rw [hthd.out, d1]; rfl
                        subst hv
                        go_quiet (fail)
                        go_wp2
                        go_meet
                        exact ⟨rfl, PAt.drewN _ hp6.out, PAt.drewN _ hq6'.out, bel_drewN _ hB6.out⟩
                    case rest =>
                      obtain ⟨rfl, hp7, hq7, hB7⟩ := hcut
                      clear hpp hcp hV4
                      have hA7 := hq7.add tk (.slice pa ln pc) tu L (by rw [hln.out]; exact hI6.out _ hq7.bel) (by omega)
                      obtain ⟨_, _, _, y0, y1, y2, _⟩ := hBx.out _ hB7
                      have hK7 : ∀ W, Keeps (fun j => j = c) wc W → PAt w b s W ∧ Below W0.heap.size W0 W := fun W h => ⟨hp7.keptP hq7 hbc h, hB7.trans (h.below hB7.size fun k hk => by subst hk; exact hloc.out)⟩
                      replace hK7 := Lib.hid hK7
                      by_cases hE : addE s tk L tu = 0
                      · have hthf : th = false := by
                          cases th with
                          | false => rfl
                          | true => exact absurd hE (hth1.out rfl)
                        subst hthf
                        obtain ⟨m, rfl, hm, hu0, hPa, hS, h6⟩ := addE_took hok'.out hE
                        have hm7 := Lib.hid (show m < 7 by have := hsn.out; omega)
                        rw [hE, hS] at hA7
                        rw [hS] at h6
                        have hok2 := hok'.out.add m L tu
                        rw [hS] at hok2
                        have hNn := nodes_upd s.P (show m < 7 by have := hsn.out; omega) ⟨true, L, tu⟩ rfl
                        have hUn := up_upd s.P m L tu hu0 (by rw [hok'.out.off m hPa]) 7
                        rw [if_pos (show m < 7 by have := hsn.out; omega)] at hUn
                        have hor := bits_or_u64_nat (nodesK s.P 7) (2 ^ m) (by omega) (by have := Nat.pow_lt_pow_right (a := 2) (by omega) (show m < 7 by have := hsn.out; omega); omega)
                        obtain ⟨Q, hQ⟩ : ∃ Q, Q = 2 ^ m := ⟨_, rfl⟩
                        have hQ128 : Q < 128 := by rw [hQ]; exact Nat.pow_lt_pow_right (a := 2) (by omega) (show m < 7 by have := hsn.out; omega)
                        have hQi : (2 : Int) ^ m = (Q : Int) := by rw [hQ, Int.natCast_pow]; rfl
                        have q1 : IntKind.u64.wrap ((2 : Int) ^ m) = (Q : Int) := by rw [hQi, IntKind.wrap_u64]; omega
                        rw [← hQ] at hor hNn
                        clear hQ hQi
                        obtain ⟨s', hs'⟩ : ∃ s' : St, s' = ⟨s.n, s.r, s.m, s.f, updP s.P m ⟨true, L, tu⟩⟩ := ⟨_, rfl⟩
                        replace hNn : nodesK s'.P 7 = nodesK s.P 7 ||| Q := by rw [hs']; exact hNn
                        replace hUn : upK s'.P 7 = max (upK s.P 7) tu := by rw [hs']; exact hUn
                        rw [← hs'] at hA7 h6 hok2
                        have hS2 : addS s' m L tu = s' := by
                          unfold addS
                          rw [if_neg (by rw [h6]; decide)]
                        have hB2 : addB s' m L tu = false := by
                          unfold addB
                          rw [if_neg (by rw [h6]; decide)]
                        have hA8 := fun W (h : PAt w c s' W) => h.add m (.slice pa ln pc) tu L (by rw [hln.out]; exact hI6.out _ h.bel) (by omega)
                        rw [h6, hS2, hB2] at hA8
                        clear hs' hE hS h6 hok2 hPa hthd hm hS2 hB2
                        have hIv : Hid (∀ W, PAt w b s W ∧ PAt w c s' W ∧ Below W0.heap.size W0 W → Calls Try.prog 27 #[.pointer (some ⟨c, 0, none⟩), .int .i64 (m : Nat), .slice pa ln pc, .int .i64 tu] W fun e W' => e = .returned (.tuple #[.bool false, .int .i64 6]) ∧ PAt w b s W' ∧ PAt w c s' W' ∧ Below W0.heap.size W0 W') := Lib.hid fun W h => by
                          refine (hA8 W h.2.1).mono ?_
                          rintro e W' ⟨rfl, h2, hK⟩
                          exact ⟨rfl, h.1.keptP h.2.1 hbc hK, h2, h.2.2.trans (hK.below h.2.2.size fun k hk => by subst hk; exact hloc.out)⟩
                        have hNc : Hid (∀ W, PAt w b s W ∧ PAt w c s' W ∧ Below W0.heap.size W0 W → Calls Try.prog 25 #[.pointer (some ⟨c, 0, none⟩)] W fun e W' => e = .returned (.int .u64 ((nodesK s.P 7 ||| Q : Nat) : Int)) ∧ PAt w b s W' ∧ PAt w c s' W' ∧ Below W0.heap.size W0 W') := Lib.hid fun W h => by
                          refine h.2.1.nodes.mono ?_
                          rintro e W' ⟨rfl, hb⟩
                          rw [hNn]
                          exact ⟨rfl, h.1.later hb, h.2.1.later hb, h.2.2.trans (hb.mono h.2.2.size)⟩
                        have hNb : Hid (∀ W, PAt w b s W ∧ PAt w c s' W ∧ Below W0.heap.size W0 W → Calls Try.prog 25 #[.pointer (some ⟨b, 0, none⟩)] W fun e W' => e = .returned (.int .u64 (nodesK s.P 7 : Nat)) ∧ PAt w b s W' ∧ PAt w c s' W' ∧ Below W0.heap.size W0 W') := Lib.hid fun W h => by
                          refine h.1.nodes.mono ?_
                          rintro e W' ⟨rfl, hb⟩
                          exact ⟨rfl, h.1.later hb, h.2.1.later hb, h.2.2.trans (hb.mono h.2.2.size)⟩
                        have hUc : Hid (∀ W, PAt w b s W ∧ PAt w c s' W ∧ Below W0.heap.size W0 W → Calls Try.prog 21 #[.pointer (some ⟨c, 0, none⟩)] W fun e W' => e = .returned (.int .i64 (max (upK s.P 7) tu)) ∧ PAt w b s W' ∧ PAt w c s' W' ∧ Below W0.heap.size W0 W') := Lib.hid fun W h => by
                          refine h.2.1.upto.mono ?_
                          rintro e W' ⟨rfl, hb⟩
                          rw [hUn]
                          exact ⟨rfl, h.1.later hb, h.2.1.later hb, h.2.2.trans (hb.mono h.2.2.size)⟩
                        have hUb : Hid (∀ W, PAt w b s W ∧ PAt w c s' W ∧ Below W0.heap.size W0 W → Calls Try.prog 21 #[.pointer (some ⟨b, 0, none⟩)] W fun e W' => e = .returned (.int .i64 (upK s.P 7)) ∧ PAt w b s W' ∧ PAt w c s' W' ∧ Below W0.heap.size W0 W') := Lib.hid fun W h => by
                          refine h.1.upto.mono ?_
                          rintro e W' ⟨rfl, hb⟩
                          exact ⟨rfl, h.1.later hb, h.2.1.later hb, h.2.2.trans (hb.mono h.2.2.size)⟩
                        have hWk : Hid (∀ W, PAt w b s W ∧ PAt w c s' W ∧ Below W0.heap.size W0 W → Calls Try.prog 11 #[] W fun e W' => e = .returned (.bool true) ∧ PAt w b s W' ∧ PAt w c s' W' ∧ Below W0.heap.size W0 W') := Lib.hid fun W h => by
                          refine (HW.out W).mono ?_
                          rintro e W' ⟨rfl, hb⟩
                          exact ⟨rfl, h.1.later hb, h.2.1.later hb, h.2.2.trans (hb.mono h.2.2.size)⟩
                        have hC : Hid (∀ W, PAt w b s W ∧ PAt w c s' W ∧ Below W0.heap.size W0 W → W.cell? ⟨q6 + 1, 0, none⟩ = some (.int .i64 (m : Nat)) ∧ W.cell? ⟨q6 + 1, 1, none⟩ = some (.int .i64 tu)) := Lib.hid fun W h => ⟨(hBx.out W h.2.2).2.2.2.1, (hBx.out W h.2.2).2.2.2.2.1⟩
                        have hC2 : Hid (∀ W, PAt w b s W ∧ PAt w c s' W ∧ Below W0.heap.size W0 W → W.cell? ⟨q6 + 1, 2, none⟩ = some (.slice pa ln pc)) := Lib.hid fun W h => (hBx.out W h.2.2).2.2.2.2.2.1
                        have hDr : Hid (∀ W, PAt w b s W ∧ PAt w c s' W ∧ Below W0.heap.size W0 W → PAt w b s W.drew ∧ PAt w c s' W.drew ∧ Below W0.heap.size W0 W.drew) := Lib.hid fun W h => ⟨h.1.drew, h.2.1.drew, h.2.2.trans ((Below.refl _ _).drew.mono h.2.2.size)⟩
                        generalize nodesK s.P 7 = N at *
                        generalize upK s.P 7 = U at *
                        generalize addB s (m : Nat) L tu = R at *
                        replace hA7 := Lib.hid hA7
                        generalize hNQ : N ||| Q = NQ at *
                        generalize hMX : max U tu = MX at *
                        clear hA8 hNn hUn hp7 hq7 hB7 hNd hbit hnb hNQ
                        replace hMX := Lib.hid hMX
                        as_aux_lemma =>
                          go_wp2_with fail
                          refine hA7.out.mono ?_
                          rintro e W8 ⟨rfl, hq8, hK8⟩
                          obtain ⟨hp8, hB8⟩ := hK7.out _ hK8
                          have hI8 := Lib.hid (show PAt w b s W8 ∧ PAt w c s' W8 ∧ Below W0.heap.size W0 W8 from ⟨hp8, hq8, hB8⟩)
                          clear hK8 hp8 hq8 hB8 y0 y1 y2
                          have y01 := hC.out _ hI8.out
                          obtain ⟨y0, y1⟩ := y01
                          have y2 := hC2.out _ hI8.out
                          go_wp2_with fail
                          refine (hIv.out _ hI8.out).mono ?_
                          rintro e W9 ⟨rfl, hI9⟩
                          clear y0 y1 y2
                          replace hI9 := Lib.hid (hDr.out _ hI9)
                          go_wp2
                          have k2 : ¬ (m : Int) < 0 := by omega
                          have e0 : (NQ == NQ) = true := by simp
                          have e1 : (MX == MX) = true := by simp
                          have hMX2 := hMX.out
                          have q0 : IntKind.u64.wrap ((2 : Int) ^ min m 64) = (Q : Int) := by rw [Nat.min_eq_left (by have := hm7.out; omega)]; exact q1
                          refine wp_region_held_drew (S := (fun W => PAt w b s W ∧ PAt w c s' W ∧ Below W0.heap.size W0 W)) (by kernel_rfl) (hI9.out) (fun hS => ?_)
                          try simp only [List.getElem_toArray, List.getElem_cons_succ, List.getElem_cons_zero, Act.put, List.setIfInBounds_toArray, List.set_cons_zero, List.set_cons_succ]
                          refine wpAnyH_take (i := 0) (v := (.int .i64 6)) rfl (by kernel_rfl) (by kernel_rfl) (by kernel_rfl) (fun _ _ _ h => h) (Or.inl ⟨by kernel_rfl, by intro w' hSw; obtain ⟨y0, y1⟩ := hC.out _ hSw; clear hSw; go_simp⟩) hS ?_
                          try simp only [List.getElem_toArray, List.getElem_cons_succ, List.getElem_cons_zero, Act.put, List.setIfInBounds_toArray, List.set_cons_zero, List.set_cons_succ]
                          refine wpAnyH_take (i := 1) (v := (.bool true)) rfl (by kernel_rfl) (by kernel_rfl) (by kernel_rfl) (fun _ _ _ h => h) (Or.inl ⟨by kernel_rfl, by intro w' hSw; obtain ⟨y0, y1⟩ := hC.out _ hSw; clear hSw; go_simp⟩) hS ?_
                          try simp only [List.getElem_toArray, List.getElem_cons_succ, List.getElem_cons_zero, Act.put, List.setIfInBounds_toArray, List.set_cons_zero, List.set_cons_succ]
                          refine wpAnyH_take (i := 2) (v := (.bool true)) rfl (by kernel_rfl) (by kernel_rfl) (by kernel_rfl) (fun _ _ _ h => h) (Or.inl ⟨by kernel_rfl, by intro w' hSw; obtain ⟨y0, y1⟩ := hC.out _ hSw; clear hSw; go_simp⟩) hS ?_
                          try simp only [List.getElem_toArray, List.getElem_cons_succ, List.getElem_cons_zero, Act.put, List.setIfInBounds_toArray, List.set_cons_zero, List.set_cons_succ]
                          refine wpAnyH_take (i := 3) (v := (.pointer (some ⟨c, 0, none⟩))) rfl (by kernel_rfl) (by kernel_rfl) (by kernel_rfl) (fun _ _ _ h => h) (Or.inl ⟨by kernel_rfl, by intro w' hSw; obtain ⟨y0, y1⟩ := hC.out _ hSw; clear hSw; go_simp⟩) hS ?_
                          try simp only [List.getElem_toArray, List.getElem_cons_succ, List.getElem_cons_zero, Act.put, List.setIfInBounds_toArray, List.set_cons_zero, List.set_cons_succ]
                          refine wpAnyH_take (i := 5) (v := (.pointer (some ⟨b, 0, none⟩))) rfl (by kernel_rfl) (by kernel_rfl) (by kernel_rfl) (fun _ _ _ h => h) (Or.inl ⟨by kernel_rfl, by intro w' hSw; obtain ⟨y0, y1⟩ := hC.out _ hSw; clear hSw; go_simp⟩) hS ?_
                          try simp only [List.getElem_toArray, List.getElem_cons_succ, List.getElem_cons_zero, Act.put, List.setIfInBounds_toArray, List.set_cons_zero, List.set_cons_succ]
                          refine wpAnyH_take (i := 7) (v := (.pointer (some ⟨q6 + 1, 0, none⟩))) rfl (by kernel_rfl) (by kernel_rfl) (by kernel_rfl) (fun _ _ _ h => h) (Or.inl ⟨by kernel_rfl, by intro w' hSw; obtain ⟨y0, y1⟩ := hC.out _ hSw; clear hSw; go_simp⟩) hS ?_
                          try simp only [List.getElem_toArray, List.getElem_cons_succ, List.getElem_cons_zero, Act.put, List.setIfInBounds_toArray, List.set_cons_zero, List.set_cons_succ]
                          refine wpAnyH_take (i := 8) (v := (.int .i64 (m : Nat))) rfl (by kernel_rfl) (by kernel_rfl) (by kernel_rfl) (fun _ _ _ h => h) (Or.inl ⟨by kernel_rfl, by intro w' hSw; obtain ⟨y0, y1⟩ := hC.out _ hSw; clear hSw; go_simp⟩) hS ?_
                          try simp only [List.getElem_toArray, List.getElem_cons_succ, List.getElem_cons_zero, Act.put, List.setIfInBounds_toArray, List.set_cons_zero, List.set_cons_succ]
                          refine wpAnyH_take (i := 9) (v := (.int .u64 (Q : Nat))) rfl (by kernel_rfl) (by kernel_rfl) (by kernel_rfl) (fun _ _ _ h => h) (Or.inl ⟨by kernel_rfl, by intro w' hSw; obtain ⟨y0, y1⟩ := hC.out _ hSw; clear hSw; go_simp⟩) hS ?_
                          try simp only [List.getElem_toArray, List.getElem_cons_succ, List.getElem_cons_zero, Act.put, List.setIfInBounds_toArray, List.set_cons_zero, List.set_cons_succ]
                          refine wpAnyH_ready (rs := [4]) (by kernel_rfl) (by simp) ?_
                          refine AllReadyH.cons rfl (fun K hK => ?_) AllReadyH.nil
                          go_simp
                          go_at_call 25
                          refine (hNc.out _ hS).mono ?_
                          rintro e w11 ⟨rfl, hI11⟩
                          refine hK.out _ _ (hI11) (fun hS => ?_)
                          clear hK K
                          try simp only [List.getElem_toArray, List.getElem_cons_succ, List.getElem_cons_zero, Act.put, List.setIfInBounds_toArray, List.set_cons_zero, List.set_cons_succ]
                          refine wpAnyH_ready (rs := [6]) (by kernel_rfl) (by simp) ?_
                          refine AllReadyH.cons rfl (fun K hK => ?_) AllReadyH.nil
                          go_simp
                          go_at_call 25
                          refine (hNb.out _ hS).mono ?_
                          rintro e w12 ⟨rfl, hI12⟩
                          refine hK.out _ _ (hI12) (fun hS => ?_)
                          clear hK K
                          try simp only [List.getElem_toArray, List.getElem_cons_succ, List.getElem_cons_zero, Act.put, List.setIfInBounds_toArray, List.set_cons_zero, List.set_cons_succ]
                          refine wpAnyH_take (i := 10) (v := (.int .u64 (NQ : Nat))) rfl (by kernel_rfl) (by kernel_rfl) (by kernel_rfl) (fun _ _ _ h => h) (Or.inl ⟨by kernel_rfl, by intro w' hSw; obtain ⟨y0, y1⟩ := hC.out _ hSw; clear hSw; go_simp⟩) hS ?_
                          try simp only [List.getElem_toArray, List.getElem_cons_succ, List.getElem_cons_zero, Act.put, List.setIfInBounds_toArray, List.set_cons_zero, List.set_cons_succ]
                          refine wpAnyH_take (i := 11) (v := (.bool true)) rfl (by kernel_rfl) (by kernel_rfl) (by kernel_rfl) (fun _ _ _ h => h) (Or.inl ⟨by kernel_rfl, by intro w' hSw; obtain ⟨y0, y1⟩ := hC.out _ hSw; clear hSw; go_simp⟩) hS ?_
                          try simp only [List.getElem_toArray, List.getElem_cons_succ, List.getElem_cons_zero, Act.put, List.setIfInBounds_toArray, List.set_cons_zero, List.set_cons_succ]
                          refine wpAnyH_take (i := 12) (v := (.bool true)) rfl (by kernel_rfl) (by kernel_rfl) (by kernel_rfl) (fun _ _ _ h => h) (Or.inl ⟨by kernel_rfl, by intro w' hSw; obtain ⟨y0, y1⟩ := hC.out _ hSw; clear hSw; go_simp⟩) hS ?_
                          try simp only [List.getElem_toArray, List.getElem_cons_succ, List.getElem_cons_zero, Act.put, List.setIfInBounds_toArray, List.set_cons_zero, List.set_cons_succ]
                          refine wpAnyH_take (i := 13) (v := (.bool true)) rfl (by kernel_rfl) (by kernel_rfl) (by kernel_rfl) (fun _ _ _ h => h) (Or.inl ⟨by kernel_rfl, by intro w' hSw; obtain ⟨y0, y1⟩ := hC.out _ hSw; clear hSw; go_simp⟩) hS ?_
                          try simp only [List.getElem_toArray, List.getElem_cons_succ, List.getElem_cons_zero, Act.put, List.setIfInBounds_toArray, List.set_cons_zero, List.set_cons_succ]
                          refine wpAnyH_take (i := 14) (v := (.pointer (some ⟨c, 0, none⟩))) rfl (by kernel_rfl) (by kernel_rfl) (by kernel_rfl) (fun _ _ _ h => h) (Or.inl ⟨by kernel_rfl, by intro w' hSw; obtain ⟨y0, y1⟩ := hC.out _ hSw; clear hSw; go_simp⟩) hS ?_
                          try simp only [List.getElem_toArray, List.getElem_cons_succ, List.getElem_cons_zero, Act.put, List.setIfInBounds_toArray, List.set_cons_zero, List.set_cons_succ]
                          refine wpAnyH_take (i := 16) (v := (.pointer (some ⟨b, 0, none⟩))) rfl (by kernel_rfl) (by kernel_rfl) (by kernel_rfl) (fun _ _ _ h => h) (Or.inl ⟨by kernel_rfl, by intro w' hSw; obtain ⟨y0, y1⟩ := hC.out _ hSw; clear hSw; go_simp⟩) hS ?_
                          try simp only [List.getElem_toArray, List.getElem_cons_succ, List.getElem_cons_zero, Act.put, List.setIfInBounds_toArray, List.set_cons_zero, List.set_cons_succ]
                          refine wpAnyH_take (i := 18) (v := (.pointer (some ⟨q6 + 1, 1, none⟩))) rfl (by kernel_rfl) (by kernel_rfl) (by kernel_rfl) (fun _ _ _ h => h) (Or.inl ⟨by kernel_rfl, by intro w' hSw; obtain ⟨y0, y1⟩ := hC.out _ hSw; clear hSw; go_simp⟩) hS ?_
                          try simp only [List.getElem_toArray, List.getElem_cons_succ, List.getElem_cons_zero, Act.put, List.setIfInBounds_toArray, List.set_cons_zero, List.set_cons_succ]
                          refine wpAnyH_take (i := 19) (v := (.int .i64 tu)) rfl (by kernel_rfl) (by kernel_rfl) (by kernel_rfl) (fun _ _ _ h => h) (Or.inl ⟨by kernel_rfl, by intro w' hSw; obtain ⟨y0, y1⟩ := hC.out _ hSw; clear hSw; go_simp⟩) hS ?_
                          try simp only [List.getElem_toArray, List.getElem_cons_succ, List.getElem_cons_zero, Act.put, List.setIfInBounds_toArray, List.set_cons_zero, List.set_cons_succ]
                          refine wpAnyH_ready (rs := [15]) (by kernel_rfl) (by simp) ?_
                          refine AllReadyH.cons rfl (fun K hK => ?_) AllReadyH.nil
                          go_simp
                          go_at_call 21
                          refine (hUc.out _ hS).mono ?_
                          rintro e w13 ⟨rfl, hI13⟩
                          refine hK.out _ _ (hI13) (fun hS => ?_)
                          clear hK K
                          try simp only [List.getElem_toArray, List.getElem_cons_succ, List.getElem_cons_zero, Act.put, List.setIfInBounds_toArray, List.set_cons_zero, List.set_cons_succ]
                          refine wpAnyH_ready (rs := [17]) (by kernel_rfl) (by simp) ?_
                          refine AllReadyH.cons rfl (fun K hK => ?_) AllReadyH.nil
                          go_simp
                          go_at_call 21
                          refine (hUb.out _ hS).mono ?_
                          rintro e w14 ⟨rfl, hI14⟩
                          refine hK.out _ _ (hI14) (fun hS => ?_)
                          clear hK K
                          try simp only [List.getElem_toArray, List.getElem_cons_succ, List.getElem_cons_zero, Act.put, List.setIfInBounds_toArray, List.set_cons_zero, List.set_cons_succ]
                          refine wpAnyH_take (i := 20) (v := (.int .i64 MX)) rfl (by kernel_rfl) (by kernel_rfl) (by kernel_rfl) (fun _ _ _ h => h) (Or.inl ⟨by kernel_rfl, by intro w' hSw; obtain ⟨y0, y1⟩ := hC.out _ hSw; clear hSw; go_simp⟩) hS ?_
                          try simp only [List.getElem_toArray, List.getElem_cons_succ, List.getElem_cons_zero, Act.put, List.setIfInBounds_toArray, List.set_cons_zero, List.set_cons_succ]
                          refine wpAnyH_take (i := 21) (v := (.bool true)) rfl (by kernel_rfl) (by kernel_rfl) (by kernel_rfl) (fun _ _ _ h => h) (Or.inl ⟨by kernel_rfl, by intro w' hSw; obtain ⟨y0, y1⟩ := hC.out _ hSw; clear hSw; go_simp⟩) hS ?_
                          try simp only [List.getElem_toArray, List.getElem_cons_succ, List.getElem_cons_zero, Act.put, List.setIfInBounds_toArray, List.set_cons_zero, List.set_cons_succ]
                          refine wpAnyH_take (i := 22) (v := (.bool true)) rfl (by kernel_rfl) (by kernel_rfl) (by kernel_rfl) (fun _ _ _ h => h) (Or.inl ⟨by kernel_rfl, by intro w' hSw; obtain ⟨y0, y1⟩ := hC.out _ hSw; clear hSw; go_simp⟩) hS ?_
                          try simp only [List.getElem_toArray, List.getElem_cons_succ, List.getElem_cons_zero, Act.put, List.setIfInBounds_toArray, List.set_cons_zero, List.set_cons_succ]
                          refine wpAnyH_take (i := 23) (v := (.bool true)) rfl (by kernel_rfl) (by kernel_rfl) (by kernel_rfl) (fun _ _ _ h => h) (Or.inl ⟨by kernel_rfl, by intro w' hSw; obtain ⟨y0, y1⟩ := hC.out _ hSw; clear hSw; go_simp⟩) hS ?_
                          try simp only [List.getElem_toArray, List.getElem_cons_succ, List.getElem_cons_zero, Act.put, List.setIfInBounds_toArray, List.set_cons_zero, List.set_cons_succ]
                          refine wpAnyH_ready (rs := [24]) (by kernel_rfl) (by simp) ?_
                          refine AllReadyH.cons rfl (fun K hK => ?_) AllReadyH.nil
                          go_simp
                          go_at_call 11
                          refine (hWk.out _ hS).mono ?_
                          rintro e w15 ⟨rfl, hI15⟩
                          refine hK.out _ _ (hI15) (fun hS => ?_)
                          clear hK K
                          try simp only [List.getElem_toArray, List.getElem_cons_succ, List.getElem_cons_zero, Act.put, List.setIfInBounds_toArray, List.set_cons_zero, List.set_cons_succ]
                          refine wpAnyH_take (i := 25) (v := (.bool true)) rfl (by kernel_rfl) (by kernel_rfl) (by kernel_rfl) (fun _ _ _ h => h) (Or.inl ⟨by kernel_rfl, by intro w' hSw; obtain ⟨y0, y1⟩ := hC.out _ hSw; clear hSw; go_simp⟩) hS ?_
                          try simp only [List.getElem_toArray, List.getElem_cons_succ, List.getElem_cons_zero, Act.put, List.setIfInBounds_toArray, List.set_cons_zero, List.set_cons_succ]
                          refine wpAnyH_take (i := 26) (v := (.bool true)) rfl (by kernel_rfl) (by kernel_rfl) (by kernel_rfl) (fun _ _ _ h => h) (Or.inl ⟨by kernel_rfl, by intro w' hSw; obtain ⟨y0, y1⟩ := hC.out _ hSw; clear hSw; go_simp⟩) hS ?_
                          try simp only [List.getElem_toArray, List.getElem_cons_succ, List.getElem_cons_zero, Act.put, List.setIfInBounds_toArray, List.set_cons_zero, List.set_cons_succ]
                          refine wpAnyH_done (by kernel_rfl) ?_ _
                          clear hS
                          go_wp2
                          go_ret
                          exact ⟨rfl, hI15.1.bel⟩
                      · have hS : addS s tk L tu = s := if_neg hE
                        have hR : addB s tk L tu = false := if_neg hE
                        rw [hS, hR] at hA7
                        generalize addE s tk L tu = E at *
                        have b1 : (E == 0) = false := by simpa using hE
                        have b2 : (E != 0) = true := by simpa using hE
                        have b3 : decide (E = 0) = false := by simpa using hE
                        have hvl : (valL s).length ≤ 100000 := by have := valL_len hok'.out; omega
                        have hSm : Hid (∀ v1 v2 W, IsE W v1 (valL s) → IsE W v2 (valL s) → Calls Try.prog 18 #[v1, v2] W fun e W' => e = .returned (.bool true) ∧ Below W.heap.size W W') := Lib.hid fun v1 v2 W h1 h2 => by
                          have := same_any v1 v2 _ _ W h1 h2 hvl hvl
                          rwa [eqLs_t] at this
                        have hVl : Hid (∀ W q, PAt w q s W → Calls Try.prog 16 #[.pointer (some ⟨q, 0, none⟩)] W fun e W' => ∃ v, e = .returned (.tuple #[v, .int .i64 (valE s)]) ∧ IsE W' v (valL s) ∧ Below W.heap.size W W') := Lib.hid fun W q h => by
                          refine h.values.mono ?_
                          rintro e W' ⟨v, rfl, hO, hb⟩
                          exact ⟨v, rfl, hO.is, hb⟩
                        have hNn : Hid (∀ W q, PAt w q s W → Calls Try.prog 25 #[.pointer (some ⟨q, 0, none⟩)] W fun e W' => e = .returned (.int .u64 (nodesK s.P 7 : Nat)) ∧ Below W.heap.size W W') := Lib.hid fun W q h => h.nodes
                        have hUp : Hid (∀ W q, PAt w q s W → Calls Try.prog 21 #[.pointer (some ⟨q, 0, none⟩)] W fun e W' => e = .returned (.int .i64 (upK s.P 7)) ∧ Below W.heap.size W W') := Lib.hid fun W q h => h.upto
                        generalize nodesK s.P 7 = N at *
                        generalize upK s.P 7 = U at *
                        generalize valE s = VE at *
                        generalize valL s = VL at *
                        replace hA7 := Lib.hid hA7
                        clear hp7 hq7 hB7 hNd hbit hnb hS hR hE hvl hthd hth1
                        as_aux_lemma =>
                          cases th with
                          | true =>
                            go_wp2_with fail
                            refine hA7.out.mono ?_
                            rintro e W8 ⟨rfl, hq8, hK8⟩
                            obtain ⟨hp8, hB8⟩ := hK7.out _ hK8
                            clear hK8 hB8 y0 y1 y2
                            go_wp2_with fail
                            refine (hVl.out _ _ hp8).mono ?_
                            rintro e W9 ⟨v1, rfl, hv1, hb9⟩
                            have hp9 := hp8.later hb9
                            have hq9 := hq8.later hb9
                            clear hp8 hq8 hb9
                            go_wp2_with fail
                            refine (hVl.out _ _ hq9).mono ?_
                            rintro e W10 ⟨v2, rfl, hv2, hb10⟩
                            have hp10 := hp9.later hb10
                            have hq10 := hq9.later hb10
                            replace hv1 := hv1.later hb10
                            clear hp9 hq9 hb10
                            go_wp2_with fail
                            refine (hSm.out _ _ _ hv1 hv2).mono ?_
                            rintro e W11 ⟨rfl, hb11⟩
                            have hp11 := hp10.later hb11
                            have hq11 := hq10.later hb11
                            clear hp10 hq10 hb11 hv1 hv2
                            go_wp2_with fail
                            refine (hNn.out _ _ hp11).mono ?_
                            rintro e W12 ⟨rfl, hb12⟩
                            have hp12 := hp11.later hb12
                            have hq12 := hq11.later hb12
                            clear hp11 hq11 hb12
                            go_wp2_with fail
                            refine (hNn.out _ _ hq12).mono ?_
                            rintro e W13 ⟨rfl, hb13⟩
                            have hp13 := hp12.later hb13
                            have hq13 := hq12.later hb13
                            clear hp12 hq12 hb13
                            go_wp2_with fail
                            refine (hUp.out _ _ hp13).mono ?_
                            rintro e W14 ⟨rfl, hb14⟩
                            have hp14 := hp13.later hb14
                            have hq14 := hq13.later hb14
                            clear hp13 hq13 hb14
                            go_wp2_with fail
                            refine (hUp.out _ _ hq14).mono ?_
                            rintro e W15 ⟨rfl, hb15⟩
                            have hp15 := hp14.later hb15
                            clear hp14 hq14 hb15
                            go_wp2_with fail
                            refine (HW.out _).mono ?_
                            rintro e W16 ⟨rfl, hb16⟩
                            go_wp2_with fail
                            go_ret
                            exact ⟨rfl, below2 hp15.bel hb16⟩
                          | false =>
                            go_wp2_with fail
                            refine hA7.out.mono ?_
                            rintro e W8 ⟨rfl, hq8, hK8⟩
                            obtain ⟨hp8, hB8⟩ := hK7.out _ hK8
                            clear hK8 hB8 y0 y1 y2
                            go_wp2_with fail
                            refine (hVl.out _ _ hp8).mono ?_
                            rintro e W9 ⟨v1, rfl, hv1, hb9⟩
                            have hp9 := hp8.later hb9
                            have hq9 := hq8.later hb9
                            clear hp8 hq8 hb9
                            go_wp2_with fail
                            refine (hVl.out _ _ hq9).mono ?_
                            rintro e W10 ⟨v2, rfl, hv2, hb10⟩
                            have hp10 := hp9.later hb10
                            have hq10 := hq9.later hb10
                            replace hv1 := hv1.later hb10
                            clear hp9 hq9 hb10
                            go_wp2_with fail
                            refine (hSm.out _ _ _ hv1 hv2).mono ?_
                            rintro e W11 ⟨rfl, hb11⟩
                            have hp11 := hp10.later hb11
                            have hq11 := hq10.later hb11
                            clear hp10 hq10 hb11 hv1 hv2
                            go_wp2_with fail
                            refine (hNn.out _ _ hp11).mono ?_
                            rintro e W12 ⟨rfl, hb12⟩
                            have hp12 := hp11.later hb12
                            have hq12 := hq11.later hb12
                            clear hp11 hq11 hb12
                            go_wp2_with fail
                            refine (hNn.out _ _ hq12).mono ?_
                            rintro e W13 ⟨rfl, hb13⟩
                            have hp13 := hp12.later hb13
                            have hq13 := hq12.later hb13
                            clear hp12 hq12 hb13
                            go_wp2_with fail
                            refine (hUp.out _ _ hp13).mono ?_
                            rintro e W14 ⟨rfl, hb14⟩
                            have hp14 := hp13.later hb14
                            have hq14 := hq13.later hb14
                            clear hp13 hq13 hb14
                            go_wp2_with fail
                            refine (hUp.out _ _ hq14).mono ?_
                            rintro e W15 ⟨rfl, hb15⟩
                            have hp15 := hp14.later hb15
                            clear hp14 hq14 hb15
                            go_wp2_with fail
                            refine (HW.out _).mono ?_
                            rintro e W16 ⟨rfl, hb16⟩
                            go_wp2_with fail
                            go_ret
                            exact ⟨rfl, below2 hp15.bel hb16⟩
      · have HN := Lib.hid (new_bad n0 xr xm f0 hok W2)
        replace hok := Lib.hid hok
        as_aux_lemma =>
          go_wp2_with fail
          refine HN.out.mono ?_
          rintro e W3 ⟨rfl, hb6⟩
          have hb7 := Lib.hid (below2 hbw2.out hb6)
          go_wp2_with (go_at_call 11; refine (HW.out _).mono ?_; rintro e w1 ⟨rfl, hb⟩)
          go_ret
          exact ⟨rfl, below2 hb7.out hb⟩
theorem keeps_law (a0 xr1 xm1 a2 : Int) (a3 : Option Addr) (len3 cap3 : Nat) (S3 : Nat → Td) (x4 : Td) (w : World) (w0 : (Lit.int .i64 a0).wf = true) (w1 : True) (w2 : (Lit.int .i64 a2).wf = true) (w3 : IsTd w a3 len3 cap3 S3) (w4 : TdW w x4) :
    Calls Try.prog 9 #[.int .i64 a0, .agg #[.int .i64 xr1, .int .i64 xm1], .int .i64 a2, .slice a3 len3 cap3, tdA x4] w (Yes w) :=
  keeps_go a0 xr1 xm1 a2 a3 len3 cap3 S3 x4 w w3 w4
end Go.Proofs.Ytffiooclkchoiaa.Prp
