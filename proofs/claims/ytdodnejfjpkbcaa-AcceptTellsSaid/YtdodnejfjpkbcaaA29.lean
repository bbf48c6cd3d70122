/- The walk of AcceptTells. -/
import Derived.Test.YtdodnejfjpkbcaaA18
namespace Go.Proofs.Ytdodnejfjpkbcaa.Acc
open Go.RowKit Go.Maps Go.Lib
open Bal (TB alloc_b)
set_option linter.unusedVariables false
set_option linter.unusedSimpArgs false
set_option maxRecDepth 100000

/-- Two acceptors and two ballots in boxes. -/
structure Tl (V : World) (q : Nat) (xr xm yr ym : Int) (sa ma : Nat) (s : St) (sb mb : Nat) (t : St) (W : World) : Prop where
  tw : Tw V sa ma s sb mb t W
  b1 : W.heap[q]? = some (.cells #[.int .i64 xr, .int .i64 xm] TB (0, 0))
  b2 : W.heap[q + 1]? = some (.cells #[.int .i64 yr, .int .i64 ym] TB (0, 0))
section
variable {V W W' : World} {q sa ma sb mb : Nat} {xr xm yr ym : Int} {s s' t : St}
theorem Tl.later (h : Tl V q xr xm yr ym sa ma s sb mb t W) (hb : Below W.heap.size W W') : Tl V q xr xm yr ym sa ma s sb mb t W' :=
  ⟨h.tw.later hb, (hb.block _ (Array.getElem?_eq_some_iff.1 h.b1).1).trans h.b1, (hb.block _ (Array.getElem?_eq_some_iff.1 h.b2).1).trans h.b2⟩
theorem Tl.step (h : Tl V q xr xm yr ym sa ma s sb mb t W) (hA : WAt V sa ma s' W') (hK : Keeps (fun k => k = sa ∨ k = ma) W W') : Tl V q xr xm yr ym sa ma s' sb mb t W' :=
  ⟨h.tw.step hA hK, box_kept h.tw.a.ax h.b1 (by decide) hK, box_kept h.tw.a.ax h.b2 (by decide) hK⟩
theorem Tl.c1 (h : Tl V q xr xm yr ym sa ma s sb mb t W) : W.cell? ⟨q, 0, none⟩ = some (.int .i64 xr) ∧ W.cell? ⟨q, 1, none⟩ = some (.int .i64 xm) :=
  ⟨cell_of_row W q 0 _ TB _ h.b1, cell_of_row W q 1 _ TB _ h.b1⟩
theorem Tl.c2 (h : Tl V q xr xm yr ym sa ma s sb mb t W) : W.cell? ⟨q + 1, 0, none⟩ = some (.int .i64 yr) ∧ W.cell? ⟨q + 1, 1, none⟩ = some (.int .i64 ym) :=
  ⟨cell_of_row W _ 0 _ TB _ h.b2, cell_of_row W _ 1 _ TB _ h.b2⟩
end
/-! Plain facts. -/
theorem not_lt_self (r m : Int) : ¬ Bal.ordV r m r m < 0 := by rw [ord_nn]; omega
theorem pro_no {s : St} {r m f : Int} (h : ¬ proE s r m f = 0) : proS s r m f = s ∧ proL s r m f = [] := ⟨if_neg h, if_neg h⟩
theorem pro_yes {s : St} {r m f : Int} (h : proE s r m f = 0) : proS s r m f = ⟨s.n, r, m, s.b, s.M⟩ ∧ proL s r m f = frM s.M f ∧ Gd s.n r m := by
  refine ⟨if_pos h, if_pos h, ?_⟩
  unfold proE at h
  by_cases hg : Gd s.n r m ∧ 0 ≤ f ∧ f ≤ 4096
  · exact hg.1
  · rw [if_neg hg] at h; cases h
theorem pro_again {n b : Int} {M : List Et} {r m : Int} (hg : Gd n r m) : proE ⟨n, r, m, b, M⟩ r m 0 = 0 := by
  unfold proE
  rw [if_pos ⟨hg, by omega, by omega⟩, if_neg (not_lt_self r m)]
theorem pro_less {s : St} {r m : Int} (h : Bal.ordV r m s.r s.m < 0) (f : Int) : ¬ proE s r m f = 0 := by
  unfold proE
  split
  · omega
  · omega
theorem acc_less {s : St} {r m : Int} (h : Bal.ordV r m s.r s.m < 0) (k : Int) (v : ByteArray) : ¬ accE s r m k v = 0 := by
  unfold accE
  split
  · split
    · omega
    · omega
  · omega
abbrev vv : ByteArray := ⟨#[118]⟩
theorem acc_same {n b : Int} {M : List Et} {r m : Int} (hg : Gd n r m) {k : Int} (h0 : 0 ≤ k) (h1 : k < 4096) : accE ⟨n, r, m, b, M⟩ r m k vv = if k < b then 3 else 0 := by
  unfold accE
  rw [if_pos ⟨hg, h0, h1⟩, if_neg (by decide), if_neg (not_lt_self r m)]
set_option maxHeartbeats 8000000 in
theorem tells_any (a : Option Addr) (len cap : Nat) (S : Nat → Sp) (xr xm yr ym : Int) (un : Nat) (w : World) (h : IsSt w a len cap S) (hun : un ≤ 65535) :
    Calls Try.prog 7 #[.slice a len cap, .agg #[.int .i64 xr, .int .i64 xm], .agg #[.int .i64 yr, .int .i64 ym], .int .u16 (un : Nat)] w (Yes w) := by
  have HW := Lib.hid (fun W => works_any W)
  have b1 := alloc_b w (.cells #[.int .i64 xr, .int .i64 xm] TB)
  have b2 := b1.alloc b1.size (.cells #[.int .i64 yr, .int .i64 ym] TB)
  have hl2 := heap_alloc_new (w.alloc (.cells #[.int .i64 xr, .int .i64 xm] TB)) (.cells #[.int .i64 yr, .int .i64 ym] TB)
  have hl1 := (Below.heap_alloc (w.alloc (.cells #[.int .i64 xr, .int .i64 xm] TB)) (.cells #[.int .i64 yr, .int .i64 ym] TB) w.heap.size (by rw [World.size_alloc]; omega)).trans (heap_alloc_new w (.cells #[.int .i64 xr, .int .i64 xm] TB))
  rw [World.size_alloc] at hl2
  have HS := Lib.hid (short_any a len cap S _ (h.later b2))
  obtain ⟨u, hu⟩ : ∃ u : Nat, u = un % 4096 := ⟨_, rfl⟩
  have hu0 : (0 : Int) ≤ (u : Nat) := by omega
  have hu1 : ((u : Nat) : Int) < 4096 := by omega
  have t1 : (un : Int).tmod 4096 = (u : Nat) := by rw [hu]; exact (Int.ofNat_tmod un 4096).symm
  have t2 : IntKind.i64.wrap (un : Nat) = (un : Nat) := by rw [IntKind.wrap_i64]; omega
  have t3 : IntKind.i64.wrap (u : Nat) = (u : Nat) := by rw [IntKind.wrap_i64]; omega
  go_enter Try.func7, Try.ntmps7
  cases hsh : shortB S len with
  | false =>
    rw [hsh] at HS
    replace b2 := Lib.hid b2
    clear b1 hl2 hl1 h hu t1 t2 t3
    go_wp2_with (first
      | (go_at_call 12; refine HS.out.mono ?_; rintro e w1 ⟨rfl, rfl⟩)
      | (go_at_call 13; refine (HW.out _).mono ?_; rintro e w1 ⟨rfl, hb⟩))
    go_ret
    exact ⟨rfl, below2 b2.out hb⟩
  | true =>
    rw [hsh] at HS
    have HF := Lib.hid (filled_any a len cap S w _ b2 (h.later b2) (short_len hsh))
    have hb2 := Lib.hid b2
    clear b1 b2 h hsh hu
    generalize fillS S len = s at *
    go_wp2_with fail
    go_at_call 12
    refine HS.out.mono ?_
    rintro e w1 ⟨rfl, rfl⟩
    clear HS
    go_wp2_with fail
    generalize (w.alloc (.cells #[.int .i64 xr, .int .i64 xm] TB)).alloc (.cells #[.int .i64 yr, .int .i64 ym] TB) = V at *
    generalize w.heap.size = q at hl1 hl2 ⊢
    go_at_call 35
    refine HF.out.mono ?_
    rintro e w1 ⟨sa, ma, rfl, hA1⟩
    clear HF
    as_aux_lemma =>
      go_wp2_with fail
      go_at_call 23
      refine hA1.copy.mono ?_
      rintro e w2 ⟨sb, mb, rfl, hT2, hbc, _, _⟩
      have hTl : Tl V q xr xm yr ym sa ma s sb mb s w2 := by
        have h1 := (hA1.bel.block _ (Array.getElem?_eq_some_iff.1 hl1).1).trans hl1
        have h2 := (hA1.bel.block _ (Array.getElem?_eq_some_iff.1 hl2).1).trans hl2
        exact ⟨hT2, (hbc.block _ (Array.getElem?_eq_some_iff.1 h1).1).trans h1, (hbc.block _ (Array.getElem?_eq_some_iff.1 h2).1).trans h2⟩
      have hok := hT2.a.ax.ok
      have hM0 := Lib.hid (fr_zero hok)
      have hlen := hok.len
      clear hA1 hT2 hbc hl1 hl2
      obtain ⟨c1, c2⟩ := hTl.c1
      by_cases hc : proE s xr xm (u : Nat) = 0
      · obtain ⟨e1, e2, hg⟩ := pro_yes hc
        obtain ⟨sn, sr, sm, sB, sM⟩ := s
        replace hM0 : Hid (frM sM 0 = sM) := hM0
        replace hlen : sM.length ≤ 4096 := hok.len
        replace hg : Hid (Gd sn xr xm) := Lib.hid hg
        have hsrt : Hid (Srt sM) := Lib.hid hok.srt
        obtain ⟨L1, hL1⟩ : ∃ L, frM sM (u : Nat) = L := ⟨_, rfl⟩
        have hl1 : Hid (L1.length ≤ 100000) := Lib.hid (by rw [← hL1]; exact Nat.le_trans (fr_len _ _) (by omega))
        have hl2 : Hid (sM.length ≤ 100000) := Lib.hid (by omega)
        have e2' : proL ⟨sn, sr, sm, sB, sM⟩ xr xm (u : Nat) = L1 := e2.trans hL1
        replace hL1 := Lib.hid hL1
        have hPr := Lib.hid (hTl.tw.a.promise xr xm (u : Nat) hc e1 e2')
        have hTl' := Lib.hid hTl
        have hq := fun W => (Bal.eq_b xr xm xr xm W).trans (by rw [Bal.eqB_t ⟨rfl, rfl⟩])
        clear hTl e1 e2 e2' hc hok hlen
        as_aux_lemma =>
          go_wp2_with fail
          go_at_call 16
          refine hPr.out.mono ?_
          rintro e w3 ⟨v, rfl, hO, hA3, hK3⟩
          have hU3 := Lib.hid ((hTl'.out.step hA3 hK3).later (Below.refl _ _).drew)
          obtain ⟨va, vc, rfl⟩ := rows_form hO
          have hO3 := Lib.hid (hO.later (Below.refl _ _).drew)
          have hS3 := hU3.out.c1
          clear hO hA3 hK3 c1 c2 hPr hTl'

          as_aux_lemma =>
            go_wp2
            go_region_held3 (fun W => W.cell? ⟨q, 0, none⟩ = some (.int .i64 xr) ∧ W.cell? ⟨q, 1, none⟩ = some (.int .i64 xm))
              (first | exact hS3 | exact hS4 | exact hS5 | exact hS6 | exact hS7 | exact hS8 | exact hS9 | assumption)
              (first
                | (have _ := hU8; go_at_call 37; have hE := entries_any _ _ _ _ w8 (hO7.out.later hb8).is hO8.out.is hl2.out hl2.out; rw [eqLs_t] at hE; refine hE.mono ?_; rintro e w9 ⟨rfl, hb9⟩; have hU9 := Lib.hid (hU8.out.later hb9); have hS9 := hU9.out.c1; clear hE)
                | (have _ := hU7; go_at_call 31; refine (hU7.out.tw.b.list 0 hM0.out).mono ?_; rintro e w8 ⟨v8, rfl, hO8, _, hb8⟩; replace hO8 := Lib.hid hO8; have hU8 := Lib.hid (hU7.out.later hb8); have hS8 := hU8.out.c1)
                | (have _ := hU6; go_at_call 31; refine (hU6.out.tw.a.list 0 hM0.out).mono ?_; rintro e w7 ⟨v7, rfl, hO7, _, hb7⟩; replace hO7 := Lib.hid hO7; have hU7 := Lib.hid (hU6.out.later hb7); have hS7 := hU7.out.c1)
                | (have _ := hU5; go_at_call 37; have hE := entries_any _ _ _ _ w5 ((hO3.out.later hb4).later hb5).is hO5.out.is hl1.out hl1.out; rw [eqLs_t] at hE; refine hE.mono ?_; rintro e w6 ⟨rfl, hb6⟩; have hU6 := Lib.hid (hU5.out.later hb6); have hS6 := hU6.out.c1; clear hE)
                | (have _ := hU4; go_at_call 31; refine (hU4.out.tw.b.list (u : Nat) hL1.out).mono ?_; rintro e w5 ⟨v5, rfl, hO5, _, hb5⟩; replace hO5 := Lib.hid hO5; have hU5 := Lib.hid (hU4.out.later hb5); have hS5 := hU5.out.c1)
                | (go_at_call 27; refine hU3.out.tw.a.promised.mono ?_; rintro e w4 ⟨rfl, _, hb4⟩; have hU4 := Lib.hid (hU3.out.later hb4); have hS4 := hU4.out.c1))
            obtain ⟨y1, y2⟩ := hS9
            clear hS3 hS4 hS5 hS6 hS7 hS8 hO3 hO5 hO7 hO8 hb4 hb5 hb6 hb7 hb8 hb9 hU3 hU4 hU5 hU6 hU7 hU8 hL1 hl1
            obtain ⟨e3, e4, _⟩ := pro_yes (s := ⟨sn, xr, xm, sB, sM⟩) (pro_again (b := sB) (M := sM) hg.out)
            have hPr2 := Lib.hid (hU9.out.tw.a.promise xr xm 0 (pro_again hg.out) e3 (e4.trans hM0.out))
            clear e3 e4
            as_aux_lemma =>
              go_wp2_with fail
              go_at_call 16
              refine hPr2.out.mono ?_
              rintro e w10 ⟨v10, rfl, hO10, hA10, hK10⟩
              have hU10 := Lib.hid (hU9.out.step hA10 hK10)
              replace hO10 := Lib.hid hO10
              clear hA10 hK10 hU9 y1 y2
              as_aux_lemma =>
                go_wp2_with fail
                go_at_call 31
                refine (hU10.out.tw.b.list 0 hM0.out).mono ?_
                rintro e w11 ⟨v11, rfl, hO11, _, hb11⟩
                have hE := entries_any _ _ _ _ w11 (hO10.out.later hb11).is hO11.is hl2.out hl2.out
                rw [eqLs_t] at hE
                replace hE := Lib.hid hE
                have hU11 := Lib.hid (hU10.out.later hb11)
                clear hO10 hO11 hU10 hb11
                as_aux_lemma =>
                  go_wp2_with fail
                  go_at_call 37
                  refine hE.out.mono ?_
                  rintro e w12 ⟨rfl, hb12⟩
                  have hU12 := Lib.hid (hU11.out.later hb12)
                  obtain ⟨y1, y2⟩ := hU12.out.c1
                  obtain ⟨y3, y4⟩ := hU12.out.c2
                  obtain ⟨o, ho⟩ : ∃ o, Bal.ordV yr ym xr xm = o := ⟨_, rfl⟩
                  have hOr := Bal.order_any yr ym xr xm w12
                  rw [ho] at hOr
                  replace hOr := Lib.hid hOr
                  replace ho := Lib.hid ho
                  clear hU11 hb12 hE
                  as_aux_lemma =>
                    go_wp2_with fail
                    go_at_call 34
                    refine hOr.out.mono ?_
                    rintro e w13 ⟨rfl, hb13⟩
                    have hU13 := Lib.hid (hU12.out.later hb13)
                    clear y1 y2 y3 y4 hOr hU12 hb13
                    obtain ⟨y1, y2⟩ := hU13.out.c1
                    obtain ⟨y3, y4⟩ := hU13.out.c2
                    by_cases hlt : o < 0
                    · have hltb : decide (o < 0) = true := by simpa using hlt
                      have hd5 := pro_less (s := ⟨sn, xr, xm, sB, sM⟩) (show Bal.ordV yr ym (St.r ⟨sn, xr, xm, sB, sM⟩) (St.m ⟨sn, xr, xm, sB, sM⟩) < 0 by rw [ho.out]; exact hlt) 0
                      have hd6 := acc_less (s := ⟨sn, xr, xm, sB, sM⟩) (show Bal.ordV yr ym (St.r ⟨sn, xr, xm, sB, sM⟩) (St.m ⟨sn, xr, xm, sB, sM⟩) < 0 by rw [ho.out]; exact hlt) (u : Nat) vv
                      have hp5 := pro_no hd5
                      have hp6 : accS ⟨sn, xr, xm, sB, sM⟩ yr ym (u : Nat) vv = ⟨sn, xr, xm, sB, sM⟩ := if_neg hd6
                      obtain ⟨c5, h5⟩ : ∃ c, proE ⟨sn, xr, xm, sB, sM⟩ yr ym 0 = c := ⟨_, rfl⟩
                      obtain ⟨c6, h6⟩ : ∃ c, accE ⟨sn, xr, xm, sB, sM⟩ yr ym (u : Nat) vv = c := ⟨_, rfl⟩
                      have hPr3 := Lib.hid (hU13.out.tw.a.promise yr ym 0 h5 hp5.1 hp5.2)
                      have n5 : (c5 == 0) = false := by rw [h5] at hd5; simpa using hd5
                      have n6 : (c6 == 0) = false := by rw [h6] at hd6; simpa using hd6
                      replace h6 := Lib.hid h6
                      replace hp6 := Lib.hid hp6
                      clear hd5 hd6 hp5 h5 hlt
                      as_aux_lemma =>
                        go_wp2_with fail
                        go_at_call 16
                        refine hPr3.out.mono ?_
                        rintro e w14 ⟨v14, rfl, _, hA14, hK14⟩
                        have hU14 := Lib.hid (hU13.out.step hA14 hK14)
                        clear hA14 hK14 hU13 hPr3 y1 y2 y3 y4
                        obtain ⟨y3, y4⟩ := hU14.out.c2
                        have hAc3 := Lib.hid (hU14.out.tw.a.accept yr ym (u : Nat) vv h6.out hp6.out)
                        as_aux_lemma =>
                          go_wp2_with fail
                          go_at_call 19
                          refine hAc3.out.mono ?_
                          rintro e w15 ⟨rfl, hA15, hK15⟩
                          have hU15 := Lib.hid ((hU14.out.step hA15 hK15).later (Below.refl _ _).drew)
                          have hS15 := hU15.out.c1
                          clear hA15 hK15 hU14 hAc3 y3 y4 h6 hp6
                          as_aux_lemma =>
                            go_wp2
                            go_region_held3 (fun W => W.cell? ⟨q, 0, none⟩ = some (.int .i64 xr) ∧ W.cell? ⟨q, 1, none⟩ = some (.int .i64 xm))
                              (first | exact hS15 | exact hS16 | assumption)
                              (first | (go_at_call 27; refine hU15.out.tw.a.promised.mono ?_; rintro e w16 ⟨rfl, _, hb16⟩; have hU16 := Lib.hid (hU15.out.later hb16); have hS16 := hU16.out.c1))
                            obtain ⟨y1, y2⟩ := hS16
                            clear hS15 hU15 hb16
                            have hAc := Lib.hid (hU16.out.tw.a.accept xr xm (u : Nat) vv (acc_same hg.out hu0 hu1) rfl)
                            clear hPr2
                            as_aux_lemma =>
                              go_wp2_with fail
                              go_at_call 19
                              by_cases hub : ((u : Nat) : Int) < sB
                              · have ha1 : (if ((u : Nat) : Int) < sB then (3 : Int) else 0) = 3 := if_pos hub
                                have ha2 : accS ⟨sn, xr, xm, sB, sM⟩ xr xm (u : Nat) vv = ⟨sn, xr, xm, sB, sM⟩ := by
                                  unfold accS
                                  rw [acc_same hg.out hu0 hu1, ha1]
                                  rfl
                                rw [ha1, ha2] at hAc
                                have hubb : decide (((u : Nat) : Int) < sB) = true := by simpa using hub
                                clear ha1 ha2
                                refine hAc.out.mono ?_
                                rintro e w20 ⟨rfl, hA20, hK20⟩
                                have hU20 := Lib.hid (hU16.out.step hA20 hK20)
                                clear hA20 hK20 hAc y1 y2
                                as_aux_lemma =>
                                  go_wp2_with fail
                                  go_at_call 29
                                  refine hU20.out.tw.a.base.mono ?_
                                  rintro e w21 ⟨rfl, rfl⟩
                                  have hbl := Lib.hid hU20.out.tw.a.bel
                                  clear hU20
                                  as_aux_lemma =>
                                    go_wp2_with (go_at_call 13; refine (HW.out _).mono ?_; rintro e w22 ⟨rfl, hb⟩)
                                    go_ret
                                    exact ⟨rfl, below2 (below2 hb2.out hbl.out) hb⟩
                              · have ha1 : (if ((u : Nat) : Int) < sB then (3 : Int) else 0) = 0 := if_neg hub
                                have ha2 : accS ⟨sn, xr, xm, sB, sM⟩ xr xm (u : Nat) vv = ⟨sn, xr, xm, sB, putM sM ⟨(u : Nat), xr, xm, vv⟩⟩ := by
                                  unfold accS
                                  rw [acc_same hg.out hu0 hu1, ha1]
                                  rfl
                                rw [ha1, ha2] at hAc
                                have hubb : decide (((u : Nat) : Int) < sB) = false := by simpa using hub
                                have hgt : Hid (getM (putM sM ⟨(u : Nat), xr, xm, vv⟩) (u : Nat) = some ⟨(u : Nat), xr, xm, vv⟩) := Lib.hid (by rw [get_put hsrt.out]; exact if_pos rfl)
                                have huw : Hid ((Lit.int .i64 ((u : Nat) : Int)).wf = true) := Lib.hid (wf64 (by omega) (by omega))
                                clear ha1 ha2
                                refine hAc.out.mono ?_
                                rintro e w20 ⟨rfl, hA20, hK20⟩
                                have hU20 := Lib.hid (hU16.out.step hA20 hK20)
                                clear hA20 hK20 hAc y1 y2
                                as_aux_lemma =>
                                  go_wp2_with fail
                                  go_at_call 29
                                  refine hU20.out.tw.a.base.mono ?_
                                  rintro e w21 ⟨rfl, rfl⟩
                                  as_aux_lemma =>
                                    go_wp2_with fail
                                    go_at_call 25
                                    refine (hU20.out.tw.a.accepted (u : Nat) huw.out hgt.out).mono ?_
                                    rintro e w22 ⟨rfl, _, hb22⟩
                                    have hU22 := hU20.out.later hb22
                                    have hU23 := hU22.later (alloc_b w22 (.cells #[.int .i64 (u : Nat), .int .i64 xr, .int .i64 xm, .string vv] TE))
                                    obtain ⟨y1, y2⟩ := hU23.c1
                                    have hbl := Lib.hid hU23.tw.a.bel
                                    have hqe := fun W => (eq_e ⟨(u : Nat), xr, xm, vv⟩ ⟨(u : Nat), xr, xm, vv⟩ W).trans (by rw [eqE_t])
                                    clear hU20 hU22 hU23 hb22 hgt huw
                                    as_aux_lemma =>
                                      go_wp2_with (go_at_call 13; refine (HW.out _).mono ?_; rintro e w23 ⟨rfl, hb⟩)
                                      go_ret
                                      exact ⟨rfl, below2 (below2 hb2.out hbl.out) hb⟩
                    · have hltb : decide (o < 0) = false := by simpa using hlt
                      clear y3 y4
                      have hAc := Lib.hid (hU13.out.tw.a.accept xr xm (u : Nat) vv (acc_same hg.out hu0 hu1) rfl)
                      clear hPr2
                      as_aux_lemma =>
                        go_wp2_with fail
                        go_at_call 19
                        by_cases hub : ((u : Nat) : Int) < sB
                        · have ha1 : (if ((u : Nat) : Int) < sB then (3 : Int) else 0) = 3 := if_pos hub
                          have ha2 : accS ⟨sn, xr, xm, sB, sM⟩ xr xm (u : Nat) vv = ⟨sn, xr, xm, sB, sM⟩ := by
                            unfold accS
                            rw [acc_same hg.out hu0 hu1, ha1]
                            rfl
                          rw [ha1, ha2] at hAc
                          have hubb : decide (((u : Nat) : Int) < sB) = true := by simpa using hub
                          clear ha1 ha2
                          refine hAc.out.mono ?_
                          rintro e w20 ⟨rfl, hA20, hK20⟩
                          have hU20 := Lib.hid (hU13.out.step hA20 hK20)
                          clear hA20 hK20 hAc y1 y2
                          as_aux_lemma =>
                            go_wp2_with fail
                            go_at_call 29
                            refine hU20.out.tw.a.base.mono ?_
                            rintro e w21 ⟨rfl, rfl⟩
                            have hbl := Lib.hid hU20.out.tw.a.bel
                            clear hU20
                            as_aux_lemma =>
                              go_wp2_with (go_at_call 13; refine (HW.out _).mono ?_; rintro e w22 ⟨rfl, hb⟩)
                              go_ret
                              exact ⟨rfl, below2 (below2 hb2.out hbl.out) hb⟩
                        · have ha1 : (if ((u : Nat) : Int) < sB then (3 : Int) else 0) = 0 := if_neg hub
                          have ha2 : accS ⟨sn, xr, xm, sB, sM⟩ xr xm (u : Nat) vv = ⟨sn, xr, xm, sB, putM sM ⟨(u : Nat), xr, xm, vv⟩⟩ := by
                            unfold accS
                            rw [acc_same hg.out hu0 hu1, ha1]
                            rfl
                          rw [ha1, ha2] at hAc
                          have hubb : decide (((u : Nat) : Int) < sB) = false := by simpa using hub
                          have hgt : Hid (getM (putM sM ⟨(u : Nat), xr, xm, vv⟩) (u : Nat) = some ⟨(u : Nat), xr, xm, vv⟩) := Lib.hid (by rw [get_put hsrt.out]; exact if_pos rfl)
                          have huw : Hid ((Lit.int .i64 ((u : Nat) : Int)).wf = true) := Lib.hid (wf64 (by omega) (by omega))
                          clear ha1 ha2
                          refine hAc.out.mono ?_
                          rintro e w20 ⟨rfl, hA20, hK20⟩
                          have hU20 := Lib.hid (hU13.out.step hA20 hK20)
                          clear hA20 hK20 hAc y1 y2
                          as_aux_lemma =>
                            go_wp2_with fail
                            go_at_call 29
                            refine hU20.out.tw.a.base.mono ?_
                            rintro e w21 ⟨rfl, rfl⟩
                            as_aux_lemma =>
                              go_wp2_with fail
                              go_at_call 25
                              refine (hU20.out.tw.a.accepted (u : Nat) huw.out hgt.out).mono ?_
                              rintro e w22 ⟨rfl, _, hb22⟩
                              have hU22 := hU20.out.later hb22
                              have hU23 := hU22.later (alloc_b w22 (.cells #[.int .i64 (u : Nat), .int .i64 xr, .int .i64 xm, .string vv] TE))
                              obtain ⟨y1, y2⟩ := hU23.c1
                              have hbl := Lib.hid hU23.tw.a.bel
                              have hqe := fun W => (eq_e ⟨(u : Nat), xr, xm, vv⟩ ⟨(u : Nat), xr, xm, vv⟩ W).trans (by rw [eqE_t])
                              clear hU20 hU22 hU23 hb22 hgt huw
                              as_aux_lemma =>
                                go_wp2_with (go_at_call 13; refine (HW.out _).mono ?_; rintro e w23 ⟨rfl, hb⟩)
                                go_ret
                                exact ⟨rfl, below2 (below2 hb2.out hbl.out) hb⟩
      · obtain ⟨ec, hec⟩ : ∃ c, proE s xr xm (u : Nat) = c := ⟨_, rfl⟩
        obtain ⟨e1, e2⟩ := pro_no hc
        have hcb : (ec == 0) = false := by rw [hec] at hc; simpa using hc
        have hPr := Lib.hid (hTl.tw.a.promise xr xm (u : Nat) hec e1 e2)
        have hTl' := Lib.hid hTl
        clear hTl e1 e2 hc hec hok
        as_aux_lemma =>
          go_wp2_with fail
          go_at_call 16
          refine hPr.out.mono ?_
          rintro e w3 ⟨v, rfl, hO, hA3, hK3⟩
          have hT3 := hTl'.out.step hA3 hK3
          obtain ⟨va, vc, rfl⟩ := rows_form hO
          have hEq := equal_any sa ma sb mb _ _ w3 hT3.tw.a.ax hT3.tw.b.ax
          rw [eqS_self] at hEq
          replace hEq := Lib.hid hEq
          have hbel3 := Lib.hid hT3.tw.a.bel
          clear hT3 hA3 hK3 hO c1 c2 hPr
          as_aux_lemma =>
            go_wp2_with (first
              | (go_at_call 36; refine hEq.out.mono ?_; rintro e w4 ⟨rfl, hb4⟩)
              | (go_at_call 13; refine (HW.out _).mono ?_; rintro e w5 ⟨rfl, hb5⟩))
            go_ret
            exact ⟨rfl, below2 (below2 (below2 hb2.out hbel3.out) hb4) hb5⟩
theorem tells_law (a : Option Addr) (len cap : Nat) (S : Nat → Sp) (xr xm yr ym : Int) (x : Int) (w : World) (h : IsSt w a len cap S) (_ : True) (_ : True) (hx : (Lit.int .u16 x).wf = true) :
    Calls Try.prog 7 #[.slice a len cap, .agg #[.int .i64 xr, .int .i64 xm], .agg #[.int .i64 yr, .int .i64 ym], .int .u16 x] w (Yes w) := by
  have hb := bounds_u16 hx
  obtain ⟨n, rfl⟩ := Int.eq_ofNat_of_zero_le hb.1
  exact tells_any a len cap S xr xm yr ym n w h (by have := hb.2; omega)
end Go.Proofs.Ytdodnejfjpkbcaa.Acc
