/- The walk of AcceptGrows. -/
import Derived.Test.YtolflaeiacbknaaA30
import Derived.Deep.Cut
import Derived.Deep.CutRange
import Derived.Deep.CutBlock
namespace Go.Proofs.Ytolflaeiacbknaa.Acc
open Go.RowKit Go.Maps Go.Lib
open Bal (TB alloc_b)
set_option linter.unusedVariables false
set_option linter.unusedSimpArgs false
set_option maxRecDepth 100000

set_option maxHeartbeats 40000000 in
theorem grows_go (a : Option Addr) (len cap : Nat) (S : Nat → Sp) (w : World) (h : IsSt w a len cap S) (hsh : shortB S len = true) :
    Calls Try.prog 6 #[.slice a len cap] w (Yes w) := by
  have HW := Lib.hid (fun W => works_any W)
  have HS := short_any a len cap S w h
  rw [hsh] at HS
  replace HS := Lib.hid HS
  have hl := short_len hsh
  have hfit := h.fit
  have HN := Lib.hid (new_w 3 (by omega) w w (Below.refl _ _))
  have H := Lib.hid h
  clear h hsh
  go_enter Try.func6, Try.ntmps6
  go_wp2_with fail
  go_at_call 12
  refine HS.out.mono ?_
  rintro e w1 ⟨rfl, rfl⟩
  go_wp2_with fail
  go_at_call 14
  refine HN.out.mono ?_
  rintro e w1 ⟨sa, ma, rfl, hN1, _⟩
  go_wp2
  go_loopw [5] (fun i wr => ∃ k : Nat, k ≤ len ∧ i = .int .i64 k ∧ WAt w sa ma (fillS S k) wr ∧ Bo (fillS S k)) (fun i _ => len - nOf i)
  case atStart => exact ⟨0, Nat.zero_le _, rfl, hN1, fun e he => by cases he⟩
  case round =>
    obtain ⟨k, hk, rfl, hA, hBo⟩ := hrel
    by_cases hlt : k < len
    · -- A STEP
      obtain ⟨b, off, rfl, hc⟩ := H.out.at hA.bel hlt
      have hbw : Hid (∀ W, Below w.heap.size w W → Sc W b (off + k * 5) (S k)) := Lib.hid fun W hW => by
        obtain ⟨b', off', e', hc'⟩ := H.out.at hW hlt
        injection e' with e'
        injection e' with e1 e2
        subst e1 e2
        exact hc'
      have i1 : 0 ≤ (k : Int) := by omega
      have i2 : (k : Int) < (len : Int) := by omega
      have i3 : decide ((k : Int) < (len : Int)) = true := by simpa using i2
      have hok := hA.ax.ok
      obtain ⟨T, hT⟩ : ∃ T, fillS S (k + 1) = T := ⟨_, rfl⟩
      have hst : T = stepS (fillS S k) (S k) := hT.symm
      clear hc hN1
      generalize fillS S k = s at *
      generalize S k = t at *
      obtain ⟨td, tr, tm, tk, tv⟩ := t
      obtain ⟨sn, sr, sm, sB, sM⟩ := s
      have hM0 : Hid (frM sM 0 = sM) := Lib.hid (fr_zero hok)
      have hlen : Hid (sM.length ≤ 4096) := Lib.hid hok.len
      have hwfM : Hid (∀ e, e ∈ sM → (Lit.int .i64 e.s).wf = true) := Lib.hid fun e he => by
        have h1 := hok.ent e he
        have h2 := hok.hb.1
        replace h1 : sB ≤ e.s ∧ e.s < 4096 := ⟨h1.1, h1.2.1⟩
        replace h2 : 0 ≤ sB := h2
        exact wf64 (by omega) (by omega)
      have hGr : Hid (Grow ⟨sn, sr, sm, sB, sM⟩ T) := Lib.hid (by
        rw [hst]
        unfold stepS
        split
        · exact grow_pro hok hBo _ _ _
        · split
          · exact grow_acc hok hBo _ _ _ _
          · split
            · exact grow_for hok hBo _
            · exact grow_id hok hBo)
      replace hT := Lib.hid hT
      replace hst := Lib.hid hst
      have hA' := Lib.hid hA
      clear hA hBo hok
      as_aux_lemma =>
        go_wp2_with fail
        go_at_call 27
        refine hA'.out.promised.mono ?_
        rintro e w3 ⟨rfl, hA3, _⟩
        replace hA3 := Lib.hid hA3
        clear hA'
        as_aux_lemma =>
          go_wp2_with fail
          go_at_call 31
          refine (hA3.out.list 0 hM0.out).mono ?_
          rintro e w4 ⟨v4, rfl, hO4, hA4, _⟩
          obtain ⟨va, vc, rfl⟩ := rows_form hO4
          generalize hn : sM.length = n at *
          replace hn := Lib.hid hn
          replace hO4 := Lib.hid hO4
          replace hA4 := Lib.hid hA4
          generalize w3.heap.size = base at *
          clear hA3
          as_aux_lemma =>
            go_wp2_with fail
            go_at_call 29
            refine hA4.out.base.mono ?_
            rintro e w5 ⟨rfl, rfl⟩
            have hG : Hid (Gw w sa ma ⟨sn, sr, sm, sB, sM⟩ w4.heap.size sr sm base sM (.slice va n vc) (w4.alloc (.cells #[.int .i64 sr, .int .i64 sm] TB))) := Lib.hid ⟨hA4.out.alloc _, heap_alloc_new _ _, hO4.out.later (alloc_b _ _)⟩
            obtain ⟨c0, c1, c2, c3, c4⟩ := hbw.out _ hG.out.a.bel
            clear hO4 hA4 hbw
            generalize hW1 : w4.alloc (.cells #[.int .i64 sr, .int .i64 sm] TB) = W1 at hG c0 c1 c2 c3 c4
            subst hW1
            go_upto_block 2 with fail
            generalize w4.alloc (.cells #[.int .i64 sr, .int .i64 sm] TB) = W1 at *
            generalize w4.heap.size = p at *
            go_cut [] from 28 to 180 (fun W => Gw w sa ma T p sr sm base sM (.slice va n vc) W)
            case first =>
              clear hwfM hGr hT hlen hM0
              by_cases h0 : td = 0
              · subst h0
                have HP := Lib.hid (hG.out.a.drew.promise tr tm tk rfl hst.out.symm rfl)
                have hGd := Lib.hid (hG.out.later (Below.refl _ _).drew)
                clear hst hG
                go_wp2
                go_still_tail 11, (by kernel_rfl)
                change wpList _ _ _ _ _ W1.drew
                go_wp2_with (go_at_call 16; refine HP.out.mono ?_; rintro e w6 ⟨v6, rfl, _, hW6, hK6⟩)
                go_meet
                case rel => exact hGd.out.step hW6 hK6
              · have h0b : (td == 0) = false := by simpa using h0
                by_cases h1 : td = 1
                · subst h1
                  have HP := Lib.hid (hG.out.a.drew.accept tr tm tk tv rfl hst.out.symm)
                  have hGd := Lib.hid (hG.out.later (Below.refl _ _).drew)
                  clear hst hG h0
                  go_wp2
                  go_still_tail 16, (by kernel_rfl)
                  change wpList _ _ _ _ _ W1.drew
                  go_wp2_with (go_at_call 19; refine HP.out.mono ?_; rintro e w6 ⟨rfl, hW6, hK6⟩)
                  go_meet
                  case rel => exact hGd.out.step hW6 hK6
                · have h1b : (td == 1) = false := by simpa using h1
                  by_cases h2 : td = 2
                  · subst h2
                    have HP := Lib.hid (hG.out.a.forget tk rfl hst.out.symm)
                    clear hst h0 h1
                    go_wp2_with (go_at_call 21; refine HP.out.mono ?_; rintro e w6 ⟨rfl, hW6, hK6⟩)
                    go_meet
                    case rel => exact hG.out.step hW6 hK6
                  · have h2b : (td == 2) = false := by simpa using h2
                    have hTs : Hid (T = ⟨sn, sr, sm, sB, sM⟩) := Lib.hid (by rw [hst.out]; unfold stepS; rw [if_neg h0, if_neg h1, if_neg h2])
                    clear hst h0 h1 h2
                    go_wp2
                    go_meet
                    case rel => rw [hTs.out]; exact hG.out
            case rest =>
              clear hG c0 c1 c2 c3 c4 hst
              have hG6 := hcut
              clear hcut
              obtain ⟨tn, tr', tm', tB, tM⟩ := T
              have hGd7 := Lib.hid (hG6.later (Below.refl _ _).drew)
              have hS7 := hGd7.out.cells
              obtain ⟨o, ho⟩ : ∃ o, Bal.ordV tr' tm' sr sm = o := ⟨_, rfl⟩
              have hob : decide (o < 0) = false := by rw [← ho]; exact decide_eq_false hGr.out.up
              have hbb : decide (tB < sB) = false := decide_eq_false (by have h1 := hGr.out.base; replace h1 : sB ≤ tB := h1; omega)
              have hOr := Lib.hid (fun W => order_o ho W)
              clear ho hG6
              as_aux_lemma =>
                go_wp2
                go_region_held3 (fun W => W.cell? ⟨p, 0, none⟩ = some (.int .i64 sr) ∧ W.cell? ⟨p, 1, none⟩ = some (.int .i64 sm))
                  (first | exact hS7 | exact hS8 | exact hS9 | assumption)
                  (first
                    | (have _ := hG9; go_at_call 29; refine hG9.out.a.base.mono ?_; rintro e w10 ⟨rfl, rfl⟩)
                    | (have _ := hG8; go_at_call 34; refine (hOr.out _).mono ?_; rintro e w9 ⟨rfl, hb9⟩; have hG9 := Lib.hid (hG8.out.later hb9); have hS9 := hG9.out.cells)
                    | (go_at_call 27; refine hGd7.out.a.promised.mono ?_; rintro e w8 ⟨rfl, _, hb8⟩; have hG8 := Lib.hid (hGd7.out.later hb8); have hS8 := hG8.out.cells))
                clear hS7 hS8 hS9 hG8 hGd7 hOr hb8 hb9
                as_aux_lemma =>
                  go_wp2
                  go_loopw [9] (fun i wr' => ∃ j : Nat, j ≤ n ∧ i = .int .i64 j ∧ Gw w sa ma ⟨tn, tr', tm', tB, tM⟩ p sr sm base sM (.slice va n vc) wr') (fun i _ => n - nOf i)
                  case atStart => exact ⟨0, Nat.zero_le _, rfl, hG9.out⟩
                  case round =>
                    obtain ⟨j, hj, rfl, hGj⟩ := hrel
                    by_cases hjn : j < n
                    · -- AN ENTRY FROM BEFORE
                      obtain ⟨e, he⟩ : ∃ e, sM[j]? = some e := ⟨_, List.getElem?_eq_getElem (by have := hn.out; omega)⟩
                      have hmem := List.mem_of_getElem? he
                      obtain ⟨g, gcap, hv, _, hg, hcell⟩ := hGj.own.cells (by have := hn.out; omega)
                      injection hv with hv hv2 hv3
                      subst hv
                      clear hv2 hv3
                      obtain ⟨m0, m1, m2, m3⟩ := hcell j e he
                      have hwf := Lib.hid (hwfM.out e hmem)
                      have hgone := Lib.hid (hGr.out.gone e hmem)
                      have hthere := Lib.hid (hGr.out.there e hmem)
                      obtain ⟨es, er, em, ev⟩ := e
                      have q1 : 0 ≤ (j : Int) := by omega
                      have q2 : (j : Int) < (n : Int) := by omega
                      have q3 : decide ((j : Int) < (n : Int)) = true := by simpa using q2
                      have hnl := hlen.out
                      replace hGj := Lib.hid hGj
                      clear hcell he hmem hG9 m3
                      by_cases hlow : es < tB
                      · have hlowb : decide (es < tB) = true := by simpa using hlow
                        have hAd := Lib.hid (hGj.out.a.accepted es hwf.out (hgone.out hlow))
                        clear hgone hthere
                        as_aux_lemma =>
                          go_wp2_with fail
                          go_at_call 25
                          refine hAd.out.mono ?_
                          rintro e w11 ⟨rfl, _, hb11⟩
                          have hbt := (below2 hb11 (alloc_b w11 (.cells #[.int .i64 0, .int .i64 0, .int .i64 0, .string ⟨#[]⟩] TE))).drew
                          have hG12 := Lib.hid (hGj.out.later hbt)
                          have n0 := (hbt.cell (p := ⟨g, j * 4, none⟩) hg).trans m0
                          clear hb11 hGj m0 m1 m2 hAd hbt
                          as_aux_lemma =>
                            go_wp2
                            go_region_held3 (fun W => W.cell? ⟨g, j * 4, none⟩ = some (.int .i64 es))
                              (first | exact n0 | assumption)
                              (first | (go_at_call 29; refine hG12.out.a.base.mono ?_; rintro e w12 ⟨rfl, rfl⟩))
                            go_wp2
                            go_roundw
                            case rel => exact ⟨j + 1, by omega, by go_num, hG12.out⟩
                            case measure => simp [nOf]; omega
                      · have hlowb : decide (es < tB) = false := by simpa using hlow
                        obtain ⟨⟨fs, fr, fm, fv⟩, hge, hno⟩ := hthere.out hlow
                        have hAd := Lib.hid (hGj.out.a.accepted es hwf.out hge)
                        obtain ⟨o2, ho2⟩ : ∃ o, Bal.ordV fr fm er em = o := ⟨_, rfl⟩
                        have ho2b : decide (o2 < 0) = false := by rw [← ho2]; exact decide_eq_false hno
                        have hOr2 := Lib.hid (fun W => order_o ho2 W)
                        clear hgone hthere hno ho2 hge
                        as_aux_lemma =>
                          go_wp2_with fail
                          go_at_call 25
                          refine hAd.out.mono ?_
                          rintro e w11 ⟨rfl, _, hb11⟩
                          have hbt := (below2 hb11 (alloc_b w11 (.cells #[.int .i64 fs, .int .i64 fr, .int .i64 fm, .string fv] TE))).drew
                          have hG12 := Lib.hid (hGj.out.later hbt)
                          have n0 := (hbt.cell (p := ⟨g, j * 4, none⟩) hg).trans m0
                          have n1 := (hbt.cell (p := ⟨g, j * 4 + 1, none⟩) hg).trans m1
                          have n2 := (hbt.cell (p := ⟨g, j * 4 + 2, none⟩) hg).trans m2
                          have hbx := heap_alloc_new w11 (.cells #[.int .i64 fs, .int .i64 fr, .int .i64 fm, .string fv] TE)
                          change (w11.alloc (.cells #[.int .i64 fs, .int .i64 fr, .int .i64 fm, .string fv] TE)).drew.heap[w11.heap.size]? = _ at hbx
                          have x1 := cell_of_row _ _ 1 _ TE _ hbx
                          have x2 := cell_of_row _ _ 2 _ TE _ hbx
                          have hgl := Nat.lt_of_lt_of_le hg hbt.size
                          clear hb11 hGj m0 m1 m2 hAd hbt hbx
                          as_aux_lemma =>
                            go_wp2
                            go_region_held3 (fun W => W.cell? ⟨g, j * 4, none⟩ = some (.int .i64 es))
                              (first | exact n0 | assumption)
                              (first | (go_at_call 29; refine hG12.out.a.base.mono ?_; rintro e w12 ⟨rfl, rfl⟩))
                            have hxl : w11.heap.size < (w11.alloc (.cells #[.int .i64 fs, .int .i64 fr, .int .i64 fm, .string fv] TE)).drew.heap.size := World.block_lt_of_cell? _ _ x1
                            generalize (w11.alloc (.cells #[.int .i64 fs, .int .i64 fr, .int .i64 fm, .string fv] TE)).drew = w13 at *
                            generalize w11.heap.size = bx at *
                            have hS13 : w13.drew.cell? ⟨bx, 1, none⟩ = some (.int .i64 fr) ∧ w13.drew.cell? ⟨bx, 2, none⟩ = some (.int .i64 fm) ∧ w13.drew.cell? ⟨g, j * 4 + 1, none⟩ = some (.int .i64 er) ∧ w13.drew.cell? ⟨g, j * 4 + 2, none⟩ = some (.int .i64 em) := ⟨x1, x2, n1, n2⟩
                            have hG13 := Lib.hid (hG12.out.later (Below.refl _ _).drew)
                            clear n0 n1 n2 x1 x2 hG12
                            as_aux_lemma =>
                              go_wp2
                              go_region_held3 (fun W => W.cell? ⟨bx, 1, none⟩ = some (.int .i64 fr) ∧ W.cell? ⟨bx, 2, none⟩ = some (.int .i64 fm) ∧ W.cell? ⟨g, j * 4 + 1, none⟩ = some (.int .i64 er) ∧ W.cell? ⟨g, j * 4 + 2, none⟩ = some (.int .i64 em))
                                (first | exact hS13 | exact hS14 | assumption)
                                (first | (go_at_call 34; refine (hOr2.out _).mono ?_; rintro e w14 ⟨rfl, hb14⟩; have hG14 := Lib.hid (hG13.out.later hb14); have hS14 : w14.cell? ⟨bx, 1, none⟩ = some (.int .i64 fr) ∧ w14.cell? ⟨bx, 2, none⟩ = some (.int .i64 fm) ∧ w14.cell? ⟨g, j * 4 + 1, none⟩ = some (.int .i64 er) ∧ w14.cell? ⟨g, j * 4 + 2, none⟩ = some (.int .i64 em) := ⟨(hb14.cell (p := ⟨bx, 1, none⟩) hxl).trans hS13.1, (hb14.cell (p := ⟨bx, 2, none⟩) hxl).trans hS13.2.1, (hb14.cell (p := ⟨g, j * 4 + 1, none⟩) hgl).trans hS13.2.2.1, (hb14.cell (p := ⟨g, j * 4 + 2, none⟩) hgl).trans hS13.2.2.2⟩))
                              clear hS13 hS14
                              go_wp2
                              go_roundw
                              case rel => exact ⟨j + 1, by omega, by go_num, hG14.out⟩
                              case measure => simp [nOf]; omega
                    · -- BEHIND THE SECOND LOOP
                      have hje : j = n := by omega
                      subst hje
                      have q3 : decide ((j : Int) < (j : Int)) = false := by simp
                      have hokT := hGj.a.ax.ok
                      have hMT : Hid (frM tM 0 = tM) := Lib.hid (fr_zero hokT)
                      have hbo : Hid (∀ e, e ∈ tM → tB ≤ e.s ∧ ¬ 0 < Bal.ordV e.r e.m tr' tm') := Lib.hid fun e he => ⟨(hokT.ent e he).1, hGr.out.bo e he⟩
                      have hsrt : Hid (Srt tM) := Lib.hid hokT.srt
                      have hlenT : Hid (tM.length ≤ 4096) := Lib.hid hokT.len
                      have hAj := Lib.hid hGj.a
                      have hboT : Hid (Bo ⟨tn, tr', tm', tB, tM⟩) := Lib.hid hGr.out.bo
                      clear hGj hokT hG9 hwfM hGr hob hbb
                      as_aux_lemma =>
                        go_wp2_with fail
                        go_at_call 31
                        refine (hAj.out.list 0 hMT.out).mono ?_
                        rintro e w20 ⟨v20, rfl, hO20, hA20, _⟩
                        obtain ⟨ua, uc, rfl⟩ := rows_form hO20
                        generalize hn2 : tM.length = n2 at *
                        replace hn2 := Lib.hid hn2
                        replace hO20 := Lib.hid hO20
                        replace hA20 := Lib.hid hA20
                        clear hAj
                        as_aux_lemma =>
                          go_wp2
                          go_loopw [13] (fun i wr' => ∃ j : Nat, j ≤ n2 ∧ i = .int .i64 j ∧ Below w20.heap.size w20 wr') (fun i _ => n2 - nOf i)
                          case atStart => exact ⟨0, Nat.zero_le _, rfl, Below.refl _ _⟩
                          case round =>
                            obtain ⟨l, hl', rfl, hB⟩ := hrel
                            by_cases hln : l < n2
                            · -- AN ENTRY FROM BEHIND
                              obtain ⟨e, he⟩ : ∃ e, tM[l]? = some e := ⟨_, List.getElem?_eq_getElem (by have := hn2.out; omega)⟩
                              have hmem := List.mem_of_getElem? he
                              obtain ⟨g, gcap, hv, _, hg, hcell⟩ := hO20.out.cells (by have := hn2.out; omega)
                              injection hv with hv hv2 hv3
                              subst hv
                              clear hv2 hv3
                              obtain ⟨m0, m1, m2, m3⟩ := hcell l e he
                              obtain ⟨hb1, hb2⟩ := hbo.out e hmem
                              have q1 : 0 ≤ (l : Int) := by omega
                              have q2 : (l : Int) < (n2 : Int) := by omega
                              have q4 : decide ((l : Int) < (n2 : Int)) = true := by simpa using q2
                              have hnl2 := hlenT.out
                              obtain ⟨es, er, em, ev⟩ := e
                              replace hb1 : tB ≤ es := hb1
                              have hlowb : decide (es < tB) = false := decide_eq_false (by omega)
                              obtain ⟨o3, ho3⟩ : ∃ o, Bal.ordV er em tr' tm' = o := ⟨_, rfl⟩
                              have ho3b : decide (0 < o3) = false := decide_eq_false (by rw [← ho3]; have h := hb2; simp only at h; omega)
                              have hOr3 := Lib.hid (fun W => order_o ho3 W)
                              have hAl := Lib.hid ((hA20.out.later hB).later (Below.refl _ _).drew)
                              have hBd := hB.drew
                              have n0 := (hBd.cell (p := ⟨g, l * 4, none⟩) hg).trans m0
                              have n1 := (hBd.cell (p := ⟨g, l * 4 + 1, none⟩) hg).trans m1
                              have n2' := (hBd.cell (p := ⟨g, l * 4 + 2, none⟩) hg).trans m2
                              have hgr : g < wr.drew.heap.size := Nat.lt_of_lt_of_le hg hBd.size
                              replace hBd := Lib.hid hBd
                              clear hb2 ho3 hbo hB
                              by_cases hl0 : 0 < l
                              · have hl0b : decide (0 < (l : Int)) = true := by simp; omega
                                obtain ⟨jm, hjm⟩ : ∃ jm, jm = l - 1 := ⟨_, rfl⟩
                                obtain ⟨f, hf⟩ : ∃ e, tM[jm]? = some e := ⟨_, List.getElem?_eq_getElem (by have := hn2.out; omega)⟩
                                obtain ⟨k0, _, _, _⟩ := hcell jm f hf
                                have hfs := srt_at hsrt.out hf he (by omega)
                                have n3 := (hBd.out.cell (p := ⟨g, jm * 4, none⟩) hg).trans k0
                                have z1 : IntKind.i64.wrap ((l : Int) - 1) = (jm : Nat) := by rw [IntKind.wrap_i64]; have := hlenT.out; have := hn2.out; omega
                                have z2 : 0 ≤ (jm : Int) := by omega
                                have z3 : (jm : Int) < (n2 : Int) := by omega
                                obtain ⟨fs, fr, fm, fv⟩ := f
                                replace hfs : fs < es := hfs
                                have hleb : decide (es ≤ fs) = false := decide_eq_false (by omega)
                                have hS21 := And.intro n0 (And.intro n1 (And.intro n2' n3))
                                clear hcell he hf hjm k0 m0 m1 m2 m3 n0 n1 n2' n3 hsrt hmem
                                as_aux_lemma =>
                                  go_wp2
                                  go_region_held3 (fun W => W.cell? ⟨g, l * 4, none⟩ = some (.int .i64 es) ∧ W.cell? ⟨g, l * 4 + 1, none⟩ = some (.int .i64 er) ∧ W.cell? ⟨g, l * 4 + 2, none⟩ = some (.int .i64 em) ∧ W.cell? ⟨g, jm * 4, none⟩ = some (.int .i64 fs))
                                    (first | exact hS21 | exact hS22 | exact hS23 | assumption)
                                    (first
                                      | (have _ := hA23; go_at_call 29; refine hA23.out.base.mono ?_; rintro e w24 ⟨rfl, rfl⟩)
                                      | (have _ := hA22; go_at_call 34; refine (hOr3.out _).mono ?_; rintro e w23 ⟨rfl, hb23⟩; have hA23 := Lib.hid (hA22.out.later hb23); have hgr3 := Nat.lt_of_lt_of_le hgr2 hb23.size; have hS23 := And.intro ((hb23.cell (p := ⟨g, l * 4, none⟩) hgr2).trans hS22.1) (And.intro ((hb23.cell (p := ⟨g, l * 4 + 1, none⟩) hgr2).trans hS22.2.1) (And.intro ((hb23.cell (p := ⟨g, l * 4 + 2, none⟩) hgr2).trans hS22.2.2.1) ((hb23.cell (p := ⟨g, jm * 4, none⟩) hgr2).trans hS22.2.2.2))))
                                      | (go_at_call 27; refine hAl.out.promised.mono ?_; rintro e w22 ⟨rfl, hA22, hb22⟩; replace hA22 := Lib.hid hA22; have hgr2 := Nat.lt_of_lt_of_le hgr hb22.size; have hS22 := And.intro ((hb22.cell (p := ⟨g, l * 4, none⟩) hgr).trans hS21.1) (And.intro ((hb22.cell (p := ⟨g, l * 4 + 1, none⟩) hgr).trans hS21.2.1) (And.intro ((hb22.cell (p := ⟨g, l * 4 + 2, none⟩) hgr).trans hS21.2.2.1) ((hb22.cell (p := ⟨g, jm * 4, none⟩) hgr).trans hS21.2.2.2)))))
                                  have hBe := Lib.hid (below2 (below2 hBd.out hb22) hb23)
                                  clear hS21 hS22 hS23 hb22 hb23 hAl hBd
                                  go_wp2
                                  go_roundw
                                  case rel => exact ⟨l + 1, by omega, by go_num, hBe.out⟩
                                  case measure => simp [nOf]; omega
                              · have hl0b : decide (0 < (l : Int)) = false := by simp; omega
                                have hS21 := And.intro n0 (And.intro n1 n2')
                                clear hcell he m0 m1 m2 m3 n0 n1 n2' hsrt hmem
                                as_aux_lemma =>
                                  go_wp2
                                  refine wp_region_held_drew (S := (fun W => W.cell? ⟨g, l * 4, none⟩ = some (.int .i64 es) ∧ W.cell? ⟨g, l * 4 + 1, none⟩ = some (.int .i64 er) ∧ W.cell? ⟨g, l * 4 + 2, none⟩ = some (.int .i64 em))) (by kernel_rfl) (hS21) (fun hS => ?_)
                                  try simp only [List.getElem_toArray, List.getElem_cons_succ, List.getElem_cons_zero, Act.put, List.setIfInBounds_toArray, List.set_cons_zero, List.set_cons_succ]
                                  refine wpAnyH_take (i := 0) (v := (.slice (some ⟨g, 0, none⟩) n2 uc)) rfl (by kernel_rfl) (by kernel_rfl) (by kernel_rfl) (fun _ _ _ h => h) (Or.inl ⟨by kernel_rfl, by intro w' hSw; obtain ⟨s0, s1, s2⟩ := hSw; go_simp⟩) hS ?_
                                  try simp only [List.getElem_toArray, List.getElem_cons_succ, List.getElem_cons_zero, Act.put, List.setIfInBounds_toArray, List.set_cons_zero, List.set_cons_succ]
                                  refine wpAnyH_take (i := 1) (v := (.int .i64 (l : Nat))) rfl (by kernel_rfl) (by kernel_rfl) (by kernel_rfl) (fun _ _ _ h => h) (Or.inl ⟨by kernel_rfl, by intro w' hSw; obtain ⟨s0, s1, s2⟩ := hSw; go_simp⟩) hS ?_
                                  try simp only [List.getElem_toArray, List.getElem_cons_succ, List.getElem_cons_zero, Act.put, List.setIfInBounds_toArray, List.set_cons_zero, List.set_cons_succ]
                                  refine wpAnyH_take (i := 2) (v := (.pointer (some ⟨g, l * 4, none⟩))) rfl (by kernel_rfl) (by kernel_rfl) (by kernel_rfl) (fun _ _ _ h => h) (Or.inl ⟨by kernel_rfl, by intro w' hSw; obtain ⟨s0, s1, s2⟩ := hSw; go_simp⟩) hS ?_
                                  try simp only [List.getElem_toArray, List.getElem_cons_succ, List.getElem_cons_zero, Act.put, List.setIfInBounds_toArray, List.set_cons_zero, List.set_cons_succ]
                                  refine wpAnyH_take (i := 3) (v := (.pointer (some ⟨g, l * 4 + 1, none⟩))) rfl (by kernel_rfl) (by kernel_rfl) (by kernel_rfl) (fun _ _ _ h => h) (Or.inl ⟨by kernel_rfl, by intro w' hSw; obtain ⟨s0, s1, s2⟩ := hSw; go_simp⟩) hS ?_
                                  try simp only [List.getElem_toArray, List.getElem_cons_succ, List.getElem_cons_zero, Act.put, List.setIfInBounds_toArray, List.set_cons_zero, List.set_cons_succ]
                                  refine wpAnyH_take (i := 4) (v := (.agg #[.int .i64 er, .int .i64 em])) rfl (by kernel_rfl) (by kernel_rfl) (by kernel_rfl) (fun _ _ _ h => h) (Or.inl ⟨by kernel_rfl, by intro w' hSw; obtain ⟨s0, s1, s2⟩ := hSw; go_simp⟩) hS ?_
                                  try simp only [List.getElem_toArray, List.getElem_cons_succ, List.getElem_cons_zero, Act.put, List.setIfInBounds_toArray, List.set_cons_zero, List.set_cons_succ]
                                  refine wpAnyH_take (i := 5) (v := (.pointer (some ⟨sa, 0, none⟩))) rfl (by kernel_rfl) (by kernel_rfl) (by kernel_rfl) (fun _ _ _ h => h) (Or.inl ⟨by kernel_rfl, by intro w' hSw; obtain ⟨s0, s1, s2⟩ := hSw; go_simp⟩) hS ?_
                                  try simp only [List.getElem_toArray, List.getElem_cons_succ, List.getElem_cons_zero, Act.put, List.setIfInBounds_toArray, List.set_cons_zero, List.set_cons_succ]
                                  refine wpAnyH_ready (rs := [6]) (by kernel_rfl) (by simp) ?_
                                  refine AllReadyH.cons rfl (fun K hK => ?_) AllReadyH.nil
                                  go_simp
                                  go_at_call 27
                                  refine (hAl.out.promised).mono ?_
                                  rintro e w22 ⟨rfl, hA22, hb22⟩
                                  replace hA22 := Lib.hid hA22
                                  have hgr2 := Nat.lt_of_lt_of_le hgr hb22.size
                                  have hS22 := And.intro ((hb22.cell (p := ⟨g, l * 4, none⟩) hgr).trans hS21.1) (And.intro ((hb22.cell (p := ⟨g, l * 4 + 1, none⟩) hgr).trans hS21.2.1) ((hb22.cell (p := ⟨g, l * 4 + 2, none⟩) hgr).trans hS21.2.2))
                                  refine hK.out _ _ (hS22) (fun hS => ?_)
                                  clear hK K
                                  try simp only [List.getElem_toArray, List.getElem_cons_succ, List.getElem_cons_zero, Act.put, List.setIfInBounds_toArray, List.set_cons_zero, List.set_cons_succ]
                                  refine wpAnyH_ready (rs := [7]) (by kernel_rfl) (by simp) ?_
                                  refine AllReadyH.cons rfl (fun K hK => ?_) AllReadyH.nil
                                  go_simp
                                  go_at_call 34
                                  refine (hOr3.out _).mono ?_
                                  rintro e w23 ⟨rfl, hb23⟩
                                  have hA23 := Lib.hid (hA22.out.later hb23)
                                  have hS23 := And.intro ((hb23.cell (p := ⟨g, l * 4, none⟩) hgr2).trans hS22.1) (And.intro ((hb23.cell (p := ⟨g, l * 4 + 1, none⟩) hgr2).trans hS22.2.1) ((hb23.cell (p := ⟨g, l * 4 + 2, none⟩) hgr2).trans hS22.2.2))
                                  refine hK.out _ _ (hS23) (fun hS => ?_)
                                  clear hK K
                                  try simp only [List.getElem_toArray, List.getElem_cons_succ, List.getElem_cons_zero, Act.put, List.setIfInBounds_toArray, List.set_cons_zero, List.set_cons_succ]
                                  refine wpAnyH_take (i := 8) (v := (.bool false)) rfl (by kernel_rfl) (by kernel_rfl) (by kernel_rfl) (fun _ _ _ h => h) (Or.inl ⟨by kernel_rfl, by intro w' hSw; obtain ⟨s0, s1, s2⟩ := hSw; go_simp⟩) hS ?_
                                  try simp only [List.getElem_toArray, List.getElem_cons_succ, List.getElem_cons_zero, Act.put, List.setIfInBounds_toArray, List.set_cons_zero, List.set_cons_succ]
                                  refine wpAnyH_take (i := 9) (v := (.bool false)) rfl (by kernel_rfl) (by kernel_rfl) (by kernel_rfl) (fun _ _ _ h => h) (Or.inl ⟨by kernel_rfl, by intro w' hSw; obtain ⟨s0, s1, s2⟩ := hSw; go_simp⟩) hS ?_
                                  try simp only [List.getElem_toArray, List.getElem_cons_succ, List.getElem_cons_zero, Act.put, List.setIfInBounds_toArray, List.set_cons_zero, List.set_cons_succ]
                                  refine wpAnyH_take (i := 10) (v := (.slice (some ⟨g, 0, none⟩) n2 uc)) rfl (by kernel_rfl) (by kernel_rfl) (by kernel_rfl) (fun _ _ _ h => h) (Or.inl ⟨by kernel_rfl, by intro w' hSw; obtain ⟨s0, s1, s2⟩ := hSw; go_simp⟩) hS ?_
                                  try simp only [List.getElem_toArray, List.getElem_cons_succ, List.getElem_cons_zero, Act.put, List.setIfInBounds_toArray, List.set_cons_zero, List.set_cons_succ]
                                  refine wpAnyH_take (i := 11) (v := (.int .i64 (l : Nat))) rfl (by kernel_rfl) (by kernel_rfl) (by kernel_rfl) (fun _ _ _ h => h) (Or.inl ⟨by kernel_rfl, by intro w' hSw; obtain ⟨s0, s1, s2⟩ := hSw; go_simp⟩) hS ?_
                                  try simp only [List.getElem_toArray, List.getElem_cons_succ, List.getElem_cons_zero, Act.put, List.setIfInBounds_toArray, List.set_cons_zero, List.set_cons_succ]
                                  refine wpAnyH_take (i := 12) (v := (.pointer (some ⟨g, l * 4, none⟩))) rfl (by kernel_rfl) (by kernel_rfl) (by kernel_rfl) (fun _ _ _ h => h) (Or.inl ⟨by kernel_rfl, by intro w' hSw; obtain ⟨s0, s1, s2⟩ := hSw; go_simp⟩) hS ?_
                                  try simp only [List.getElem_toArray, List.getElem_cons_succ, List.getElem_cons_zero, Act.put, List.setIfInBounds_toArray, List.set_cons_zero, List.set_cons_succ]
                                  refine wpAnyH_take (i := 13) (v := (.pointer (some ⟨g, l * 4, none⟩))) rfl (by kernel_rfl) (by kernel_rfl) (by kernel_rfl) (fun _ _ _ h => h) (Or.inl ⟨by kernel_rfl, by intro w' hSw; obtain ⟨s0, s1, s2⟩ := hSw; go_simp⟩) hS ?_
                                  try simp only [List.getElem_toArray, List.getElem_cons_succ, List.getElem_cons_zero, Act.put, List.setIfInBounds_toArray, List.set_cons_zero, List.set_cons_succ]
                                  refine wpAnyH_take (i := 14) (v := (.int .i64 es)) rfl (by kernel_rfl) (by kernel_rfl) (by kernel_rfl) (fun _ _ _ h => h) (Or.inl ⟨by kernel_rfl, by intro w' hSw; obtain ⟨s0, s1, s2⟩ := hSw; go_simp⟩) hS ?_
                                  try simp only [List.getElem_toArray, List.getElem_cons_succ, List.getElem_cons_zero, Act.put, List.setIfInBounds_toArray, List.set_cons_zero, List.set_cons_succ]
                                  refine wpAnyH_take (i := 15) (v := (.pointer (some ⟨sa, 0, none⟩))) rfl (by kernel_rfl) (by kernel_rfl) (by kernel_rfl) (fun _ _ _ h => h) (Or.inl ⟨by kernel_rfl, by intro w' hSw; obtain ⟨s0, s1, s2⟩ := hSw; go_simp⟩) hS ?_
                                  try simp only [List.getElem_toArray, List.getElem_cons_succ, List.getElem_cons_zero, Act.put, List.setIfInBounds_toArray, List.set_cons_zero, List.set_cons_succ]
                                  refine wpAnyH_ready (rs := [16]) (by kernel_rfl) (by simp) ?_
                                  refine AllReadyH.cons rfl (fun K hK => ?_) AllReadyH.nil
                                  go_simp
                                  go_at_call 29
                                  refine (hA23.out.base).mono ?_
                                  rintro e w24 ⟨rfl, rfl⟩
                                  refine hK.out _ _ (hS23) (fun hS => ?_)
                                  clear hK K
                                  try simp only [List.getElem_toArray, List.getElem_cons_succ, List.getElem_cons_zero, Act.put, List.setIfInBounds_toArray, List.set_cons_zero, List.set_cons_succ]
                                  refine wpAnyH_take (i := 17) (v := (.bool false)) rfl (by kernel_rfl) (by kernel_rfl) (by kernel_rfl) (fun _ _ _ h => h) (Or.inl ⟨by kernel_rfl, by intro w' hSw; obtain ⟨s0, s1, s2⟩ := hSw; go_simp⟩) hS ?_
                                  try simp only [List.getElem_toArray, List.getElem_cons_succ, List.getElem_cons_zero, Act.put, List.setIfInBounds_toArray, List.set_cons_zero, List.set_cons_succ]
                                  refine wpAnyH_take (i := 18) (v := (.bool false)) rfl (by kernel_rfl) (by kernel_rfl) (by kernel_rfl) (fun _ _ _ h => h) (Or.inl ⟨by kernel_rfl, by intro w' hSw; obtain ⟨s0, s1, s2⟩ := hSw; go_simp⟩) hS ?_
                                  try simp only [List.getElem_toArray, List.getElem_cons_succ, List.getElem_cons_zero, Act.put, List.setIfInBounds_toArray, List.set_cons_zero, List.set_cons_succ]
                                  refine wpAnyH_take (i := 19) (v := (.bool false)) rfl (by kernel_rfl) (by kernel_rfl) (by kernel_rfl) (fun _ _ _ h => h) (Or.inl ⟨by kernel_rfl, by intro w' hSw; obtain ⟨s0, s1, s2⟩ := hSw; go_simp⟩) hS ?_
                                  try simp only [List.getElem_toArray, List.getElem_cons_succ, List.getElem_cons_zero, Act.put, List.setIfInBounds_toArray, List.set_cons_zero, List.set_cons_succ]
                                  refine wpAnyH_take (i := 20) (v := (.int .i64 (l : Nat))) rfl (by kernel_rfl) (by kernel_rfl) (by kernel_rfl) (fun _ _ _ h => h) (Or.inl ⟨by kernel_rfl, by intro w' hSw; obtain ⟨s0, s1, s2⟩ := hSw; go_simp⟩) hS ?_
                                  try simp only [List.getElem_toArray, List.getElem_cons_succ, List.getElem_cons_zero, Act.put, List.setIfInBounds_toArray, List.set_cons_zero, List.set_cons_succ]
                                  refine wpAnyH_take (i := 21) (v := (.bool false)) rfl (by kernel_rfl) (by kernel_rfl) (by kernel_rfl) (fun _ _ _ h => h) (Or.inl ⟨by kernel_rfl, by intro w' hSw; obtain ⟨s0, s1, s2⟩ := hSw; go_simp⟩) hS ?_
                                  try simp only [List.getElem_toArray, List.getElem_cons_succ, List.getElem_cons_zero, Act.put, List.setIfInBounds_toArray, List.set_cons_zero, List.set_cons_succ]
                                  refine wpAnyH_take (i := 22) (v := (.bool false)) rfl (by kernel_rfl) (by kernel_rfl) (by kernel_rfl) (fun _ _ _ h => h) (Or.inl ⟨by kernel_rfl, by intro w' hSw; obtain ⟨s0, s1, s2⟩ := hSw; go_simp⟩) hS ?_
                                  try simp only [List.getElem_toArray, List.getElem_cons_succ, List.getElem_cons_zero, Act.put, List.setIfInBounds_toArray, List.set_cons_zero, List.set_cons_succ]
                                  refine wpAnyH_take (i := 23) (v := undef) rfl (by kernel_rfl) (by kernel_rfl) (by kernel_rfl) (fun _ _ _ h => h) (Or.inr ⟨by kernel_rfl, rfl⟩) hS ?_
                                  try simp only [List.getElem_toArray, List.getElem_cons_succ, List.getElem_cons_zero, Act.put, List.setIfInBounds_toArray, List.set_cons_zero, List.set_cons_succ]
                                  refine wpAnyH_take (i := 24) (v := undef) rfl (by kernel_rfl) (by kernel_rfl) (by kernel_rfl) (fun _ _ _ h => h) (Or.inr ⟨by kernel_rfl, rfl⟩) hS ?_
                                  try simp only [List.getElem_toArray, List.getElem_cons_succ, List.getElem_cons_zero, Act.put, List.setIfInBounds_toArray, List.set_cons_zero, List.set_cons_succ]
                                  refine wpAnyH_take (i := 25) (v := undef) rfl (by kernel_rfl) (by kernel_rfl) (by kernel_rfl) (fun _ _ _ h => h) (Or.inr ⟨by kernel_rfl, rfl⟩) hS ?_
                                  try simp only [List.getElem_toArray, List.getElem_cons_succ, List.getElem_cons_zero, Act.put, List.setIfInBounds_toArray, List.set_cons_zero, List.set_cons_succ]
                                  refine wpAnyH_take (i := 26) (v := undef) rfl (by kernel_rfl) (by kernel_rfl) (by kernel_rfl) (fun _ _ _ h => h) (Or.inr ⟨by kernel_rfl, rfl⟩) hS ?_
                                  try simp only [List.getElem_toArray, List.getElem_cons_succ, List.getElem_cons_zero, Act.put, List.setIfInBounds_toArray, List.set_cons_zero, List.set_cons_succ]
                                  refine wpAnyH_take (i := 27) (v := undef) rfl (by kernel_rfl) (by kernel_rfl) (by kernel_rfl) (fun _ _ _ h => h) (Or.inr ⟨by kernel_rfl, rfl⟩) hS ?_
                                  try simp only [List.getElem_toArray, List.getElem_cons_succ, List.getElem_cons_zero, Act.put, List.setIfInBounds_toArray, List.set_cons_zero, List.set_cons_succ]
                                  refine wpAnyH_take (i := 28) (v := undef) rfl (by kernel_rfl) (by kernel_rfl) (by kernel_rfl) (fun _ _ _ h => h) (Or.inr ⟨by kernel_rfl, rfl⟩) hS ?_
                                  try simp only [List.getElem_toArray, List.getElem_cons_succ, List.getElem_cons_zero, Act.put, List.setIfInBounds_toArray, List.set_cons_zero, List.set_cons_succ]
                                  refine wpAnyH_take (i := 29) (v := undef) rfl (by kernel_rfl) (by kernel_rfl) (by kernel_rfl) (fun _ _ _ h => h) (Or.inr ⟨by kernel_rfl, rfl⟩) hS ?_
                                  try simp only [List.getElem_toArray, List.getElem_cons_succ, List.getElem_cons_zero, Act.put, List.setIfInBounds_toArray, List.set_cons_zero, List.set_cons_succ]
                                  refine wpAnyH_take (i := 30) (v := undef) rfl (by kernel_rfl) (by kernel_rfl) (by kernel_rfl) (fun _ _ _ h => h) (Or.inr ⟨by kernel_rfl, rfl⟩) hS ?_
                                  try simp only [List.getElem_toArray, List.getElem_cons_succ, List.getElem_cons_zero, Act.put, List.setIfInBounds_toArray, List.set_cons_zero, List.set_cons_succ]
                                  refine wpAnyH_take (i := 31) (v := undef) rfl (by kernel_rfl) (by kernel_rfl) (by kernel_rfl) (fun _ _ _ h => h) (Or.inr ⟨by kernel_rfl, rfl⟩) hS ?_
                                  try simp only [List.getElem_toArray, List.getElem_cons_succ, List.getElem_cons_zero, Act.put, List.setIfInBounds_toArray, List.set_cons_zero, List.set_cons_succ]
                                  refine wpAnyH_take (i := 32) (v := undef) rfl (by kernel_rfl) (by kernel_rfl) (by kernel_rfl) (fun _ _ _ h => h) (Or.inr ⟨by kernel_rfl, rfl⟩) hS ?_
                                  try simp only [List.getElem_toArray, List.getElem_cons_succ, List.getElem_cons_zero, Act.put, List.setIfInBounds_toArray, List.set_cons_zero, List.set_cons_succ]
                                  refine wpAnyH_take (i := 33) (v := undef) rfl (by kernel_rfl) (by kernel_rfl) (by kernel_rfl) (fun _ _ _ h => h) (Or.inr ⟨by kernel_rfl, rfl⟩) hS ?_
                                  try simp only [List.getElem_toArray, List.getElem_cons_succ, List.getElem_cons_zero, Act.put, List.setIfInBounds_toArray, List.set_cons_zero, List.set_cons_succ]
                                  refine wpAnyH_take (i := 34) (v := undef) rfl (by kernel_rfl) (by kernel_rfl) (by kernel_rfl) (fun _ _ _ h => h) (Or.inr ⟨by kernel_rfl, rfl⟩) hS ?_
                                  try simp only [List.getElem_toArray, List.getElem_cons_succ, List.getElem_cons_zero, Act.put, List.setIfInBounds_toArray, List.set_cons_zero, List.set_cons_succ]
                                  refine wpAnyH_take (i := 35) (v := (.bool false)) rfl (by kernel_rfl) (by kernel_rfl) (by kernel_rfl) (fun _ _ _ h => h) (Or.inl ⟨by kernel_rfl, by intro w' hSw; obtain ⟨s0, s1, s2⟩ := hSw; go_simp⟩) hS ?_
                                  try simp only [List.getElem_toArray, List.getElem_cons_succ, List.getElem_cons_zero, Act.put, List.setIfInBounds_toArray, List.set_cons_zero, List.set_cons_succ]
                                  refine wpAnyH_take (i := 36) (v := (.bool false)) rfl (by kernel_rfl) (by kernel_rfl) (by kernel_rfl) (fun _ _ _ h => h) (Or.inl ⟨by kernel_rfl, by intro w' hSw; obtain ⟨s0, s1, s2⟩ := hSw; go_simp⟩) hS ?_
                                  try simp only [List.getElem_toArray, List.getElem_cons_succ, List.getElem_cons_zero, Act.put, List.setIfInBounds_toArray, List.set_cons_zero, List.set_cons_succ]
                                  refine wpAnyH_done (by kernel_rfl) ?_ _
                                  clear hS
                                  have hBe := Lib.hid (below2 (below2 hBd.out hb22) hb23)
                                  clear hS21 hS22 hS23 hb22 hb23 hAl hBd
                                  go_wp2
                                  go_roundw
                                  case rel => exact ⟨l + 1, by omega, by go_num, hBe.out⟩
                                  case measure => simp [nOf]; omega
                            · -- THE ROUND'S END
                              have hle : l = n2 := by omega
                              subst hle
                              have q4 : decide ((l : Int) < (l : Int)) = false := by simp
                              have hAe := Lib.hid (hA20.out.later hB)
                              clear hB hO20 hA20 hbo hsrt
                              as_aux_lemma =>
                                go_wp2
                                go_roundw
                                case rel => exact ⟨k + 1, by omega, by go_num, by rw [hT.out]; exact hAe.out, by rw [hT.out]; exact hboT.out⟩
                                case measure => simp [nOf]; omega
    · -- THE END
      have hke : k = len := by omega
      subst hke
      have i3 : decide ((k : Int) < (k : Int)) = false := by simp
      have hbel := Lib.hid hA.bel
      clear hA hBo hN1
      as_aux_lemma =>
        go_wp2_with (go_at_call 13; refine (HW.out _).mono ?_; rintro e w30 ⟨rfl, hb⟩)
        go_ret
        exact ⟨rfl, below2 hbel.out hb⟩
theorem grows_law (a : Option Addr) (len cap : Nat) (S : Nat → Sp) (w : World) (h : IsSt w a len cap S) :
    Calls Try.prog 6 #[.slice a len cap] w (Yes w) := by
  cases hsh : shortB S len with
  | true => exact grows_go a len cap S w h hsh
  | false =>
    have HW := Lib.hid (fun W => works_any W)
    have HS := short_any a len cap S w h
    rw [hsh] at HS
    replace HS := Lib.hid HS
    clear h
    go_enter Try.func6, Try.ntmps6
    go_wp2_with (first
      | (go_at_call 12; refine HS.out.mono ?_; rintro e w1 ⟨rfl, rfl⟩)
      | (go_at_call 13; refine (HW.out _).mono ?_; rintro e w1 ⟨rfl, hb⟩))
    go_ret
    exact ⟨rfl, hb⟩
end Go.Proofs.Ytolflaeiacbknaa.Acc
