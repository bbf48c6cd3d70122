/- DiskTorn. -/
import Derived.Test.YtojeccmnhgcmcaaDoorH13
namespace Go.Proofs.YtojeccmnhgcmcaaDoor.Dsk
open Go.RowKit Go.ChangeShapes Go.WideShapes _root_.Go.Proofs.YtojeccmnhgcmcaaDoor.Frame
open _root_.Go.Proofs.YtojeccmnhgcmcaaDoor.Crc (Hv more more_lt ret_u32)
set_option linter.unusedVariables false
set_option linter.unusedSimpArgs false
set_option maxRecDepth 100000

set_option maxHeartbeats 8000000 in
theorem torn_law (a : Option Addr) (len cap : Nat) (S : Nat → Sq) (left : Int) (w : World) (h : IsSq w a len cap S) (hlw : (Lit.int .i64 left).wf = true) (hH : Hv w) :
    Calls Tryd.prog 5 #[.slice a len cap, .int .i64 left] w (Yes w) := by
  have hfit := h.fit
  have HS := Lib.hid (short_any h (Below.refl _ _))
  have HW := Lib.hid (works_any w hH)
  have hleft := wf_le hlw
  have HI := Lib.hid h
  have HH := Lib.hid hH
  clear h hH hlw
  go_enter Tryd.func5, Tryd.ntmps5
  go_wp2_with fail
  refine HS.out.mono ?_
  rintro e W3 ⟨b, rfl, hsh, rfl⟩
  cases b with
  | false =>
    clear hsh
    go_wp2_with (go_at_call 12; refine HW.out.mono ?_; rintro e W5 ⟨rfl, hb5⟩)
    go_ret
    exact ⟨rfl, hb5⟩
  | true =>
    obtain ⟨hl80, hokc⟩ := hsh rfl
    replace hokc := Lib.hid hokc
    clear hsh
    go_wp2
    go_loopw [5, 6, 7, 8, 9] (fun v s st hs i wr => ∃ k : Nat, k ≤ len ∧ i = .int .i64 k ∧ Acc w S k v s st hs wr) (fun _ _ _ _ i _ => len - nOf i)
    case atStart => exact ⟨0, Nat.zero_le _, rfl, rfl, rfl, rfl, TA.empty ok_new rfl (Below.refl _ _)⟩
    case round =>
      obtain ⟨k, hk, rfl, rfl, rfl, rfl, hT⟩ := hrel
      obtain ⟨va, vc, rfl⟩ := hT.form
      by_cases hlt : k < len
      · obtain ⟨b, off, a', c', rfl, c0, c1, c2, hbs, _⟩ := HI.out.at_ hT.bel k hlt
        have i1 : decide ((k : Int) < (len : Int)) = true := by simp; omega
        have hoc := hokc.out k hlt
        have hwf := wf_le (HI.out.wf k).2.1
        have hr : runS S (k + 1) = stepS (runS S k) (S k) := rfl
        replace hr := Lib.hid hr
        by_cases e0 : (S k).k = 0
        · rw [e0] at c0
          have he := hr.out.trans (step0 (m := runS S k) e0)
          by_cases hcl : 65536 < (S k).c.length
          · rw [app_long hcl] at he
            have d1 : decide (((S k).c.length : Int) ≤ (65536 : Int)) = false := by simp; omega
            have hE : Hid (Acc w S (k + 1) (.slice va (runS S k).L.length vc) (.int .i64 ((runS S k).k : Nat)) (.string (str (runS S k).S)) (.bool (runS S k).h) wr) := Lib.hid (by
              unfold Acc
              rw [he]
              exact ⟨rfl, rfl, rfl, hT.keep hT.ok rfl⟩)
            generalize (S k).c.length = n at *
            clear hT hbs hoc he e0 hr
            as_aux_lemma =>
            go_wp2
            go_roundw
            case rel => exact ⟨k + 1, by omega, by go_num, hE.out⟩
            case measure => simp [nOf]; omega
          · have hc100 : (S k).c.length ≤ 100 := by rcases hoc with h | h <;> omega
            have d1 : decide (((S k).c.length : Int) ≤ (65536 : Int)) = true := by simp; omega
            obtain ⟨xs, hx, hsl⟩ := hT.row
            have hE : Hid (∀ v2 W2, W2.ownsRow w.heap.size TSl 1 v2 ((runS S k).L.length + 1) (xs ++ [.slice a' (S k).c.length c']) → Below w.heap.size w W2 → Acc w S (k + 1) v2 (.int .i64 ((runS S k).k : Nat)) (.string (str (runS S k).S)) (.bool (runS S k).h) W2) := Lib.hid (by
              intro v2 W2 ho hb2
              have h3 := app_k (m := runS S k) (c := (S k).c)
              unfold Acc
              rw [he, h3.1, h3.2.1, h3.2.2]
              exact ⟨rfl, rfl, rfl, hT.app hx hsl hbs hc100 (by omega) ho hb2⟩)
            have hab : Below wr.heap.size wr (wr.alloc (.cells #[.slice a' (S k).c.length c'] TSl)) := (Below.refl _ _).alloc (Nat.le_refl _) _
            have hxa := Lib.hid (rows_later hx hab)
            have hcell : (wr.alloc (.cells #[.slice a' (S k).c.length c'] TSl)).cell? ⟨wr.heap.size, 0, none⟩ = some (.slice a' (S k).c.length c') := cell_of_row _ _ 0 _ _ _ (heap_alloc_new wr _)
            have hba := Lib.hid (hT.bel.trans (hab.mono hT.bel.size))
            have hln := Lib.hid (show (runS S k).L.length ≤ 100000000 from Nat.le_trans (len_le hT.ok) (by decide))
            have hws := Lib.hid hT.bel.size
            generalize (S k).c.length = n at *
            clear hT hbs hoc he e0 hr hx hsl
            as_aux_lemma =>
            go_wp2_with (at_builtin; refine wpList_append_v rfl _ _ rfl w.heap.size _ (runS S k).L.length xs rfl hxa.out wr.heap.size 1 a' n c' rfl hcell hln.out (by simp; have := hws.out; omega) ?_; intro v2 W2 ho hg; have hb2 := hba.out.grown hg hba.out.size (fun i hi => (World.ownsRow.lt hxa.out i hi).1); have hE2 := hE.out _ _ ho hb2; replace hE2 := Lib.hid hE2; clear ho hg hb2)
            go_roundw
            case rel => exact ⟨k + 1, by omega, by go_num, hE2.out⟩
            case measure => simp [nOf]; omega
        · by_cases e1 : (S k).k = 1
          · rw [e1] at c0
            have he := hr.out.trans (step1 (m := runS S k) e1)
            have hE : Hid (Acc w S (k + 1) (.slice va (runS S k).L.length vc) (.int .i64 ((runS S k).L.length : Nat)) (.string (str (runS S k).S)) (.bool (runS S k).h) wr) := Lib.hid (by
              unfold Acc
              rw [he]
              exact ⟨rfl, rfl, rfl, hT.keep (ok_syn hT.ok) rfl⟩)
            clear hT hbs hoc he e0 e1 hr
            as_aux_lemma =>
            go_wp2
            go_roundw
            case rel => exact ⟨k + 1, by omega, by go_num, hE.out⟩
            case measure => simp [nOf]; omega
          · by_cases e2 : (S k).k = 2
            · rw [e2] at c0
              have he := hr.out.trans (step2 (m := runS S k) e2)
              have hE : Hid (Acc w S (k + 1) (.slice va (torK (runS S k) (S k).x) vc) (.int .i64 (torK (runS S k) (S k).x : Nat)) (.string (str (runS S k).S)) (.bool (runS S k).h) wr) := Lib.hid (by
                unfold Acc
                rw [he]
                exact ⟨rfl, rfl, rfl, hT.cut _⟩)
              have hK := Lib.hid (kept_any hT.bss hT.ok.short (Nat.le_trans (len_le hT.ok) (by decide)) (runS S k).k hT.ok.kl (S k).x hwf)
              rw [show (runS S k).k + fitN ((runS S k).L.drop (runS S k).k) (S k).x.toNat = torK (runS S k) (S k).x from rfl] at hK
              clear hT hbs hoc he e0 e1 e2 hr
              as_aux_lemma =>
              go_wp2_with (go_at_call 34; refine hK.out.mono ?_; rintro e W2 ⟨rfl, rfl⟩)
              go_roundw
              case rel => exact ⟨k + 1, by omega, by go_num, hE.out⟩
              case measure => simp [nOf]; omega
            · by_cases e3 : (S k).k = 3
              · rw [e3] at c0
                have he := hr.out.trans (step3 (m := runS S k) e3)
                by_cases hcl : 65536 < (S k).c.length
                · rw [sav_no hcl] at he
                  have d1 : decide (((S k).c.length : Int) ≤ (65536 : Int)) = false := by simp; omega
                  have hE : Hid (Acc w S (k + 1) (.slice va (runS S k).L.length vc) (.int .i64 ((runS S k).k : Nat)) (.string (str (runS S k).S)) (.bool (runS S k).h) wr) := Lib.hid (by
                    unfold Acc
                    rw [he]
                    exact ⟨rfl, rfl, rfl, hT.keep hT.ok rfl⟩)
                  generalize (S k).c.length = n at *
                  clear hT hbs hoc he e0 e1 e2 e3 hr
                  as_aux_lemma =>
                  go_wp2
                  go_roundw
                  case rel => exact ⟨k + 1, by omega, by go_num, hE.out⟩
                  case measure => simp [nOf]; omega
                · have d1 : decide (((S k).c.length : Int) ≤ (65536 : Int)) = true := by simp; omega
                  rw [sav_ok hcl] at he
                  have hE : Hid (Acc w S (k + 1) (.slice none 0 0) (.int .i64 0) (.string (str (S k).c)) (.bool true) wr) := Lib.hid (by
                    unfold Acc
                    rw [he]
                    exact ⟨rfl, rfl, rfl, TA.empty (ok_sav hbs.1 hcl) rfl hT.bel⟩)
                  have hcv := bs_str hbs
                  generalize (S k).c.length = n at *
                  generalize str (S k).c = sc at *
                  clear hT hbs hoc he e0 e1 e2 e3 hr
                  as_aux_lemma =>
                  go_wp2
                  go_roundw
                  case rel => exact ⟨k + 1, by omega, by go_num, hE.out⟩
                  case measure => simp [nOf]; omega
              · have he := hr.out.trans (step4 (m := runS S k) e0 e1 e2 e3)
                have hE : Hid (Acc w S (k + 1) (.slice va (runS S k).L.length vc) (.int .i64 ((runS S k).k : Nat)) (.string (str (runS S k).S)) (.bool (runS S k).h) wr) := Lib.hid (by
                  unfold Acc
                  rw [he]
                  exact ⟨rfl, rfl, rfl, hT.keep hT.ok rfl⟩)
                generalize (S k).k = kk at *
                have f0 : (kk == 0) = false := by simpa using e0
                have f1 : (kk == 1) = false := by simpa using e1
                have f2 : (kk == 2) = false := by simpa using e2
                have f3 : (kk == 3) = false := by simpa using e3
                clear hT hbs hoc he hr
                as_aux_lemma =>
                go_wp2
                go_roundw
                case rel => exact ⟨k + 1, by omega, by go_num, hE.out⟩
                case measure => simp [nOf]; omega
      · have hkn : k = len := by omega
        subst hkn
        have i1 : decide ((k : Int) < (k : Int)) = false := by simp
        have hlt0 := hT.lt
        have hwr := hT.bel.size
        have HF := Lib.hid (filled_any HI.out hT.bel (HH.out.later hT.bel) (hv_lt HH.out))
        have hkl := hT.ok.kl
        have hln := len_le hT.ok
        generalize runS S k = m at *
        replace hT := Lib.hid hT
        replace hlt0 := Lib.hid hlt0
        clear HS HW hokc HI
        as_aux_lemma =>
        go_wp2_with fail
        refine HF.out.mono ?_
        rintro e W1 ⟨d, rfl, D1, hb1⟩
        have T1 := Lib.hid (hT.out.later hb1)
        replace D1 := Lib.hid D1
        have hwr1 := hb1.size
        clear HF hb1
        go_wp2_with fail
        refine (D1.out.records rfl).mono ?_
        rintro e W2 ⟨v2, rfl, hL2, hb2⟩
        have T2 := Lib.hid (T1.out.later hb2)
        have D2 := Lib.hid (D1.out.later hb2)
        have HC := Lib.hid (contents_same hL2.bss T2.out.bss (fun i hi => hi.2) T2.out.lt (by omega))
        obtain ⟨a2, cap2, rfl⟩ := hL2.form
        clear hL2 hb2 T1 D1
        go_wp2_with fail
        refine HC.out.mono ?_
        rintro e W3 ⟨rfl, hb3⟩
        have T3 := Lib.hid (T2.out.later hb3)
        have D3 := Lib.hid (D2.out.later hb3)
        clear HC hb3 T2 D2
        go_wp2_with fail
        refine (D3.out.tear left rfl).mono ?_
        rintro e W4 ⟨rfl, D4, K4⟩
        have T4 := Lib.hid (T3.out.beside K4 (fun i hi => hi.1) hlt0.out hwr)
        replace D4 := Lib.hid D4
        clear K4 T3 D3
        go_wp2_with fail
        refine D4.out.snap.mono ?_
        rintro e W5 ⟨v5, rfl, m5, hb5⟩
        have T5 := Lib.hid (T4.out.later hb5)
        have D5 := Lib.hid (D4.out.later hb5)
        obtain ⟨a5, cap5, rfl⟩ := m5.form
        replace m5 := Lib.hid m5
        clear hb5 T4 D4
        have hK := Lib.hid (kept_any T5.out.bss T5.out.ok.short (by omega) m.k hkl left hleft)
        rw [show m.k + fitN (m.L.drop m.k) left.toNat = torK m left from rfl] at hK
        go_wp2_with (go_at_call 34; refine hK.out.mono ?_; rintro e w6 ⟨rfl, rfl⟩)
        have C5 := T5.out.cut left
        have hKl : (torS m left).L.length = torK m left := by
          show (m.L.take (torK m left)).length = _
          rw [List.length_take]
          have := torK_le T5.out.ok left
          omega
        have hB5 := Lib.hid C5.bss
        have hS5 := Lib.hid C5.ok.short
        have htot := Lib.hid C5.ok.le
        have hcl5 := Lib.hid (len_le C5.ok)
        replace C5 := Lib.hid C5
        have hSm : (torS m left).S = m.S := rfl
        have hhm : (torS m left).h = m.h := rfl
        have hsf := Lib.hid (show safe (torS m left) = tot (torS m left).L from tor_safe m left)
        rw [hhm]
        rw [← hKl]
        rw [← hKl] at C5 hB5
        clear hK T5
        generalize torS m left = m2 at *
        replace hSm := Lib.hid hSm
        clear hhm hKl
        go_loopw [13, 15] (fun s i wr => ∃ j : Nat, j ≤ m2.L.length ∧ i = .int .i64 j ∧ s = .int .i64 (tot (m2.L.take j) : Nat) ∧ W5 = wr) (fun _ i _ => m2.L.length - nOf i)
        case atStart => exact ⟨0, Nat.zero_le _, rfl, rfl, rfl⟩
        case round =>
          obtain ⟨j, hj, rfl, rfl, rfl⟩ := hrel
          by_cases hjl : j < m2.L.length
          · obtain ⟨b, off, s1, rfl, _, q1, mm⟩ := hB5.out.at_ j hjl
            have i1' : decide ((j : Int) < (m2.L.length : Int)) = true := by simp; omega
            have hsz := hS5.out _ (getD_mem hjl)
            have htk := tot_take_succ m2.L j hjl
            have htl := tot_take_le m2.L j
            have htl2 := htot.out
            have hjb := hcl5.out
            generalize m2.L.getD j [] = c at *
            have hsz : c.length ≤ 65536 := hsz
            have HZ := Lib.hid (size_is s1 _ c _ mm (by omega))
            obtain ⟨_, a7, cap7, rfl, _⟩ := (show Bs _ _ s1 c from mm)
            replace htk := Lib.hid htk
            generalize tot (m2.L.take j) = tj at *
            clear mm hB5 C5
            go_wp2_with (go_at_call 37; refine HZ.out.mono ?_; rintro e w' ⟨rfl, rfl⟩)
            go_roundw
            case rel => exact ⟨j + 1, by omega, by go_num, by rw [htk.out]; go_num, (by trivial)⟩
            case measure => simp [nOf]; omega
          · have hjk : j = m2.L.length := by omega
            have i1' : decide ((j : Int) < (m2.L.length : Int)) = false := by simp; omega
            rw [hjk, List.take_length]
            rw [hjk] at i1'
            clear hjk hj hjl hS5 htot hB5
            go_wp2_with fail
            refine (D5.out.records rfl).mono ?_
            rintro e W6 ⟨v6, rfl, hL6, hb6⟩
            have C6 := C5.out.later hb6
            have D6 := Lib.hid (D5.out.later hb6)
            have m6 := Lib.hid (m5.out.later hb6)
            have HC := Lib.hid (contents_same hL6.bss C6.bss (fun i hi => hi.2) C6.lt (by have := hcl5.out; omega))
            obtain ⟨a6, cap6, rfl⟩ := hL6.form
            clear hL6 hb6 C6 C5 D5 m5
            go_wp2_with fail
            refine HC.out.mono ?_
            rintro e W7 ⟨rfl, hb7⟩
            have D7 := Lib.hid (D6.out.later hb7)
            have m7 := m6.out.later hb7
            have hcv := bs_str m7.bs
            rw [show str m2.S = str m.S from by rw [hSm.out]] at hcv
            have HW7 := Lib.hid (works_any W7 D7.out.hv)
            clear hb7 D6 m6 m7 HC
            go_wp2_with fail
            refine (D7.out.len rfl).mono ?_
            rintro e W8 ⟨rfl, rfl⟩
            go_wp2_with fail
            refine (D7.out.safes hsf.out).mono ?_
            rintro e W8 ⟨rfl, rfl⟩
            go_wp2_with fail
            refine HW7.out.mono ?_
            rintro e W8 ⟨rfl, hb8⟩
            have hb9 := Lib.hid (D7.out.bel.trans (hb8.mono D7.out.bel.size))
            clear hb8 HW7 D7
            go_wp2
            go_ret
            exact ⟨rfl, hb9.out⟩
end Go.Proofs.YtojeccmnhgcmcaaDoor.Dsk
