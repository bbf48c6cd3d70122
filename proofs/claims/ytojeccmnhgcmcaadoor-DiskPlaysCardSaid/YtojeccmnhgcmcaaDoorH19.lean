/- DiskReads. -/
import Derived.Test.YtojeccmnhgcmcaaDoorH18
namespace Go.Proofs.YtojeccmnhgcmcaaDoor.Dsk
open Go.RowKit Go.ChangeShapes Go.WideShapes _root_.Go.Proofs.YtojeccmnhgcmcaaDoor.Frame
open _root_.Go.Proofs.YtojeccmnhgcmcaaDoor.Crc (Hv more more_lt ret_u32)
set_option linter.unusedVariables false
set_option linter.unusedSimpArgs false
set_option maxRecDepth 100000

theorem OwnL.kept {base : Nat} {L : List (List Nat)} {v : Value} {W W' : World} (h : OwnL base L v W) (hs : Same (From base W) W W') : OwnL base L v W' := by
  obtain ⟨xs, h1, h2⟩ := h.ex
  exact ⟨xs, rows_kept h1 fun k hk => hs k (World.ownsRow.lt h1 k hk), h2.1, fun i v hv => ⟨own_kept (h2.2 i v hv).own fun k hk => hs k (own_lt (h2.2 i v hv).own k hk), (h2.2 i v hv).h8⟩⟩
theorem Same.trans {F : Nat → Prop} {A B C : World} (h : Same F A B) (k : Same F B C) : Same F A C := fun i hi => (k i hi).trans (h i hi)
theorem OwnL.cutBss {base cap n : Nat} {a : Option Addr} {L : List (List Nat)} {c : List Nat} {W : World} (h : OwnL base (L ++ [c]) (.slice a n cap) W) : Bss W (From base W) (.slice a L.length cap) L := by
  obtain ⟨xs, h1, h2⟩ := h.ex
  have hn : n = (L ++ [c]).length := by
    obtain ⟨_, _, e⟩ := rows_form h1
    injection e
  subst hn
  have h3 := rows_cut h1 (k := L.length) (by rw [List.length_append]; omega)
  have h4 := Dsk.Sl.take (L := L ++ [c]) (F := From base W) (xs := xs) ⟨h2.1, fun i s hs => (h2.2 i s hs).bs⟩ L.length
  rw [List.take_append_of_le_length (Nat.le_refl _), List.take_length] at h4
  exact own_bss h3 h4 fun k hk => World.ownsRow.lt h3 k hk
set_option maxHeartbeats 16000000 in
theorem reads_law (a : Option Addr) (len cap : Nat) (S : Nat → Sq) (a1 : Option Addr) (len1 cap1 : Nat) (c : List Nat) (w : World) (h : IsSq w a len cap S) (hc0 : Bs w (Old w) (.slice a1 len1 cap1) c ∧ c.length ≤ 9223372036854775807) (hH : Hv w) :
    Calls Tryd.prog 7 #[.slice a len cap, .slice a1 len1 cap1] w (Yes w) := by
  obtain ⟨hbs, hcl⟩ := hc0
  have hln : len1 = c.length := by obtain ⟨_, _, _, e, _⟩ := hbs; injection e
  subst hln
  have hfit := h.fit
  have HS := Lib.hid (short_any h (Below.refl _ _))
  have HW := Lib.hid (works_any w hH)
  have HF := Lib.hid (filled_any h (Below.refl _ _) hH (hv_lt hH))
  have HT := Lib.hid (run_tot S len)
  clear h hH
  by_cases h79 : 79 < len
  · have d1 : decide ((79 : Int) < (len : Int)) = true := by simp; omega
    go_enter Tryd.func7, Tryd.ntmps7
    go_wp2_with (go_at_call 12; refine HW.out.mono ?_; rintro e W5 ⟨rfl, hb5⟩)
    go_ret
    exact ⟨rfl, hb5⟩
  have d1 : decide ((79 : Int) < (len : Int)) = false := by simp; omega
  go_enter Tryd.func7, Tryd.ntmps7
  go_wp2_with fail
  refine HS.out.mono ?_
  rintro e W0 ⟨b, rfl, hsh, rfl⟩
  cases b with
  | false =>
    go_wp2_with (go_at_call 12; refine HW.out.mono ?_; rintro e W5 ⟨rfl, hb5⟩)
    go_ret
    exact ⟨rfl, hb5⟩
  | true =>
    by_cases hl : 100 < c.length
    · have d2 : decide ((100 : Int) < (c.length : Int)) = true := by simp; omega
      go_wp2_with (go_at_call 12; refine HW.out.mono ?_; rintro e W5 ⟨rfl, hb5⟩)
      go_ret
      exact ⟨rfl, hb5⟩
    · have d2 : decide ((100 : Int) < (c.length : Int)) = false := by simp; omega
      have hl1 : c.length ≤ 100 := by omega
      have htot : tot (runS S len).L ≤ 8532 := by have := HT.out (hsh rfl).2; omega
      clear HS HW hl hcl hsh HT
      generalize runS S len = m at *
      go_wp2_with fail
      refine HF.out.mono ?_
      rintro e W1 ⟨d, rfl, D1, _⟩
      have hok := D1.ok
      have hlL := len_le hok
      have lt1 := Lib.hid D1.dx.lt
      have hww1 := D1.bel.size
      replace D1 := Lib.hid D1
      clear HF
      go_wp2_with fail
      refine (D1.out.records rfl).mono ?_
      rintro e W2 ⟨v2, rfl, hO2, hb2⟩
      have hs12 := hb2.size
      have D2 := Lib.hid (D1.out.later hb2)
      obtain ⟨a2, cap2, rfl⟩ := hO2.form
      replace hO2 := Lib.hid hO2
      clear hb2 D1
      go_wp2_with fail
      refine (D2.out.len rfl).mono ?_
      rintro e W3 ⟨rfl, rfl⟩
      go_wp2_with fail
      refine (D2.out.safes rfl).mono ?_
      rintro e W3 ⟨rfl, rfl⟩
      have ho := Lib.hid (own_made W2)
      have hbc := Lib.hid (hbs.late (D2.out.bel.trans (((Below.refl W2.heap.size W2).alloc (Nat.le_refl _) (.cells #[] TB)).mono D2.out.bel.size)))
      go_wp2_with (at_builtin; refine wpList_append_b rfl _ _ rfl W2.heap.size _ 0 [] rfl ho.out _ a1 c.length cap1 c rfl hbc.out (by omega) (by simp) ?_; intro v3 W3 hown hg _; have hm3 : Mine W3 W2.heap.size v3 c := ⟨by simpa using hown, hbs.1⟩; have hb3 : Below W2.heap.size W2 W3 := ((Below.refl W2.heap.size W2).alloc (Nat.le_refl _) (.cells #[] TB)).grown hg (by simp) ge_size; clear hown hg; obtain ⟨a3, cap3, rfl⟩ := hm3.form; replace hm3 := Lib.hid hm3; replace hb3 := Lib.hid hb3)
      have D3 := Lib.hid (D2.out.later hb3.out)
      have hS3 := Lib.hid (Same.of_below hb3.out (F := From W1.heap.size W2) fun k hk => hk.2)
      have hs23 := hb3.out.size
      have hown3 := Lib.hid (own_lt hm3.out.own)
      have hE0 : appE m c = 0 := appE_ok (by omega) (by omega)
      refine (D3.out.app hm3.out.bs (fun k hk => hk.2) hE0 (appS_ok hE0)).mono ?_
      rintro e W4 ⟨rfl, D4, K4⟩
      have hm4 := mine_beside hm3.out K4 (fun k hk => by have := hk.2; omega)
      have hS4 := Lib.hid (Dsk.Same.trans hS3.out (Same.of_keeps K4 (F := From W1.heap.size W2) (fun k hk => by have := hk.2; omega) fun k hk h2 => by have := hk.1; have := h2.2; omega))
      have hM4 := Mut.first hm4
      have hs34 := K4.size
      replace D4 := Lib.hid D4
      clear K4 hm4 hm3 hb3 D3 D2 hS3 ho hbc
      go_wp2_with fail
      refine (D4.out.len (n := tot m.L + (8 + c.length)) (tot_snoc _ _)).mono ?_
      rintro e W5 ⟨rfl, rfl⟩
      have HZ := Lib.hid (size_is (.slice a1 c.length cap1) _ c W4 (hbs.late D4.out.bel) (by omega))
      go_wp2_with (go_at_call 37; refine HZ.out.mono ?_; rintro e w' ⟨rfl, rfl⟩)
      refine (D4.out.safes (safe_app hok c)).mono ?_
      rintro e W5 ⟨rfl, rfl⟩
      clear HZ
      have hdj : Hid (∀ k, More (From w.heap.size W1) W3 W4 k → ¬ (Value.slice a3 c.length cap3).ownBlock = some k) := Lib.hid fun k hk e => by
        have := hown3.out k e
        rcases hk with hk | hk
        · have := hk.2; omega
        · have := hk.1; omega
      have hwo : Hid (∀ k, (Value.slice a3 c.length cap3).ownBlock = some k → w.heap.size ≤ k) := Lib.hid fun k e => by
        have := hown3.out k e
        omega
      go_wp2
      go_loopw [10] (fun i wr => ∃ k : Nat, k ≤ c.length ∧ i = .int .i64 k ∧ Mut W4 W2.heap.size c.length (.slice a3 c.length cap3) wr) (fun i _ => c.length - nOf i)
      case atStart => exact ⟨0, Nat.zero_le _, rfl, hM4⟩
      case round =>
        obtain ⟨k, hk, rfl, hM⟩ := hrel
        clear hM4
        by_cases hlt : k < c.length
        · obtain ⟨g, x, rfl, hx, q0, f0, hput⟩ := hM.at_ k hlt
          obtain ⟨y, hy, hw⟩ := inc_u8 x hx
          have hE := Lib.hid (hput y hy)
          have i1 : decide ((k : Int) < (c.length : Int)) = true := by simp; omega
          clear hM hput D4
          go_wp2
          go_roundw
          case rel => exact ⟨k + 1, by omega, by go_num, hE.out⟩
          case measure => simp [nOf]; omega
        · have i1 : decide ((k : Int) < (c.length : Int)) = false := by simp; omega
          have hszr := hM.kp.size
          have D5 := Lib.hid (D4.out.beside hM.kp hwo.out hdj.out)
          have hS5 := Lib.hid (Dsk.Same.trans hS4.out (Same.of_keeps hM.kp (F := From W1.heap.size W2) (fun k hk => by have := hk.2; omega) fun k hk h2 => by have := hown3.out k h2; have := hk.2; omega))
          clear hM D4 hS4 hdj hwo hown3
          go_wp2_with fail
          refine (D5.out.records (L := m.L ++ [c]) rfl).mono ?_
          rintro e W7 ⟨v7, rfl, hO7, hb7⟩
          have D7 := Lib.hid (D5.out.later hb7)
          have hs7 := hb7.size
          have hS7 := Lib.hid (Dsk.Same.trans hS5.out (Same.of_below hb7 (F := From W1.heap.size W2) (fun k hk => by have := hk.2; omega)))
          have hb7' := D7.out.bel
          obtain ⟨a7, cap7, rfl⟩ := hO7.form
          have hcut := hO7.cutBss
          obtain ⟨g7, a8, cap8, e7, _, _, q7, m8⟩ := hO7.at_ m.L.length (by rw [List.length_append]; exact Nat.lt_succ_self _)
          rw [show (m.L ++ [c]).getD m.L.length [] = c from by simp] at q7 m8
          have hM7 : MutL W7 wr.heap.size (m.L ++ [c]) (.slice a7 (m.L ++ [c]).length cap7) W7 := ⟨hO7.some, Keeps.refl _ _⟩
          have hlt7 := Lib.hid D5.out.dx.lt
          have hC7 : (m.L ++ [c]).length ≤ cap7 := by
            obtain ⟨xs, h1, _⟩ := hO7.ex
            rcases h1.2 with ⟨e, h0⟩ | ⟨_, _, _, e, _, _, h2, _⟩
            · rw [h0]; exact Nat.zero_le _
            · injection e with _ _ e; omega
          have hNn : (m.L ++ [c]).length = m.L.length + 1 := by rw [List.length_append]; rfl
          rw [hNn] at hC7
          rw [show Value.slice a7 (m.L ++ [c]).length cap7 = Value.slice a7 (m.L.length + 1) cap7 from by rw [hNn]] at hM7 ⊢
          have hO2w := hO2.out.kept hS7.out
          have HC := Lib.hid (fun (W' : World) (hb : Below W7.heap.size W7 W') => contents_same (hcut.later (fun k hk => hk.2) hb) (hO2w.bss.later (fun k hk => hk.2) hb) (fun k hk => Nat.lt_of_lt_of_le hk.2 hb.size) (fun k hk => Nat.lt_of_lt_of_le hk.2 hb.size) (by omega))
          have hu := fun w => upto_s a7 (m.L.length + 1) cap7 m.L.length (by omega) w
          have HK := Lib.hid (fun (W' : World) (hb : Below W7.heap.size W7 W') => (⟨(hb.cell (p := ⟨g7, m.L.length, none⟩) (World.block_lt_of_cell? _ _ q7)).trans q7, bs_str (m8.later hb).bs, bs_str (hbs.late (hb7'.trans (hb.mono hb7'.size))), hb⟩ :
            W'.cell? ⟨g7, m.L.length, none⟩ = some (.slice a8 c.length cap8) ∧ (convert 29 9 (.slice a8 c.length cap8)).run Tryd.prog W' = .ok (.string (str c)) W' ∧ (convert 29 9 (.slice a1 c.length cap1)).run Tryd.prog W' = .ok (.string (str c)) W' ∧ Below W7.heap.size W7 W'))
          have hB0 := Lib.hid (Below.refl W7.heap.size W7)
          subst e7
          replace hM7 := Lib.hid hM7
          replace hb7' := Lib.hid hb7'
          have hsw7 := hb7'.out.size
          replace hNn := Lib.hid hNn
          clear D5 hS5 hS7 hO2w hO2 hcut hO7 m8 hb7
          generalize m.L.length = N at *
          generalize str c = sc at *
          have bN : (N : Int) < (N : Int) + 1 := by omega
          have bN2 : N < N + 1 := by omega
          have hw1 : IntKind.i64.wrap ((N : Int) + 1) = (N : Int) + 1 := by rw [IntKind.wrap_i64]; omega
          have hne1 : (((N : Int) + 1) != ((N : Int) + 1)) = false := by simp
          have b0 : (0 : Int) ≤ (N : Int) := by omega
          go_wp2
          go_region_held3 (fun W' => W'.cell? ⟨g7, N, none⟩ = some (.slice a8 c.length cap8) ∧ (convert 29 9 (.slice a8 c.length cap8)).run Tryd.prog W' = .ok (.string sc) W' ∧ (convert 29 9 (.slice a1 c.length cap1)).run Tryd.prog W' = .ok (.string sc) W' ∧ Below W7.heap.size W7 W')
            ((first | exact HK.out _ hb9.out | exact HK.out _ (hB0.out.drew) | assumption))
            ((first | (go_at_call 36; refine (HC.out _ (by assumption : _ ∧ _ ∧ _ ∧ Below W7.heap.size W7 _).2.2.2).mono ?_; rintro e W8 ⟨rfl, hb8⟩; have hs2 := (by assumption : _ ∧ _ ∧ _ ∧ Below W7.heap.size W7 _).2.2.2; have hb9 := Lib.hid (hs2.trans (hb8.mono hs2.size)); clear hb8 hs2)))
          have hM8 := hM7.out.later hb9.out
          obtain ⟨B7, hB7⟩ : ∃ B7, wr.heap.size = B7 := ⟨_, rfl⟩
          rw [hB7] at hM8 hlt7 hszr
          have D8 := Lib.hid (D7.out.later hb9.out)
          clear HK HC hM7
          rename_i hHeld
          clear hHeld
          go_wp2
          go_loopw [12] (fun i wv => ∃ j : Nat, j ≤ N + 1 ∧ i = .int .i64 j ∧ MutL W7 B7 (m.L ++ [c]) (.slice (some ⟨g7, 0, none⟩) (N + 1) cap7) wv) (fun i _ => (N + 1) - nOf i)
          case atStart => exact ⟨0, Nat.zero_le _, rfl, hM8⟩
          case round =>
            obtain ⟨j, hj, rfl, hM⟩ := hrel
            clear hM8
            by_cases hlt2 : j < N + 1
            · have i2 : decide ((j : Int) < (N : Int) + 1) = true := by simp; omega
              obtain ⟨nj, hnj⟩ : ∃ nj, ((m.L ++ [c]).getD j []).length = nj := ⟨_, rfl⟩
              replace hnj := Lib.hid hnj
              have hjL := Lib.hid (show j < (m.L ++ [c]).length by rw [hNn.out]; omega)
              have hnjb : nj ≤ 65536 := by rw [← hnj.out]; exact D7.out.ok.short _ (getD_mem hjL.out)
              clear D7 D8
              go_wp2
              go_loopw [13] (fun i wv => ∃ k' : Nat, k' ≤ nj ∧ i = .int .i64 k' ∧ MutL W7 B7 (m.L ++ [c]) (.slice (some ⟨g7, 0, none⟩) (N + 1) cap7) wv) (fun i _ => nj - nOf i)
              case atStart => exact ⟨0, Nat.zero_le _, rfl, hM⟩
              case round =>
                clear hM
                obtain ⟨k', hk', rfl, hM⟩ := hrel
                obtain ⟨g, a', cap', eg, q1, hput⟩ := hM.at_ j hjL.out
                injection eg with eg
                injection eg with eg
                subst eg
                rw [hnj.out] at q1 hput
                by_cases hlt3 : k' < nj
                · obtain ⟨g', x, rfl, hx, q2, f2, hp⟩ := hput k' hlt3
                  obtain ⟨y, hy, hw⟩ := inc_u8 x hx
                  have hE := Lib.hid (hp y hy)
                  have i3 : decide ((k' : Int) < (nj : Int)) = true := by simp; omega
                  clear hM hput hp
                  go_wp2
                  go_roundw
                  case rel => exact ⟨k' + 1, by omega, by go_num, hE.out⟩
                  case measure => simp [nOf]; omega
                · have i3 : decide ((k' : Int) < (nj : Int)) = false := by simp; omega
                  replace hM := Lib.hid hM
                  clear hput
                  go_wp2
                  go_roundw
                  case rel => exact ⟨j + 1, by omega, by go_num, hM.out⟩
                  case measure => simp [nOf]; omega
            · have i2 : decide ((j : Int) < (N : Int) + 1) = false := by simp; omega
              have D9 := Lib.hid (D7.out.beside hM.kp (fun k hk => Nat.le_trans (by omega) hk) (fun k hk h2 => by have := hlt7.out k hk; omega))
              clear hM D7 D8 hlt7
              go_wp2_with fail
              refine (D9.out.records (L := m.L ++ [c]) rfl).mono ?_
              rintro e W11 ⟨v11, rfl, hO, hb11⟩
              have D11 := Lib.hid (D9.out.later hb11)
              obtain ⟨a11, cap11, rfl⟩ := hO.form
              obtain ⟨g11, a12, cap12, e11, _, _, q11, m12⟩ := hO.at_ m.L.length (by rw [List.length_append]; exact Nat.lt_succ_self _)
              rw [show (m.L ++ [c]).getD m.L.length [] = c from by simp] at q11 m12
              have hN2 : m.L.length = N := by
                have h2 := hNn.out
                rw [List.length_append, List.length_singleton] at h2
                omega
              rw [hN2] at q11
              rw [hNn.out]
              subst e11
              replace hN2 := Lib.hid hN2
              have HC11 := Lib.hid (fun (W' : World) (hb : Below W11.heap.size W11 W') => works_any W' (D11.out.hv.later hb))
              have hbW := D11.out.bel
              have HK := Lib.hid (fun (W' : World) (hb : Below W11.heap.size W11 W') => (⟨(hb.cell (p := ⟨g11, N, none⟩) (World.block_lt_of_cell? _ _ q11)).trans q11, bs_str (m12.later hb).bs, bs_str (hbs.late (hbW.trans (hb.mono hbW.size))), hb⟩ :
                W'.cell? ⟨g11, N, none⟩ = some (.slice a12 c.length cap12) ∧ (convert 29 9 (.slice a12 c.length cap12)).run Tryd.prog W' = .ok (.string (str c)) W' ∧ (convert 29 9 (.slice a1 c.length cap1)).run Tryd.prog W' = .ok (.string (str c)) W' ∧ Below W11.heap.size W11 W'))
              have hB1 := Lib.hid (Below.refl W11.heap.size W11)
              replace hbW := Lib.hid hbW
              clear hO hb11 D9 D11 m12 hB0
              generalize str c = sc2 at *
              go_wp2
              go_region_held3 (fun W' => W'.cell? ⟨g11, N, none⟩ = some (.slice a12 c.length cap12) ∧ (convert 29 9 (.slice a12 c.length cap12)).run Tryd.prog W' = .ok (.string sc2) W' ∧ (convert 29 9 (.slice a1 c.length cap1)).run Tryd.prog W' = .ok (.string sc2) W' ∧ Below W11.heap.size W11 W')
                ((first | exact HK.out _ hb13.out | exact HK.out _ (hB1.out.drew) | assumption))
                ((first | (go_at_call 12; refine (HC11.out _ (by assumption : _ ∧ _ ∧ _ ∧ Below W11.heap.size W11 _).2.2.2).mono ?_; rintro e W12 ⟨rfl, hb12⟩; have hs2 := (by assumption : _ ∧ _ ∧ _ ∧ Below W11.heap.size W11 _).2.2.2; have hb13 := Lib.hid (hs2.trans (hb12.mono hs2.size)); clear hb12 hs2)))
              go_wp2
              go_ret
              exact ⟨rfl, hbW.out.trans (hb13.out.mono hbW.out.size)⟩
end Go.Proofs.YtojeccmnhgcmcaaDoor.Dsk
