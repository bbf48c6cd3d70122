/- DiskSaves. -/
import Derived.Test.YtojeccmnhgcmcaaDoorH16
namespace Go.Proofs.YtojeccmnhgcmcaaDoor.Dsk
open Go.RowKit Go.ChangeShapes Go.WideShapes _root_.Go.Proofs.YtojeccmnhgcmcaaDoor.Frame
open _root_.Go.Proofs.YtojeccmnhgcmcaaDoor.Crc (Hv more more_lt ret_u32)
set_option linter.unusedVariables false
set_option linter.unusedSimpArgs false
set_option maxRecDepth 100000

theorem tor_one (c : List Nat) (hc : Byt c) (hl : c.length ≤ 65536) (left : Int) :
    ∃ m3 : St, torS ⟨[[120]], 0, c, true⟩ left = m3 ∧ m3.S = c ∧ m3.h = true ∧ ((tot m3.L = 9 ∧ 9 ≤ left) ∨ (tot m3.L = 0 ∧ left < 9)) := by
  refine ⟨_, rfl, rfl, rfl, ?_⟩
  have e : torK ⟨[[120]], 0, c, true⟩ left = if 9 ≤ left.toNat then 1 else 0 := by
    show 0 + fitN [[120]] left.toNat = _
    rw [fitN]
    show 0 + (if 9 ≤ left.toNat then _ else 0) = _
    split <;> rfl
  by_cases h : 9 ≤ left
  · refine .inl ⟨?_, h⟩
    rw [if_pos (by omega)] at e
    show tot ([[120]].take (torK ⟨[[120]], 0, c, true⟩ left)) = 9
    rw [e]
    rfl
  · refine .inr ⟨?_, by omega⟩
    rw [if_neg (by omega)] at e
    show tot ([[120]].take (torK ⟨[[120]], 0, c, true⟩ left)) = 0
    rw [e]
    rfl
theorem safe_zero (c : List Nat) : safe ⟨[], 0, c, true⟩ = 0 := rfl
theorem mine_beside {W W' : World} {base : Nat} {v : Value} {c : List Nat} {G : Nat → Prop} (h : Mine W base v c) (hk : Keeps G W W') (hG : ∀ k, G k → k < base) : Mine W' base v c :=
  ⟨own_kept h.own fun k e => hk.block k (own_lt h.own k e).2 fun hg => by have := hG k hg; have := (own_lt h.own k e).1; omega, h.h8⟩
set_option maxHeartbeats 8000000 in
theorem saves_law (a : Option Addr) (len cap : Nat) (S : Nat → Sq) (a1 : Option Addr) (len1 cap1 : Nat) (c : List Nat) (left : Int) (w : World) (h : IsSq w a len cap S) (hc0 : Bs w (Old w) (.slice a1 len1 cap1) c ∧ c.length ≤ 9223372036854775807) (_ : (Lit.int .i64 left).wf = true) (hH : Hv w) :
    Calls Tryd.prog 8 #[.slice a len cap, .slice a1 len1 cap1, .int .i64 left] w (Yes w) := by
  obtain ⟨hbs, hcl⟩ := hc0
  have hln : len1 = c.length := by obtain ⟨_, _, _, e, _⟩ := hbs; injection e
  subst hln
  have HS := Lib.hid (short_any h (Below.refl _ _))
  have HW := Lib.hid (works_any w hH)
  have HF := Lib.hid (filled_any h (Below.refl _ _) hH (hv_lt hH))
  have kc := fun (w : World) (C : Array Value) (n c : Nat) => Lib.run_convert_bytes_const (P := Tryd.prog) w 29 5 C n c Tryd.underlying29 Tryd.underlying5
  clear h hH
  generalize runS S len = m at *
  go_enter Tryd.func8, Tryd.ntmps8
  go_wp2_with fail
  refine HS.out.mono ?_
  rintro e W0 ⟨b, rfl, _, rfl⟩
  cases b with
  | false =>
    go_wp2_with (go_at_call 12; refine HW.out.mono ?_; rintro e W5 ⟨rfl, hb5⟩)
    go_ret
    exact ⟨rfl, hb5⟩
  | true =>
    by_cases hl : 100 < c.length
    · have d1 : decide ((100 : Int) < (c.length : Int)) = true := by simp; omega
      go_wp2_with (go_at_call 12; refine HW.out.mono ?_; rintro e W5 ⟨rfl, hb5⟩)
      go_ret
      exact ⟨rfl, hb5⟩
    · have d1 : decide ((100 : Int) < (c.length : Int)) = false := by simp; omega
      have hl1 : c.length ≤ 100 := by omega
      clear HS HW hl hcl
      go_wp2_with fail
      refine HF.out.mono ?_
      rintro e W1 ⟨d, rfl, D1, hb1⟩
      have hbA : Below W1.heap.size W1 (W1.alloc (.cells #[] TB)) := (Below.refl _ _).alloc (Nat.le_refl _) _
      have D2 := Lib.hid (D1.later hbA)
      have ho := Lib.hid (own_made W1)
      have hbc := Lib.hid (hbs.late (D1.bel.trans (hbA.mono D1.bel.size)))
      have hap := Lib.hid D1.dx.lt
      clear D1 hb1 hbA HF
      go_wp2_with (at_builtin; refine wpList_append_b rfl _ _ rfl W1.heap.size _ 0 [] rfl ho.out _ a1 c.length cap1 c rfl hbc.out (by omega) (by simp) ?_; intro v2 W2 hown hg _)
      have hm2 : Mine W2 W1.heap.size v2 c := ⟨by simpa using hown, hbs.1⟩
      have hbA2 : Below W1.heap.size W1 W2 := ((Below.refl W1.heap.size W1).alloc (Nat.le_refl _) (.cells #[] TB)).grown hg (by simp) ge_size
      have hgr : Below (W1.alloc (.cells #[] TB)).heap.size (W1.alloc (.cells #[] TB)) W2 ∨ True := .inr trivial
      have hk2 : Keeps (fun k => W1.heap.size ≤ k) (W1.alloc (.cells #[] TB)) W2 := (Keeps.refl _ _).grown hg fun g e => .inl (by have := ge_size (w := W1) g e; exact this)
      have D3 := Lib.hid (D2.out.beside hk2 (fun k hk => Nat.le_trans (by have := hap.out _ D2.out.dx.fd; have := D2.out.fr _ D2.out.dx.fd; omega) hk) (fun k hk h2 => by have := hap.out k hk; omega))
      obtain ⟨a2, cap2, rfl⟩ := hm2.form
      replace hm2 := Lib.hid hm2
      clear hown hg hbA2 hgr hk2 D2 ho hbc
      have hown2 := Lib.hid (own_lt hm2.out.own)
      go_wp2_with fail
      refine (D3.out.save hm2.out.bs (fun k hk => hk.2) (by omega) (E := 0) (m' := ⟨[], 0, c, true⟩) (if_neg (by omega)) (sav_ok (by omega))).mono ?_
      rintro e W3 ⟨rfl, D4, K4⟩
      have hm3 := Lib.hid (mine_beside hm2.out K4 fun k hk => hk.2)
      have hdj : Hid (∀ k, More (From w.heap.size W1) W2 W3 k → ¬ (Value.slice a2 c.length cap2).ownBlock = some k) := Lib.hid fun k hk e => by
        have := hown2.out k e
        rcases hk with hk | hk
        · have := hk.2; omega
        · have := hk.1; omega
      have hwo : Hid (∀ k, (Value.slice a2 c.length cap2).ownBlock = some k → w.heap.size ≤ k) := Lib.hid fun k e => by
        have := hown2.out k e
        have := hap.out _ D3.out.dx.fd
        have := D3.out.fr _ D3.out.dx.fd
        omega
      replace D4 := Lib.hid D4
      clear K4 D3 hm2 hap
      go_wp2_with fail
      refine (D4.out.len (n := 0) rfl).mono ?_
      rintro e W4 ⟨rfl, rfl⟩
      go_wp2_with fail
      refine (D4.out.safes (n := 0) rfl).mono ?_
      rintro e W4 ⟨rfl, rfl⟩
      go_wp2_with fail
      refine (D4.out.records (L := []) rfl).mono ?_
      rintro e W4 ⟨v4, rfl, hL4, hb4⟩
      obtain ⟨a4, cap4, rfl⟩ := hL4.form
      rw [show ([] : List (List Nat)).length = 0 from rfl]
      have D5 := Lib.hid (D4.out.later hb4)
      have hM5 := Mut.first (hm3.out.later hb4)
      clear hL4 hb4 D4 hm3
      go_wp2
      go_loopw [9] (fun i wr => ∃ k : Nat, k ≤ c.length ∧ i = .int .i64 k ∧ Mut W4 W1.heap.size c.length (.slice a2 c.length cap2) wr) (fun i _ => c.length - nOf i)
      case atStart => exact ⟨0, Nat.zero_le _, rfl, hM5⟩
      case round =>
        obtain ⟨k, hk, rfl, hM⟩ := hrel
        clear hM5
        by_cases hlt : k < c.length
        · obtain ⟨g, x, rfl, hx, q0, f0, hput⟩ := hM.at_ k hlt
          obtain ⟨y, hy, hw⟩ := inc_u8 x hx
          have hE := Lib.hid (hput y hy)
          have i1 : decide ((k : Int) < (c.length : Int)) = true := by simp; omega
          clear hM hput D5
          go_wp2
          go_roundw
          case rel => exact ⟨k + 1, by omega, by go_num, hE.out⟩
          case measure => simp [nOf]; omega
        · have i1 : decide ((k : Int) < (c.length : Int)) = false := by simp; omega
          have D6 := D5.out.beside hM.kp hwo.out hdj.out
          have b6 := Lib.hid (bs_frozen wr [120] TB (1, 2) (byt1 120 (by decide)))
          have D6a := Lib.hid (D6.alloc (.cells (bv [120]).toArray TB (1, 2)))
          clear hM D5 D6
          go_wp2_with fail
          have hE0 : appE ⟨[], 0, c, true⟩ [120] = 0 := appE_ok (by decide) (by show ¬ 16777216 < 0 + (8 + 1); decide)
          refine (D6a.out.app b6.out (fun k hk => by rw [hk]; simp) hE0 (m' := ⟨[[120]], 0, c, true⟩) ((appS_ok hE0).trans rfl)).mono ?_
          rintro e W7 ⟨rfl, D7, _⟩
          replace D7 := Lib.hid D7
          clear D6a b6 hE0
          obtain ⟨m3, hm3, hS3, hh3, hcase⟩ := tor_one c hbs.1 (by omega) left
          obtain ⟨n9, gg, hn9, hg9, hcase⟩ : ∃ (n9 : Nat) (gg : Bool), tot m3.L = n9 ∧ decide ((9 : Int) ≤ left) = gg ∧ ((n9 = 9 ∧ gg = true) ∨ (n9 = 0 ∧ gg = false)) := by
            rcases hcase with ⟨h1, h2⟩ | ⟨h1, h2⟩
            · exact ⟨9, true, h1, by simpa using h2, .inl ⟨rfl, rfl⟩⟩
            · exact ⟨0, false, h1, by simpa using h2, .inr ⟨rfl, rfl⟩⟩
          go_wp2_with fail
          refine (D7.out.tear left hm3).mono ?_
          rintro e W8 ⟨rfl, D8, _⟩
          replace D8 := Lib.hid D8
          clear D7 hm3
          go_wp2_with fail
          refine D8.out.snap.mono ?_
          rintro e W9 ⟨v9, rfl, m9, hb9⟩
          rw [hh3]
          rw [hS3] at m9
          have D9 := Lib.hid (D8.out.later hb9)
          have hM9 := Mut.first m9
          have hlt9 := Lib.hid (own_lt m9.own)
          have hap9 := Lib.hid D8.out.dx.lt
          have hle9 := Lib.hid D8.out.bel.size
          obtain ⟨a9, cap9, rfl⟩ := m9.form
          have hcv := bs_str m9.bs
          have hcw := bs_str (hbs.late D9.out.bel)
          have HL := Lib.hid (D9.out.len hn9)
          replace hS3 := Lib.hid hS3
          replace hh3 := Lib.hid hh3
          clear m9 hb9 D8 hn9 hdj hwo hown2
          rcases hcase with ⟨rfl, rfl⟩ | ⟨rfl, rfl⟩
          all_goals
            go_wp2_with (go_at_call 27; refine HL.out.mono ?_; rintro e W10 ⟨rfl, rfl⟩)
            clear hcv hcw
            go_loopw [12] (fun i wr => ∃ k : Nat, k ≤ c.length ∧ i = .int .i64 k ∧ Mut W9 W8.heap.size c.length (.slice a9 c.length cap9) wr) (fun i _ => c.length - nOf i)
            case atStart => exact ⟨0, Nat.zero_le _, rfl, hM9⟩
            case round =>
              obtain ⟨k, hk, rfl, hM⟩ := hrel
              clear hM9
              by_cases hlt : k < c.length
              · obtain ⟨g, x, rfl, hx, q0, f0, hput⟩ := hM.at_ k hlt
                obtain ⟨y, hy, hw⟩ := inc_u8 x hx
                have hE := Lib.hid (hput y hy)
                have i1 : decide ((k : Int) < (c.length : Int)) = true := by simp; omega
                clear hM hput D9
                go_wp2
                go_roundw
                case rel => exact ⟨k + 1, by omega, by go_num, hE.out⟩
                case measure => simp [nOf]; omega
              · have i1 : decide ((k : Int) < (c.length : Int)) = false := by simp; omega
                have D10 := Lib.hid (D9.out.beside hM.kp (fun k e => Nat.le_trans hle9.out (hlt9.out k e).1) (fun k hk e => by have := hap9.out k hk; have := (hlt9.out k e).1; omega))
                clear hM D9 HL
                go_wp2_with fail
                refine D10.out.snap.mono ?_
                rintro e W11 ⟨v11, rfl, m11, hb11⟩
                rw [hh3.out]
                rw [hS3.out] at m11
                have D11 := Lib.hid (D10.out.later hb11)
                obtain ⟨a11, cap11, rfl⟩ := m11.form
                have hcv := bs_str m11.bs
                have hcw := bs_str (hbs.late D11.out.bel)
                have HW11 := Lib.hid (works_any W11 D11.out.hv)
                clear m11 hb11 D10
                go_wp2_with fail
                refine HW11.out.mono ?_
                rintro e W12 ⟨rfl, hb12⟩
                have hb := Lib.hid (D11.out.bel.trans (hb12.mono D11.out.bel.size))
                clear HW11 D11 hb12
                go_wp2
                go_ret
                exact ⟨rfl, hb.out⟩
end Go.Proofs.YtojeccmnhgcmcaaDoor.Dsk
