/- DiskCopies. -/
import Derived.Test.YtojeccmnhgcmcaaDoorH19
namespace Go.Proofs.YtojeccmnhgcmcaaDoor.Dsk
open Go.RowKit Go.ChangeShapes Go.WideShapes _root_.Go.Proofs.YtojeccmnhgcmcaaDoor.Frame
open _root_.Go.Proofs.YtojeccmnhgcmcaaDoor.Crc (Hv more more_lt ret_u32)
set_option linter.unusedVariables false
set_option linter.unusedSimpArgs false
set_option maxRecDepth 100000

theorem IsSq.at_all {w : World} {a : Option Addr} {len cap : Nat} {S : Nat → Sq} (h : IsSq w a len cap S) (i : Nat) (hi : i < len) :
    ∃ b off a' c', a = some ⟨b, off, Option.none⟩ ∧ (S i).c.length ≤ 9223372036854775807 ∧ ∀ W, Below w.heap.size w W → W.cell? ⟨b, off + i * 3, Option.none⟩ = some (.int .i64 (S i).k) ∧ W.cell? ⟨b, off + i * 3 + 1, Option.none⟩ = some (.slice a' (S i).c.length c') ∧ W.cell? ⟨b, off + i * 3 + 2, Option.none⟩ = some (.int .i64 (S i).x) ∧
      Bs W (Old w) (.slice a' (S i).c.length c') (S i).c := by
  obtain ⟨b, off, e, hlt, hc⟩ := h.cell (by omega)
  obtain ⟨c0, c1, c2⟩ := hc i hi
  obtain ⟨_, _, h2, h3⟩ := h.wf i
  obtain ⟨a', c', ev⟩ := (h.wf i).form
  rw [ev] at c1 h2
  exact ⟨b, off, a', c', e, h3, fun W hb => ⟨(hb.cell (p := ⟨b, _, Option.none⟩) hlt).trans c0, (hb.cell (p := ⟨b, _, Option.none⟩) hlt).trans c1, (hb.cell (p := ⟨b, _, Option.none⟩) hlt).trans c2, h2.late hb⟩⟩
/-- Three disks apart from each other. -/
structure Pr (w : World) (d a b : Nat) (m m1 m2 : St) (W : World) : Prop where
  ex : ∃ Fd Fa Fb, Dk w d Fd m W ∧ Dk w a Fa m1 W ∧ Dk w b Fb m2 W ∧ (∀ k, Fd k → ¬ Fa k) ∧ (∀ k, Fd k → ¬ Fb k) ∧ (∀ k, Fa k → ¬ Fb k)
section
variable {w W W' : World} {d a b : Nat} {m m1 m2 m' : St}
theorem Pr.later (h : Pr w d a b m m1 m2 W) (hb : Below W.heap.size W W') : Pr w d a b m m1 m2 W' := by
  obtain ⟨Fd, Fa, Fb, h1, h2, h3, h4⟩ := h.ex
  exact ⟨Fd, Fa, Fb, h1.later hb, h2.later hb, h3.later hb, h4⟩
theorem Pr.bel (h : Pr w d a b m m1 m2 W) : Below w.heap.size w W := by
  obtain ⟨_, _, _, h1, _⟩ := h.ex
  exact h1.bel
theorem Pr.hv (h : Pr w d a b m m1 m2 W) : Hv W := by
  obtain ⟨_, _, _, h1, _⟩ := h.ex
  exact h1.hv
theorem Pr.swap (h : Pr w d a b m m1 m2 W) : Pr w d b a m m2 m1 W := by
  obtain ⟨Fd, Fa, Fb, h1, h2, h3, h4, h5, h6⟩ := h.ex
  exact ⟨Fd, Fb, Fa, h1, h3, h2, h5, h4, apart_sym h6⟩
theorem Pr.step {Fd Fa Fb : Nat → Prop} (h1 : Dk w d Fd m W) (h2 : Dk w a Fa m1 W) (h3 : Dk w b Fb m2 W) (h4 : ∀ k, Fd k → ¬ Fa k) (h5 : ∀ k, Fd k → ¬ Fb k) (h6 : ∀ k, Fa k → ¬ Fb k)
    (hD : Dk w a (More Fa W W') m' W') (hK : Keeps Fa W W') : Pr w d a b m m' m2 W' :=
  ⟨Fd, More Fa W W', Fb, h1.beside hK h2.fr h4, hD, h3.beside hK h2.fr (apart_sym h6), apart_more h1.dx.lt h4, h5, apart_sym (apart_more h3.dx.lt (apart_sym h6))⟩
theorem Pr.appA {v : Value} {c : List Nat} {G : Nat → Prop} (h : Pr w d a b m m1 m2 W) (hv : Bs W G v c) (hG : ∀ k, G k → k < W.heap.size) :
    Calls Tryd.prog 15 #[.pointer (some ⟨a, 0, none⟩), v] W fun e W' => e = .returned (.int .i64 (appE m1 c : Nat)) ∧ Pr w d a b m (appS m1 c) m2 W' := by
  obtain ⟨Fd, Fa, Fb, h1, h2, h3, h4, h5, h6⟩ := h.ex
  exact (h2.app hv hG rfl rfl).mono fun e W' ⟨he, hD, hK⟩ => ⟨he, Pr.step h1 h2 h3 h4 h5 h6 hD hK⟩
theorem Pr.tearA (h : Pr w d a b m m1 m2 W) (x : Int) :
    Calls Tryd.prog 19 #[.pointer (some ⟨a, 0, none⟩), .int .i64 x] W fun e W' => e = .returned (.tuple #[]) ∧ Pr w d a b m (torS m1 x) m2 W' := by
  obtain ⟨Fd, Fa, Fb, h1, h2, h3, h4, h5, h6⟩ := h.ex
  exact (h2.tear x rfl).mono fun e W' ⟨he, hD, hK⟩ => ⟨he, Pr.step h1 h2 h3 h4 h5 h6 hD hK⟩
theorem Pr.saveA {v : Value} {c : List Nat} {G : Nat → Prop} (h : Pr w d a b m m1 m2 W) (hv : Bs W G v c) (hG : ∀ k, G k → k < W.heap.size) (hc : c.length ≤ 9223372036854775807) :
    Calls Tryd.prog 21 #[.pointer (some ⟨a, 0, none⟩), v] W fun e W' => e = .returned (.int .i64 (savE c : Nat)) ∧ Pr w d a b m (savS m1 c) m2 W' := by
  obtain ⟨Fd, Fa, Fb, h1, h2, h3, h4, h5, h6⟩ := h.ex
  exact (h2.save hv hG hc rfl rfl).mono fun e W' ⟨he, hD, hK⟩ => ⟨he, Pr.step h1 h2 h3 h4 h5 h6 hD hK⟩
end
set_option maxHeartbeats 16000000 in
theorem copies_law (a : Option Addr) (len cap : Nat) (S : Nat → Sq) (a2 : Option Addr) (len2 cap2 : Nat) (S2 : Nat → Sq) (w : World) (h : IsSq w a len cap S) (h2 : IsSq w a2 len2 cap2 S2) (hH : Hv w) :
    Calls Tryd.prog 9 #[.slice a len cap, .slice a2 len2 cap2] w (Yes w) := by
  have hfit := h.fit
  have hfit2 := h2.fit
  have HS := Lib.hid (short_any h (Below.refl _ _))
  have HS2 := Lib.hid (short_any h2 (Below.refl _ _))
  have HW := Lib.hid (works_any w hH)
  have hh0 := Lib.hid (hv_lt hH)
  have HF := Lib.hid (fun (W : World) (hb : Below w.heap.size w W) (hHW : Hv W) => filled_any h hb hHW hh0.out)
  have HI := Lib.hid h2
  have HH := Lib.hid hH
  clear h h2 hH
  generalize runS S len = m at *
  by_cases h60 : 60 < len
  · have d1 : decide ((60 : Int) < (len : Int)) = true := by simp; omega
    go_enter Tryd.func9, Tryd.ntmps9
    go_wp2_with (go_at_call 12; refine HW.out.mono ?_; rintro e W5 ⟨rfl, hb5⟩)
    go_ret
    exact ⟨rfl, hb5⟩
  have d1 : decide ((60 : Int) < (len : Int)) = false := by simp; omega
  by_cases h602 : 60 < len2
  · have d2 : decide ((60 : Int) < (len2 : Int)) = true := by simp; omega
    go_enter Tryd.func9, Tryd.ntmps9
    go_wp2_with (go_at_call 12; refine HW.out.mono ?_; rintro e W5 ⟨rfl, hb5⟩)
    go_ret
    exact ⟨rfl, hb5⟩
  have d2 : decide ((60 : Int) < (len2 : Int)) = false := by simp; omega
  go_enter Tryd.func9, Tryd.ntmps9
  go_wp2_with fail
  refine HS.out.mono ?_
  rintro e W0 ⟨b1, rfl, _, rfl⟩
  cases b1 with
  | false =>
    go_wp2_with (go_at_call 12; refine HW.out.mono ?_; rintro e W5 ⟨rfl, hb5⟩)
    go_ret
    exact ⟨rfl, hb5⟩
  | true =>
    go_wp2_with fail
    refine HS2.out.mono ?_
    rintro e W0 ⟨b2, rfl, _, rfl⟩
    cases b2 with
    | false =>
      go_wp2_with (go_at_call 12; refine HW.out.mono ?_; rintro e W5 ⟨rfl, hb5⟩)
      go_ret
      exact ⟨rfl, hb5⟩
    | true =>
      clear HS HS2 HW
      go_wp2_with fail
      refine (HF.out w (Below.refl _ _) HH.out).mono ?_
      rintro e W1 ⟨d, rfl, D1, _⟩
      go_wp2_with fail
      refine D1.copy.mono ?_
      rintro e W2 ⟨da, rfl, A2, D2, hb2⟩
      have ap1 := apart_new (W' := W2) D1.dx.lt
      replace A2 := Lib.hid A2
      replace D2 := Lib.hid D2
      replace ap1 := Lib.hid ap1
      clear D1 hb2
      go_wp2_with fail
      refine D2.out.copy.mono ?_
      rintro e W3 ⟨db, rfl, B3, D3, hb3⟩
      have A3 := A2.out.later hb3
      have hP3 : Pr w d da db m m m W3 := ⟨_, _, _, D3, A3, B3, ap1.out, apart_new D2.out.dx.lt, apart_new A2.out.dx.lt⟩
      have HE := Lib.hid (equal_same A3 D3)
      replace hP3 := Lib.hid hP3
      clear A2 A3 B3 D2 D3 hb3 ap1
      go_wp2_with fail
      refine HE.out.mono ?_
      rintro e W4 ⟨rfl, hb4⟩
      have hP4 := hP3.out.later hb4
      clear HE hP3 hb4
      go_wp2
      go_loopw [8] (fun i wr => ∃ (k : Nat) (m1 : St), k ≤ len2 ∧ i = .int .i64 k ∧ Pr w d da db m m1 m1 wr) (fun i _ => len2 - nOf i)
      case atStart => exact ⟨0, m, Nat.zero_le _, rfl, hP4⟩
      case round =>
        obtain ⟨k, m1, hk, rfl, hP⟩ := hrel
        clear hP4
        by_cases hlt : k < len2
        · obtain ⟨b, off, a', c', rfl, hcl, HB⟩ := HI.out.at_all k hlt
          have i1 : decide ((k : Int) < (len2 : Int)) = true := by simp; omega
          replace HB := Lib.hid HB
          obtain ⟨t, ht⟩ : ∃ t, S2 k = t := ⟨_, rfl⟩
          rw [ht] at HB hcl
          obtain ⟨tk, tc, tx, tv⟩ := t
          dsimp only at HB hcl
          clear ht
          have hPd := Lib.hid (hP.later (Below.refl _ wr).drew)
          have HK := Lib.hid (fun (W : World) (hb : Below w.heap.size w W) => (HB.out W hb).2.1)
          have hbd := Lib.hid hPd.out.bel
          obtain ⟨n, hn⟩ : ∃ n, tc.length = n := ⟨_, rfl⟩
          rw [hn] at HB HK hcl
          replace hn := Lib.hid hn
          obtain ⟨E, hE⟩ : ∃ E : Int, ((appE m1 tc : Nat) : Int) = E := ⟨_, rfl⟩
          replace hE := Lib.hid hE
          clear hP
          go_wp2
          go_region_held3 (fun W => W.cell? ⟨b, off + k * 3 + 1, none⟩ = some (.slice a' n c'))
            ((first | exact HK.out _ P6.out.bel | exact HK.out _ P5.out.bel | exact HK.out _ hbd.out | assumption))
            ((first
              | (have _ := P5; go_at_call 15; refine (P5.out.swap.appA (HB.out _ P5.out.bel).2.2.2 (old_lt P5.out.bel)).mono ?_; rintro e W6 ⟨rfl, hP6⟩; have P6 := Lib.hid hP6.swap; clear hP6; rw [hE.out])
              | (go_at_call 15; refine (hPd.out.appA (HB.out _ hbd.out).2.2.2 (old_lt hbd.out)).mono ?_; rintro e W5 ⟨rfl, hP5⟩; have P5 := Lib.hid hP5; clear hP5; rw [hE.out])))
          obtain ⟨c0, c1, c2, _⟩ := HB.out _ P6.out.bel
          clear P5 hPd hbd HK hE
          generalize appS m1 tc = m3 at *
          by_cases e2 : tk = 2
          · subst e2
            go_wp2_with fail
            refine (P6.out.tearA tx).mono ?_
            rintro e W7 ⟨rfl, hP7⟩
            have P7 := Lib.hid hP7.swap
            obtain ⟨q0, q1, q2, _⟩ := HB.out _ hP7.bel
            clear P6 c0 c1 c2 hP7
            go_wp2_with fail
            refine (P7.out.tearA tx).mono ?_
            rintro e W8 ⟨rfl, hP8⟩
            have P8 := Lib.hid hP8.swap
            obtain ⟨c0, c1, c2, _⟩ := HB.out _ hP8.bel
            clear P7 q0 q1 q2 hP8
            go_wp2
            go_quiet (fail)
            go_wp2
            have P9 := Lib.hid (P8.out.later (drewN_b (Below.refl _ W8) nq))
            go_roundw
            case rel => exact ⟨k + 1, _, by omega, by go_num, P9.out⟩
            case measure => simp [nOf]; omega
          · by_cases e3 : tk = 3
            · subst e3
              have P6d := Lib.hid (P6.out.later (Below.refl _ W6).drew)
              have hbd6 := Lib.hid P6d.out.bel
              have HK := Lib.hid (fun (W : World) (hb : Below w.heap.size w W) => ((⟨(HB.out W hb).1, (HB.out W hb).2.1⟩ : W.cell? ⟨b, off + k * 3, none⟩ = some (.int .i64 3) ∧ W.cell? ⟨b, off + k * 3 + 1, none⟩ = some (.slice a' n c'))))
              clear P6
              go_wp2
              go_region_held3 (fun W => W.cell? ⟨b, off + k * 3, none⟩ = some (.int .i64 3) ∧ W.cell? ⟨b, off + k * 3 + 1, none⟩ = some (.slice a' n c'))
                ((first | exact HK.out _ P8.out.bel | exact HK.out _ P7.out.bel | exact HK.out _ hbd6.out | assumption))
                ((first
                  | (have _ := P7; go_at_call 21; refine (P7.out.swap.saveA (HB.out _ P7.out.bel).2.2.2 (old_lt P7.out.bel) (by rw [hn.out]; exact hcl)).mono ?_; rintro e W8 ⟨rfl, hP8⟩; have P8 := Lib.hid hP8.swap; clear hP8)
                  | (go_at_call 21; refine (P6d.out.saveA (HB.out _ hbd6.out).2.2.2 (old_lt hbd6.out) (by rw [hn.out]; exact hcl)).mono ?_; rintro e W7 ⟨rfl, hP7⟩; have P7 := Lib.hid hP7; clear hP7)))
              go_wp2
              go_roundw
              case rel => exact ⟨k + 1, _, by omega, by go_num, P8.out⟩
              case measure => simp [nOf]; omega
            · have f2 : (tk == 2) = false := by simpa using e2
              have f3 : (tk == 3) = false := by simpa using e3
              go_wp2
              go_quiet (fail)
              go_wp2
              have P9 := Lib.hid (P6.out.later (drewN_b (Below.refl _ W6) nq))
              go_roundw
              case rel => exact ⟨k + 1, _, by omega, by go_num, P9.out⟩
              case measure => simp [nOf]; omega
        · have i1 : decide ((k : Int) < (len2 : Int)) = false := by simp; omega
          obtain ⟨Fd, Fa, Fb, D5, A5, B5, _⟩ := hP.ex
          have HE := Lib.hid (equal_same A5 B5)
          replace D5 := Lib.hid D5
          clear hP A5 B5
          go_wp2_with fail
          refine HE.out.mono ?_
          rintro e W6 ⟨rfl, hb6⟩
          have D6 := Lib.hid (D5.out.later hb6)
          clear D5 HE hb6
          go_wp2_with fail
          refine (HF.out _ D6.out.bel D6.out.hv).mono ?_
          rintro e W7 ⟨f, rfl, F7, hb7⟩
          have D7 := D6.out.later hb7
          have HE := Lib.hid (equal_same D7 F7)
          replace D7 := Lib.hid D7
          clear F7 hb7 D6
          go_wp2_with fail
          refine HE.out.mono ?_
          rintro e W8 ⟨rfl, hb8⟩
          have D8 := Lib.hid (D7.out.later hb8)
          have HW8 := Lib.hid (works_any W8 D8.out.hv)
          clear D7 HE hb8
          go_wp2_with fail
          refine HW8.out.mono ?_
          rintro e W9 ⟨rfl, hb9⟩
          have hb := Lib.hid (D8.out.bel.trans (hb9.mono D8.out.bel.size))
          clear HW8 D8 hb9
          go_wp2
          go_ret
          exact ⟨rfl, hb.out⟩
end Go.Proofs.YtojeccmnhgcmcaaDoor.Dsk
