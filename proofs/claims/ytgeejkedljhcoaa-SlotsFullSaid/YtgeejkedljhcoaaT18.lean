/- SlotsOrder: the walk. -/
import Derived.Test.YtgeejkedljhcoaaT17
namespace Go.Proofs.Ytgeejkedljhcoaa.Slt
open Go.RowKit Go.Maps Go.Lib Go.ChangeShapes
set_option linter.unusedVariables false
set_option linter.unusedSimpArgs false
set_option maxRecDepth 100000

/-- Two logs beside each other. -/
structure Two (w : World) (sa ma sb mb : Nat) (s t : St) (W : World) : Prop where
  a : WAt w sa ma s W
  b : WAt w sb mb t W
  ap : sa ≠ sb ∧ sa ≠ mb ∧ ma ≠ sb ∧ ma ≠ mb
section
variable {w W W' : World} {sa ma sb mb : Nat} {s t s' t' : St}
theorem Two.later (h : Two w sa ma sb mb s t W) (hb : Below W.heap.size W W') : Two w sa ma sb mb s t W' := ⟨h.a.later hb, h.b.later hb, h.ap⟩
theorem Two.alloc (h : Two w sa ma sb mb s t W) (o : Obj) : Two w sa ma sb mb s t (W.alloc o) := h.later (alloc_b _ _)
theorem Two.stepA (h : Two w sa ma sb mb s t W) (hA : WAt w sa ma s' W') (hk : Keeps (KL sa ma) W W') : Two w sa ma sb mb s' t W' :=
  ⟨hA, h.b.beside hk ⟨Ne.symm h.ap.1, Ne.symm h.ap.2.2.1, Ne.symm h.ap.2.1, Ne.symm h.ap.2.2.2⟩ ⟨h.a.hs, h.a.hm⟩, h.ap⟩
theorem Two.stepB (h : Two w sa ma sb mb s t W) (hB : WAt w sb mb t' W') (hk : Keeps (KL sb mb) W W') : Two w sa ma sb mb s t' W' :=
  ⟨h.a.beside hk h.ap ⟨h.b.hs, h.b.hm⟩, hB, h.ap⟩
end
set_option maxHeartbeats 16000000 in
theorem order_law (a1 : Option Addr) (len1 cap1 : Nat) (S : Nat → Nat) (w : World) (h1 : IsU w a1 len1 cap1 S) :
    Calls Try.prog 7 #[.slice a1 len1 cap1] w (Yes w) := by
  obtain ⟨n, hl2⟩ : ∃ n, min len1 200 = n := ⟨_, rfl⟩
  have hmin : ∀ (ts : Array TypeId) (t : TypeId) (w : World), (Builtin.min_ ts t #[.int .i64 len1, .int .i64 200]).run Try.prog w = .ok (.int .i64 n) w := min_n 200 _ _ hl2
  have hll : n ≤ len1 := by omega
  have hn200 : n ≤ 200 := by omega
  have q0 : (n : Int) ≤ (cap1 : Int) := by have := h1.fit.1; omega
  have hcap := h1.fit.2
  have hlc := h1.fit.1
  have HWk := Lib.hid (fun W => works_any W)
  have hcell : Hid (∀ W, Below w.heap.size w W → ∀ i, i < n → ∃ b off, a1 = some ⟨b, off, none⟩ ∧ W.cell? ⟨b, off + i, none⟩ = some (.int .u8 (S i : Nat))) := Lib.hid fun W hW i hi => by
    obtain ⟨b, off, e, _, hc⟩ := h1.at hW (show i < len1 by omega)
    exact ⟨b, off, e, hc⟩
  have hrng := Lib.hid h1.rng
  have HN := Lib.hid (fun W (hW : Below w.heap.size w W) => new_w w W hW)
  obtain ⟨f, hf⟩ : ∃ f : Nat → Nat, f = fun i => S i % 64 := ⟨_, rfl⟩
  obtain ⟨g, hg⟩ : ∃ g : Nat → Nat, g = fun i => S (n - 1 - i) % 64 := ⟨_, rfl⟩
  have hf64 : Hid (∀ i, f i < 64) := Lib.hid fun i => by rw [hf]; exact Nat.mod_lt _ (by decide)
  have hg64 : Hid (∀ i, g i < 64) := Lib.hid fun i => by rw [hg]; exact Nat.mod_lt _ (by decide)
  have hrev : Hid (ordS g n = ordS f n) := Lib.hid (ord_rev hf64.out hg64.out fun i hi => by rw [hf, hg])
  have hfe : Hid (∀ i, f i = S i % 64) := Lib.hid fun i => by rw [hf]
  have hge : Hid (∀ i, g i = S (n - 1 - i) % 64) := Lib.hid fun i => by rw [hg]
  have hff := Lib.hid hf
  clear h1 hl2 hf hg
  go_enter Try.func7, Try.ntmps7
  go_wp2_with fail
  go_at_call 13
  refine (HN.out w (Below.refl _ _)).mono ?_
  rintro e W1 ⟨sa, ma, rfl, hN1, hb1, _⟩
  go_wp2_with fail
  go_at_call 13
  refine (HN.out W1 hN1.bel).mono ?_
  rintro e W2 ⟨sb, mb, rfl, hN2, hb2, hs2, hm2⟩
  have hT0 : Two w sa ma sb mb (ordS f 0) (ordS g 0) W2 := ⟨hN1.later hb2, hN2, by have := hN1.ax.lt; omega⟩
  replace hT0 := Lib.hid hT0
  clear hN1 hN2 hb1 hb2 hs2 hm2 HN
  go_wp2
  go_loopw [22] (fun i wr => ∃ k : Nat, k ≤ n ∧ i = .int .i64 k ∧ Two w sa ma sb mb (ordS f k) (ordS g k) wr) (fun i _ => n - nOf i)
  case atStart => exact ⟨0, Nat.zero_le _, rfl, hT0.out⟩
  case round =>
    clear hT0
    obtain ⟨k, hk, rfl, hT⟩ := hrel
    by_cases hlt : k < n
    · obtain ⟨b, off, rfl, d1⟩ := hcell.out wr hT.a.bel k hlt
      obtain ⟨b', off', e', d2⟩ := hcell.out wr hT.a.bel (n - 1 - k) (by omega)
      injection e' with e'
      injection e' with e1 e2
      subst e1 e2
      have i1 : decide ((k : Int) < (n : Int)) = true := by simp; omega
      have i2 : 0 ≤ (k : Int) := by omega
      have i3 : (k : Int) < (n : Int) := by omega
      obtain ⟨r, hr⟩ : ∃ r, n - 1 - k = r := ⟨_, rfl⟩
      have hw1 : IntKind.i64.wrap ((n : Int) - 1) = (n : Int) - 1 := by rw [IntKind.wrap_i64]; omega
      have hw2 : IntKind.i64.wrap ((n : Int) - 1 - (k : Int)) = (r : Int) := by rw [IntKind.wrap_i64]; omega
      have hw3 : IntKind.i64.wrap ((k : Int) + 1) = (k : Int) + 1 := by rw [IntKind.wrap_i64]; omega
      have i4 : 0 ≤ (r : Int) := by omega
      have i5 : (r : Int) < (n : Int) := by omega
      have i6 : r < n := by omega
      have hfk := hfe.out k
      have hgk := hge.out k
      rw [hr] at d2 hgk
      have hS1 := hrng.out k
      have hS2 := hrng.out r
      generalize S k = v1 at *
      generalize S r = v2 at *
      have k1 : (v1 : Int).tmod 64 = ((v1 % 64 : Nat) : Int) := (Int.ofNat_tmod v1 64).symm
      have k2 : (v2 : Int).tmod 64 = ((v2 % 64 : Nat) : Int) := (Int.ofNat_tmod v2 64).symm
      rw [← hfk] at k1
      rw [← hgk] at k2
      have l1 := hf64.out k
      have l2 := hg64.out k
      obtain ⟨_, _, _, _, hPf⟩ := ord_facts hf64.out k
      obtain ⟨_, _, _, _, hPg⟩ := ord_facts hg64.out k
      have hcf := Lib.hid (fun W c => conv_new W (f k) (by omega) c)
      have hcg := Lib.hid (fun W c => conv_new W (g k) (by omega) c)
      have hsf : Hid (putS (ordS f k) (f k) (chr (f k)) = ordS f (k + 1)) := Lib.hid rfl
      have hsg : Hid (putS (ordS g k) (g k) (chr (g k)) = ordS g (k + 1)) := Lib.hid rfl
      generalize f k = p at *
      generalize g k = q at *
      have k3 : IntKind.u8.wrap (p : Int) = p := by rw [IntKind.wrap_u8]; omega
      have k4 : IntKind.u8.wrap (q : Int) = q := by rw [IntKind.wrap_u8]; omega
      have k5 : IntKind.i64.wrap (p : Int) = p := by rw [IntKind.wrap_i64]; omega
      have k6 : IntKind.i64.wrap (q : Int) = q := by rw [IntKind.wrap_i64]; omega
      replace hPf := Lib.hid hPf
      replace hPg := Lib.hid hPg
      replace hr := Lib.hid hr
      replace hT := Lib.hid hT
      clear hfk hgk hS1 hS2
      go_wp2
      go_quiet (fail)
      have hT2 : Two w sa ma sb mb (ordS f k) (ordS g k) (wr.drewN nq) := hT.out.later (below_drewN (Below.refl _ _) _)
      generalize wr.drewN nq = V at *
      have hT3 := Lib.hid (hT2.alloc (.cells #[.int .u8 (p : Nat)] TU8))
      have hc1 := hcf.out V
      clear hT hT2 d1 d2
      go_wp2_with fail
      go_at_call 16
      refine (hT3.out.a.put p (chr p) hPf.out hsf.out).mono ?_
      rintro e W4 ⟨rfl, hA4, hk4⟩
      have hT4 := hT3.out.stepA hA4 hk4
      have hT5 := Lib.hid (hT4.alloc (.cells #[.int .u8 (q : Nat)] TU8))
      have hc2 := hcg.out W4
      clear hT3 hT4 hA4 hk4 hc1
      go_wp2_with fail
      go_at_call 16
      refine (hT5.out.b.put q (chr q) hPg.out hsg.out).mono ?_
      rintro e W6 ⟨rfl, hB6, hk6⟩
      have hT6 := hT5.out.stepB hB6 hk6
      clear hT5 hB6 hk6 hc2
      go_wp2
      go_roundw
      case rel => exact ⟨k + 1, by omega, by go_num, hT6⟩
      case measure => simp [nOf]; omega
    · have hkn : n = k := by omega
      subst hkn
      have i1 : decide ((n : Int) < (n : Int)) = false := by simp
      rw [hrev.out] at hT
      obtain ⟨hO, _⟩ := ord_facts hf64.out n
      have hhas := Lib.hid (fun q => ord_has hf64.out n q)
      rw [hff.out] at hhas
      have hff2 := Lib.hid (show ordS f n = ordS (fun i => S i % 64) n by rw [hff.out])
      rw [← hff2.out] at hhas
      generalize ordS f n = s at *
      have hCn := Lib.hid (fun c q W hW hc => contains_any (w0 := w) a1 n cap1 S hcell.out hrng.out hn200 c q W hW hc)
      have hp5 : (preV s).length ≤ 4096 := by have := pre_len hO; have := upto_le hO; have := hO.hb; omega
      have hg5 := gap_len4 hO
      replace hO := Lib.hid hO
      replace hT := Lib.hid hT
      clear hcell hrng hfe hge hff hff2 hrev hf64 hg64 hlt
      go_wp2
      go_loopw [60] (fun i wr => ∃ k : Nat, k ≤ 64 ∧ i = .int .i64 k ∧ Two w sa ma sb mb s s wr) (fun i _ => 64 - nOf i)
      case atStart => exact ⟨0, Nat.zero_le _, rfl, hT.out⟩
      case round =>
        clear hT
        obtain ⟨k, hk, rfl, hT⟩ := hrel
        by_cases hlt : k < 64
        · have i1 : decide ((k : Int) < 64) = true := by simp; omega
          have hw3 : IntKind.i64.wrap ((k : Int) + 1) = (k : Int) + 1 := by rw [IntKind.wrap_i64]; omega
          have hT2 := hT.alloc (.cells #[.int .i64 k] TI)
          have hcb := cell_of_row _ _ 0 _ TI _ (heap_alloc_new wr (.cells #[.int .i64 k] TI))
          simp only [List.getElem?_toArray, List.getElem?_cons_zero] at hcb
          obtain ⟨r, hr⟩ : ∃ r, getM s.M (k : Int) = r := ⟨_, rfl⟩
          have HA := Lib.hid (hT2.a.get k (wf64 (by omega) (by omega)) hr)
          have HB := Lib.hid (hT2.b.get k (wf64 (by omega) (by omega)) hr)
          have hhk := hhas.out k
          rw [hr] at hhk
          have HC := Lib.hid (hCn.out _ k _ hT2.a.bel hcb)
          rw [← hhk] at HC
          have ht := tl_eq (gK r) (gK r)
          rw [eqT_t] at ht
          generalize gK r = x at *
          generalize r.isSome = y at *
          replace hT2 := Lib.hid hT2
          clear hT hr hhk hhas hCn
          cases y with
          | true =>
            go_wp2_with fail
            go_at_call 24
            refine HA.out.mono ?_
            rintro e W5 ⟨rfl, rfl⟩
            go_wp2_with fail
            go_at_call 24
            refine HB.out.mono ?_
            rintro e W5 ⟨rfl, rfl⟩
            go_wp2_with fail
            go_at_call 32
            refine HC.out.mono ?_
            rintro e W5 ⟨rfl, rfl⟩
            go_wp2
            go_roundw
            case rel => exact ⟨k + 1, by omega, by go_num, hT2.out⟩
            case measure => simp [nOf]; omega
          | false =>
            go_wp2_with fail
            go_at_call 24
            refine HA.out.mono ?_
            rintro e W5 ⟨rfl, rfl⟩
            go_wp2_with fail
            go_at_call 24
            refine HB.out.mono ?_
            rintro e W5 ⟨rfl, rfl⟩
            go_wp2_with fail
            go_at_call 32
            refine HC.out.mono ?_
            rintro e W5 ⟨rfl, rfl⟩
            go_wp2
            go_roundw
            case rel => exact ⟨k + 1, by omega, by go_num, hT2.out⟩
            case measure => simp [nOf]; omega
        · have hk64 : k = 64 := by omega
          subst hk64
          have i1 : decide (((64 : Nat) : Int) < 64) = false := by decide
          obtain ⟨U, hU⟩ : ∃ U, uptoV s = U := ⟨_, rfl⟩
          obtain ⟨PL, hPL⟩ : ∃ PL, preV s = PL := ⟨_, rfl⟩
          obtain ⟨GL, hGL⟩ : ∃ GL, gapV s = GL := ⟨_, rfl⟩
          rw [hPL] at hp5
          rw [hGL] at hg5
          have HUa := Lib.hid (hT.a.upto hU)
          have HUb := Lib.hid (hT.b.upto hU)
          have HPa := Lib.hid (hT.a.prefixs hPL)
          have HPb := Lib.hid (fun W (h : Two w sa ma sb mb s s W) => h.b.prefixs hPL)
          have HGa := Lib.hid (fun W (h : Two w sa ma sb mb s s W) => h.a.gaps hGL)
          have HGb := Lib.hid (fun W (h : Two w sa ma sb mb s s W) => h.b.gaps hGL)
          replace hT := Lib.hid hT
          replace hp5 := Lib.hid hp5
          replace hg5 := Lib.hid hg5
          clear hhas hCn hU hPL hGL hlt
          go_wp2_with fail
          go_at_call 25
          refine HUa.out.mono ?_
          rintro e W4 ⟨rfl, rfl⟩
          go_wp2_with fail
          go_at_call 25
          refine HUb.out.mono ?_
          rintro e W4 ⟨rfl, rfl⟩
          go_wp2_with fail
          go_at_call 27
          refine HPa.out.mono ?_
          rintro e W5 ⟨v5, rfl, hO5, _, hb5⟩
          have hT5 := hT.out.later hb5
          obtain ⟨a5, c5, rfl⟩ := rows_form hO5
          clear hb5
          replace hO5 := Lib.hid hO5
          go_wp2_with fail
          go_at_call 27
          refine (HPb.out _ hT5).mono ?_
          rintro e W6 ⟨v6, rfl, hO6, _, hb6⟩
          have hT6 := hT5.later hb6
          have hI5 := Lib.hid (hO5.out.later hb6).is
          have hI6 := Lib.hid hO6.is
          obtain ⟨a6, c6, rfl⟩ := rows_form hO6
          clear hb6 hO5 hO6 hT5
          go_wp2_with fail
          go_at_call 34
          refine (equalS_any _ _ PL PL _ hI5.out hI6.out (by have := hp5.out; omega) (by have := hp5.out; omega)).mono ?_
          rintro e W7 ⟨rfl, hb7⟩
          rw [eqTs_t]
          have hT7 := hT6.later hb7
          clear hb7 hI5 hI6 hT6
          go_wp2_with fail
          go_at_call 28
          refine (HGa.out _ hT7).mono ?_
          rintro e W8 ⟨v8, rfl, hO8, _, hb8⟩
          have hT8 := hT7.later hb8
          obtain ⟨a8, c8, rfl⟩ := rows_form hO8
          clear hb8 hT7
          replace hO8 := Lib.hid hO8
          go_wp2_with fail
          go_at_call 28
          refine (HGb.out _ hT8).mono ?_
          rintro e W9 ⟨v9, rfl, hO9, _, hb9⟩
          have hT9 := hT8.later hb9
          have hI8 := Lib.hid (hO8.out.later hb9).is
          have hI9 := Lib.hid hO9.is
          obtain ⟨a9, c9, rfl⟩ := rows_form hO9
          clear hb9 hO8 hO9 hT8
          go_wp2_with fail
          go_at_call 31
          refine (equal_any _ _ GL GL _ hI8.out hI9.out (by have := hg5.out; omega) (by have := hg5.out; omega)).mono ?_
          rintro e W10 ⟨rfl, hb10⟩
          rw [eqLs_t]
          have hT10 := hT9.later hb10
          have hbl := Lib.hid hT10.a.bel
          clear hb10 hI8 hI9 hT9 hT10
          go_wp2_with (go_at_call 12; refine (HWk.out _).mono ?_; rintro e W11 ⟨rfl, hb11⟩)
          go_ret
          exact ⟨rfl, hbl.out.trans (hb11.mono hbl.out.size)⟩
end Go.Proofs.Ytgeejkedljhcoaa.Slt
