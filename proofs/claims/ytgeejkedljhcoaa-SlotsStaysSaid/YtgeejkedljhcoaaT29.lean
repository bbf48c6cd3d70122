/- SlotsStays: the moves. -/
import Derived.Test.YtgeejkedljhcoaaT28
namespace Go.Proofs.Ytgeejkedljhcoaa.Slt
open Go.RowKit Go.Maps Go.Lib
set_option linter.unusedVariables false
set_option linter.unusedSimpArgs false
set_option maxRecDepth 100000

/-- One log in a box, the box of the further move. -/
structure Sz (w : World) (bx mx sb mb : Nat) (s : St) (m : Mt) (W : World) : Prop where
  a : WAt w sb mb s W
  bx : W.heap[bx]? = some (.cells #[.pointer (some ⟨sb, 0, none⟩)] TPL (0, 0))
  mx : W.heap[mx]? = some (.cells (mA m) TV (0, 0))
structure Sw (w : World) (bx mx bb sb mb : Nat) (s : St) (m p : Mt) (W : World) : Prop where
  z : Sz w bx mx sb mb s m W
  pb : W.heap[bb]? = some (.cells (mA p) TV (0, 0))
section
variable {w W W' : World} {bx mx bb sb mb : Nat} {s s' : St} {m p : Mt}
theorem Sz.later (h : Sz w bx mx sb mb s m W) (hb : Below W.heap.size W W') : Sz w bx mx sb mb s m W' :=
  ⟨h.a.later hb, (hb.block _ (Array.getElem?_eq_some_iff.1 h.bx).1).trans h.bx, (hb.block _ (Array.getElem?_eq_some_iff.1 h.mx).1).trans h.mx⟩
theorem Sz.step (h : Sz w bx mx sb mb s m W) (hA : WAt w sb mb s' W') (hk : Keeps (KL sb mb) W W') : Sz w bx mx sb mb s' m W' :=
  ⟨hA, (hk.block _ (Array.getElem?_eq_some_iff.1 h.bx).1 (h.a.ax.apart h.bx (by decide))).trans h.bx, (hk.block _ (Array.getElem?_eq_some_iff.1 h.mx).1 (h.a.ax.apart h.mx (by decide))).trans h.mx⟩
theorem Sw.later (h : Sw w bx mx bb sb mb s m p W) (hb : Below W.heap.size W W') : Sw w bx mx bb sb mb s m p W' :=
  ⟨h.z.later hb, (hb.block _ (Array.getElem?_eq_some_iff.1 h.pb).1).trans h.pb⟩
theorem Sw.cells (h : Sw w bx mx bb sb mb s m p W) : W.cell? ⟨bx, 0, none⟩ = some (.pointer (some ⟨sb, 0, none⟩)) ∧ W.cell? ⟨bb, 0, none⟩ = some (.int .u8 (p.k : Nat)) ∧ W.cell? ⟨bb, 1, none⟩ = some (.int .u8 (p.s : Nat)) ∧ W.cell? ⟨bb, 2, none⟩ = some (.int .u8 (p.v : Nat)) :=
  ⟨cell_of_row _ _ 0 _ TPL _ h.z.bx, cell_of_row _ _ 0 _ TV _ h.pb, cell_of_row _ _ 1 _ TV _ h.pb, cell_of_row _ _ 2 _ TV _ h.pb⟩
theorem Sz.sw (h : Sz w bx mx sb mb s m W) (p : Mt) : Sw w bx mx W.heap.size sb mb s m p (W.alloc (.cells (mA p) TV)) := ⟨h.later (alloc_b _ _), heap_alloc_new _ _⟩
end
theorem row_apart2 {W W' : World} {b1 b2 n1 n2 : Nat} {e1 e2 : TypeId} {v1 v2 : Value} {x1 x2 : List Value} (h1 : W.ownsRow b1 e1 1 v1 n1 x1) (h2 : W.ownsRow b2 e2 1 v2 n2 x2) (he : e1 ≠ e2) (hk : Keeps (fun i => v1.ownBlock = some i) W W') : W'.ownsRow b2 e2 1 v2 n2 x2 :=
  rows_kept h2 fun i hi => hk.block i (World.ownsRow.lt h2 i hi).2 fun hj => by
    rcases h1.2 with ⟨rfl, _⟩ | ⟨g, cap, cur, rfl, _, hg, _⟩
    · cases hj
    · injection hj with hj
      subst hj
      rcases h2.2 with ⟨rfl, _⟩ | ⟨g2, cap2, cur2, rfl, _, hg2, _⟩
      · cases hi
      · injection hi with hi
        subst hi
        rw [hg] at hg2
        injection hg2 with hg2
        injection hg2 with _ hg2
        exact he hg2
section
variable {w W W' : World} {bx mx cx sb mb sc mc : Nat} {s t : St} {m : Mt}
theorem Sc2.pre3 (h : Sc2 w bx mx cx sb mb sc mc s t m W) :
    Calls Try.prog 27 #[.pointer (some ⟨sb, 0, none⟩)] W fun e W' => ∃ v base, e = .returned v ∧ w.heap.size ≤ base ∧ OwS base (preV s) v W' ∧ Sc2 w bx mx cx sb mb sc mc s t m W' :=
  (h.2.2.2.2.2.a.prefixs rfl).mono fun e W' ⟨v, he, hO, _, hb⟩ => ⟨v, _, he, h.2.2.2.2.2.a.bel.size, hO, (h.2.2.2.2.2.later hb).scs⟩
theorem Sc2.gap3 (h : Sc2 w bx mx cx sb mb sc mc s t m W) :
    Calls Try.prog 28 #[.pointer (some ⟨sb, 0, none⟩)] W fun e W' => ∃ v base, e = .returned v ∧ w.heap.size ≤ base ∧ OwI base (gapV s) v W' ∧ Below W.heap.size W W' ∧ Sc2 w bx mx cx sb mb sc mc s t m W' :=
  (h.2.2.2.2.2.a.gaps rfl).mono fun e W' ⟨v, he, hO, _, hb⟩ => ⟨v, _, he, h.2.2.2.2.2.a.bel.size, hO, hb, (h.2.2.2.2.2.later hb).scs⟩
end
abbrev S31 (bx mx cx sb sc : Nat) (m : Mt) (W : World) : Prop :=
  W.cell? ⟨bx, 0, none⟩ = some (.pointer (some ⟨sb, 0, none⟩)) ∧ W.cell? ⟨cx, 0, none⟩ = some (.pointer (some ⟨sc, 0, none⟩)) ∧
  W.cell? ⟨mx, 0, none⟩ = some (.int .u8 (m.k : Nat)) ∧ W.cell? ⟨mx, 1, none⟩ = some (.int .u8 (m.s : Nat)) ∧ W.cell? ⟨mx, 2, none⟩ = some (.int .u8 (m.v : Nat)) ∧ True
theorem Sy.s31 {w W : World} {bx mx cx sb mb sc mc : Nat} {s t : St} {m : Mt} (h : Sy w bx mx cx sb mb sc mc s t m W) : S31 bx mx cx sb sc m W :=
  ⟨h.scs.1, h.scs.2.1, h.scs.2.2.1, h.scs.2.2.2.1, h.scs.2.2.2.2.1, trivial⟩
set_option maxHeartbeats 16000000 in
theorem stays_any (a1 : Option Addr) (len1 cap1 : Nat) (S : Nat → Mt) (m : Mt) (w : World) (h1 : IsMt w a1 len1 cap1 S) (hm : m.wf) :
    Calls Try.prog 9 #[.slice a1 len1 cap1, .agg (mA m)] w (Yes w) := by
  obtain ⟨l, hl2⟩ : ∃ l, min len1 60 = l := ⟨_, rfl⟩
  have hmin : ∀ (ts : Array TypeId) (t : TypeId) (w : World), (Builtin.min_ ts t #[.int .i64 len1, .int .i64 60]).run Try.prog w = .ok (.int .i64 l) w := min_n 60 _ _ hl2
  have hll : l ≤ len1 := by omega
  have q0 : (l : Int) ≤ (cap1 : Int) := by have := h1.fit.1; omega
  have hcap := h1.fit.2
  have hlc := h1.fit.1
  have HU := Lib.hid h1
  have HN := Lib.hid (new_w w (w.alloc (.cells (mA m) TV)) (alloc_b _ _))
  have hmx := Lib.hid (heap_alloc_new w (.cells (mA m) TV))
  have hmw := Lib.hid hm
  clear h1 hl2 hm
  go_enter Try.func9, Try.ntmps9
  go_wp2_with (go_at_call 13; refine HN.out.mono ?_; rintro e W1 ⟨sb, mb, rfl, hN1, hb1, _⟩)
  have hZ0 : Sz w W1.heap.size w.heap.size sb mb newS m (W1.alloc (.cells #[.pointer (some ⟨sb, 0, none⟩)] TPL)) :=
    ⟨hN1.alloc _, heap_alloc_new _ _, (Below.heap_alloc _ _ _ (Nat.lt_of_lt_of_le (by rw [World.size_alloc]; omega) hb1.size)).trans ((hb1.block _ (by rw [World.size_alloc]; omega)).trans hmx.out)⟩
  generalize W1.heap.size = bx at *
  obtain ⟨mx, hmx2⟩ : ∃ mx, w.heap.size = mx := ⟨_, rfl⟩
  rw [hmx2] at hZ0 ⊢
  clear hN1 HN hmx hb1
  go_loopw [25] (fun iv wr => ∃ (j : Nat) (s : St), j ≤ l ∧ iv = .int .i64 j ∧ Sv s ∧ Sz w bx mx sb mb s m wr) (fun iv _ => l - nOf iv)
  case atStart => exact ⟨0, newS, Nat.zero_le _, rfl, sv_new, hZ0⟩
  case round =>
    clear hZ0
    obtain ⟨j, s, hj, rfl, hSv, hZ⟩ := hrel
    by_cases hlt : j < l
    · obtain ⟨b, off, rfl, hbl, hmc⟩ := HU.out.at hZ.a.bel (show j < len1 by omega)
      have hwf := HU.out.wf j
      generalize S j = p at *
      obtain ⟨hc0, hc1, hc2⟩ := hmc
      have i1 : 0 ≤ (j : Int) := by omega
      have i2 : (j : Int) < (l : Int) := by omega
      have i4 : decide ((j : Int) < (l : Int)) = true := by simp; omega
      have hB := hZ.sw p
      obtain ⟨d9, d0, d1, d2⟩ := hB.cells
      replace hB := Lib.hid hB
      have k1 : (p.s : Int).tmod 32 = ((p.s % 32 : Nat) : Int) := (Int.ofNat_tmod p.s 32).symm
      have k2 : IntKind.u8.wrap ((p.s % 32 : Nat) : Int) = ((p.s % 32 : Nat) : Int) := by rw [IntKind.wrap_u8]; omega
      have k3 : IntKind.i64.wrap ((p.s % 32 : Nat) : Int) = ((p.s % 32 : Nat) : Int) := by rw [IntKind.wrap_i64]; omega
      have k4 : (p.k : Int).tmod 8 = ((p.k % 8 : Nat) : Int) := (Int.ofNat_tmod p.k 8).symm
      have k5 : IntKind.u8.wrap ((p.k % 8 : Nat) : Int) = ((p.k % 8 : Nat) : Int) := by rw [IntKind.wrap_u8]; omega
      have hsl : p.s % 32 < 32 := Nat.mod_lt _ (by decide)
      generalize p.s % 32 = sl at *
      generalize p.k % 8 = kd at *
      have HF := Lib.hid (fun W (h : Sw w bx mx wr.heap.size sb mb s m p W) => h.z.a.forget (sl : Int) rfl rfl)
      have HJ := Lib.hid (fun W (h : Sw w bx mx wr.heap.size sb mb s m p W) => h.z.a.jump (sl : Int) rfl rfl)
      have HP := Lib.hid (fun W (h : Sw w bx mx wr.heap.size sb mb s m p W) => h.z.a.put (sl : Int) (valM p) rfl rfl)
      have HV := Lib.hid (fun W => value_any p hwf W)
      have hrel : Hid (∀ s' W, Sv s' → Sz w bx mx sb mb s' m W → ∃ (j' : Nat) (s2 : St), j' ≤ l ∧ Value.int .i64 ((j : Int) + 1) = .int .i64 j' ∧ Sv s2 ∧ Sz w bx mx sb mb s2 m W) := Lib.hid fun s' W h1 h2 => ⟨j + 1, s', by omega, by go_num, h1, h2⟩
      have hsf := Lib.hid (sv_for hSv (u := (sl : Int)) (by omega))
      have hsj := Lib.hid (sv_jmp hSv (u := (sl : Int)) (by omega))
      have hsp := Lib.hid (sv_put hSv (k := (sl : Int)) (v := valM p) (by omega) rfl)
      have hw1 : IntKind.i64.wrap ((j : Int) + 1) = (j : Int) + 1 := by rw [IntKind.wrap_i64]; omega
      clear hZ hSv hbl
      by_cases hk0 : kd = 0
      · subst hk0
        go_wp2_with (go_at_call 18; refine (HF.out _ hB.out).mono ?_; rintro e W4 ⟨rfl, hW4, hK4⟩)
        go_roundw
        case rel => exact hrel.out _ _ hsf.out (hB.out.z.step hW4 hK4)
        case measure => simp [nOf]; omega
      · have hk0b : ((kd : Int) == 0) = false := by simp; omega
        have hk0c : (kd == 0) = false := by simp; omega
        have hk0d : ((kd : Int) = 0) = False := by simp; omega
        by_cases hk1 : kd = 1
        · subst hk1
          go_wp2_with (go_at_call 20; refine (HJ.out _ hB.out).mono ?_; rintro e W4 ⟨rfl, hW4, hK4⟩)
          go_roundw
          case rel => exact hrel.out _ _ hsj.out (hB.out.z.step hW4 hK4)
          case measure => simp [nOf]; omega
        · have hk1b : ((kd : Int) == 1) = false := by simp; omega
          have hk1c : (kd == 1) = false := by simp; omega
          have hk1d : ((kd : Int) = 1) = False := by simp; omega
          go_wp2_with fail
          generalize wr.alloc (.cells (mA p) TV) = W2 at *
          generalize wr.heap.size = bb at *
          replace hB := Lib.hid (hB.out.later (Below.refl _ _).drew)
          have HK : Hid (∀ W, Sw w bx mx bb sb mb s m p W → W.cell? ⟨bx, 0, none⟩ = some (.pointer (some ⟨sb, 0, none⟩)) ∧ W.cell? ⟨bb, 0, none⟩ = some (.int .u8 (p.k : Nat)) ∧ W.cell? ⟨bb, 1, none⟩ = some (.int .u8 (p.s : Nat)) ∧ W.cell? ⟨bb, 2, none⟩ = some (.int .u8 (p.v : Nat)) ∧ True) := Lib.hid fun W h => ⟨h.cells.1, h.cells.2.1, h.cells.2.2.1, h.cells.2.2.2, trivial⟩
          have HK2 : Hid (∀ W W', Sw w bx mx bb sb mb s m p W → WAt w sb mb (putS s (sl : Int) (valM p)) W' → Keeps (KL sb mb) W W' → Sz w bx mx sb mb (putS s (sl : Int) (valM p)) m W' ∧ W'.cell? ⟨bx, 0, none⟩ = some (.pointer (some ⟨sb, 0, none⟩)) ∧ W'.cell? ⟨bb, 0, none⟩ = some (.int .u8 (p.k : Nat)) ∧ W'.cell? ⟨bb, 1, none⟩ = some (.int .u8 (p.s : Nat)) ∧ W'.cell? ⟨bb, 2, none⟩ = some (.int .u8 (p.v : Nat)) ∧ True) := Lib.hid fun W W' h hA hK => by
            have h2 : Sw w bx mx bb sb mb (putS s (sl : Int) (valM p)) m p W' := ⟨h.z.step hA hK, (hK.block _ (Array.getElem?_eq_some_iff.1 h.pb).1 (h.z.a.ax.apart h.pb (by decide))).trans h.pb⟩
            exact ⟨h2.z, h2.cells.1, h2.cells.2.1, h2.cells.2.2.1, h2.cells.2.2.2, trivial⟩
          clear d9 d0 d1 d2 hc0 hc1 hc2
          go_region_held3 (fun W => W.cell? ⟨bx, 0, none⟩ = some (.pointer (some ⟨sb, 0, none⟩)) ∧ W.cell? ⟨bb, 0, none⟩ = some (.int .u8 (p.k : Nat)) ∧ W.cell? ⟨bb, 1, none⟩ = some (.int .u8 (p.s : Nat)) ∧ W.cell? ⟨bb, 2, none⟩ = some (.int .u8 (p.v : Nat)) ∧ True)
            (first | exact hB6.2 | exact HK.out _ hB5.out | exact HK.out _ hB.out | assumption)
            ((first
              | (go_at_call 29; refine (HV.out _).mono ?_; rintro e W5 ⟨rfl, hb5⟩; have hB5 := Lib.hid (hB.out.later hb5))
              | (go_at_call 16; refine (HP.out _ hB5.out).mono ?_; rintro e W6 ⟨rfl, hW6, hK6⟩; have hB6 := HK2.out _ _ hB5.out hW6 hK6)))
          go_wp2
          go_roundw
          case rel => exact hrel.out _ _ hsp.out hB6.1
          case measure => simp [nOf]; omega
    · have hjl : j = l := by omega
      have i4 : decide ((j : Int) < (l : Int)) = false := by simp; omega
      have HC := Lib.hid hZ.a.copy
      have hx0 := cell_of_row _ _ 0 _ TPL _ hZ.bx
      have HY : Hid (∀ W2 sc mc, WAt w sc mc s W2 → Below wr.heap.size wr W2 → wr.heap.size ≤ sc → wr.heap.size ≤ mc → Sc2 w bx mx W2.heap.size sb mb sc mc s s m (W2.alloc (.cells #[.pointer (some ⟨sc, 0, none⟩)] TPL))) := Lib.hid fun W2 sc mc g1 g2 g3 g4 => by
        have q1 := hZ.a.ax.lt
        have hz2 := hZ.later g2
        exact Sy.scs ⟨hz2.a.alloc _, g1.alloc _, ⟨by omega, by omega, by omega, by omega⟩, (hz2.later (alloc_b _ _)).bx, heap_alloc_new _ _, (hz2.later (alloc_b _ _)).mx⟩
      have hSv' := Lib.hid hSv
      clear hZ hSv
      go_wp2_with (go_at_call 22; refine HC.out.mono ?_; rintro e W2 ⟨sc, mc, rfl, hC2, _, hb2, hsc, hmc⟩; have hS3 := HY.out _ _ _ hC2 hb2 hsc hmc; have hc9 := hS3.2.1; replace hS3 := Lib.hid hS3)
      clear hx0 HC HY hC2 hb2 hsc hmc hc9
      generalize W2.alloc (.cells #[.pointer (some ⟨sc, 0, none⟩)] TPL) = W3 at *
      generalize W2.heap.size = cx at *
      clear HU hmin i4 hlc hll hj q0 hcap hlt
      have HPut := Lib.hid (fun W (h : Sc2 w bx mx cx sb mb sc mc s s m W) (k : Int) (hk : k < 0 ∨ 4096 ≤ k) => h.noput k ⟨#[]⟩ (ref_put s hk _) (by decide))
      have HFor := Lib.hid (fun W (h : Sc2 w bx mx cx sb mb sc mc s s m W) (k : Int) (hk : k < 0 ∨ 4096 < k) => h.nofor k (ref_for s hk) (by decide))
      have HJmp := Lib.hid (fun W (h : Sc2 w bx mx cx sb mb sc mc s s m W) (k : Int) (hk : k < 0 ∨ 4096 < k) => h.nojmp k (ref_jmp s hk) (by decide))
      have hAl : Hid (∀ W o, Sc2 w bx mx cx sb mb sc mc s s m W → Sc2 w bx mx cx sb mb sc mc s s m (W.alloc o)) := Lib.hid fun W o h => (h.2.2.2.2.2.later (alloc_b _ _)).scs
      replace hS3 := Lib.hid (hS3.out.2.2.2.2.2.later (Below.refl _ _).drew).scs
      go_region_held3 (Sc2 w bx mx cx sb mb sc mc s s m) (first | assumption | exact hS3.out | exact hAl.out _ _ (by assumption))
        ((first
          | (go_at_call 16; refine (HPut.out _ (by assumption) _ (by decide)).mono ?_; rintro e W5 ⟨rfl, hs5⟩)
          | (go_at_call 18; refine (HFor.out _ (by assumption) _ (by decide)).mono ?_; rintro e W5 ⟨rfl, hs5⟩)
          | (go_at_call 20; refine (HJmp.out _ (by assumption) _ (by decide)).mono ?_; rintro e W5 ⟨rfl, hs5⟩)))
      rename_i hHeld
      have hcs : Hid (∀ i : Nat, i < 6 → (W5.alloc (.cells #[.int .i64 2, .int .i64 2, .int .i64 2, .int .i64 2, .int .i64 2, .int .i64 2] 32)).cell? ⟨W5.heap.size, i, none⟩ = some (.int .i64 2)) := Lib.hid fun i hi => by
        rw [cell_of_row _ _ i _ _ _ (heap_alloc_new _ _)]
        match i, hi with
        | 0, _ => rfl
        | 1, _ => rfl
        | 2, _ => rfl
        | 3, _ => rfl
        | 4, _ => rfl
        | 5, _ => rfl
      replace hHeld := Lib.hid hHeld
      go_wp2_with fail
      generalize W5.alloc (.cells #[.int .i64 2, .int .i64 2, .int .i64 2, .int .i64 2, .int .i64 2, .int .i64 2] 32) = W6 at *
      generalize W5.heap.size = g at *
      clear HPut HFor HJmp hAl hS3
      go_loopw [71] (fun iv wr => ∃ i : Nat, i ≤ 6 ∧ iv = .int .i64 i ∧ W6 = wr) (fun iv _ => 6 - nOf iv)
      case atStart => exact ⟨0, by omega, rfl, rfl⟩
      case round =>
        obtain ⟨i, hi, rfl, rfl⟩ := hrel
        by_cases hlt : i < 6
        · have hc := hcs.out i hlt
          have i1 : 0 ≤ (i : Int) := by omega
          have i2 : (i : Int) < 6 := by omega
          have i4 : decide ((i : Int) < 6) = true := by simp; omega
          have i5 : IntKind.i64.wrap ((i : Int) + 1) = (i : Int) + 1 := by rw [IntKind.wrap_i64]; omega
          have i6 : i < 6 := hlt
          go_wp2
          go_roundw
          case rel => exact ⟨i + 1, by omega, by go_num, trivial⟩
          case measure => simp [nOf]; omega
        · have hie : i = 6 := by omega
          subst hie
          clear hcs hlt hi
          obtain ⟨U, hU⟩ : ∃ U, uptoV s = U := ⟨_, rfl⟩
          obtain ⟨b, hb⟩ : ∃ b, s.b = b := ⟨_, rfl⟩
          have q1 := sv_upto hSv'.out
          have q2 := upto_le hSv'.out.ok
          have q3 := hSv'.out.ok.hb
          have q4 := hSv'.out.b31
          rw [hU] at q1 q2
          rw [hb] at q2 q3 q4
          have HUp := Lib.hid (fun W (h : Sc2 w bx mx cx sb mb sc mc s s m W) => h.upto hU)
          have HBs := Lib.hid (fun W (h : Sc2 w bx mx cx sb mb sc mc s s m W) => h.base hb)
          have HF1 := Lib.hid (fun W (h : Sc2 w bx mx cx sb mb sc mc s s m W) => h.nofor (c := 3) (U + 1) (by rw [← hU]; exact ref_next hSv'.out) (by decide))
          have HJ1 := Lib.hid (fun (h0 : 0 < U) W (h : Sc2 w bx mx cx sb mb sc mc s s m W) => h.nojmp (c := 8) (U - 1) (by rw [← hU] at h0 ⊢; exact ref_back hSv'.out h0) (by decide))
          have HP1 := Lib.hid (fun (h0 : 0 < b) (v : ByteArray) (hv : v.size ≤ 65536) W (h : Sc2 w bx mx cx sb mb sc mc s s m W) => h.noput (c := 8) (b - 1) v (by rw [← hb] at h0 ⊢; exact ref_low hSv'.out h0 hv) (by decide))
          have HP2 := Lib.hid (fun (h0 : b < U) (v : ByteArray) (hv : v.size ≤ 65536) (hv2 : v.size ≠ 2) W (h : Sc2 w bx mx cx sb mb sc mc s s m W) => h.noput (c := 9) b v (by rw [← hb, ← hU] at h0; rw [← hb]; exact ref_there hSv'.out h0 hv hv2) (by decide))
          have HSm := Lib.hid (fun W (h : Sc2 w bx mx cx sb mb sc mc s s m W) => same_any h)
          have HPr := Lib.hid (fun W (h : Sc2 w bx mx cx sb mb sc mc s s m W) => h.pre3)
          have HGa := Lib.hid (fun W (h : Sc2 w bx mx cx sb mb sc mc s s m W) => h.gap3)
          have HV := Lib.hid (fun W => value_any m hmw.out W)
          have HPc : Hid (∀ W, Sy w bx mx cx sb mb sc mc s s m W → Calls Try.prog 16 #[.pointer (some ⟨sc, 0, none⟩), .int .i64 U, .string (valM m)] W fun e W' => e = .returned (.int .i64 0) ∧ Sy w bx mx cx sb mb sc mc s (putS s U (valM m)) m W') := Lib.hid fun W h =>
            (h.c.put U (valM m) (by rw [← hU]; exact next_ok hSv'.out (val_size m)) rfl).mono fun e W' ⟨he, hA, hK⟩ => ⟨he, h.stepC hA hK⟩
          obtain ⟨U2, hU2⟩ : ∃ U2, uptoV (putS s U (valM m)) = U2 := ⟨_, rfl⟩
          have HUc := Lib.hid (fun W (h : Sy w bx mx cx sb mb sc mc s (putS s U (valM m)) m W) => h.c.upto hU2)
          have HUa := Lib.hid (fun W (h : Sy w bx mx cx sb mb sc mc s (putS s U (valM m)) m W) => h.a.upto hU)
          have hlt2 : U < U2 := by rw [← hU2, ← hU]; exact next_up hSv'.out (val_size m)
          have hr : getM s.M U = none := by
            have := upto_not hSv'.out.ok
            rw [hU] at this
            cases hg : getM s.M U with
            | none => rfl
            | some e => rw [hg] at this; cases this
          have HGt := Lib.hid (fun W (h : Sy w bx mx cx sb mb sc mc s (putS s U (valM m)) m W) => h.a.get U (wf64 (by omega) (by omega)) hr)
          have u1 : decide (U2 ≤ U) = false := by simp; omega
          have u2 : IntKind.i64.wrap (U + 1) = U + 1 := by rw [IntKind.wrap_i64]; omega
          have u3 : IntKind.i64.wrap (U - 1) = U - 1 := by rw [IntKind.wrap_i64]; omega
          have u4 : IntKind.i64.wrap (b - 1) = b - 1 := by rw [IntKind.wrap_i64]; omega
          have u5 : (U == U) = true := by simp
          replace hU := Lib.hid hU
          replace hb := Lib.hid hb
          replace hU2 := Lib.hid hU2
          replace hr := Lib.hid hr
          replace hlt2 := Lib.hid hlt2
          go_wp2_with fail
          by_cases hB : 0 < b
          · have hA : 0 < U := by omega
            by_cases hC : b < U
            · have t1 : decide (0 < U) = true := by simp; omega
              have t2 : decide (0 < b) = true := by simp; omega
              have t3 : decide (b < U) = true := by simp; omega
              refine wp_region_held_drew (S := (Sc2 w bx mx cx sb mb sc mc s s m)) (by kernel_rfl) ((hHeld.out.2.2.2.2.2.later (Below.refl _ _).drew).scs) (fun hS => ?_)
              try simp only [List.getElem_toArray, List.getElem_cons_succ, List.getElem_cons_zero, Act.put, List.setIfInBounds_toArray, List.set_cons_zero, List.set_cons_succ]
              refine wpAnyH_take (i := 0) (v := (.pointer (some ⟨sb, 0, none⟩))) rfl (by kernel_rfl) (by kernel_rfl) (by kernel_rfl) (fun _ _ _ h => h) (Or.inl ⟨by kernel_rfl, by intro w' hSw; obtain ⟨s0, s1, _⟩ := hSw; go_simp⟩) hS ?_
              try simp only [List.getElem_toArray, List.getElem_cons_succ, List.getElem_cons_zero, Act.put, List.setIfInBounds_toArray, List.set_cons_zero, List.set_cons_succ]
              refine wpAnyH_take (i := 1) (v := (.pointer (some ⟨sb, 0, none⟩))) rfl (by kernel_rfl) (by kernel_rfl) (by kernel_rfl) (fun _ _ _ h => h) (Or.inl ⟨by kernel_rfl, by intro w' hSw; obtain ⟨s0, s1, _⟩ := hSw; go_simp⟩) hS ?_
              try simp only [List.getElem_toArray, List.getElem_cons_succ, List.getElem_cons_zero, Act.put, List.setIfInBounds_toArray, List.set_cons_zero, List.set_cons_succ]
              refine wpAnyH_ready (rs := [2]) (by kernel_rfl) (by simp) ?_
              refine AllReadyH.cons rfl (fun K hK => ?_) AllReadyH.nil
              go_simp
              go_at_call 25
              refine (HUp.out _ hS).mono ?_
              rintro e W102 ⟨rfl, hs102⟩
              refine hK.out _ _ (hs102) (fun hS => ?_)
              clear hK K
              try simp only [List.getElem_toArray, List.getElem_cons_succ, List.getElem_cons_zero, Act.put, List.setIfInBounds_toArray, List.set_cons_zero, List.set_cons_succ]
              refine wpAnyH_take (i := 3) (v := (.int .i64 (U + 1))) rfl (by kernel_rfl) (by kernel_rfl) (by kernel_rfl) (fun _ _ _ h => h) (Or.inl ⟨by kernel_rfl, by intro w' hSw; obtain ⟨s0, s1, _⟩ := hSw; go_simp⟩) hS ?_
              try simp only [List.getElem_toArray, List.getElem_cons_succ, List.getElem_cons_zero, Act.put, List.setIfInBounds_toArray, List.set_cons_zero, List.set_cons_succ]
              refine wpAnyH_ready (rs := [4]) (by kernel_rfl) (by simp) ?_
              refine AllReadyH.cons rfl (fun K hK => ?_) AllReadyH.nil
              go_simp
              go_at_call 18
              refine (HF1.out _ hS).mono ?_
              rintro e W104 ⟨rfl, hs104⟩
              refine hK.out _ _ (hs104) (fun hS => ?_)
              clear hK K
              try simp only [List.getElem_toArray, List.getElem_cons_succ, List.getElem_cons_zero, Act.put, List.setIfInBounds_toArray, List.set_cons_zero, List.set_cons_succ]
              refine wpAnyH_take (i := 5) (v := (.bool false)) rfl (by kernel_rfl) (by kernel_rfl) (by kernel_rfl) (fun _ _ _ h => h) (Or.inl ⟨by kernel_rfl, by intro w' hSw; obtain ⟨s0, s1, _⟩ := hSw; go_simp⟩) hS ?_
              try simp only [List.getElem_toArray, List.getElem_cons_succ, List.getElem_cons_zero, Act.put, List.setIfInBounds_toArray, List.set_cons_zero, List.set_cons_succ]
              refine wpAnyH_take (i := 6) (v := (.bool false)) rfl (by kernel_rfl) (by kernel_rfl) (by kernel_rfl) (fun _ _ _ h => h) (Or.inl ⟨by kernel_rfl, by intro w' hSw; obtain ⟨s0, s1, _⟩ := hSw; go_simp⟩) hS ?_
              try simp only [List.getElem_toArray, List.getElem_cons_succ, List.getElem_cons_zero, Act.put, List.setIfInBounds_toArray, List.set_cons_zero, List.set_cons_succ]
              refine wpAnyH_take (i := 7) (v := (.pointer (some ⟨sb, 0, none⟩))) rfl (by kernel_rfl) (by kernel_rfl) (by kernel_rfl) (fun _ _ _ h => h) (Or.inl ⟨by kernel_rfl, by intro w' hSw; obtain ⟨s0, s1, _⟩ := hSw; go_simp⟩) hS ?_
              try simp only [List.getElem_toArray, List.getElem_cons_succ, List.getElem_cons_zero, Act.put, List.setIfInBounds_toArray, List.set_cons_zero, List.set_cons_succ]
              refine wpAnyH_ready (rs := [8]) (by kernel_rfl) (by simp) ?_
              refine AllReadyH.cons rfl (fun K hK => ?_) AllReadyH.nil
              go_simp
              go_at_call 25
              refine (HUp.out _ hS).mono ?_
              rintro e W108 ⟨rfl, hs108⟩
              refine hK.out _ _ (hs108) (fun hS => ?_)
              clear hK K
              try simp only [List.getElem_toArray, List.getElem_cons_succ, List.getElem_cons_zero, Act.put, List.setIfInBounds_toArray, List.set_cons_zero, List.set_cons_succ]
              refine wpAnyH_take (i := 9) (v := (.bool true)) rfl (by kernel_rfl) (by kernel_rfl) (by kernel_rfl) (fun _ _ _ h => h) (Or.inl ⟨by kernel_rfl, by intro w' hSw; obtain ⟨s0, s1, _⟩ := hSw; go_simp⟩) hS ?_
              try simp only [List.getElem_toArray, List.getElem_cons_succ, List.getElem_cons_zero, Act.put, List.setIfInBounds_toArray, List.set_cons_zero, List.set_cons_succ]
              refine wpAnyH_take (i := 10) (v := (.bool true)) rfl (by kernel_rfl) (by kernel_rfl) (by kernel_rfl) (fun _ _ _ h => h) (Or.inl ⟨by kernel_rfl, by intro w' hSw; obtain ⟨s0, s1, _⟩ := hSw; go_simp⟩) hS ?_
              try simp only [List.getElem_toArray, List.getElem_cons_succ, List.getElem_cons_zero, Act.put, List.setIfInBounds_toArray, List.set_cons_zero, List.set_cons_succ]
              refine wpAnyH_take (i := 11) (v := (.pointer (some ⟨sb, 0, none⟩))) rfl (by kernel_rfl) (by kernel_rfl) (by kernel_rfl) (fun _ _ _ h => h) (Or.inl ⟨by kernel_rfl, by intro w' hSw; obtain ⟨s0, s1, _⟩ := hSw; go_simp⟩) hS ?_
              try simp only [List.getElem_toArray, List.getElem_cons_succ, List.getElem_cons_zero, Act.put, List.setIfInBounds_toArray, List.set_cons_zero, List.set_cons_succ]
              refine wpAnyH_take (i := 12) (v := (.pointer (some ⟨sb, 0, none⟩))) rfl (by kernel_rfl) (by kernel_rfl) (by kernel_rfl) (fun _ _ _ h => h) (Or.inl ⟨by kernel_rfl, by intro w' hSw; obtain ⟨s0, s1, _⟩ := hSw; go_simp⟩) hS ?_
              try simp only [List.getElem_toArray, List.getElem_cons_succ, List.getElem_cons_zero, Act.put, List.setIfInBounds_toArray, List.set_cons_zero, List.set_cons_succ]
              refine wpAnyH_ready (rs := [13]) (by kernel_rfl) (by simp) ?_
              refine AllReadyH.cons rfl (fun K hK => ?_) AllReadyH.nil
              go_simp
              go_at_call 25
              refine (HUp.out _ hS).mono ?_
              rintro e W113 ⟨rfl, hs113⟩
              refine hK.out _ _ (hs113) (fun hS => ?_)
              clear hK K
              try simp only [List.getElem_toArray, List.getElem_cons_succ, List.getElem_cons_zero, Act.put, List.setIfInBounds_toArray, List.set_cons_zero, List.set_cons_succ]
              refine wpAnyH_take (i := 14) (v := (.int .i64 (U - 1))) rfl (by kernel_rfl) (by kernel_rfl) (by kernel_rfl) (fun _ _ _ h => h) (Or.inl ⟨by kernel_rfl, by intro w' hSw; obtain ⟨s0, s1, _⟩ := hSw; go_simp⟩) hS ?_
              try simp only [List.getElem_toArray, List.getElem_cons_succ, List.getElem_cons_zero, Act.put, List.setIfInBounds_toArray, List.set_cons_zero, List.set_cons_succ]
              refine wpAnyH_ready (rs := [15]) (by kernel_rfl) (by simp) ?_
              refine AllReadyH.cons rfl (fun K hK => ?_) AllReadyH.nil
              go_simp
              go_at_call 20
              refine (HJ1.out hA _ hS).mono ?_
              rintro e W115 ⟨rfl, hs115⟩
              refine hK.out _ _ (hs115) (fun hS => ?_)
              clear hK K
              try simp only [List.getElem_toArray, List.getElem_cons_succ, List.getElem_cons_zero, Act.put, List.setIfInBounds_toArray, List.set_cons_zero, List.set_cons_succ]
              refine wpAnyH_take (i := 16) (v := (.bool false)) rfl (by kernel_rfl) (by kernel_rfl) (by kernel_rfl) (fun _ _ _ h => h) (Or.inl ⟨by kernel_rfl, by intro w' hSw; obtain ⟨s0, s1, _⟩ := hSw; go_simp⟩) hS ?_
              try simp only [List.getElem_toArray, List.getElem_cons_succ, List.getElem_cons_zero, Act.put, List.setIfInBounds_toArray, List.set_cons_zero, List.set_cons_succ]
              refine wpAnyH_take (i := 17) (v := (.bool false)) rfl (by kernel_rfl) (by kernel_rfl) (by kernel_rfl) (fun _ _ _ h => h) (Or.inl ⟨by kernel_rfl, by intro w' hSw; obtain ⟨s0, s1, _⟩ := hSw; go_simp⟩) hS ?_
              try simp only [List.getElem_toArray, List.getElem_cons_succ, List.getElem_cons_zero, Act.put, List.setIfInBounds_toArray, List.set_cons_zero, List.set_cons_succ]
              refine wpAnyH_take (i := 18) (v := (.bool false)) rfl (by kernel_rfl) (by kernel_rfl) (by kernel_rfl) (fun _ _ _ h => h) (Or.inl ⟨by kernel_rfl, by intro w' hSw; obtain ⟨s0, s1, _⟩ := hSw; go_simp⟩) hS ?_
              try simp only [List.getElem_toArray, List.getElem_cons_succ, List.getElem_cons_zero, Act.put, List.setIfInBounds_toArray, List.set_cons_zero, List.set_cons_succ]
              refine wpAnyH_take (i := 19) (v := (.bool false)) rfl (by kernel_rfl) (by kernel_rfl) (by kernel_rfl) (fun _ _ _ h => h) (Or.inl ⟨by kernel_rfl, by intro w' hSw; obtain ⟨s0, s1, _⟩ := hSw; go_simp⟩) hS ?_
              try simp only [List.getElem_toArray, List.getElem_cons_succ, List.getElem_cons_zero, Act.put, List.setIfInBounds_toArray, List.set_cons_zero, List.set_cons_succ]
              refine wpAnyH_take (i := 20) (v := (.pointer (some ⟨sb, 0, none⟩))) rfl (by kernel_rfl) (by kernel_rfl) (by kernel_rfl) (fun _ _ _ h => h) (Or.inl ⟨by kernel_rfl, by intro w' hSw; obtain ⟨s0, s1, _⟩ := hSw; go_simp⟩) hS ?_
              try simp only [List.getElem_toArray, List.getElem_cons_succ, List.getElem_cons_zero, Act.put, List.setIfInBounds_toArray, List.set_cons_zero, List.set_cons_succ]
              refine wpAnyH_ready (rs := [21]) (by kernel_rfl) (by simp) ?_
              refine AllReadyH.cons rfl (fun K hK => ?_) AllReadyH.nil
              go_simp
              go_at_call 26
              refine (HBs.out _ hS).mono ?_
              rintro e W121 ⟨rfl, hs121⟩
              refine hK.out _ _ (hs121) (fun hS => ?_)
              clear hK K
              try simp only [List.getElem_toArray, List.getElem_cons_succ, List.getElem_cons_zero, Act.put, List.setIfInBounds_toArray, List.set_cons_zero, List.set_cons_succ]
              refine wpAnyH_take (i := 22) (v := (.bool true)) rfl (by kernel_rfl) (by kernel_rfl) (by kernel_rfl) (fun _ _ _ h => h) (Or.inl ⟨by kernel_rfl, by intro w' hSw; obtain ⟨s0, s1, _⟩ := hSw; go_simp⟩) hS ?_
              try simp only [List.getElem_toArray, List.getElem_cons_succ, List.getElem_cons_zero, Act.put, List.setIfInBounds_toArray, List.set_cons_zero, List.set_cons_succ]
              refine wpAnyH_take (i := 23) (v := (.bool true)) rfl (by kernel_rfl) (by kernel_rfl) (by kernel_rfl) (fun _ _ _ h => h) (Or.inl ⟨by kernel_rfl, by intro w' hSw; obtain ⟨s0, s1, _⟩ := hSw; go_simp⟩) hS ?_
              try simp only [List.getElem_toArray, List.getElem_cons_succ, List.getElem_cons_zero, Act.put, List.setIfInBounds_toArray, List.set_cons_zero, List.set_cons_succ]
              refine wpAnyH_take (i := 24) (v := (.pointer (some ⟨sb, 0, none⟩))) rfl (by kernel_rfl) (by kernel_rfl) (by kernel_rfl) (fun _ _ _ h => h) (Or.inl ⟨by kernel_rfl, by intro w' hSw; obtain ⟨s0, s1, _⟩ := hSw; go_simp⟩) hS ?_
              try simp only [List.getElem_toArray, List.getElem_cons_succ, List.getElem_cons_zero, Act.put, List.setIfInBounds_toArray, List.set_cons_zero, List.set_cons_succ]
              refine wpAnyH_take (i := 25) (v := (.pointer (some ⟨sb, 0, none⟩))) rfl (by kernel_rfl) (by kernel_rfl) (by kernel_rfl) (fun _ _ _ h => h) (Or.inl ⟨by kernel_rfl, by intro w' hSw; obtain ⟨s0, s1, _⟩ := hSw; go_simp⟩) hS ?_
              try simp only [List.getElem_toArray, List.getElem_cons_succ, List.getElem_cons_zero, Act.put, List.setIfInBounds_toArray, List.set_cons_zero, List.set_cons_succ]
              refine wpAnyH_ready (rs := [26]) (by kernel_rfl) (by simp) ?_
              refine AllReadyH.cons rfl (fun K hK => ?_) AllReadyH.nil
              go_simp
              go_at_call 26
              refine (HBs.out _ hS).mono ?_
              rintro e W126 ⟨rfl, hs126⟩
              refine hK.out _ _ (hs126) (fun hS => ?_)
              clear hK K
              try simp only [List.getElem_toArray, List.getElem_cons_succ, List.getElem_cons_zero, Act.put, List.setIfInBounds_toArray, List.set_cons_zero, List.set_cons_succ]
              refine wpAnyH_take (i := 27) (v := (.int .i64 (b - 1))) rfl (by kernel_rfl) (by kernel_rfl) (by kernel_rfl) (fun _ _ _ h => h) (Or.inl ⟨by kernel_rfl, by intro w' hSw; obtain ⟨s0, s1, _⟩ := hSw; go_simp⟩) hS ?_
              try simp only [List.getElem_toArray, List.getElem_cons_succ, List.getElem_cons_zero, Act.put, List.setIfInBounds_toArray, List.set_cons_zero, List.set_cons_succ]
              refine wpAnyH_ready (rs := [28]) (by kernel_rfl) (by simp) ?_
              refine AllReadyH.cons rfl (fun K hK => ?_) AllReadyH.nil
              go_simp
              go_at_call 16
              refine (HP1.out hB _ (by decide) _ hS).mono ?_
              rintro e W128 ⟨rfl, hs128⟩
              refine hK.out _ _ (hs128) (fun hS => ?_)
              clear hK K
              try simp only [List.getElem_toArray, List.getElem_cons_succ, List.getElem_cons_zero, Act.put, List.setIfInBounds_toArray, List.set_cons_zero, List.set_cons_succ]
              refine wpAnyH_take (i := 29) (v := (.bool false)) rfl (by kernel_rfl) (by kernel_rfl) (by kernel_rfl) (fun _ _ _ h => h) (Or.inl ⟨by kernel_rfl, by intro w' hSw; obtain ⟨s0, s1, _⟩ := hSw; go_simp⟩) hS ?_
              try simp only [List.getElem_toArray, List.getElem_cons_succ, List.getElem_cons_zero, Act.put, List.setIfInBounds_toArray, List.set_cons_zero, List.set_cons_succ]
              refine wpAnyH_take (i := 30) (v := (.bool false)) rfl (by kernel_rfl) (by kernel_rfl) (by kernel_rfl) (fun _ _ _ h => h) (Or.inl ⟨by kernel_rfl, by intro w' hSw; obtain ⟨s0, s1, _⟩ := hSw; go_simp⟩) hS ?_
              try simp only [List.getElem_toArray, List.getElem_cons_succ, List.getElem_cons_zero, Act.put, List.setIfInBounds_toArray, List.set_cons_zero, List.set_cons_succ]
              refine wpAnyH_take (i := 31) (v := (.bool false)) rfl (by kernel_rfl) (by kernel_rfl) (by kernel_rfl) (fun _ _ _ h => h) (Or.inl ⟨by kernel_rfl, by intro w' hSw; obtain ⟨s0, s1, _⟩ := hSw; go_simp⟩) hS ?_
              try simp only [List.getElem_toArray, List.getElem_cons_succ, List.getElem_cons_zero, Act.put, List.setIfInBounds_toArray, List.set_cons_zero, List.set_cons_succ]
              refine wpAnyH_take (i := 32) (v := (.bool false)) rfl (by kernel_rfl) (by kernel_rfl) (by kernel_rfl) (fun _ _ _ h => h) (Or.inl ⟨by kernel_rfl, by intro w' hSw; obtain ⟨s0, s1, _⟩ := hSw; go_simp⟩) hS ?_
              try simp only [List.getElem_toArray, List.getElem_cons_succ, List.getElem_cons_zero, Act.put, List.setIfInBounds_toArray, List.set_cons_zero, List.set_cons_succ]
              refine wpAnyH_take (i := 33) (v := (.pointer (some ⟨sb, 0, none⟩))) rfl (by kernel_rfl) (by kernel_rfl) (by kernel_rfl) (fun _ _ _ h => h) (Or.inl ⟨by kernel_rfl, by intro w' hSw; obtain ⟨s0, s1, _⟩ := hSw; go_simp⟩) hS ?_
              try simp only [List.getElem_toArray, List.getElem_cons_succ, List.getElem_cons_zero, Act.put, List.setIfInBounds_toArray, List.set_cons_zero, List.set_cons_succ]
              refine wpAnyH_take (i := 35) (v := (.pointer (some ⟨sb, 0, none⟩))) rfl (by kernel_rfl) (by kernel_rfl) (by kernel_rfl) (fun _ _ _ h => h) (Or.inl ⟨by kernel_rfl, by intro w' hSw; obtain ⟨s0, s1, _⟩ := hSw; go_simp⟩) hS ?_
              try simp only [List.getElem_toArray, List.getElem_cons_succ, List.getElem_cons_zero, Act.put, List.setIfInBounds_toArray, List.set_cons_zero, List.set_cons_succ]
              refine wpAnyH_ready (rs := [34]) (by kernel_rfl) (by simp) ?_
              refine AllReadyH.cons rfl (fun K hK => ?_) AllReadyH.nil
              go_simp
              go_at_call 25
              refine (HUp.out _ hS).mono ?_
              rintro e W134 ⟨rfl, hs134⟩
              refine hK.out _ _ (hs134) (fun hS => ?_)
              clear hK K
              try simp only [List.getElem_toArray, List.getElem_cons_succ, List.getElem_cons_zero, Act.put, List.setIfInBounds_toArray, List.set_cons_zero, List.set_cons_succ]
              refine wpAnyH_ready (rs := [36]) (by kernel_rfl) (by simp) ?_
              refine AllReadyH.cons rfl (fun K hK => ?_) AllReadyH.nil
              go_simp
              go_at_call 26
              refine (HBs.out _ hS).mono ?_
              rintro e W136 ⟨rfl, hs136⟩
              refine hK.out _ _ (hs136) (fun hS => ?_)
              clear hK K
              try simp only [List.getElem_toArray, List.getElem_cons_succ, List.getElem_cons_zero, Act.put, List.setIfInBounds_toArray, List.set_cons_zero, List.set_cons_succ]
              refine wpAnyH_take (i := 37) (v := (.bool true)) rfl (by kernel_rfl) (by kernel_rfl) (by kernel_rfl) (fun _ _ _ h => h) (Or.inl ⟨by kernel_rfl, by intro w' hSw; obtain ⟨s0, s1, _⟩ := hSw; go_simp⟩) hS ?_
              try simp only [List.getElem_toArray, List.getElem_cons_succ, List.getElem_cons_zero, Act.put, List.setIfInBounds_toArray, List.set_cons_zero, List.set_cons_succ]
              refine wpAnyH_take (i := 38) (v := (.bool true)) rfl (by kernel_rfl) (by kernel_rfl) (by kernel_rfl) (fun _ _ _ h => h) (Or.inl ⟨by kernel_rfl, by intro w' hSw; obtain ⟨s0, s1, _⟩ := hSw; go_simp⟩) hS ?_
              try simp only [List.getElem_toArray, List.getElem_cons_succ, List.getElem_cons_zero, Act.put, List.setIfInBounds_toArray, List.set_cons_zero, List.set_cons_succ]
              refine wpAnyH_take (i := 39) (v := (.pointer (some ⟨sb, 0, none⟩))) rfl (by kernel_rfl) (by kernel_rfl) (by kernel_rfl) (fun _ _ _ h => h) (Or.inl ⟨by kernel_rfl, by intro w' hSw; obtain ⟨s0, s1, _⟩ := hSw; go_simp⟩) hS ?_
              try simp only [List.getElem_toArray, List.getElem_cons_succ, List.getElem_cons_zero, Act.put, List.setIfInBounds_toArray, List.set_cons_zero, List.set_cons_succ]
              refine wpAnyH_take (i := 40) (v := (.pointer (some ⟨sb, 0, none⟩))) rfl (by kernel_rfl) (by kernel_rfl) (by kernel_rfl) (fun _ _ _ h => h) (Or.inl ⟨by kernel_rfl, by intro w' hSw; obtain ⟨s0, s1, _⟩ := hSw; go_simp⟩) hS ?_
              try simp only [List.getElem_toArray, List.getElem_cons_succ, List.getElem_cons_zero, Act.put, List.setIfInBounds_toArray, List.set_cons_zero, List.set_cons_succ]
              refine wpAnyH_ready (rs := [41]) (by kernel_rfl) (by simp) ?_
              refine AllReadyH.cons rfl (fun K hK => ?_) AllReadyH.nil
              go_simp
              go_at_call 26
              refine (HBs.out _ hS).mono ?_
              rintro e W141 ⟨rfl, hs141⟩
              refine hK.out _ _ (hs141) (fun hS => ?_)
              clear hK K
              try simp only [List.getElem_toArray, List.getElem_cons_succ, List.getElem_cons_zero, Act.put, List.setIfInBounds_toArray, List.set_cons_zero, List.set_cons_succ]
              refine wpAnyH_ready (rs := [42]) (by kernel_rfl) (by simp) ?_
              refine AllReadyH.cons rfl (fun K hK => ?_) AllReadyH.nil
              go_simp
              go_at_call 16
              refine (HP2.out hC _ (by decide) (by decide) _ hS).mono ?_
              rintro e W142 ⟨rfl, hs142⟩
              refine hK.out _ _ (hs142) (fun hS => ?_)
              clear hK K
              try simp only [List.getElem_toArray, List.getElem_cons_succ, List.getElem_cons_zero, Act.put, List.setIfInBounds_toArray, List.set_cons_zero, List.set_cons_succ]
              refine wpAnyH_take (i := 43) (v := (.bool false)) rfl (by kernel_rfl) (by kernel_rfl) (by kernel_rfl) (fun _ _ _ h => h) (Or.inl ⟨by kernel_rfl, by intro w' hSw; obtain ⟨s0, s1, _⟩ := hSw; go_simp⟩) hS ?_
              try simp only [List.getElem_toArray, List.getElem_cons_succ, List.getElem_cons_zero, Act.put, List.setIfInBounds_toArray, List.set_cons_zero, List.set_cons_succ]
              refine wpAnyH_take (i := 44) (v := (.bool false)) rfl (by kernel_rfl) (by kernel_rfl) (by kernel_rfl) (fun _ _ _ h => h) (Or.inl ⟨by kernel_rfl, by intro w' hSw; obtain ⟨s0, s1, _⟩ := hSw; go_simp⟩) hS ?_
              try simp only [List.getElem_toArray, List.getElem_cons_succ, List.getElem_cons_zero, Act.put, List.setIfInBounds_toArray, List.set_cons_zero, List.set_cons_succ]
              refine wpAnyH_take (i := 45) (v := (.bool false)) rfl (by kernel_rfl) (by kernel_rfl) (by kernel_rfl) (fun _ _ _ h => h) (Or.inl ⟨by kernel_rfl, by intro w' hSw; obtain ⟨s0, s1, _⟩ := hSw; go_simp⟩) hS ?_
              try simp only [List.getElem_toArray, List.getElem_cons_succ, List.getElem_cons_zero, Act.put, List.setIfInBounds_toArray, List.set_cons_zero, List.set_cons_succ]
              refine wpAnyH_take (i := 46) (v := (.bool false)) rfl (by kernel_rfl) (by kernel_rfl) (by kernel_rfl) (fun _ _ _ h => h) (Or.inl ⟨by kernel_rfl, by intro w' hSw; obtain ⟨s0, s1, _⟩ := hSw; go_simp⟩) hS ?_
              try simp only [List.getElem_toArray, List.getElem_cons_succ, List.getElem_cons_zero, Act.put, List.setIfInBounds_toArray, List.set_cons_zero, List.set_cons_succ]
              refine wpAnyH_take (i := 47) (v := (.func (.func 35) #[] #[.pointer (some ⟨cx, 0, none⟩), .pointer (some ⟨bx, 0, none⟩)])) rfl (by kernel_rfl) (by kernel_rfl) (by kernel_rfl) (fun _ _ _ h => h) (Or.inl ⟨by kernel_rfl, by intro w' hSw; obtain ⟨s0, s1, _⟩ := hSw; go_simp⟩) hS ?_
              try simp only [List.getElem_toArray, List.getElem_cons_succ, List.getElem_cons_zero, Act.put, List.setIfInBounds_toArray, List.set_cons_zero, List.set_cons_succ]
              refine wpAnyH_ready (rs := [48]) (by kernel_rfl) (by simp) ?_
              refine AllReadyH.cons rfl (fun K hK => ?_) AllReadyH.nil
              go_simp
              go_at_call 35
              refine (HSm.out _ hS).mono ?_
              rintro e W148 ⟨rfl, hs148⟩
              refine hK.out _ _ (hs148) (fun hS => ?_)
              clear hK K
              try simp only [List.getElem_toArray, List.getElem_cons_succ, List.getElem_cons_zero, Act.put, List.setIfInBounds_toArray, List.set_cons_zero, List.set_cons_succ]
              refine wpAnyH_take (i := 49) (v := (.bool false)) rfl (by kernel_rfl) (by kernel_rfl) (by kernel_rfl) (fun _ _ _ h => h) (Or.inl ⟨by kernel_rfl, by intro w' hSw; obtain ⟨s0, s1, _⟩ := hSw; go_simp⟩) hS ?_
              try simp only [List.getElem_toArray, List.getElem_cons_succ, List.getElem_cons_zero, Act.put, List.setIfInBounds_toArray, List.set_cons_zero, List.set_cons_succ]
              refine wpAnyH_take (i := 50) (v := (.bool false)) rfl (by kernel_rfl) (by kernel_rfl) (by kernel_rfl) (fun _ _ _ h => h) (Or.inl ⟨by kernel_rfl, by intro w' hSw; obtain ⟨s0, s1, _⟩ := hSw; go_simp⟩) hS ?_
              try simp only [List.getElem_toArray, List.getElem_cons_succ, List.getElem_cons_zero, Act.put, List.setIfInBounds_toArray, List.set_cons_zero, List.set_cons_succ]
              refine wpAnyH_done (by kernel_rfl) ?_ _
              clear hS
              replace hHeld := Lib.hid (hs148.2.2.2.2.2.later (Below.refl _ _).drew).scs
              clear hs148
              go_wp2_with fail
              go_region_held3 (Sc2 w bx mx cx sb mb sc mc s s m) (first | assumption | exact hHeld.out)
                ((first
                  | (go_at_call 27; refine (HPr.out _ (by assumption)).mono ?_; rintro e W7 ⟨v7, b7, rfl, hB7, hO7, hs7⟩)
                  | (go_at_call 28; refine (HGa.out _ (by assumption)).mono ?_; rintro e W8 ⟨v8, b8, rfl, hB8, hO8, hb8, hs8⟩; have O7 := Lib.hid (hO7.later hb8); have O8 := Lib.hid hO8; have Y8 := Lib.hid hs8)))
              clear hO7 hO8
              obtain ⟨W9, r9, hK9⟩ := run_clear_row Try.underlying43 zero_txt rfl rfl O7.out 0
              have Y9 := Lib.hid (Sy.cleared Y8.out.2.2.2.2.2 O7.out hB7 (by decide) (by decide) (by decide) hK9).scs
              have O9 := Lib.hid (row_apart2 O7.out O8.out (by decide) hK9)
              obtain ⟨W10, r10, hK10⟩ := run_clear_row Try.underlying45 zero_int rfl rfl O9.out 0
              have Y10 := Lib.hid (Sy.cleared Y9.out.2.2.2.2.2 O9.out hB8 (by decide) (by decide) (by decide) hK10).scs
              clear O7 O8 O9 Y8 Y9 hK9 hK10
              go_wp2_with (first
                | (go_at_call 35; refine (HSm.out _ Y10.out).mono ?_; rintro e W11 ⟨rfl, hs11⟩; have x11 := hs11.1; replace hs11 := Lib.hid hs11)
                | (go_at_call 25; refine (HUp.out _ hs11.out).mono ?_; rintro e W12 ⟨rfl, hs12⟩))
              replace hs12 := Lib.hid (hs12.2.2.2.2.2.later (Below.refl _ _).drew)
              go_region_held3 (S31 bx mx cx sb sc m)
                (first | exact S15.out.s31 | exact S14.out.s31 | exact S13.out.s31 | exact hs12.out.s31)
                ((first
                  | (go_at_call 29; refine (HV.out _).mono ?_; rintro e W13 ⟨rfl, hb13⟩; have S13 := Lib.hid (hs12.out.later hb13))
                  | (go_at_call 16; refine (HPc.out _ S13.out).mono ?_; rintro e W14 ⟨rfl, hs14⟩; have S14 := Lib.hid hs14)
                  | (go_at_call 25; refine (HUa.out _ S15.out).mono ?_; rintro e W16 ⟨rfl, rfl⟩)
                  | (go_at_call 25; refine (HUc.out _ S14.out).mono ?_; rintro e W15 ⟨rfl, rfl⟩; have S15 := Lib.hid S14.out)))
              have x15 := S15.out.scs.1
              go_wp2_with (first
                | (go_at_call 24; refine (HGt.out _ S15.out).mono ?_; rintro e W17 ⟨rfl, rfl⟩)
                | (go_at_call 12; refine (works_any _).mono ?_; rintro e W18 ⟨rfl, hb18⟩))
              go_ret
              exact ⟨rfl, below2 S15.out.a.bel hb18⟩
            · have t1 : decide (0 < U) = true := by simp; omega
              have t2 : decide (0 < b) = true := by simp; omega
              have t3 : decide (b < U) = false := by simp; omega
              refine wp_region_held_drew (S := (Sc2 w bx mx cx sb mb sc mc s s m)) (by kernel_rfl) ((hHeld.out.2.2.2.2.2.later (Below.refl _ _).drew).scs) (fun hS => ?_)
              try simp only [List.getElem_toArray, List.getElem_cons_succ, List.getElem_cons_zero, Act.put, List.setIfInBounds_toArray, List.set_cons_zero, List.set_cons_succ]
              refine wpAnyH_take (i := 0) (v := (.pointer (some ⟨sb, 0, none⟩))) rfl (by kernel_rfl) (by kernel_rfl) (by kernel_rfl) (fun _ _ _ h => h) (Or.inl ⟨by kernel_rfl, by intro w' hSw; obtain ⟨s0, s1, _⟩ := hSw; go_simp⟩) hS ?_
              try simp only [List.getElem_toArray, List.getElem_cons_succ, List.getElem_cons_zero, Act.put, List.setIfInBounds_toArray, List.set_cons_zero, List.set_cons_succ]
              refine wpAnyH_take (i := 1) (v := (.pointer (some ⟨sb, 0, none⟩))) rfl (by kernel_rfl) (by kernel_rfl) (by kernel_rfl) (fun _ _ _ h => h) (Or.inl ⟨by kernel_rfl, by intro w' hSw; obtain ⟨s0, s1, _⟩ := hSw; go_simp⟩) hS ?_
              try simp only [List.getElem_toArray, List.getElem_cons_succ, List.getElem_cons_zero, Act.put, List.setIfInBounds_toArray, List.set_cons_zero, List.set_cons_succ]
              refine wpAnyH_ready (rs := [2]) (by kernel_rfl) (by simp) ?_
              refine AllReadyH.cons rfl (fun K hK => ?_) AllReadyH.nil
              go_simp
              go_at_call 25
              refine (HUp.out _ hS).mono ?_
              rintro e W102 ⟨rfl, hs102⟩
              refine hK.out _ _ (hs102) (fun hS => ?_)
              clear hK K
              try simp only [List.getElem_toArray, List.getElem_cons_succ, List.getElem_cons_zero, Act.put, List.setIfInBounds_toArray, List.set_cons_zero, List.set_cons_succ]
              refine wpAnyH_take (i := 3) (v := (.int .i64 (U + 1))) rfl (by kernel_rfl) (by kernel_rfl) (by kernel_rfl) (fun _ _ _ h => h) (Or.inl ⟨by kernel_rfl, by intro w' hSw; obtain ⟨s0, s1, _⟩ := hSw; go_simp⟩) hS ?_
              try simp only [List.getElem_toArray, List.getElem_cons_succ, List.getElem_cons_zero, Act.put, List.setIfInBounds_toArray, List.set_cons_zero, List.set_cons_succ]
              refine wpAnyH_ready (rs := [4]) (by kernel_rfl) (by simp) ?_
              refine AllReadyH.cons rfl (fun K hK => ?_) AllReadyH.nil
              go_simp
              go_at_call 18
              refine (HF1.out _ hS).mono ?_
              rintro e W104 ⟨rfl, hs104⟩
              refine hK.out _ _ (hs104) (fun hS => ?_)
              clear hK K
              try simp only [List.getElem_toArray, List.getElem_cons_succ, List.getElem_cons_zero, Act.put, List.setIfInBounds_toArray, List.set_cons_zero, List.set_cons_succ]
              refine wpAnyH_take (i := 5) (v := (.bool false)) rfl (by kernel_rfl) (by kernel_rfl) (by kernel_rfl) (fun _ _ _ h => h) (Or.inl ⟨by kernel_rfl, by intro w' hSw; obtain ⟨s0, s1, _⟩ := hSw; go_simp⟩) hS ?_
              try simp only [List.getElem_toArray, List.getElem_cons_succ, List.getElem_cons_zero, Act.put, List.setIfInBounds_toArray, List.set_cons_zero, List.set_cons_succ]
              refine wpAnyH_take (i := 6) (v := (.bool false)) rfl (by kernel_rfl) (by kernel_rfl) (by kernel_rfl) (fun _ _ _ h => h) (Or.inl ⟨by kernel_rfl, by intro w' hSw; obtain ⟨s0, s1, _⟩ := hSw; go_simp⟩) hS ?_
              try simp only [List.getElem_toArray, List.getElem_cons_succ, List.getElem_cons_zero, Act.put, List.setIfInBounds_toArray, List.set_cons_zero, List.set_cons_succ]
              refine wpAnyH_take (i := 7) (v := (.pointer (some ⟨sb, 0, none⟩))) rfl (by kernel_rfl) (by kernel_rfl) (by kernel_rfl) (fun _ _ _ h => h) (Or.inl ⟨by kernel_rfl, by intro w' hSw; obtain ⟨s0, s1, _⟩ := hSw; go_simp⟩) hS ?_
              try simp only [List.getElem_toArray, List.getElem_cons_succ, List.getElem_cons_zero, Act.put, List.setIfInBounds_toArray, List.set_cons_zero, List.set_cons_succ]
              refine wpAnyH_ready (rs := [8]) (by kernel_rfl) (by simp) ?_
              refine AllReadyH.cons rfl (fun K hK => ?_) AllReadyH.nil
              go_simp
              go_at_call 25
              refine (HUp.out _ hS).mono ?_
              rintro e W108 ⟨rfl, hs108⟩
              refine hK.out _ _ (hs108) (fun hS => ?_)
              clear hK K
              try simp only [List.getElem_toArray, List.getElem_cons_succ, List.getElem_cons_zero, Act.put, List.setIfInBounds_toArray, List.set_cons_zero, List.set_cons_succ]
              refine wpAnyH_take (i := 9) (v := (.bool true)) rfl (by kernel_rfl) (by kernel_rfl) (by kernel_rfl) (fun _ _ _ h => h) (Or.inl ⟨by kernel_rfl, by intro w' hSw; obtain ⟨s0, s1, _⟩ := hSw; go_simp⟩) hS ?_
              try simp only [List.getElem_toArray, List.getElem_cons_succ, List.getElem_cons_zero, Act.put, List.setIfInBounds_toArray, List.set_cons_zero, List.set_cons_succ]
              refine wpAnyH_take (i := 10) (v := (.bool true)) rfl (by kernel_rfl) (by kernel_rfl) (by kernel_rfl) (fun _ _ _ h => h) (Or.inl ⟨by kernel_rfl, by intro w' hSw; obtain ⟨s0, s1, _⟩ := hSw; go_simp⟩) hS ?_
              try simp only [List.getElem_toArray, List.getElem_cons_succ, List.getElem_cons_zero, Act.put, List.setIfInBounds_toArray, List.set_cons_zero, List.set_cons_succ]
              refine wpAnyH_take (i := 11) (v := (.pointer (some ⟨sb, 0, none⟩))) rfl (by kernel_rfl) (by kernel_rfl) (by kernel_rfl) (fun _ _ _ h => h) (Or.inl ⟨by kernel_rfl, by intro w' hSw; obtain ⟨s0, s1, _⟩ := hSw; go_simp⟩) hS ?_
              try simp only [List.getElem_toArray, List.getElem_cons_succ, List.getElem_cons_zero, Act.put, List.setIfInBounds_toArray, List.set_cons_zero, List.set_cons_succ]
              refine wpAnyH_take (i := 12) (v := (.pointer (some ⟨sb, 0, none⟩))) rfl (by kernel_rfl) (by kernel_rfl) (by kernel_rfl) (fun _ _ _ h => h) (Or.inl ⟨by kernel_rfl, by intro w' hSw; obtain ⟨s0, s1, _⟩ := hSw; go_simp⟩) hS ?_
              try simp only [List.getElem_toArray, List.getElem_cons_succ, List.getElem_cons_zero, Act.put, List.setIfInBounds_toArray, List.set_cons_zero, List.set_cons_succ]
              refine wpAnyH_ready (rs := [13]) (by kernel_rfl) (by simp) ?_
              refine AllReadyH.cons rfl (fun K hK => ?_) AllReadyH.nil
              go_simp
              go_at_call 25
              refine (HUp.out _ hS).mono ?_
              rintro e W113 ⟨rfl, hs113⟩
              refine hK.out _ _ (hs113) (fun hS => ?_)
              clear hK K
              try simp only [List.getElem_toArray, List.getElem_cons_succ, List.getElem_cons_zero, Act.put, List.setIfInBounds_toArray, List.set_cons_zero, List.set_cons_succ]
              refine wpAnyH_take (i := 14) (v := (.int .i64 (U - 1))) rfl (by kernel_rfl) (by kernel_rfl) (by kernel_rfl) (fun _ _ _ h => h) (Or.inl ⟨by kernel_rfl, by intro w' hSw; obtain ⟨s0, s1, _⟩ := hSw; go_simp⟩) hS ?_
              try simp only [List.getElem_toArray, List.getElem_cons_succ, List.getElem_cons_zero, Act.put, List.setIfInBounds_toArray, List.set_cons_zero, List.set_cons_succ]
              refine wpAnyH_ready (rs := [15]) (by kernel_rfl) (by simp) ?_
              refine AllReadyH.cons rfl (fun K hK => ?_) AllReadyH.nil
              go_simp
              go_at_call 20
              refine (HJ1.out hA _ hS).mono ?_
              rintro e W115 ⟨rfl, hs115⟩
              refine hK.out _ _ (hs115) (fun hS => ?_)
              clear hK K
              try simp only [List.getElem_toArray, List.getElem_cons_succ, List.getElem_cons_zero, Act.put, List.setIfInBounds_toArray, List.set_cons_zero, List.set_cons_succ]
              refine wpAnyH_take (i := 16) (v := (.bool false)) rfl (by kernel_rfl) (by kernel_rfl) (by kernel_rfl) (fun _ _ _ h => h) (Or.inl ⟨by kernel_rfl, by intro w' hSw; obtain ⟨s0, s1, _⟩ := hSw; go_simp⟩) hS ?_
              try simp only [List.getElem_toArray, List.getElem_cons_succ, List.getElem_cons_zero, Act.put, List.setIfInBounds_toArray, List.set_cons_zero, List.set_cons_succ]
              refine wpAnyH_take (i := 17) (v := (.bool false)) rfl (by kernel_rfl) (by kernel_rfl) (by kernel_rfl) (fun _ _ _ h => h) (Or.inl ⟨by kernel_rfl, by intro w' hSw; obtain ⟨s0, s1, _⟩ := hSw; go_simp⟩) hS ?_
              try simp only [List.getElem_toArray, List.getElem_cons_succ, List.getElem_cons_zero, Act.put, List.setIfInBounds_toArray, List.set_cons_zero, List.set_cons_succ]
              refine wpAnyH_take (i := 18) (v := (.bool false)) rfl (by kernel_rfl) (by kernel_rfl) (by kernel_rfl) (fun _ _ _ h => h) (Or.inl ⟨by kernel_rfl, by intro w' hSw; obtain ⟨s0, s1, _⟩ := hSw; go_simp⟩) hS ?_
              try simp only [List.getElem_toArray, List.getElem_cons_succ, List.getElem_cons_zero, Act.put, List.setIfInBounds_toArray, List.set_cons_zero, List.set_cons_succ]
              refine wpAnyH_take (i := 19) (v := (.bool false)) rfl (by kernel_rfl) (by kernel_rfl) (by kernel_rfl) (fun _ _ _ h => h) (Or.inl ⟨by kernel_rfl, by intro w' hSw; obtain ⟨s0, s1, _⟩ := hSw; go_simp⟩) hS ?_
              try simp only [List.getElem_toArray, List.getElem_cons_succ, List.getElem_cons_zero, Act.put, List.setIfInBounds_toArray, List.set_cons_zero, List.set_cons_succ]
              refine wpAnyH_take (i := 20) (v := (.pointer (some ⟨sb, 0, none⟩))) rfl (by kernel_rfl) (by kernel_rfl) (by kernel_rfl) (fun _ _ _ h => h) (Or.inl ⟨by kernel_rfl, by intro w' hSw; obtain ⟨s0, s1, _⟩ := hSw; go_simp⟩) hS ?_
              try simp only [List.getElem_toArray, List.getElem_cons_succ, List.getElem_cons_zero, Act.put, List.setIfInBounds_toArray, List.set_cons_zero, List.set_cons_succ]
              refine wpAnyH_ready (rs := [21]) (by kernel_rfl) (by simp) ?_
              refine AllReadyH.cons rfl (fun K hK => ?_) AllReadyH.nil
              go_simp
              go_at_call 26
              refine (HBs.out _ hS).mono ?_
              rintro e W121 ⟨rfl, hs121⟩
              refine hK.out _ _ (hs121) (fun hS => ?_)
              clear hK K
              try simp only [List.getElem_toArray, List.getElem_cons_succ, List.getElem_cons_zero, Act.put, List.setIfInBounds_toArray, List.set_cons_zero, List.set_cons_succ]
              refine wpAnyH_take (i := 22) (v := (.bool true)) rfl (by kernel_rfl) (by kernel_rfl) (by kernel_rfl) (fun _ _ _ h => h) (Or.inl ⟨by kernel_rfl, by intro w' hSw; obtain ⟨s0, s1, _⟩ := hSw; go_simp⟩) hS ?_
              try simp only [List.getElem_toArray, List.getElem_cons_succ, List.getElem_cons_zero, Act.put, List.setIfInBounds_toArray, List.set_cons_zero, List.set_cons_succ]
              refine wpAnyH_take (i := 23) (v := (.bool true)) rfl (by kernel_rfl) (by kernel_rfl) (by kernel_rfl) (fun _ _ _ h => h) (Or.inl ⟨by kernel_rfl, by intro w' hSw; obtain ⟨s0, s1, _⟩ := hSw; go_simp⟩) hS ?_
              try simp only [List.getElem_toArray, List.getElem_cons_succ, List.getElem_cons_zero, Act.put, List.setIfInBounds_toArray, List.set_cons_zero, List.set_cons_succ]
              refine wpAnyH_take (i := 24) (v := (.pointer (some ⟨sb, 0, none⟩))) rfl (by kernel_rfl) (by kernel_rfl) (by kernel_rfl) (fun _ _ _ h => h) (Or.inl ⟨by kernel_rfl, by intro w' hSw; obtain ⟨s0, s1, _⟩ := hSw; go_simp⟩) hS ?_
              try simp only [List.getElem_toArray, List.getElem_cons_succ, List.getElem_cons_zero, Act.put, List.setIfInBounds_toArray, List.set_cons_zero, List.set_cons_succ]
              refine wpAnyH_take (i := 25) (v := (.pointer (some ⟨sb, 0, none⟩))) rfl (by kernel_rfl) (by kernel_rfl) (by kernel_rfl) (fun _ _ _ h => h) (Or.inl ⟨by kernel_rfl, by intro w' hSw; obtain ⟨s0, s1, _⟩ := hSw; go_simp⟩) hS ?_
              try simp only [List.getElem_toArray, List.getElem_cons_succ, List.getElem_cons_zero, Act.put, List.setIfInBounds_toArray, List.set_cons_zero, List.set_cons_succ]
              refine wpAnyH_ready (rs := [26]) (by kernel_rfl) (by simp) ?_
              refine AllReadyH.cons rfl (fun K hK => ?_) AllReadyH.nil
              go_simp
              go_at_call 26
              refine (HBs.out _ hS).mono ?_
              rintro e W126 ⟨rfl, hs126⟩
              refine hK.out _ _ (hs126) (fun hS => ?_)
              clear hK K
              try simp only [List.getElem_toArray, List.getElem_cons_succ, List.getElem_cons_zero, Act.put, List.setIfInBounds_toArray, List.set_cons_zero, List.set_cons_succ]
              refine wpAnyH_take (i := 27) (v := (.int .i64 (b - 1))) rfl (by kernel_rfl) (by kernel_rfl) (by kernel_rfl) (fun _ _ _ h => h) (Or.inl ⟨by kernel_rfl, by intro w' hSw; obtain ⟨s0, s1, _⟩ := hSw; go_simp⟩) hS ?_
              try simp only [List.getElem_toArray, List.getElem_cons_succ, List.getElem_cons_zero, Act.put, List.setIfInBounds_toArray, List.set_cons_zero, List.set_cons_succ]
              refine wpAnyH_ready (rs := [28]) (by kernel_rfl) (by simp) ?_
              refine AllReadyH.cons rfl (fun K hK => ?_) AllReadyH.nil
              go_simp
              go_at_call 16
              refine (HP1.out hB _ (by decide) _ hS).mono ?_
              rintro e W128 ⟨rfl, hs128⟩
              refine hK.out _ _ (hs128) (fun hS => ?_)
              clear hK K
              try simp only [List.getElem_toArray, List.getElem_cons_succ, List.getElem_cons_zero, Act.put, List.setIfInBounds_toArray, List.set_cons_zero, List.set_cons_succ]
              refine wpAnyH_take (i := 29) (v := (.bool false)) rfl (by kernel_rfl) (by kernel_rfl) (by kernel_rfl) (fun _ _ _ h => h) (Or.inl ⟨by kernel_rfl, by intro w' hSw; obtain ⟨s0, s1, _⟩ := hSw; go_simp⟩) hS ?_
              try simp only [List.getElem_toArray, List.getElem_cons_succ, List.getElem_cons_zero, Act.put, List.setIfInBounds_toArray, List.set_cons_zero, List.set_cons_succ]
              refine wpAnyH_take (i := 30) (v := (.bool false)) rfl (by kernel_rfl) (by kernel_rfl) (by kernel_rfl) (fun _ _ _ h => h) (Or.inl ⟨by kernel_rfl, by intro w' hSw; obtain ⟨s0, s1, _⟩ := hSw; go_simp⟩) hS ?_
              try simp only [List.getElem_toArray, List.getElem_cons_succ, List.getElem_cons_zero, Act.put, List.setIfInBounds_toArray, List.set_cons_zero, List.set_cons_succ]
              refine wpAnyH_take (i := 31) (v := (.bool false)) rfl (by kernel_rfl) (by kernel_rfl) (by kernel_rfl) (fun _ _ _ h => h) (Or.inl ⟨by kernel_rfl, by intro w' hSw; obtain ⟨s0, s1, _⟩ := hSw; go_simp⟩) hS ?_
              try simp only [List.getElem_toArray, List.getElem_cons_succ, List.getElem_cons_zero, Act.put, List.setIfInBounds_toArray, List.set_cons_zero, List.set_cons_succ]
              refine wpAnyH_take (i := 32) (v := (.bool false)) rfl (by kernel_rfl) (by kernel_rfl) (by kernel_rfl) (fun _ _ _ h => h) (Or.inl ⟨by kernel_rfl, by intro w' hSw; obtain ⟨s0, s1, _⟩ := hSw; go_simp⟩) hS ?_
              try simp only [List.getElem_toArray, List.getElem_cons_succ, List.getElem_cons_zero, Act.put, List.setIfInBounds_toArray, List.set_cons_zero, List.set_cons_succ]
              refine wpAnyH_take (i := 33) (v := (.pointer (some ⟨sb, 0, none⟩))) rfl (by kernel_rfl) (by kernel_rfl) (by kernel_rfl) (fun _ _ _ h => h) (Or.inl ⟨by kernel_rfl, by intro w' hSw; obtain ⟨s0, s1, _⟩ := hSw; go_simp⟩) hS ?_
              try simp only [List.getElem_toArray, List.getElem_cons_succ, List.getElem_cons_zero, Act.put, List.setIfInBounds_toArray, List.set_cons_zero, List.set_cons_succ]
              refine wpAnyH_take (i := 35) (v := (.pointer (some ⟨sb, 0, none⟩))) rfl (by kernel_rfl) (by kernel_rfl) (by kernel_rfl) (fun _ _ _ h => h) (Or.inl ⟨by kernel_rfl, by intro w' hSw; obtain ⟨s0, s1, _⟩ := hSw; go_simp⟩) hS ?_
              try simp only [List.getElem_toArray, List.getElem_cons_succ, List.getElem_cons_zero, Act.put, List.setIfInBounds_toArray, List.set_cons_zero, List.set_cons_succ]
              refine wpAnyH_ready (rs := [34]) (by kernel_rfl) (by simp) ?_
              refine AllReadyH.cons rfl (fun K hK => ?_) AllReadyH.nil
              go_simp
              go_at_call 25
              refine (HUp.out _ hS).mono ?_
              rintro e W134 ⟨rfl, hs134⟩
              refine hK.out _ _ (hs134) (fun hS => ?_)
              clear hK K
              try simp only [List.getElem_toArray, List.getElem_cons_succ, List.getElem_cons_zero, Act.put, List.setIfInBounds_toArray, List.set_cons_zero, List.set_cons_succ]
              refine wpAnyH_ready (rs := [36]) (by kernel_rfl) (by simp) ?_
              refine AllReadyH.cons rfl (fun K hK => ?_) AllReadyH.nil
              go_simp
              go_at_call 26
              refine (HBs.out _ hS).mono ?_
              rintro e W136 ⟨rfl, hs136⟩
              refine hK.out _ _ (hs136) (fun hS => ?_)
              clear hK K
              try simp only [List.getElem_toArray, List.getElem_cons_succ, List.getElem_cons_zero, Act.put, List.setIfInBounds_toArray, List.set_cons_zero, List.set_cons_succ]
              refine wpAnyH_take (i := 37) (v := (.bool false)) rfl (by kernel_rfl) (by kernel_rfl) (by kernel_rfl) (fun _ _ _ h => h) (Or.inl ⟨by kernel_rfl, by intro w' hSw; obtain ⟨s0, s1, _⟩ := hSw; go_simp⟩) hS ?_
              try simp only [List.getElem_toArray, List.getElem_cons_succ, List.getElem_cons_zero, Act.put, List.setIfInBounds_toArray, List.set_cons_zero, List.set_cons_succ]
              refine wpAnyH_take (i := 38) (v := (.bool false)) rfl (by kernel_rfl) (by kernel_rfl) (by kernel_rfl) (fun _ _ _ h => h) (Or.inl ⟨by kernel_rfl, by intro w' hSw; obtain ⟨s0, s1, _⟩ := hSw; go_simp⟩) hS ?_
              try simp only [List.getElem_toArray, List.getElem_cons_succ, List.getElem_cons_zero, Act.put, List.setIfInBounds_toArray, List.set_cons_zero, List.set_cons_succ]
              refine wpAnyH_take (i := 39) (v := undef) rfl (by kernel_rfl) (by kernel_rfl) (by kernel_rfl) (fun _ _ _ h => h) (Or.inr ⟨by kernel_rfl, rfl⟩) hS ?_
              try simp only [List.getElem_toArray, List.getElem_cons_succ, List.getElem_cons_zero, Act.put, List.setIfInBounds_toArray, List.set_cons_zero, List.set_cons_succ]
              refine wpAnyH_take (i := 40) (v := undef) rfl (by kernel_rfl) (by kernel_rfl) (by kernel_rfl) (fun _ _ _ h => h) (Or.inr ⟨by kernel_rfl, rfl⟩) hS ?_
              try simp only [List.getElem_toArray, List.getElem_cons_succ, List.getElem_cons_zero, Act.put, List.setIfInBounds_toArray, List.set_cons_zero, List.set_cons_succ]
              refine wpAnyH_take (i := 41) (v := undef) rfl (by kernel_rfl) (by kernel_rfl) (by kernel_rfl) (fun _ _ _ h => h) (Or.inr ⟨by kernel_rfl, rfl⟩) hS ?_
              try simp only [List.getElem_toArray, List.getElem_cons_succ, List.getElem_cons_zero, Act.put, List.setIfInBounds_toArray, List.set_cons_zero, List.set_cons_succ]
              refine wpAnyH_take (i := 42) (v := undef) rfl (by kernel_rfl) (by kernel_rfl) (by kernel_rfl) (fun _ _ _ h => h) (Or.inr ⟨by kernel_rfl, rfl⟩) hS ?_
              try simp only [List.getElem_toArray, List.getElem_cons_succ, List.getElem_cons_zero, Act.put, List.setIfInBounds_toArray, List.set_cons_zero, List.set_cons_succ]
              refine wpAnyH_take (i := 43) (v := undef) rfl (by kernel_rfl) (by kernel_rfl) (by kernel_rfl) (fun _ _ _ h => h) (Or.inr ⟨by kernel_rfl, rfl⟩) hS ?_
              try simp only [List.getElem_toArray, List.getElem_cons_succ, List.getElem_cons_zero, Act.put, List.setIfInBounds_toArray, List.set_cons_zero, List.set_cons_succ]
              refine wpAnyH_take (i := 44) (v := (.bool false)) rfl (by kernel_rfl) (by kernel_rfl) (by kernel_rfl) (fun _ _ _ h => h) (Or.inl ⟨by kernel_rfl, by intro w' hSw; obtain ⟨s0, s1, _⟩ := hSw; go_simp⟩) hS ?_
              try simp only [List.getElem_toArray, List.getElem_cons_succ, List.getElem_cons_zero, Act.put, List.setIfInBounds_toArray, List.set_cons_zero, List.set_cons_succ]
              refine wpAnyH_take (i := 45) (v := (.bool false)) rfl (by kernel_rfl) (by kernel_rfl) (by kernel_rfl) (fun _ _ _ h => h) (Or.inl ⟨by kernel_rfl, by intro w' hSw; obtain ⟨s0, s1, _⟩ := hSw; go_simp⟩) hS ?_
              try simp only [List.getElem_toArray, List.getElem_cons_succ, List.getElem_cons_zero, Act.put, List.setIfInBounds_toArray, List.set_cons_zero, List.set_cons_succ]
              refine wpAnyH_take (i := 46) (v := (.bool false)) rfl (by kernel_rfl) (by kernel_rfl) (by kernel_rfl) (fun _ _ _ h => h) (Or.inl ⟨by kernel_rfl, by intro w' hSw; obtain ⟨s0, s1, _⟩ := hSw; go_simp⟩) hS ?_
              try simp only [List.getElem_toArray, List.getElem_cons_succ, List.getElem_cons_zero, Act.put, List.setIfInBounds_toArray, List.set_cons_zero, List.set_cons_succ]
              refine wpAnyH_take (i := 47) (v := (.func (.func 35) #[] #[.pointer (some ⟨cx, 0, none⟩), .pointer (some ⟨bx, 0, none⟩)])) rfl (by kernel_rfl) (by kernel_rfl) (by kernel_rfl) (fun _ _ _ h => h) (Or.inl ⟨by kernel_rfl, by intro w' hSw; obtain ⟨s0, s1, _⟩ := hSw; go_simp⟩) hS ?_
              try simp only [List.getElem_toArray, List.getElem_cons_succ, List.getElem_cons_zero, Act.put, List.setIfInBounds_toArray, List.set_cons_zero, List.set_cons_succ]
              refine wpAnyH_ready (rs := [48]) (by kernel_rfl) (by simp) ?_
              refine AllReadyH.cons rfl (fun K hK => ?_) AllReadyH.nil
              go_simp
              go_at_call 35
              refine (HSm.out _ hS).mono ?_
              rintro e W148 ⟨rfl, hs148⟩
              refine hK.out _ _ (hs148) (fun hS => ?_)
              clear hK K
              try simp only [List.getElem_toArray, List.getElem_cons_succ, List.getElem_cons_zero, Act.put, List.setIfInBounds_toArray, List.set_cons_zero, List.set_cons_succ]
              refine wpAnyH_take (i := 49) (v := (.bool false)) rfl (by kernel_rfl) (by kernel_rfl) (by kernel_rfl) (fun _ _ _ h => h) (Or.inl ⟨by kernel_rfl, by intro w' hSw; obtain ⟨s0, s1, _⟩ := hSw; go_simp⟩) hS ?_
              try simp only [List.getElem_toArray, List.getElem_cons_succ, List.getElem_cons_zero, Act.put, List.setIfInBounds_toArray, List.set_cons_zero, List.set_cons_succ]
              refine wpAnyH_take (i := 50) (v := (.bool false)) rfl (by kernel_rfl) (by kernel_rfl) (by kernel_rfl) (fun _ _ _ h => h) (Or.inl ⟨by kernel_rfl, by intro w' hSw; obtain ⟨s0, s1, _⟩ := hSw; go_simp⟩) hS ?_
              try simp only [List.getElem_toArray, List.getElem_cons_succ, List.getElem_cons_zero, Act.put, List.setIfInBounds_toArray, List.set_cons_zero, List.set_cons_succ]
              refine wpAnyH_done (by kernel_rfl) ?_ _
              clear hS
              replace hHeld := Lib.hid (hs148.2.2.2.2.2.later (Below.refl _ _).drew).scs
              clear hs148
              go_wp2_with fail
              go_region_held3 (Sc2 w bx mx cx sb mb sc mc s s m) (first | assumption | exact hHeld.out)
                ((first
                  | (go_at_call 27; refine (HPr.out _ (by assumption)).mono ?_; rintro e W7 ⟨v7, b7, rfl, hB7, hO7, hs7⟩)
                  | (go_at_call 28; refine (HGa.out _ (by assumption)).mono ?_; rintro e W8 ⟨v8, b8, rfl, hB8, hO8, hb8, hs8⟩; have O7 := Lib.hid (hO7.later hb8); have O8 := Lib.hid hO8; have Y8 := Lib.hid hs8)))
              clear hO7 hO8
              obtain ⟨W9, r9, hK9⟩ := run_clear_row Try.underlying43 zero_txt rfl rfl O7.out 0
              have Y9 := Lib.hid (Sy.cleared Y8.out.2.2.2.2.2 O7.out hB7 (by decide) (by decide) (by decide) hK9).scs
              have O9 := Lib.hid (row_apart2 O7.out O8.out (by decide) hK9)
              obtain ⟨W10, r10, hK10⟩ := run_clear_row Try.underlying45 zero_int rfl rfl O9.out 0
              have Y10 := Lib.hid (Sy.cleared Y9.out.2.2.2.2.2 O9.out hB8 (by decide) (by decide) (by decide) hK10).scs
              clear O7 O8 O9 Y8 Y9 hK9 hK10
              go_wp2_with (first
                | (go_at_call 35; refine (HSm.out _ Y10.out).mono ?_; rintro e W11 ⟨rfl, hs11⟩; have x11 := hs11.1; replace hs11 := Lib.hid hs11)
                | (go_at_call 25; refine (HUp.out _ hs11.out).mono ?_; rintro e W12 ⟨rfl, hs12⟩))
              replace hs12 := Lib.hid (hs12.2.2.2.2.2.later (Below.refl _ _).drew)
              go_region_held3 (S31 bx mx cx sb sc m)
                (first | exact S15.out.s31 | exact S14.out.s31 | exact S13.out.s31 | exact hs12.out.s31)
                ((first
                  | (go_at_call 29; refine (HV.out _).mono ?_; rintro e W13 ⟨rfl, hb13⟩; have S13 := Lib.hid (hs12.out.later hb13))
                  | (go_at_call 16; refine (HPc.out _ S13.out).mono ?_; rintro e W14 ⟨rfl, hs14⟩; have S14 := Lib.hid hs14)
                  | (go_at_call 25; refine (HUa.out _ S15.out).mono ?_; rintro e W16 ⟨rfl, rfl⟩)
                  | (go_at_call 25; refine (HUc.out _ S14.out).mono ?_; rintro e W15 ⟨rfl, rfl⟩; have S15 := Lib.hid S14.out)))
              have x15 := S15.out.scs.1
              go_wp2_with (first
                | (go_at_call 24; refine (HGt.out _ S15.out).mono ?_; rintro e W17 ⟨rfl, rfl⟩)
                | (go_at_call 12; refine (works_any _).mono ?_; rintro e W18 ⟨rfl, hb18⟩))
              go_ret
              exact ⟨rfl, below2 S15.out.a.bel hb18⟩
          · by_cases hA : 0 < U
            · have hC : b < U := by omega
              have t1 : decide (0 < U) = true := by simp; omega
              have t2 : decide (0 < b) = false := by simp; omega
              have t3 : decide (b < U) = true := by simp; omega
              refine wp_region_held_drew (S := (Sc2 w bx mx cx sb mb sc mc s s m)) (by kernel_rfl) ((hHeld.out.2.2.2.2.2.later (Below.refl _ _).drew).scs) (fun hS => ?_)
              try simp only [List.getElem_toArray, List.getElem_cons_succ, List.getElem_cons_zero, Act.put, List.setIfInBounds_toArray, List.set_cons_zero, List.set_cons_succ]
              refine wpAnyH_take (i := 0) (v := (.pointer (some ⟨sb, 0, none⟩))) rfl (by kernel_rfl) (by kernel_rfl) (by kernel_rfl) (fun _ _ _ h => h) (Or.inl ⟨by kernel_rfl, by intro w' hSw; obtain ⟨s0, s1, _⟩ := hSw; go_simp⟩) hS ?_
              try simp only [List.getElem_toArray, List.getElem_cons_succ, List.getElem_cons_zero, Act.put, List.setIfInBounds_toArray, List.set_cons_zero, List.set_cons_succ]
              refine wpAnyH_take (i := 1) (v := (.pointer (some ⟨sb, 0, none⟩))) rfl (by kernel_rfl) (by kernel_rfl) (by kernel_rfl) (fun _ _ _ h => h) (Or.inl ⟨by kernel_rfl, by intro w' hSw; obtain ⟨s0, s1, _⟩ := hSw; go_simp⟩) hS ?_
              try simp only [List.getElem_toArray, List.getElem_cons_succ, List.getElem_cons_zero, Act.put, List.setIfInBounds_toArray, List.set_cons_zero, List.set_cons_succ]
              refine wpAnyH_ready (rs := [2]) (by kernel_rfl) (by simp) ?_
              refine AllReadyH.cons rfl (fun K hK => ?_) AllReadyH.nil
              go_simp
              go_at_call 25
              refine (HUp.out _ hS).mono ?_
              rintro e W102 ⟨rfl, hs102⟩
              refine hK.out _ _ (hs102) (fun hS => ?_)
              clear hK K
              try simp only [List.getElem_toArray, List.getElem_cons_succ, List.getElem_cons_zero, Act.put, List.setIfInBounds_toArray, List.set_cons_zero, List.set_cons_succ]
              refine wpAnyH_take (i := 3) (v := (.int .i64 (U + 1))) rfl (by kernel_rfl) (by kernel_rfl) (by kernel_rfl) (fun _ _ _ h => h) (Or.inl ⟨by kernel_rfl, by intro w' hSw; obtain ⟨s0, s1, _⟩ := hSw; go_simp⟩) hS ?_
              try simp only [List.getElem_toArray, List.getElem_cons_succ, List.getElem_cons_zero, Act.put, List.setIfInBounds_toArray, List.set_cons_zero, List.set_cons_succ]
              refine wpAnyH_ready (rs := [4]) (by kernel_rfl) (by simp) ?_
              refine AllReadyH.cons rfl (fun K hK => ?_) AllReadyH.nil
              go_simp
              go_at_call 18
              refine (HF1.out _ hS).mono ?_
              rintro e W104 ⟨rfl, hs104⟩
              refine hK.out _ _ (hs104) (fun hS => ?_)
              clear hK K
              try simp only [List.getElem_toArray, List.getElem_cons_succ, List.getElem_cons_zero, Act.put, List.setIfInBounds_toArray, List.set_cons_zero, List.set_cons_succ]
              refine wpAnyH_take (i := 5) (v := (.bool false)) rfl (by kernel_rfl) (by kernel_rfl) (by kernel_rfl) (fun _ _ _ h => h) (Or.inl ⟨by kernel_rfl, by intro w' hSw; obtain ⟨s0, s1, _⟩ := hSw; go_simp⟩) hS ?_
              try simp only [List.getElem_toArray, List.getElem_cons_succ, List.getElem_cons_zero, Act.put, List.setIfInBounds_toArray, List.set_cons_zero, List.set_cons_succ]
              refine wpAnyH_take (i := 6) (v := (.bool false)) rfl (by kernel_rfl) (by kernel_rfl) (by kernel_rfl) (fun _ _ _ h => h) (Or.inl ⟨by kernel_rfl, by intro w' hSw; obtain ⟨s0, s1, _⟩ := hSw; go_simp⟩) hS ?_
              try simp only [List.getElem_toArray, List.getElem_cons_succ, List.getElem_cons_zero, Act.put, List.setIfInBounds_toArray, List.set_cons_zero, List.set_cons_succ]
              refine wpAnyH_take (i := 7) (v := (.pointer (some ⟨sb, 0, none⟩))) rfl (by kernel_rfl) (by kernel_rfl) (by kernel_rfl) (fun _ _ _ h => h) (Or.inl ⟨by kernel_rfl, by intro w' hSw; obtain ⟨s0, s1, _⟩ := hSw; go_simp⟩) hS ?_
              try simp only [List.getElem_toArray, List.getElem_cons_succ, List.getElem_cons_zero, Act.put, List.setIfInBounds_toArray, List.set_cons_zero, List.set_cons_succ]
              refine wpAnyH_ready (rs := [8]) (by kernel_rfl) (by simp) ?_
              refine AllReadyH.cons rfl (fun K hK => ?_) AllReadyH.nil
              go_simp
              go_at_call 25
              refine (HUp.out _ hS).mono ?_
              rintro e W108 ⟨rfl, hs108⟩
              refine hK.out _ _ (hs108) (fun hS => ?_)
              clear hK K
              try simp only [List.getElem_toArray, List.getElem_cons_succ, List.getElem_cons_zero, Act.put, List.setIfInBounds_toArray, List.set_cons_zero, List.set_cons_succ]
              refine wpAnyH_take (i := 9) (v := (.bool true)) rfl (by kernel_rfl) (by kernel_rfl) (by kernel_rfl) (fun _ _ _ h => h) (Or.inl ⟨by kernel_rfl, by intro w' hSw; obtain ⟨s0, s1, _⟩ := hSw; go_simp⟩) hS ?_
              try simp only [List.getElem_toArray, List.getElem_cons_succ, List.getElem_cons_zero, Act.put, List.setIfInBounds_toArray, List.set_cons_zero, List.set_cons_succ]
              refine wpAnyH_take (i := 10) (v := (.bool true)) rfl (by kernel_rfl) (by kernel_rfl) (by kernel_rfl) (fun _ _ _ h => h) (Or.inl ⟨by kernel_rfl, by intro w' hSw; obtain ⟨s0, s1, _⟩ := hSw; go_simp⟩) hS ?_
              try simp only [List.getElem_toArray, List.getElem_cons_succ, List.getElem_cons_zero, Act.put, List.setIfInBounds_toArray, List.set_cons_zero, List.set_cons_succ]
              refine wpAnyH_take (i := 11) (v := (.pointer (some ⟨sb, 0, none⟩))) rfl (by kernel_rfl) (by kernel_rfl) (by kernel_rfl) (fun _ _ _ h => h) (Or.inl ⟨by kernel_rfl, by intro w' hSw; obtain ⟨s0, s1, _⟩ := hSw; go_simp⟩) hS ?_
              try simp only [List.getElem_toArray, List.getElem_cons_succ, List.getElem_cons_zero, Act.put, List.setIfInBounds_toArray, List.set_cons_zero, List.set_cons_succ]
              refine wpAnyH_take (i := 12) (v := (.pointer (some ⟨sb, 0, none⟩))) rfl (by kernel_rfl) (by kernel_rfl) (by kernel_rfl) (fun _ _ _ h => h) (Or.inl ⟨by kernel_rfl, by intro w' hSw; obtain ⟨s0, s1, _⟩ := hSw; go_simp⟩) hS ?_
              try simp only [List.getElem_toArray, List.getElem_cons_succ, List.getElem_cons_zero, Act.put, List.setIfInBounds_toArray, List.set_cons_zero, List.set_cons_succ]
              refine wpAnyH_ready (rs := [13]) (by kernel_rfl) (by simp) ?_
              refine AllReadyH.cons rfl (fun K hK => ?_) AllReadyH.nil
              go_simp
              go_at_call 25
              refine (HUp.out _ hS).mono ?_
              rintro e W113 ⟨rfl, hs113⟩
              refine hK.out _ _ (hs113) (fun hS => ?_)
              clear hK K
              try simp only [List.getElem_toArray, List.getElem_cons_succ, List.getElem_cons_zero, Act.put, List.setIfInBounds_toArray, List.set_cons_zero, List.set_cons_succ]
              refine wpAnyH_take (i := 14) (v := (.int .i64 (U - 1))) rfl (by kernel_rfl) (by kernel_rfl) (by kernel_rfl) (fun _ _ _ h => h) (Or.inl ⟨by kernel_rfl, by intro w' hSw; obtain ⟨s0, s1, _⟩ := hSw; go_simp⟩) hS ?_
              try simp only [List.getElem_toArray, List.getElem_cons_succ, List.getElem_cons_zero, Act.put, List.setIfInBounds_toArray, List.set_cons_zero, List.set_cons_succ]
              refine wpAnyH_ready (rs := [15]) (by kernel_rfl) (by simp) ?_
              refine AllReadyH.cons rfl (fun K hK => ?_) AllReadyH.nil
              go_simp
              go_at_call 20
              refine (HJ1.out hA _ hS).mono ?_
              rintro e W115 ⟨rfl, hs115⟩
              refine hK.out _ _ (hs115) (fun hS => ?_)
              clear hK K
              try simp only [List.getElem_toArray, List.getElem_cons_succ, List.getElem_cons_zero, Act.put, List.setIfInBounds_toArray, List.set_cons_zero, List.set_cons_succ]
              refine wpAnyH_take (i := 16) (v := (.bool false)) rfl (by kernel_rfl) (by kernel_rfl) (by kernel_rfl) (fun _ _ _ h => h) (Or.inl ⟨by kernel_rfl, by intro w' hSw; obtain ⟨s0, s1, _⟩ := hSw; go_simp⟩) hS ?_
              try simp only [List.getElem_toArray, List.getElem_cons_succ, List.getElem_cons_zero, Act.put, List.setIfInBounds_toArray, List.set_cons_zero, List.set_cons_succ]
              refine wpAnyH_take (i := 17) (v := (.bool false)) rfl (by kernel_rfl) (by kernel_rfl) (by kernel_rfl) (fun _ _ _ h => h) (Or.inl ⟨by kernel_rfl, by intro w' hSw; obtain ⟨s0, s1, _⟩ := hSw; go_simp⟩) hS ?_
              try simp only [List.getElem_toArray, List.getElem_cons_succ, List.getElem_cons_zero, Act.put, List.setIfInBounds_toArray, List.set_cons_zero, List.set_cons_succ]
              refine wpAnyH_take (i := 18) (v := (.bool false)) rfl (by kernel_rfl) (by kernel_rfl) (by kernel_rfl) (fun _ _ _ h => h) (Or.inl ⟨by kernel_rfl, by intro w' hSw; obtain ⟨s0, s1, _⟩ := hSw; go_simp⟩) hS ?_
              try simp only [List.getElem_toArray, List.getElem_cons_succ, List.getElem_cons_zero, Act.put, List.setIfInBounds_toArray, List.set_cons_zero, List.set_cons_succ]
              refine wpAnyH_take (i := 19) (v := (.bool false)) rfl (by kernel_rfl) (by kernel_rfl) (by kernel_rfl) (fun _ _ _ h => h) (Or.inl ⟨by kernel_rfl, by intro w' hSw; obtain ⟨s0, s1, _⟩ := hSw; go_simp⟩) hS ?_
              try simp only [List.getElem_toArray, List.getElem_cons_succ, List.getElem_cons_zero, Act.put, List.setIfInBounds_toArray, List.set_cons_zero, List.set_cons_succ]
              refine wpAnyH_take (i := 20) (v := (.pointer (some ⟨sb, 0, none⟩))) rfl (by kernel_rfl) (by kernel_rfl) (by kernel_rfl) (fun _ _ _ h => h) (Or.inl ⟨by kernel_rfl, by intro w' hSw; obtain ⟨s0, s1, _⟩ := hSw; go_simp⟩) hS ?_
              try simp only [List.getElem_toArray, List.getElem_cons_succ, List.getElem_cons_zero, Act.put, List.setIfInBounds_toArray, List.set_cons_zero, List.set_cons_succ]
              refine wpAnyH_ready (rs := [21]) (by kernel_rfl) (by simp) ?_
              refine AllReadyH.cons rfl (fun K hK => ?_) AllReadyH.nil
              go_simp
              go_at_call 26
              refine (HBs.out _ hS).mono ?_
              rintro e W121 ⟨rfl, hs121⟩
              refine hK.out _ _ (hs121) (fun hS => ?_)
              clear hK K
              try simp only [List.getElem_toArray, List.getElem_cons_succ, List.getElem_cons_zero, Act.put, List.setIfInBounds_toArray, List.set_cons_zero, List.set_cons_succ]
              refine wpAnyH_take (i := 22) (v := (.bool false)) rfl (by kernel_rfl) (by kernel_rfl) (by kernel_rfl) (fun _ _ _ h => h) (Or.inl ⟨by kernel_rfl, by intro w' hSw; obtain ⟨s0, s1, _⟩ := hSw; go_simp⟩) hS ?_
              try simp only [List.getElem_toArray, List.getElem_cons_succ, List.getElem_cons_zero, Act.put, List.setIfInBounds_toArray, List.set_cons_zero, List.set_cons_succ]
              refine wpAnyH_take (i := 23) (v := (.bool false)) rfl (by kernel_rfl) (by kernel_rfl) (by kernel_rfl) (fun _ _ _ h => h) (Or.inl ⟨by kernel_rfl, by intro w' hSw; obtain ⟨s0, s1, _⟩ := hSw; go_simp⟩) hS ?_
              try simp only [List.getElem_toArray, List.getElem_cons_succ, List.getElem_cons_zero, Act.put, List.setIfInBounds_toArray, List.set_cons_zero, List.set_cons_succ]
              refine wpAnyH_take (i := 24) (v := undef) rfl (by kernel_rfl) (by kernel_rfl) (by kernel_rfl) (fun _ _ _ h => h) (Or.inr ⟨by kernel_rfl, rfl⟩) hS ?_
              try simp only [List.getElem_toArray, List.getElem_cons_succ, List.getElem_cons_zero, Act.put, List.setIfInBounds_toArray, List.set_cons_zero, List.set_cons_succ]
              refine wpAnyH_take (i := 25) (v := undef) rfl (by kernel_rfl) (by kernel_rfl) (by kernel_rfl) (fun _ _ _ h => h) (Or.inr ⟨by kernel_rfl, rfl⟩) hS ?_
              try simp only [List.getElem_toArray, List.getElem_cons_succ, List.getElem_cons_zero, Act.put, List.setIfInBounds_toArray, List.set_cons_zero, List.set_cons_succ]
              refine wpAnyH_take (i := 26) (v := undef) rfl (by kernel_rfl) (by kernel_rfl) (by kernel_rfl) (fun _ _ _ h => h) (Or.inr ⟨by kernel_rfl, rfl⟩) hS ?_
              try simp only [List.getElem_toArray, List.getElem_cons_succ, List.getElem_cons_zero, Act.put, List.setIfInBounds_toArray, List.set_cons_zero, List.set_cons_succ]
              refine wpAnyH_take (i := 27) (v := undef) rfl (by kernel_rfl) (by kernel_rfl) (by kernel_rfl) (fun _ _ _ h => h) (Or.inr ⟨by kernel_rfl, rfl⟩) hS ?_
              try simp only [List.getElem_toArray, List.getElem_cons_succ, List.getElem_cons_zero, Act.put, List.setIfInBounds_toArray, List.set_cons_zero, List.set_cons_succ]
              refine wpAnyH_take (i := 28) (v := undef) rfl (by kernel_rfl) (by kernel_rfl) (by kernel_rfl) (fun _ _ _ h => h) (Or.inr ⟨by kernel_rfl, rfl⟩) hS ?_
              try simp only [List.getElem_toArray, List.getElem_cons_succ, List.getElem_cons_zero, Act.put, List.setIfInBounds_toArray, List.set_cons_zero, List.set_cons_succ]
              refine wpAnyH_take (i := 29) (v := undef) rfl (by kernel_rfl) (by kernel_rfl) (by kernel_rfl) (fun _ _ _ h => h) (Or.inr ⟨by kernel_rfl, rfl⟩) hS ?_
              try simp only [List.getElem_toArray, List.getElem_cons_succ, List.getElem_cons_zero, Act.put, List.setIfInBounds_toArray, List.set_cons_zero, List.set_cons_succ]
              refine wpAnyH_take (i := 30) (v := (.bool false)) rfl (by kernel_rfl) (by kernel_rfl) (by kernel_rfl) (fun _ _ _ h => h) (Or.inl ⟨by kernel_rfl, by intro w' hSw; obtain ⟨s0, s1, _⟩ := hSw; go_simp⟩) hS ?_
              try simp only [List.getElem_toArray, List.getElem_cons_succ, List.getElem_cons_zero, Act.put, List.setIfInBounds_toArray, List.set_cons_zero, List.set_cons_succ]
              refine wpAnyH_take (i := 31) (v := (.bool false)) rfl (by kernel_rfl) (by kernel_rfl) (by kernel_rfl) (fun _ _ _ h => h) (Or.inl ⟨by kernel_rfl, by intro w' hSw; obtain ⟨s0, s1, _⟩ := hSw; go_simp⟩) hS ?_
              try simp only [List.getElem_toArray, List.getElem_cons_succ, List.getElem_cons_zero, Act.put, List.setIfInBounds_toArray, List.set_cons_zero, List.set_cons_succ]
              refine wpAnyH_take (i := 32) (v := (.bool false)) rfl (by kernel_rfl) (by kernel_rfl) (by kernel_rfl) (fun _ _ _ h => h) (Or.inl ⟨by kernel_rfl, by intro w' hSw; obtain ⟨s0, s1, _⟩ := hSw; go_simp⟩) hS ?_
              try simp only [List.getElem_toArray, List.getElem_cons_succ, List.getElem_cons_zero, Act.put, List.setIfInBounds_toArray, List.set_cons_zero, List.set_cons_succ]
              refine wpAnyH_take (i := 33) (v := (.pointer (some ⟨sb, 0, none⟩))) rfl (by kernel_rfl) (by kernel_rfl) (by kernel_rfl) (fun _ _ _ h => h) (Or.inl ⟨by kernel_rfl, by intro w' hSw; obtain ⟨s0, s1, _⟩ := hSw; go_simp⟩) hS ?_
              try simp only [List.getElem_toArray, List.getElem_cons_succ, List.getElem_cons_zero, Act.put, List.setIfInBounds_toArray, List.set_cons_zero, List.set_cons_succ]
              refine wpAnyH_take (i := 35) (v := (.pointer (some ⟨sb, 0, none⟩))) rfl (by kernel_rfl) (by kernel_rfl) (by kernel_rfl) (fun _ _ _ h => h) (Or.inl ⟨by kernel_rfl, by intro w' hSw; obtain ⟨s0, s1, _⟩ := hSw; go_simp⟩) hS ?_
              try simp only [List.getElem_toArray, List.getElem_cons_succ, List.getElem_cons_zero, Act.put, List.setIfInBounds_toArray, List.set_cons_zero, List.set_cons_succ]
              refine wpAnyH_ready (rs := [34]) (by kernel_rfl) (by simp) ?_
              refine AllReadyH.cons rfl (fun K hK => ?_) AllReadyH.nil
              go_simp
              go_at_call 25
              refine (HUp.out _ hS).mono ?_
              rintro e W134 ⟨rfl, hs134⟩
              refine hK.out _ _ (hs134) (fun hS => ?_)
              clear hK K
              try simp only [List.getElem_toArray, List.getElem_cons_succ, List.getElem_cons_zero, Act.put, List.setIfInBounds_toArray, List.set_cons_zero, List.set_cons_succ]
              refine wpAnyH_ready (rs := [36]) (by kernel_rfl) (by simp) ?_
              refine AllReadyH.cons rfl (fun K hK => ?_) AllReadyH.nil
              go_simp
              go_at_call 26
              refine (HBs.out _ hS).mono ?_
              rintro e W136 ⟨rfl, hs136⟩
              refine hK.out _ _ (hs136) (fun hS => ?_)
              clear hK K
              try simp only [List.getElem_toArray, List.getElem_cons_succ, List.getElem_cons_zero, Act.put, List.setIfInBounds_toArray, List.set_cons_zero, List.set_cons_succ]
              refine wpAnyH_take (i := 37) (v := (.bool true)) rfl (by kernel_rfl) (by kernel_rfl) (by kernel_rfl) (fun _ _ _ h => h) (Or.inl ⟨by kernel_rfl, by intro w' hSw; obtain ⟨s0, s1, _⟩ := hSw; go_simp⟩) hS ?_
              try simp only [List.getElem_toArray, List.getElem_cons_succ, List.getElem_cons_zero, Act.put, List.setIfInBounds_toArray, List.set_cons_zero, List.set_cons_succ]
              refine wpAnyH_take (i := 38) (v := (.bool true)) rfl (by kernel_rfl) (by kernel_rfl) (by kernel_rfl) (fun _ _ _ h => h) (Or.inl ⟨by kernel_rfl, by intro w' hSw; obtain ⟨s0, s1, _⟩ := hSw; go_simp⟩) hS ?_
              try simp only [List.getElem_toArray, List.getElem_cons_succ, List.getElem_cons_zero, Act.put, List.setIfInBounds_toArray, List.set_cons_zero, List.set_cons_succ]
              refine wpAnyH_take (i := 39) (v := (.pointer (some ⟨sb, 0, none⟩))) rfl (by kernel_rfl) (by kernel_rfl) (by kernel_rfl) (fun _ _ _ h => h) (Or.inl ⟨by kernel_rfl, by intro w' hSw; obtain ⟨s0, s1, _⟩ := hSw; go_simp⟩) hS ?_
              try simp only [List.getElem_toArray, List.getElem_cons_succ, List.getElem_cons_zero, Act.put, List.setIfInBounds_toArray, List.set_cons_zero, List.set_cons_succ]
              refine wpAnyH_take (i := 40) (v := (.pointer (some ⟨sb, 0, none⟩))) rfl (by kernel_rfl) (by kernel_rfl) (by kernel_rfl) (fun _ _ _ h => h) (Or.inl ⟨by kernel_rfl, by intro w' hSw; obtain ⟨s0, s1, _⟩ := hSw; go_simp⟩) hS ?_
              try simp only [List.getElem_toArray, List.getElem_cons_succ, List.getElem_cons_zero, Act.put, List.setIfInBounds_toArray, List.set_cons_zero, List.set_cons_succ]
              refine wpAnyH_ready (rs := [41]) (by kernel_rfl) (by simp) ?_
              refine AllReadyH.cons rfl (fun K hK => ?_) AllReadyH.nil
              go_simp
              go_at_call 26
              refine (HBs.out _ hS).mono ?_
              rintro e W141 ⟨rfl, hs141⟩
              refine hK.out _ _ (hs141) (fun hS => ?_)
              clear hK K
              try simp only [List.getElem_toArray, List.getElem_cons_succ, List.getElem_cons_zero, Act.put, List.setIfInBounds_toArray, List.set_cons_zero, List.set_cons_succ]
              refine wpAnyH_ready (rs := [42]) (by kernel_rfl) (by simp) ?_
              refine AllReadyH.cons rfl (fun K hK => ?_) AllReadyH.nil
              go_simp
              go_at_call 16
              refine (HP2.out hC _ (by decide) (by decide) _ hS).mono ?_
              rintro e W142 ⟨rfl, hs142⟩
              refine hK.out _ _ (hs142) (fun hS => ?_)
              clear hK K
              try simp only [List.getElem_toArray, List.getElem_cons_succ, List.getElem_cons_zero, Act.put, List.setIfInBounds_toArray, List.set_cons_zero, List.set_cons_succ]
              refine wpAnyH_take (i := 43) (v := (.bool false)) rfl (by kernel_rfl) (by kernel_rfl) (by kernel_rfl) (fun _ _ _ h => h) (Or.inl ⟨by kernel_rfl, by intro w' hSw; obtain ⟨s0, s1, _⟩ := hSw; go_simp⟩) hS ?_
              try simp only [List.getElem_toArray, List.getElem_cons_succ, List.getElem_cons_zero, Act.put, List.setIfInBounds_toArray, List.set_cons_zero, List.set_cons_succ]
              refine wpAnyH_take (i := 44) (v := (.bool false)) rfl (by kernel_rfl) (by kernel_rfl) (by kernel_rfl) (fun _ _ _ h => h) (Or.inl ⟨by kernel_rfl, by intro w' hSw; obtain ⟨s0, s1, _⟩ := hSw; go_simp⟩) hS ?_
              try simp only [List.getElem_toArray, List.getElem_cons_succ, List.getElem_cons_zero, Act.put, List.setIfInBounds_toArray, List.set_cons_zero, List.set_cons_succ]
              refine wpAnyH_take (i := 45) (v := (.bool false)) rfl (by kernel_rfl) (by kernel_rfl) (by kernel_rfl) (fun _ _ _ h => h) (Or.inl ⟨by kernel_rfl, by intro w' hSw; obtain ⟨s0, s1, _⟩ := hSw; go_simp⟩) hS ?_
              try simp only [List.getElem_toArray, List.getElem_cons_succ, List.getElem_cons_zero, Act.put, List.setIfInBounds_toArray, List.set_cons_zero, List.set_cons_succ]
              refine wpAnyH_take (i := 46) (v := (.bool false)) rfl (by kernel_rfl) (by kernel_rfl) (by kernel_rfl) (fun _ _ _ h => h) (Or.inl ⟨by kernel_rfl, by intro w' hSw; obtain ⟨s0, s1, _⟩ := hSw; go_simp⟩) hS ?_
              try simp only [List.getElem_toArray, List.getElem_cons_succ, List.getElem_cons_zero, Act.put, List.setIfInBounds_toArray, List.set_cons_zero, List.set_cons_succ]
              refine wpAnyH_take (i := 47) (v := (.func (.func 35) #[] #[.pointer (some ⟨cx, 0, none⟩), .pointer (some ⟨bx, 0, none⟩)])) rfl (by kernel_rfl) (by kernel_rfl) (by kernel_rfl) (fun _ _ _ h => h) (Or.inl ⟨by kernel_rfl, by intro w' hSw; obtain ⟨s0, s1, _⟩ := hSw; go_simp⟩) hS ?_
              try simp only [List.getElem_toArray, List.getElem_cons_succ, List.getElem_cons_zero, Act.put, List.setIfInBounds_toArray, List.set_cons_zero, List.set_cons_succ]
              refine wpAnyH_ready (rs := [48]) (by kernel_rfl) (by simp) ?_
              refine AllReadyH.cons rfl (fun K hK => ?_) AllReadyH.nil
              go_simp
              go_at_call 35
              refine (HSm.out _ hS).mono ?_
              rintro e W148 ⟨rfl, hs148⟩
              refine hK.out _ _ (hs148) (fun hS => ?_)
              clear hK K
              try simp only [List.getElem_toArray, List.getElem_cons_succ, List.getElem_cons_zero, Act.put, List.setIfInBounds_toArray, List.set_cons_zero, List.set_cons_succ]
              refine wpAnyH_take (i := 49) (v := (.bool false)) rfl (by kernel_rfl) (by kernel_rfl) (by kernel_rfl) (fun _ _ _ h => h) (Or.inl ⟨by kernel_rfl, by intro w' hSw; obtain ⟨s0, s1, _⟩ := hSw; go_simp⟩) hS ?_
              try simp only [List.getElem_toArray, List.getElem_cons_succ, List.getElem_cons_zero, Act.put, List.setIfInBounds_toArray, List.set_cons_zero, List.set_cons_succ]
              refine wpAnyH_take (i := 50) (v := (.bool false)) rfl (by kernel_rfl) (by kernel_rfl) (by kernel_rfl) (fun _ _ _ h => h) (Or.inl ⟨by kernel_rfl, by intro w' hSw; obtain ⟨s0, s1, _⟩ := hSw; go_simp⟩) hS ?_
              try simp only [List.getElem_toArray, List.getElem_cons_succ, List.getElem_cons_zero, Act.put, List.setIfInBounds_toArray, List.set_cons_zero, List.set_cons_succ]
              refine wpAnyH_done (by kernel_rfl) ?_ _
              clear hS
              replace hHeld := Lib.hid (hs148.2.2.2.2.2.later (Below.refl _ _).drew).scs
              clear hs148
              go_wp2_with fail
              go_region_held3 (Sc2 w bx mx cx sb mb sc mc s s m) (first | assumption | exact hHeld.out)
                ((first
                  | (go_at_call 27; refine (HPr.out _ (by assumption)).mono ?_; rintro e W7 ⟨v7, b7, rfl, hB7, hO7, hs7⟩)
                  | (go_at_call 28; refine (HGa.out _ (by assumption)).mono ?_; rintro e W8 ⟨v8, b8, rfl, hB8, hO8, hb8, hs8⟩; have O7 := Lib.hid (hO7.later hb8); have O8 := Lib.hid hO8; have Y8 := Lib.hid hs8)))
              clear hO7 hO8
              obtain ⟨W9, r9, hK9⟩ := run_clear_row Try.underlying43 zero_txt rfl rfl O7.out 0
              have Y9 := Lib.hid (Sy.cleared Y8.out.2.2.2.2.2 O7.out hB7 (by decide) (by decide) (by decide) hK9).scs
              have O9 := Lib.hid (row_apart2 O7.out O8.out (by decide) hK9)
              obtain ⟨W10, r10, hK10⟩ := run_clear_row Try.underlying45 zero_int rfl rfl O9.out 0
              have Y10 := Lib.hid (Sy.cleared Y9.out.2.2.2.2.2 O9.out hB8 (by decide) (by decide) (by decide) hK10).scs
              clear O7 O8 O9 Y8 Y9 hK9 hK10
              go_wp2_with (first
                | (go_at_call 35; refine (HSm.out _ Y10.out).mono ?_; rintro e W11 ⟨rfl, hs11⟩; have x11 := hs11.1; replace hs11 := Lib.hid hs11)
                | (go_at_call 25; refine (HUp.out _ hs11.out).mono ?_; rintro e W12 ⟨rfl, hs12⟩))
              replace hs12 := Lib.hid (hs12.2.2.2.2.2.later (Below.refl _ _).drew)
              go_region_held3 (S31 bx mx cx sb sc m)
                (first | exact S15.out.s31 | exact S14.out.s31 | exact S13.out.s31 | exact hs12.out.s31)
                ((first
                  | (go_at_call 29; refine (HV.out _).mono ?_; rintro e W13 ⟨rfl, hb13⟩; have S13 := Lib.hid (hs12.out.later hb13))
                  | (go_at_call 16; refine (HPc.out _ S13.out).mono ?_; rintro e W14 ⟨rfl, hs14⟩; have S14 := Lib.hid hs14)
                  | (go_at_call 25; refine (HUa.out _ S15.out).mono ?_; rintro e W16 ⟨rfl, rfl⟩)
                  | (go_at_call 25; refine (HUc.out _ S14.out).mono ?_; rintro e W15 ⟨rfl, rfl⟩; have S15 := Lib.hid S14.out)))
              have x15 := S15.out.scs.1
              go_wp2_with (first
                | (go_at_call 24; refine (HGt.out _ S15.out).mono ?_; rintro e W17 ⟨rfl, rfl⟩)
                | (go_at_call 12; refine (works_any _).mono ?_; rintro e W18 ⟨rfl, hb18⟩))
              go_ret
              exact ⟨rfl, below2 S15.out.a.bel hb18⟩
            · have hC : ¬ b < U := by omega
              have t1 : decide (0 < U) = false := by simp; omega
              have t2 : decide (0 < b) = false := by simp; omega
              have t3 : decide (b < U) = false := by simp; omega
              refine wp_region_held_drew (S := (Sc2 w bx mx cx sb mb sc mc s s m)) (by kernel_rfl) ((hHeld.out.2.2.2.2.2.later (Below.refl _ _).drew).scs) (fun hS => ?_)
              try simp only [List.getElem_toArray, List.getElem_cons_succ, List.getElem_cons_zero, Act.put, List.setIfInBounds_toArray, List.set_cons_zero, List.set_cons_succ]
              refine wpAnyH_take (i := 0) (v := (.pointer (some ⟨sb, 0, none⟩))) rfl (by kernel_rfl) (by kernel_rfl) (by kernel_rfl) (fun _ _ _ h => h) (Or.inl ⟨by kernel_rfl, by intro w' hSw; obtain ⟨s0, s1, _⟩ := hSw; go_simp⟩) hS ?_
              try simp only [List.getElem_toArray, List.getElem_cons_succ, List.getElem_cons_zero, Act.put, List.setIfInBounds_toArray, List.set_cons_zero, List.set_cons_succ]
              refine wpAnyH_take (i := 1) (v := (.pointer (some ⟨sb, 0, none⟩))) rfl (by kernel_rfl) (by kernel_rfl) (by kernel_rfl) (fun _ _ _ h => h) (Or.inl ⟨by kernel_rfl, by intro w' hSw; obtain ⟨s0, s1, _⟩ := hSw; go_simp⟩) hS ?_
              try simp only [List.getElem_toArray, List.getElem_cons_succ, List.getElem_cons_zero, Act.put, List.setIfInBounds_toArray, List.set_cons_zero, List.set_cons_succ]
              refine wpAnyH_ready (rs := [2]) (by kernel_rfl) (by simp) ?_
              refine AllReadyH.cons rfl (fun K hK => ?_) AllReadyH.nil
              go_simp
              go_at_call 25
              refine (HUp.out _ hS).mono ?_
              rintro e W102 ⟨rfl, hs102⟩
              refine hK.out _ _ (hs102) (fun hS => ?_)
              clear hK K
              try simp only [List.getElem_toArray, List.getElem_cons_succ, List.getElem_cons_zero, Act.put, List.setIfInBounds_toArray, List.set_cons_zero, List.set_cons_succ]
              refine wpAnyH_take (i := 3) (v := (.int .i64 (U + 1))) rfl (by kernel_rfl) (by kernel_rfl) (by kernel_rfl) (fun _ _ _ h => h) (Or.inl ⟨by kernel_rfl, by intro w' hSw; obtain ⟨s0, s1, _⟩ := hSw; go_simp⟩) hS ?_
              try simp only [List.getElem_toArray, List.getElem_cons_succ, List.getElem_cons_zero, Act.put, List.setIfInBounds_toArray, List.set_cons_zero, List.set_cons_succ]
              refine wpAnyH_ready (rs := [4]) (by kernel_rfl) (by simp) ?_
              refine AllReadyH.cons rfl (fun K hK => ?_) AllReadyH.nil
              go_simp
              go_at_call 18
              refine (HF1.out _ hS).mono ?_
              rintro e W104 ⟨rfl, hs104⟩
              refine hK.out _ _ (hs104) (fun hS => ?_)
              clear hK K
              try simp only [List.getElem_toArray, List.getElem_cons_succ, List.getElem_cons_zero, Act.put, List.setIfInBounds_toArray, List.set_cons_zero, List.set_cons_succ]
              refine wpAnyH_take (i := 5) (v := (.bool false)) rfl (by kernel_rfl) (by kernel_rfl) (by kernel_rfl) (fun _ _ _ h => h) (Or.inl ⟨by kernel_rfl, by intro w' hSw; obtain ⟨s0, s1, _⟩ := hSw; go_simp⟩) hS ?_
              try simp only [List.getElem_toArray, List.getElem_cons_succ, List.getElem_cons_zero, Act.put, List.setIfInBounds_toArray, List.set_cons_zero, List.set_cons_succ]
              refine wpAnyH_take (i := 6) (v := (.bool false)) rfl (by kernel_rfl) (by kernel_rfl) (by kernel_rfl) (fun _ _ _ h => h) (Or.inl ⟨by kernel_rfl, by intro w' hSw; obtain ⟨s0, s1, _⟩ := hSw; go_simp⟩) hS ?_
              try simp only [List.getElem_toArray, List.getElem_cons_succ, List.getElem_cons_zero, Act.put, List.setIfInBounds_toArray, List.set_cons_zero, List.set_cons_succ]
              refine wpAnyH_take (i := 7) (v := (.pointer (some ⟨sb, 0, none⟩))) rfl (by kernel_rfl) (by kernel_rfl) (by kernel_rfl) (fun _ _ _ h => h) (Or.inl ⟨by kernel_rfl, by intro w' hSw; obtain ⟨s0, s1, _⟩ := hSw; go_simp⟩) hS ?_
              try simp only [List.getElem_toArray, List.getElem_cons_succ, List.getElem_cons_zero, Act.put, List.setIfInBounds_toArray, List.set_cons_zero, List.set_cons_succ]
              refine wpAnyH_ready (rs := [8]) (by kernel_rfl) (by simp) ?_
              refine AllReadyH.cons rfl (fun K hK => ?_) AllReadyH.nil
              go_simp
              go_at_call 25
              refine (HUp.out _ hS).mono ?_
              rintro e W108 ⟨rfl, hs108⟩
              refine hK.out _ _ (hs108) (fun hS => ?_)
              clear hK K
              try simp only [List.getElem_toArray, List.getElem_cons_succ, List.getElem_cons_zero, Act.put, List.setIfInBounds_toArray, List.set_cons_zero, List.set_cons_succ]
              refine wpAnyH_take (i := 9) (v := (.bool false)) rfl (by kernel_rfl) (by kernel_rfl) (by kernel_rfl) (fun _ _ _ h => h) (Or.inl ⟨by kernel_rfl, by intro w' hSw; obtain ⟨s0, s1, _⟩ := hSw; go_simp⟩) hS ?_
              try simp only [List.getElem_toArray, List.getElem_cons_succ, List.getElem_cons_zero, Act.put, List.setIfInBounds_toArray, List.set_cons_zero, List.set_cons_succ]
              refine wpAnyH_take (i := 10) (v := (.bool false)) rfl (by kernel_rfl) (by kernel_rfl) (by kernel_rfl) (fun _ _ _ h => h) (Or.inl ⟨by kernel_rfl, by intro w' hSw; obtain ⟨s0, s1, _⟩ := hSw; go_simp⟩) hS ?_
              try simp only [List.getElem_toArray, List.getElem_cons_succ, List.getElem_cons_zero, Act.put, List.setIfInBounds_toArray, List.set_cons_zero, List.set_cons_succ]
              refine wpAnyH_take (i := 11) (v := undef) rfl (by kernel_rfl) (by kernel_rfl) (by kernel_rfl) (fun _ _ _ h => h) (Or.inr ⟨by kernel_rfl, rfl⟩) hS ?_
              try simp only [List.getElem_toArray, List.getElem_cons_succ, List.getElem_cons_zero, Act.put, List.setIfInBounds_toArray, List.set_cons_zero, List.set_cons_succ]
              refine wpAnyH_take (i := 12) (v := undef) rfl (by kernel_rfl) (by kernel_rfl) (by kernel_rfl) (fun _ _ _ h => h) (Or.inr ⟨by kernel_rfl, rfl⟩) hS ?_
              try simp only [List.getElem_toArray, List.getElem_cons_succ, List.getElem_cons_zero, Act.put, List.setIfInBounds_toArray, List.set_cons_zero, List.set_cons_succ]
              refine wpAnyH_take (i := 13) (v := undef) rfl (by kernel_rfl) (by kernel_rfl) (by kernel_rfl) (fun _ _ _ h => h) (Or.inr ⟨by kernel_rfl, rfl⟩) hS ?_
              try simp only [List.getElem_toArray, List.getElem_cons_succ, List.getElem_cons_zero, Act.put, List.setIfInBounds_toArray, List.set_cons_zero, List.set_cons_succ]
              refine wpAnyH_take (i := 14) (v := undef) rfl (by kernel_rfl) (by kernel_rfl) (by kernel_rfl) (fun _ _ _ h => h) (Or.inr ⟨by kernel_rfl, rfl⟩) hS ?_
              try simp only [List.getElem_toArray, List.getElem_cons_succ, List.getElem_cons_zero, Act.put, List.setIfInBounds_toArray, List.set_cons_zero, List.set_cons_succ]
              refine wpAnyH_take (i := 15) (v := undef) rfl (by kernel_rfl) (by kernel_rfl) (by kernel_rfl) (fun _ _ _ h => h) (Or.inr ⟨by kernel_rfl, rfl⟩) hS ?_
              try simp only [List.getElem_toArray, List.getElem_cons_succ, List.getElem_cons_zero, Act.put, List.setIfInBounds_toArray, List.set_cons_zero, List.set_cons_succ]
              refine wpAnyH_take (i := 16) (v := undef) rfl (by kernel_rfl) (by kernel_rfl) (by kernel_rfl) (fun _ _ _ h => h) (Or.inr ⟨by kernel_rfl, rfl⟩) hS ?_
              try simp only [List.getElem_toArray, List.getElem_cons_succ, List.getElem_cons_zero, Act.put, List.setIfInBounds_toArray, List.set_cons_zero, List.set_cons_succ]
              refine wpAnyH_take (i := 17) (v := (.bool false)) rfl (by kernel_rfl) (by kernel_rfl) (by kernel_rfl) (fun _ _ _ h => h) (Or.inl ⟨by kernel_rfl, by intro w' hSw; obtain ⟨s0, s1, _⟩ := hSw; go_simp⟩) hS ?_
              try simp only [List.getElem_toArray, List.getElem_cons_succ, List.getElem_cons_zero, Act.put, List.setIfInBounds_toArray, List.set_cons_zero, List.set_cons_succ]
              refine wpAnyH_take (i := 18) (v := (.bool false)) rfl (by kernel_rfl) (by kernel_rfl) (by kernel_rfl) (fun _ _ _ h => h) (Or.inl ⟨by kernel_rfl, by intro w' hSw; obtain ⟨s0, s1, _⟩ := hSw; go_simp⟩) hS ?_
              try simp only [List.getElem_toArray, List.getElem_cons_succ, List.getElem_cons_zero, Act.put, List.setIfInBounds_toArray, List.set_cons_zero, List.set_cons_succ]
              refine wpAnyH_take (i := 19) (v := (.bool false)) rfl (by kernel_rfl) (by kernel_rfl) (by kernel_rfl) (fun _ _ _ h => h) (Or.inl ⟨by kernel_rfl, by intro w' hSw; obtain ⟨s0, s1, _⟩ := hSw; go_simp⟩) hS ?_
              try simp only [List.getElem_toArray, List.getElem_cons_succ, List.getElem_cons_zero, Act.put, List.setIfInBounds_toArray, List.set_cons_zero, List.set_cons_succ]
              refine wpAnyH_take (i := 20) (v := (.pointer (some ⟨sb, 0, none⟩))) rfl (by kernel_rfl) (by kernel_rfl) (by kernel_rfl) (fun _ _ _ h => h) (Or.inl ⟨by kernel_rfl, by intro w' hSw; obtain ⟨s0, s1, _⟩ := hSw; go_simp⟩) hS ?_
              try simp only [List.getElem_toArray, List.getElem_cons_succ, List.getElem_cons_zero, Act.put, List.setIfInBounds_toArray, List.set_cons_zero, List.set_cons_succ]
              refine wpAnyH_ready (rs := [21]) (by kernel_rfl) (by simp) ?_
              refine AllReadyH.cons rfl (fun K hK => ?_) AllReadyH.nil
              go_simp
              go_at_call 26
              refine (HBs.out _ hS).mono ?_
              rintro e W121 ⟨rfl, hs121⟩
              refine hK.out _ _ (hs121) (fun hS => ?_)
              clear hK K
              try simp only [List.getElem_toArray, List.getElem_cons_succ, List.getElem_cons_zero, Act.put, List.setIfInBounds_toArray, List.set_cons_zero, List.set_cons_succ]
              refine wpAnyH_take (i := 22) (v := (.bool false)) rfl (by kernel_rfl) (by kernel_rfl) (by kernel_rfl) (fun _ _ _ h => h) (Or.inl ⟨by kernel_rfl, by intro w' hSw; obtain ⟨s0, s1, _⟩ := hSw; go_simp⟩) hS ?_
              try simp only [List.getElem_toArray, List.getElem_cons_succ, List.getElem_cons_zero, Act.put, List.setIfInBounds_toArray, List.set_cons_zero, List.set_cons_succ]
              refine wpAnyH_take (i := 23) (v := (.bool false)) rfl (by kernel_rfl) (by kernel_rfl) (by kernel_rfl) (fun _ _ _ h => h) (Or.inl ⟨by kernel_rfl, by intro w' hSw; obtain ⟨s0, s1, _⟩ := hSw; go_simp⟩) hS ?_
              try simp only [List.getElem_toArray, List.getElem_cons_succ, List.getElem_cons_zero, Act.put, List.setIfInBounds_toArray, List.set_cons_zero, List.set_cons_succ]
              refine wpAnyH_take (i := 24) (v := undef) rfl (by kernel_rfl) (by kernel_rfl) (by kernel_rfl) (fun _ _ _ h => h) (Or.inr ⟨by kernel_rfl, rfl⟩) hS ?_
              try simp only [List.getElem_toArray, List.getElem_cons_succ, List.getElem_cons_zero, Act.put, List.setIfInBounds_toArray, List.set_cons_zero, List.set_cons_succ]
              refine wpAnyH_take (i := 25) (v := undef) rfl (by kernel_rfl) (by kernel_rfl) (by kernel_rfl) (fun _ _ _ h => h) (Or.inr ⟨by kernel_rfl, rfl⟩) hS ?_
              try simp only [List.getElem_toArray, List.getElem_cons_succ, List.getElem_cons_zero, Act.put, List.setIfInBounds_toArray, List.set_cons_zero, List.set_cons_succ]
              refine wpAnyH_take (i := 26) (v := undef) rfl (by kernel_rfl) (by kernel_rfl) (by kernel_rfl) (fun _ _ _ h => h) (Or.inr ⟨by kernel_rfl, rfl⟩) hS ?_
              try simp only [List.getElem_toArray, List.getElem_cons_succ, List.getElem_cons_zero, Act.put, List.setIfInBounds_toArray, List.set_cons_zero, List.set_cons_succ]
              refine wpAnyH_take (i := 27) (v := undef) rfl (by kernel_rfl) (by kernel_rfl) (by kernel_rfl) (fun _ _ _ h => h) (Or.inr ⟨by kernel_rfl, rfl⟩) hS ?_
              try simp only [List.getElem_toArray, List.getElem_cons_succ, List.getElem_cons_zero, Act.put, List.setIfInBounds_toArray, List.set_cons_zero, List.set_cons_succ]
              refine wpAnyH_take (i := 28) (v := undef) rfl (by kernel_rfl) (by kernel_rfl) (by kernel_rfl) (fun _ _ _ h => h) (Or.inr ⟨by kernel_rfl, rfl⟩) hS ?_
              try simp only [List.getElem_toArray, List.getElem_cons_succ, List.getElem_cons_zero, Act.put, List.setIfInBounds_toArray, List.set_cons_zero, List.set_cons_succ]
              refine wpAnyH_take (i := 29) (v := undef) rfl (by kernel_rfl) (by kernel_rfl) (by kernel_rfl) (fun _ _ _ h => h) (Or.inr ⟨by kernel_rfl, rfl⟩) hS ?_
              try simp only [List.getElem_toArray, List.getElem_cons_succ, List.getElem_cons_zero, Act.put, List.setIfInBounds_toArray, List.set_cons_zero, List.set_cons_succ]
              refine wpAnyH_take (i := 30) (v := (.bool false)) rfl (by kernel_rfl) (by kernel_rfl) (by kernel_rfl) (fun _ _ _ h => h) (Or.inl ⟨by kernel_rfl, by intro w' hSw; obtain ⟨s0, s1, _⟩ := hSw; go_simp⟩) hS ?_
              try simp only [List.getElem_toArray, List.getElem_cons_succ, List.getElem_cons_zero, Act.put, List.setIfInBounds_toArray, List.set_cons_zero, List.set_cons_succ]
              refine wpAnyH_take (i := 31) (v := (.bool false)) rfl (by kernel_rfl) (by kernel_rfl) (by kernel_rfl) (fun _ _ _ h => h) (Or.inl ⟨by kernel_rfl, by intro w' hSw; obtain ⟨s0, s1, _⟩ := hSw; go_simp⟩) hS ?_
              try simp only [List.getElem_toArray, List.getElem_cons_succ, List.getElem_cons_zero, Act.put, List.setIfInBounds_toArray, List.set_cons_zero, List.set_cons_succ]
              refine wpAnyH_take (i := 32) (v := (.bool false)) rfl (by kernel_rfl) (by kernel_rfl) (by kernel_rfl) (fun _ _ _ h => h) (Or.inl ⟨by kernel_rfl, by intro w' hSw; obtain ⟨s0, s1, _⟩ := hSw; go_simp⟩) hS ?_
              try simp only [List.getElem_toArray, List.getElem_cons_succ, List.getElem_cons_zero, Act.put, List.setIfInBounds_toArray, List.set_cons_zero, List.set_cons_succ]
              refine wpAnyH_take (i := 33) (v := (.pointer (some ⟨sb, 0, none⟩))) rfl (by kernel_rfl) (by kernel_rfl) (by kernel_rfl) (fun _ _ _ h => h) (Or.inl ⟨by kernel_rfl, by intro w' hSw; obtain ⟨s0, s1, _⟩ := hSw; go_simp⟩) hS ?_
              try simp only [List.getElem_toArray, List.getElem_cons_succ, List.getElem_cons_zero, Act.put, List.setIfInBounds_toArray, List.set_cons_zero, List.set_cons_succ]
              refine wpAnyH_take (i := 35) (v := (.pointer (some ⟨sb, 0, none⟩))) rfl (by kernel_rfl) (by kernel_rfl) (by kernel_rfl) (fun _ _ _ h => h) (Or.inl ⟨by kernel_rfl, by intro w' hSw; obtain ⟨s0, s1, _⟩ := hSw; go_simp⟩) hS ?_
              try simp only [List.getElem_toArray, List.getElem_cons_succ, List.getElem_cons_zero, Act.put, List.setIfInBounds_toArray, List.set_cons_zero, List.set_cons_succ]
              refine wpAnyH_ready (rs := [34]) (by kernel_rfl) (by simp) ?_
              refine AllReadyH.cons rfl (fun K hK => ?_) AllReadyH.nil
              go_simp
              go_at_call 25
              refine (HUp.out _ hS).mono ?_
              rintro e W134 ⟨rfl, hs134⟩
              refine hK.out _ _ (hs134) (fun hS => ?_)
              clear hK K
              try simp only [List.getElem_toArray, List.getElem_cons_succ, List.getElem_cons_zero, Act.put, List.setIfInBounds_toArray, List.set_cons_zero, List.set_cons_succ]
              refine wpAnyH_ready (rs := [36]) (by kernel_rfl) (by simp) ?_
              refine AllReadyH.cons rfl (fun K hK => ?_) AllReadyH.nil
              go_simp
              go_at_call 26
              refine (HBs.out _ hS).mono ?_
              rintro e W136 ⟨rfl, hs136⟩
              refine hK.out _ _ (hs136) (fun hS => ?_)
              clear hK K
              try simp only [List.getElem_toArray, List.getElem_cons_succ, List.getElem_cons_zero, Act.put, List.setIfInBounds_toArray, List.set_cons_zero, List.set_cons_succ]
              refine wpAnyH_take (i := 37) (v := (.bool false)) rfl (by kernel_rfl) (by kernel_rfl) (by kernel_rfl) (fun _ _ _ h => h) (Or.inl ⟨by kernel_rfl, by intro w' hSw; obtain ⟨s0, s1, _⟩ := hSw; go_simp⟩) hS ?_
              try simp only [List.getElem_toArray, List.getElem_cons_succ, List.getElem_cons_zero, Act.put, List.setIfInBounds_toArray, List.set_cons_zero, List.set_cons_succ]
              refine wpAnyH_take (i := 38) (v := (.bool false)) rfl (by kernel_rfl) (by kernel_rfl) (by kernel_rfl) (fun _ _ _ h => h) (Or.inl ⟨by kernel_rfl, by intro w' hSw; obtain ⟨s0, s1, _⟩ := hSw; go_simp⟩) hS ?_
              try simp only [List.getElem_toArray, List.getElem_cons_succ, List.getElem_cons_zero, Act.put, List.setIfInBounds_toArray, List.set_cons_zero, List.set_cons_succ]
              refine wpAnyH_take (i := 39) (v := undef) rfl (by kernel_rfl) (by kernel_rfl) (by kernel_rfl) (fun _ _ _ h => h) (Or.inr ⟨by kernel_rfl, rfl⟩) hS ?_
              try simp only [List.getElem_toArray, List.getElem_cons_succ, List.getElem_cons_zero, Act.put, List.setIfInBounds_toArray, List.set_cons_zero, List.set_cons_succ]
              refine wpAnyH_take (i := 40) (v := undef) rfl (by kernel_rfl) (by kernel_rfl) (by kernel_rfl) (fun _ _ _ h => h) (Or.inr ⟨by kernel_rfl, rfl⟩) hS ?_
              try simp only [List.getElem_toArray, List.getElem_cons_succ, List.getElem_cons_zero, Act.put, List.setIfInBounds_toArray, List.set_cons_zero, List.set_cons_succ]
              refine wpAnyH_take (i := 41) (v := undef) rfl (by kernel_rfl) (by kernel_rfl) (by kernel_rfl) (fun _ _ _ h => h) (Or.inr ⟨by kernel_rfl, rfl⟩) hS ?_
              try simp only [List.getElem_toArray, List.getElem_cons_succ, List.getElem_cons_zero, Act.put, List.setIfInBounds_toArray, List.set_cons_zero, List.set_cons_succ]
              refine wpAnyH_take (i := 42) (v := undef) rfl (by kernel_rfl) (by kernel_rfl) (by kernel_rfl) (fun _ _ _ h => h) (Or.inr ⟨by kernel_rfl, rfl⟩) hS ?_
              try simp only [List.getElem_toArray, List.getElem_cons_succ, List.getElem_cons_zero, Act.put, List.setIfInBounds_toArray, List.set_cons_zero, List.set_cons_succ]
              refine wpAnyH_take (i := 43) (v := undef) rfl (by kernel_rfl) (by kernel_rfl) (by kernel_rfl) (fun _ _ _ h => h) (Or.inr ⟨by kernel_rfl, rfl⟩) hS ?_
              try simp only [List.getElem_toArray, List.getElem_cons_succ, List.getElem_cons_zero, Act.put, List.setIfInBounds_toArray, List.set_cons_zero, List.set_cons_succ]
              refine wpAnyH_take (i := 44) (v := (.bool false)) rfl (by kernel_rfl) (by kernel_rfl) (by kernel_rfl) (fun _ _ _ h => h) (Or.inl ⟨by kernel_rfl, by intro w' hSw; obtain ⟨s0, s1, _⟩ := hSw; go_simp⟩) hS ?_
              try simp only [List.getElem_toArray, List.getElem_cons_succ, List.getElem_cons_zero, Act.put, List.setIfInBounds_toArray, List.set_cons_zero, List.set_cons_succ]
              refine wpAnyH_take (i := 45) (v := (.bool false)) rfl (by kernel_rfl) (by kernel_rfl) (by kernel_rfl) (fun _ _ _ h => h) (Or.inl ⟨by kernel_rfl, by intro w' hSw; obtain ⟨s0, s1, _⟩ := hSw; go_simp⟩) hS ?_
              try simp only [List.getElem_toArray, List.getElem_cons_succ, List.getElem_cons_zero, Act.put, List.setIfInBounds_toArray, List.set_cons_zero, List.set_cons_succ]
              refine wpAnyH_take (i := 46) (v := (.bool false)) rfl (by kernel_rfl) (by kernel_rfl) (by kernel_rfl) (fun _ _ _ h => h) (Or.inl ⟨by kernel_rfl, by intro w' hSw; obtain ⟨s0, s1, _⟩ := hSw; go_simp⟩) hS ?_
              try simp only [List.getElem_toArray, List.getElem_cons_succ, List.getElem_cons_zero, Act.put, List.setIfInBounds_toArray, List.set_cons_zero, List.set_cons_succ]
              refine wpAnyH_take (i := 47) (v := (.func (.func 35) #[] #[.pointer (some ⟨cx, 0, none⟩), .pointer (some ⟨bx, 0, none⟩)])) rfl (by kernel_rfl) (by kernel_rfl) (by kernel_rfl) (fun _ _ _ h => h) (Or.inl ⟨by kernel_rfl, by intro w' hSw; obtain ⟨s0, s1, _⟩ := hSw; go_simp⟩) hS ?_
              try simp only [List.getElem_toArray, List.getElem_cons_succ, List.getElem_cons_zero, Act.put, List.setIfInBounds_toArray, List.set_cons_zero, List.set_cons_succ]
              refine wpAnyH_ready (rs := [48]) (by kernel_rfl) (by simp) ?_
              refine AllReadyH.cons rfl (fun K hK => ?_) AllReadyH.nil
              go_simp
              go_at_call 35
              refine (HSm.out _ hS).mono ?_
              rintro e W148 ⟨rfl, hs148⟩
              refine hK.out _ _ (hs148) (fun hS => ?_)
              clear hK K
              try simp only [List.getElem_toArray, List.getElem_cons_succ, List.getElem_cons_zero, Act.put, List.setIfInBounds_toArray, List.set_cons_zero, List.set_cons_succ]
              refine wpAnyH_take (i := 49) (v := (.bool false)) rfl (by kernel_rfl) (by kernel_rfl) (by kernel_rfl) (fun _ _ _ h => h) (Or.inl ⟨by kernel_rfl, by intro w' hSw; obtain ⟨s0, s1, _⟩ := hSw; go_simp⟩) hS ?_
              try simp only [List.getElem_toArray, List.getElem_cons_succ, List.getElem_cons_zero, Act.put, List.setIfInBounds_toArray, List.set_cons_zero, List.set_cons_succ]
              refine wpAnyH_take (i := 50) (v := (.bool false)) rfl (by kernel_rfl) (by kernel_rfl) (by kernel_rfl) (fun _ _ _ h => h) (Or.inl ⟨by kernel_rfl, by intro w' hSw; obtain ⟨s0, s1, _⟩ := hSw; go_simp⟩) hS ?_
              try simp only [List.getElem_toArray, List.getElem_cons_succ, List.getElem_cons_zero, Act.put, List.setIfInBounds_toArray, List.set_cons_zero, List.set_cons_succ]
              refine wpAnyH_done (by kernel_rfl) ?_ _
              clear hS
              replace hHeld := Lib.hid (hs148.2.2.2.2.2.later (Below.refl _ _).drew).scs
              clear hs148
              go_wp2_with fail
              go_region_held3 (Sc2 w bx mx cx sb mb sc mc s s m) (first | assumption | exact hHeld.out)
                ((first
                  | (go_at_call 27; refine (HPr.out _ (by assumption)).mono ?_; rintro e W7 ⟨v7, b7, rfl, hB7, hO7, hs7⟩)
                  | (go_at_call 28; refine (HGa.out _ (by assumption)).mono ?_; rintro e W8 ⟨v8, b8, rfl, hB8, hO8, hb8, hs8⟩; have O7 := Lib.hid (hO7.later hb8); have O8 := Lib.hid hO8; have Y8 := Lib.hid hs8)))
              clear hO7 hO8
              obtain ⟨W9, r9, hK9⟩ := run_clear_row Try.underlying43 zero_txt rfl rfl O7.out 0
              have Y9 := Lib.hid (Sy.cleared Y8.out.2.2.2.2.2 O7.out hB7 (by decide) (by decide) (by decide) hK9).scs
              have O9 := Lib.hid (row_apart2 O7.out O8.out (by decide) hK9)
              obtain ⟨W10, r10, hK10⟩ := run_clear_row Try.underlying45 zero_int rfl rfl O9.out 0
              have Y10 := Lib.hid (Sy.cleared Y9.out.2.2.2.2.2 O9.out hB8 (by decide) (by decide) (by decide) hK10).scs
              clear O7 O8 O9 Y8 Y9 hK9 hK10
              go_wp2_with (first
                | (go_at_call 35; refine (HSm.out _ Y10.out).mono ?_; rintro e W11 ⟨rfl, hs11⟩; have x11 := hs11.1; replace hs11 := Lib.hid hs11)
                | (go_at_call 25; refine (HUp.out _ hs11.out).mono ?_; rintro e W12 ⟨rfl, hs12⟩))
              replace hs12 := Lib.hid (hs12.2.2.2.2.2.later (Below.refl _ _).drew)
              go_region_held3 (S31 bx mx cx sb sc m)
                (first | exact S15.out.s31 | exact S14.out.s31 | exact S13.out.s31 | exact hs12.out.s31)
                ((first
                  | (go_at_call 29; refine (HV.out _).mono ?_; rintro e W13 ⟨rfl, hb13⟩; have S13 := Lib.hid (hs12.out.later hb13))
                  | (go_at_call 16; refine (HPc.out _ S13.out).mono ?_; rintro e W14 ⟨rfl, hs14⟩; have S14 := Lib.hid hs14)
                  | (go_at_call 25; refine (HUa.out _ S15.out).mono ?_; rintro e W16 ⟨rfl, rfl⟩)
                  | (go_at_call 25; refine (HUc.out _ S14.out).mono ?_; rintro e W15 ⟨rfl, rfl⟩; have S15 := Lib.hid S14.out)))
              have x15 := S15.out.scs.1
              go_wp2_with (first
                | (go_at_call 24; refine (HGt.out _ S15.out).mono ?_; rintro e W17 ⟨rfl, rfl⟩)
                | (go_at_call 12; refine (works_any _).mono ?_; rintro e W18 ⟨rfl, hb18⟩))
              go_ret
              exact ⟨rfl, below2 S15.out.a.bel hb18⟩
theorem stays_law (a1 : Option Addr) (len1 cap1 : Nat) (S : Nat → Mt) (m : Mt) (w : World) (h1 : IsMt w a1 len1 cap1 S) (hm : m.wf) :
    Calls Try.prog 9 #[.slice a1 len1 cap1, .agg (mA m)] w (Yes w) := stays_any a1 len1 cap1 S m w h1 hm
end Go.Proofs.Ytgeejkedljhcoaa.Slt
