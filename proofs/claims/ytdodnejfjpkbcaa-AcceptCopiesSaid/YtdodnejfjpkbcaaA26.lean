/- The walk of AcceptCopies. -/
import Derived.Test.YtdodnejfjpkbcaaA16
namespace Go.Proofs.Ytdodnejfjpkbcaa.Acc
open Go.RowKit Go.Maps Go.Lib
open Bal (TB alloc_b)
set_option linter.unusedVariables false
set_option linter.unusedSimpArgs false
set_option maxRecDepth 100000

/-- Three acceptors of one's own. -/
structure Th (w : World) (sa ma : Nat) (s : St) (sb mb : Nat) (t : St) (sc mc : Nat) (u : St) (W : World) : Prop where
  ab : Tw w sa ma s sb mb t W
  ac : Tw w sa ma s sc mc u W
  bc : Tw w sb mb t sc mc u W
section
variable {w W W' : World} {sa ma sb mb sc mc : Nat} {s t u t' : St}
theorem Th.later (h : Th w sa ma s sb mb t sc mc u W) (hb : Below W.heap.size W W') : Th w sa ma s sb mb t sc mc u W' := ⟨h.ab.later hb, h.ac.later hb, h.bc.later hb⟩
theorem Th.stepB (h : Th w sa ma s sb mb t sc mc u W) (hA : WAt w sb mb t' W') (hK : Keeps (fun k => k = sb ∨ k = mb) W W') : Th w sa ma s sb mb t' sc mc u W' := by
  have h1 := (h.ab.swap.step hA hK).swap
  have h2 := h.bc.step hA hK
  exact ⟨h1, ⟨h1.a, h2.b, h.ac.ne⟩, h2⟩
theorem Th.stepC (h : Th w sa ma s sb mb t sc mc u W) (hA : WAt w sc mc t' W') (hK : Keeps (fun k => k = sc ∨ k = mc) W W') : Th w sa ma s sb mb t sc mc t' W' := by
  have h1 := (h.ac.swap.step hA hK).swap
  have h2 := (h.bc.swap.step hA hK).swap
  exact ⟨⟨h1.a, h2.a, h.ab.ne⟩, h1, h2⟩
/-- A block of another type has changed. -/
theorem WAt.keptRow {q : Nat} (h : WAt w sa ma s W) (hK : Keeps (fun k => k = q) W W') (hq : w.heap.size ≤ q) {cs : Array Value} {T : TypeId} (hc : W.heap[q]? = some (.cells cs T (0, 0))) (hT : T ≠ TA) : WAt w sa ma s W' := by
  refine ⟨h.ax.kept hK ?_ ?_, h.bel.trans (hK.below h.bel.size fun k hk => by subst hk; exact hq), h.hs, h.hm⟩
  · rintro rfl
    rw [h.ax.box] at hc
    injection hc with hc
    injection hc with _ hc
    exact hT hc.symm
  · rintro rfl
    obtain ⟨es, clock, hb, _⟩ := h.ax.own
    rw [hb] at hc
    cases hc
theorem Th.keptRow {q : Nat} (h : Th w sa ma s sb mb t sc mc u W) (hK : Keeps (fun k => k = q) W W') (hq : w.heap.size ≤ q) {cs : Array Value} {T : TypeId} (hc : W.heap[q]? = some (.cells cs T (0, 0))) (hT : T ≠ TA) : Th w sa ma s sb mb t sc mc u W' :=
  ⟨⟨h.ab.a.keptRow hK hq hc hT, h.ab.b.keptRow hK hq hc hT, h.ab.ne⟩, ⟨h.ac.a.keptRow hK hq hc hT, h.ac.b.keptRow hK hq hc hT, h.ac.ne⟩, ⟨h.bc.a.keptRow hK hq hc hT, h.bc.b.keptRow hK hq hc hT, h.bc.ne⟩⟩
end
def accF (S : Nat → Sp) (s : St) : Nat → St
  | 0 => s
  | k + 1 => accS (accF S s k) (S k).r (S k).m (S k).k (S k).v
/-- A row that is written over: its block. -/
theorem OwE.blk {base : Nat} {L : List Et} {v : Value} {w : World} (h : OwE base L v w) (hp : 0 < L.length) : ∃ g cap cs, v = .slice (some ⟨g, 0, none⟩) L.length cap ∧ base ≤ g ∧ w.heap[g]? = some (.cells cs TE (0, 0)) ∧ L.length * 4 ≤ cs.size := by
  rcases h.2 with ⟨_, h0⟩ | ⟨g, cap, cur, rfl, hbg, hg, h1, h2, h3, h4⟩
  · omega
  · exact ⟨g, cap, cur, rfl, hbg, hg, by rw [h3]; omega⟩
set_option maxHeartbeats 8000000 in
theorem copies_go (a1 : Option Addr) (len1 cap1 : Nat) (S : Nat → Sp) (a2 : Option Addr) (len2 cap2 : Nat) (S2 : Nat → Sp) (w : World) (h1 : IsSt w a1 len1 cap1 S) (h2 : IsSt w a2 len2 cap2 S2)
    (hl1 : len1 ≤ 60) (hl2 : len2 ≤ 60) (hsh1 : shortB S len1 = true) (hsh2 : shortB S2 len2 = true) :
    Calls Try.prog 10 #[.slice a1 len1 cap1, .slice a2 len2 cap2] w (Yes w) := by
  have HW := Lib.hid (fun W => works_any W)
  have HS1 := short_any a1 len1 cap1 S w h1
  have HS2 := short_any a2 len2 cap2 S2 w h2
  rw [hsh1] at HS1
  rw [hsh2] at HS2
  replace HS1 := Lib.hid HS1
  replace HS2 := Lib.hid HS2
  have HF := Lib.hid (filled_any a1 len1 cap1 S w w (Below.refl _ _) h1 (by omega))
  have HF2 := Lib.hid (fun (W : World) (hW : Below w.heap.size w W) => filled_any a1 len1 cap1 S W W (Below.refl _ _) (h1.later hW) (by omega))
  have H2 := Lib.hid h2
  have d1 : decide (60 < (len1 : Int)) = false := by simp; omega
  have d2 : decide (60 < (len2 : Int)) = false := by simp; omega
  have d3 : decide (60 < len1) = false := by simp; omega
  have d4 : decide (60 < len2) = false := by simp; omega
  have hfit := h2.fit
  generalize fillS S len1 = s at *
  clear h1 h2 hsh1 hsh2
  go_enter Try.func10, Try.ntmps10
  go_wp2_with fail
  go_at_call 12
  refine HS1.out.mono ?_
  rintro e w1 ⟨rfl, rfl⟩
  go_wp2_with fail
  go_at_call 12
  refine HS2.out.mono ?_
  rintro e w1 ⟨rfl, rfl⟩
  go_wp2_with fail
  go_at_call 35
  refine HF.out.mono ?_
  rintro e w1 ⟨sa, ma, rfl, hA1⟩
  go_wp2_with fail
  go_at_call 23
  refine hA1.copy.mono ?_
  rintro e w2 ⟨sb, mb, rfl, hT2, hb2, _, _⟩
  go_wp2_with fail
  go_at_call 23
  refine hT2.a.copy.mono ?_
  rintro e w3 ⟨sc, mc, rfl, hT3, hb3, hc3, hc4⟩
  have hTh : Th w sa ma s sb mb s sc mc s w3 := by
    have hl := hT2.b.ax.lt
    have h4 := hT2.later hb3
    exact ⟨h4, hT3, ⟨h4.b, hT3.b, by omega, by omega⟩⟩
  have hEq := equal_any sa ma sb mb _ _ w3 hTh.ab.a.ax hTh.ab.b.ax
  rw [eqS_self] at hEq
  clear hA1 hT2 hT3 hb2 hb3 hc3 hc4
  go_wp2_with fail
  go_at_call 36
  refine hEq.mono ?_
  rintro e w4 ⟨rfl, hb4⟩
  have hTh4 := Lib.hid (hTh.later hb4)
  clear hTh hEq hb4
  go_wp2
  go_loopw [8] (fun i wr => ∃ k : Nat, k ≤ len2 ∧ i = .int .i64 k ∧ Th w sa ma s sb mb (accF S2 s k) sc mc (accF S2 s k) wr) (fun i _ => len2 - nOf i)
  case atStart => exact ⟨0, Nat.zero_le _, rfl, hTh4.out⟩
  case round =>
    obtain ⟨k, hk, rfl, hT⟩ := hrel
    by_cases hlt : k < len2
    · obtain ⟨b, off, rfl, hc⟩ := H2.out.at hT.ab.a.bel hlt
      have hbw : Hid (∀ W, Below w.heap.size w W → Sc W b (off + k * 5) (S2 k)) := Lib.hid fun W hW => by
        obtain ⟨b', off', e', hc'⟩ := H2.out.at hW hlt
        injection e' with e'
        injection e' with e1 e2
        subst e1 e2
        exact hc'
      obtain ⟨c0, c1, c2, c3, c4⟩ := hc
      have hst : accF S2 s (k + 1) = accS (accF S2 s k) (S2 k).r (S2 k).m (S2 k).k (S2 k).v := rfl
      have i1 : 0 ≤ (k : Int) := by omega
      have i2 : (k : Int) < (len2 : Int) := by omega
      have i3 : decide ((k : Int) < (len2 : Int)) = true := by simpa using i2
      generalize S2 k = x at c0 c1 c2 c3 c4 hst hbw
      obtain ⟨xd, xr, xm, xk, xv⟩ := x
      obtain ⟨ec, hec⟩ : ∃ c, accE (accF S2 s k) xr xm xk xv = c := ⟨_, rfl⟩
      obtain ⟨t2, ht2⟩ : ∃ t, accS (accF S2 s k) xr xm xk xv = t := ⟨_, rfl⟩
      have hst2 : Hid (accF S2 s (k + 1) = t2) := Lib.hid (hst.trans ht2)
      replace hec := Lib.hid hec
      replace ht2 := Lib.hid ht2
      have hT0 := Lib.hid (hT.later (Below.refl _ _).drew)
      have hAcB := Lib.hid (hT0.out.ab.b.accept xr xm xk xv hec.out ht2.out)
      have hS0 : wr.drew.cell? ⟨b, off + k * 5 + 1, none⟩ = some (.int .i64 xr) ∧ wr.drew.cell? ⟨b, off + k * 5 + 2, none⟩ = some (.int .i64 xm) ∧ wr.drew.cell? ⟨b, off + k * 5 + 3, none⟩ = some (.int .i64 xk) ∧ wr.drew.cell? ⟨b, off + k * 5 + 4, none⟩ = some (.string xv) := ⟨c1, c2, c3, c4⟩
      clear hT hst c0 c1 c2 c3 c4 hTh4
      go_wp2
      go_region_held3 (fun W => W.cell? ⟨b, off + k * 5 + 1, none⟩ = some (.int .i64 xr) ∧ W.cell? ⟨b, off + k * 5 + 2, none⟩ = some (.int .i64 xm) ∧ W.cell? ⟨b, off + k * 5 + 3, none⟩ = some (.int .i64 xk) ∧ W.cell? ⟨b, off + k * 5 + 4, none⟩ = some (.string xv))
        (first | exact hS0 | exact hS2 | exact hS1 | assumption)
        (first
          | (have _ := hDone; go_at_call 19; refine hAcC.out.mono ?_; rintro e w6 ⟨rfl, hW6, hK6⟩; have hT6 := hT5.stepC hW6 hK6; have hsc := hbw.out _ hT6.ab.a.bel; have hS2 : w6.cell? ⟨b, off + k * 5 + 1, none⟩ = some (.int .i64 xr) ∧ w6.cell? ⟨b, off + k * 5 + 2, none⟩ = some (.int .i64 xm) ∧ w6.cell? ⟨b, off + k * 5 + 3, none⟩ = some (.int .i64 xk) ∧ w6.cell? ⟨b, off + k * 5 + 4, none⟩ = some (.string xv) := ⟨hsc.c1, hsc.c2, hsc.c3, hsc.c4⟩)
          | (go_at_call 19; refine hAcB.out.mono ?_; rintro e w5 ⟨rfl, hW5, hK5⟩; have hT5 := hT0.out.stepB hW5 hK5; have hAcC := Lib.hid (hT5.bc.b.accept xr xm xk xv hec.out ht2.out); have hDone := hAcC; have hsc := hbw.out _ hT5.ab.a.bel; have hS1 : w5.cell? ⟨b, off + k * 5 + 1, none⟩ = some (.int .i64 xr) ∧ w5.cell? ⟨b, off + k * 5 + 2, none⟩ = some (.int .i64 xm) ∧ w5.cell? ⟨b, off + k * 5 + 3, none⟩ = some (.int .i64 xk) ∧ w5.cell? ⟨b, off + k * 5 + 4, none⟩ = some (.string xv) := ⟨hsc.c1, hsc.c2, hsc.c3, hsc.c4⟩))
      have hTend := Lib.hid hT6
      go_wp2
      go_roundw
      case rel => exact ⟨k + 1, by omega, by go_num, by rw [hst2.out]; exact hTend.out⟩
      case measure => simp [nOf]; omega
    · have hkn : k = len2 := by omega
      subst hkn
      have i3 : decide ((k : Int) < (k : Int)) = false := by simp
      generalize accF S2 s k = t at *
      have hok := hT.ab.b.ax.ok
      have hLi := Lib.hid (hT.ab.b.list 0 (fr_zero hok))
      have hlen := hok.len
      generalize t.M = M at *
      have hT' := Lib.hid hT
      clear hT hTh4 hok
      go_wp2_with fail
      go_at_call 31
      refine hLi.out.mono ?_
      rintro e w7 ⟨v7, rfl, hO7, _, hb7⟩
      have hT7 := Lib.hid (hT'.out.later hb7)
      have hwr := hT'.out.ab.a.bel.size
      have hblk := Lib.hid (fun hp => hO7.blk hp)
      obtain ⟨va, vc, rfl⟩ := rows_form hO7
      generalize M.length = n at *
      clear hO7 hb7 hLi
      go_wp2
      go_loopw [10] (fun i wr' => ∃ k : Nat, k ≤ n ∧ i = .int .i64 k ∧ Th w sa ma s sb mb t sc mc t wr' ∧ (0 < n → ∃ g, va = some ⟨g, 0, none⟩ ∧ w.heap.size ≤ g ∧ ∃ cs, wr'.heap[g]? = some (.cells cs TE (0, 0)) ∧ n * 4 ≤ cs.size)) (fun i _ => n - nOf i)
      case atStart => exact ⟨0, Nat.zero_le _, rfl, hT7.out, fun hp => by
        obtain ⟨g, gc, cs, hv, hg, hc, hs⟩ := hblk.out hp
        injection hv with hv _ _
        exact ⟨g, hv, by omega, cs, hc, hs⟩⟩
      case round =>
        obtain ⟨j, hj, rfl, hTj, hbj⟩ := hrel
        by_cases hjn : j < n
        · obtain ⟨g, rfl, hgw, cs, hcs, hsz⟩ := hbj (by omega)
          have i1 : 0 ≤ (j : Int) := by omega
          have i2 : (j : Int) < (n : Int) := by omega
          have i4 : decide ((j : Int) < (n : Int)) = true := by simpa using i2
          obtain ⟨cv, hcv⟩ : ∃ v, cs[j * 4 + 3]? = some v := ⟨_, Array.getElem?_eq_getElem (by omega)⟩
          have m3 := (cell_of_row _ g (j * 4 + 3) cs TE _ hcs).trans hcv
          have mf := frozen_of_row _ g (j * 4 + 3) cs TE hcs
          have hKs := (Keeps.refl (fun k => k = g) wr).setCell (p := ⟨g, j * 4 + 3, none⟩) (.inl rfl) (.string ⟨#[63]⟩)
          have hTn := Lib.hid (hTj.keptRow hKs hgw hcs (by decide))
          have hcs2 := Lib.hid (heap_setCell_same wr g (j * 4 + 3) cs TE (.string ⟨#[63]⟩) hcs)
          have hsz2 : Hid (n * 4 ≤ (cs.setIfInBounds (j * 4 + 3) (.string ⟨#[63]⟩)).size) := Lib.hid (by rw [Array.size_setIfInBounds]; exact hsz)
          clear hbj hTj hcs hsz hcv hKs hblk
          go_wp2
          go_roundw
          case rel => exact ⟨j + 1, by omega, by go_num, hTn.out, fun _ => ⟨g, rfl, hgw, _, hcs2.out, hsz2.out⟩⟩
          case measure => simp [nOf]; omega
        · have hjn' : j = n := by omega
          subst hjn'
          have i4 : decide ((j : Int) < (j : Int)) = false := by simp
          have hEq := equal_any sb mb sc mc _ _ wr hTj.bc.a.ax hTj.bc.b.ax
          rw [eqS_self] at hEq
          replace hEq := Lib.hid hEq
          have hTe := Lib.hid hTj
          clear hTj hbj hblk hT7
          go_wp2_with fail
          go_at_call 36
          refine hEq.out.mono ?_
          rintro e w8 ⟨rfl, hb8⟩
          have hT8 := hTe.out.later hb8
          go_wp2_with fail
          go_at_call 35
          refine (HF2.out _ hT8.ab.a.bel).mono ?_
          rintro e w9 ⟨sd, md, rfl, hD⟩
          have hT9 := hT8.later hD.bel
          have hEq2 := equal_any sa ma sd md _ _ w9 hT9.ab.a.ax hD.ax
          rw [eqS_self] at hEq2
          replace hEq2 := Lib.hid hEq2
          have hbel9 := Lib.hid hT9.ab.a.bel
          clear hT8 hT9 hD hb8
          go_wp2_with fail
          go_at_call 36
          refine hEq2.out.mono ?_
          rintro e w10 ⟨rfl, hb10⟩
          go_wp2_with (go_at_call 13; refine (HW.out _).mono ?_; rintro e w1 ⟨rfl, hb⟩)
          go_ret
          exact ⟨rfl, below2 (below2 hbel9.out hb10) hb⟩
/-- The ways out before the copies. -/
theorem copies_law (a1 : Option Addr) (len1 cap1 : Nat) (S : Nat → Sp) (a2 : Option Addr) (len2 cap2 : Nat) (S2 : Nat → Sp) (w : World) (h1 : IsSt w a1 len1 cap1 S) (h2 : IsSt w a2 len2 cap2 S2) :
    Calls Try.prog 10 #[.slice a1 len1 cap1, .slice a2 len2 cap2] w (Yes w) := by
  have HW := Lib.hid (fun W => works_any W)
  have HS1 := Lib.hid (short_any a1 len1 cap1 S w h1)
  have HS2 := Lib.hid (short_any a2 len2 cap2 S2 w h2)
  by_cases hl1 : len1 ≤ 60
  · have d1 : decide (60 < (len1 : Int)) = false := by simp; omega
    have d3 : decide (60 < len1) = false := by simp; omega
    by_cases hl2 : len2 ≤ 60
    · have d2 : decide (60 < (len2 : Int)) = false := by simp; omega
      have d4 : decide (60 < len2) = false := by simp; omega
      cases hsh1 : shortB S len1 with
      | true =>
        cases hsh2 : shortB S2 len2 with
        | true => exact copies_go a1 len1 cap1 S a2 len2 cap2 S2 w h1 h2 hl1 hl2 hsh1 hsh2
        | false =>
          rw [hsh1] at HS1
          rw [hsh2] at HS2
          clear h1 h2 hl1 hl2 hsh1 hsh2
          go_enter Try.func10, Try.ntmps10
          go_wp2_with fail
          go_at_call 12
          refine HS1.out.mono ?_
          rintro e w1 ⟨rfl, rfl⟩
          go_wp2_with fail
          go_at_call 12
          refine HS2.out.mono ?_
          rintro e w1 ⟨rfl, rfl⟩
          go_wp2_with (go_at_call 13; refine (HW.out _).mono ?_; rintro e w1 ⟨rfl, hb⟩)
          go_ret
          exact ⟨rfl, hb⟩
      | false =>
        rw [hsh1] at HS1
        clear h1 h2 hl1 hl2 hsh1
        go_enter Try.func10, Try.ntmps10
        go_wp2_with fail
        go_at_call 12
        refine HS1.out.mono ?_
        rintro e w1 ⟨rfl, rfl⟩
        go_wp2_with (go_at_call 13; refine (HW.out _).mono ?_; rintro e w1 ⟨rfl, hb⟩)
        go_ret
        exact ⟨rfl, hb⟩
    · have d2 : decide (60 < (len2 : Int)) = true := by simp; omega
      have d4 : decide (60 < len2) = true := by simp; omega
      clear h1 h2 hl1 hl2
      go_enter Try.func10, Try.ntmps10
      go_wp2_with (go_at_call 13; refine (HW.out _).mono ?_; rintro e w1 ⟨rfl, hb⟩)
      go_ret
      exact ⟨rfl, hb⟩
  · have d1 : decide (60 < (len1 : Int)) = true := by simp; omega
    have d3 : decide (60 < len1) = true := by simp; omega
    clear h1 h2 hl1
    go_enter Try.func10, Try.ntmps10
    go_wp2_with (go_at_call 13; refine (HW.out _).mono ?_; rintro e w1 ⟨rfl, hb⟩)
    go_ret
    exact ⟨rfl, hb⟩
end Go.Proofs.Ytdodnejfjpkbcaa.Acc
