/- The walk of StoreCopies. -/
import Derived.Test.YtiahjacjpakkdaaS40
namespace Go.Proofs.Ytiahjacjpakkdaa.Sto
open Go.RowKit Go.Lib
open Cnt (Ct cA OkC quietB appC)
open Rng (tx tx_of tx_size nameOk bl)
set_option linter.unusedVariables false
set_option linter.unusedSimpArgs false
set_option maxRecDepth 100000

theorem IsSt.at_all {w : World} {a : Option Addr} {len cap : Nat} {S : Nat → Sp} (h : IsSt w a len cap S) (k : Nat) (hk : k < len) :
    ∃ b off, a = some ⟨b, off, Option.none⟩ ∧ ∀ W, Below w.heap.size w W → Sc W b (off + k * 11) (S k) := by
  obtain ⟨b, off, e, hlt, hh⟩ := h.cell (by omega)
  exact ⟨b, off, e, fun W hb => (hh k hk).same (hb.block b hlt)⟩
set_option maxHeartbeats 16000000 in
theorem copies_any (a : Option Addr) (len cap : Nat) (S : Nat → Sp) (a2 : Option Addr) (len2 cap2 : Nat) (S2 : Nat → Sp) (w : World) (h : IsSt w a len cap S) (h2 : IsSt w a2 len2 cap2 S2) :
    Calls Try.prog 9 #[.slice a len cap, .slice a2 len2 cap2] w fun e w' => e = .returned (.bool true) ∧ Below w.heap.size w w' := by
  have hfit := h.fit
  have hfit2 := h2.fit
  have HS := Lib.hid (short_any a len cap S w h)
  have HS2 := Lib.hid (short_any a2 len2 cap2 S2 w h2)
  have HW := Lib.hid (fun W => works_any W)
  by_cases h80 : 80 < len
  · have d1 : decide ((80 : Int) < (len : Int)) = true := by simp; omega
    clear h h2
    go_enter Try.func9, Try.ntmps9
    go_wp2_with (go_at_call 11; refine (HW.out _).mono ?_; rintro e W5 ⟨rfl, hb5⟩)
    go_ret
    exact ⟨rfl, hb5⟩
  have d1 : decide ((80 : Int) < (len : Int)) = false := by simp; omega
  by_cases h802 : 80 < len2
  · have d2 : decide ((80 : Int) < (len2 : Int)) = true := by simp; omega
    clear h h2
    go_enter Try.func9, Try.ntmps9
    go_wp2_with (go_at_call 11; refine (HW.out _).mono ?_; rintro e W5 ⟨rfl, hb5⟩)
    go_ret
    exact ⟨rfl, hb5⟩
  have d2 : decide ((80 : Int) < (len2 : Int)) = false := by simp; omega
  cases e1 : shortB S len with
  | false =>
    rw [e1] at HS
    clear h h2
    go_enter Try.func9, Try.ntmps9
    go_wp2_with fail
    refine HS.out.mono ?_
    rintro e W0 ⟨rfl, rfl⟩
    go_wp2_with (go_at_call 11; refine (HW.out _).mono ?_; rintro e W5 ⟨rfl, hb5⟩)
    go_ret
    exact ⟨rfl, hb5⟩
  | true =>
  rw [e1] at HS
  cases e2 : shortB S2 len2 with
  | false =>
    rw [e2] at HS2
    clear h h2
    go_enter Try.func9, Try.ntmps9
    go_wp2_with fail
    refine HS.out.mono ?_
    rintro e W0 ⟨rfl, rfl⟩
    go_wp2_with fail
    refine HS2.out.mono ?_
    rintro e W0 ⟨rfl, rfl⟩
    go_wp2_with (go_at_call 11; refine (HW.out _).mono ?_; rintro e W5 ⟨rfl, hb5⟩)
    go_ret
    exact ⟨rfl, hb5⟩
  | true =>
  rw [e2] at HS2
  have HF := Lib.hid (fun (W : World) (hb : Below w.heap.size w W) => filled_any a len cap S W (h.later hb) e1)
  have HI := Lib.hid h2
  have HL := Lib.hid (show ∀ k, k < len2 → (S2 k).k.length ≤ maxLen by
    intro k hk
    unfold shortB at e2
    rw [Bool.and_eq_true, List.all_eq_true] at e2
    exact maxLen_of (stOk_k (e2.2 k (List.mem_range.2 hk))))
  clear h h2 e1 e2 h80 h802
  generalize fillM S len = M at *
  go_enter Try.func9, Try.ntmps9
  go_wp2_with fail
  refine HS.out.mono ?_
  rintro e W0 ⟨rfl, rfl⟩
  go_wp2_with fail
  refine HS2.out.mono ?_
  rintro e W0 ⟨rfl, rfl⟩
  clear HS HS2
  go_wp2_with fail
  refine (HF.out w (Below.refl _ _)).mono ?_
  rintro e w1 ⟨sb, b, rfl, k1, hsb⟩
  go_wp2_with fail
  refine (copy_any _ k1.sx).mono ?_
  rintro e w2 ⟨sb1, b1, rfl, hx2, hsb1, hb1, hb2⟩
  have n1 : b ≠ b1 := by have := k1.sx.lt.2; omega
  have k2 := k1.later hb2
  have t2 : Sw w w2 sb1 b1 M := ⟨hx2, k2.bel, Nat.le_trans k1.bel.size hb1⟩
  clear k1 hx2 hb2 hsb hsb1 hb1
  go_wp2_with fail
  refine (copy_any _ k2.sx).mono ?_
  rintro e w3 ⟨sb2, b2, rfl, hx3, hsb2, hb2, hb3⟩
  have n2 : b ≠ b2 := by have := k2.sx.lt.2; omega
  have n3 : b1 ≠ b2 := by have := t2.sx.lt.2; omega
  have k3 := k2.later hb3
  have K3 := Lib.hid (show Kq3 w sb b M sb1 b1 M sb2 b2 M w3 from ⟨k3, t2.later hb3, ⟨hx3, k3.bel, Nat.le_trans k2.bel.size hb2⟩, n1, n2, n3⟩)
  clear k2 t2 hx3 hb3 hsb2 hb2 k3 n1 n2 n3
  go_wp2_with fail
  refine (equal_any _ K3.out.s.sx K3.out.t.sx).mono ?_
  rintro e w4 ⟨rfl, hb4⟩
  have K4 := Lib.hid (K3.out.later hb4)
  clear K3 hb4
  go_wp2
  go_loopw [8] (fun i wr => ∃ (k : Nat) (N : List En), k ≤ len2 ∧ i = .int .i64 k ∧ Kq3 w sb b M sb1 b1 N sb2 b2 N wr) (fun i _ => len2 - (intOf i).toNat)
  case atStart => exact ⟨0, M, Nat.zero_le _, rfl, K4.out⟩
  case round =>
    obtain ⟨k, N, hk, rfl, hK⟩ := hrel
    clear K4
    by_cases hlt : k < len2
    · obtain ⟨q, off, rfl, HB0⟩ := HI.out.at_all k hlt
      have i1 : decide ((k : Int) < (len2 : Int)) = true := by simp; omega
      have HB := Lib.hid (fun (W : World) (hb : Below w.heap.size w W) => (HB0 W hb).facts)
      clear HB0
      have hkl := HL.out k hlt
      generalize S2 k = st at *
      obtain ⟨sd, sk, ⟨v, u, d, l, g⟩, sp, sn, sr⟩ := st
      dsimp only at HB hkl
      have HA := Lib.hid (fun (sb1 b1 sb2 b2 : Nat) (P : List En) (W : World) (h : Kq3 w sb b M sb1 b1 N sb2 b2 P W) => h.apT sk sp sn hkl)
      generalize apR N sk sp sn = ar at *
      obtain ⟨z1, z2, N1⟩ := ar
      dsimp only at HA
      have HP := Lib.hid (fun (sb1 b1 sb2 b2 : Nat) (P : List En) (W : World) (h : Kq3 w sb b M sb1 b1 N1 sb2 b2 P W) => h.putT sk v u d l g)
      generalize putE N1 sk ⟨v, u, d, l, g⟩ = z3 at *
      generalize putS N1 sk ⟨v, u, d, l, g⟩ = N2 at *
      have HR := Lib.hid (fun (sb1 b1 sb2 b2 : Nat) (P : List En) (W : World) (h : Kq3 w sb b M sb1 b1 N2 sb2 b2 P W) => h.remT sk hkl)
      generalize (if (getM N2 sk).isSome then (0 : Int) else 5) = z4 at *
      generalize remM N2 sk = N3 at *
      generalize tx sk = ts at *
      have HBA := Lib.hid (show ∀ W : World, Below w.heap.size w W → W.cell? ⟨q, off + k * 11 + 1, none⟩ = some (.string ts) ∧ W.cell? ⟨q, off + k * 11 + 7, none⟩ = some (.int .i64 sp) ∧ W.cell? ⟨q, off + k * 11 + 8, none⟩ = some (.int .i64 sn) from fun W hb => by
        obtain ⟨c0, c1, c2, c3, c4, c5, c6, c7, c8, _, _⟩ := HB.out W hb
        exact ⟨c1, c7, c8⟩)
      have HBP := Lib.hid (show ∀ W : World, Below w.heap.size w W → W.cell? ⟨q, off + k * 11, none⟩ = some (.int .i64 sd) ∧ W.cell? ⟨q, off + k * 11 + 1, none⟩ = some (.string ts) ∧ W.cell? ⟨q, off + k * 11 + 2, none⟩ = some (.int .i64 v) ∧ W.cell? ⟨q, off + k * 11 + 2 + 1, none⟩ = some (.int .i64 u) ∧ W.cell? ⟨q, off + k * 11 + 2 + 2, none⟩ = some (.int .i64 d) ∧ W.cell? ⟨q, off + k * 11 + 2 + 3, none⟩ = some (.int .i64 l) ∧ W.cell? ⟨q, off + k * 11 + 2 + 4, none⟩ = some (.int .i64 g) from fun W hb => by
        obtain ⟨c0, c1, c2, c3, c4, c5, c6, c7, c8, _, _⟩ := HB.out W hb
        exact ⟨c0, c1, c2, c3, c4, c5, c6⟩)
      have hKd := Lib.hid (hK.later (Below.refl _ wr).drew)
      have hbd := Lib.hid hKd.out.s.bel
      clear hK hkl HI HL HF HW
      go_wp2
      go_region_held3 (fun W => W.cell? ⟨q, off + k * 11 + 1, none⟩ = some (.string ts) ∧ W.cell? ⟨q, off + k * 11 + 7, none⟩ = some (.int .i64 sp) ∧ W.cell? ⟨q, off + k * 11 + 8, none⟩ = some (.int .i64 sn))
        ((first | exact HBA.out _ P5.out.s.bel | exact HBA.out _ hbd.out | assumption))
        ((go_at_call 13; refine (HA.out _ _ _ _ _ _ hKd.out).mono ?_; rintro e W5 ⟨rfl, hP5⟩; have P5 := Lib.hid hP5.swap; clear hP5))
      have hKe := Lib.hid (P5.out.later (Below.refl _ W5).drew)
      have hbe := Lib.hid hKe.out.s.bel
      clear P5 hKd hbd
      go_wp2
      go_region_held3 (fun W => W.cell? ⟨q, off + k * 11 + 1, none⟩ = some (.string ts) ∧ W.cell? ⟨q, off + k * 11 + 7, none⟩ = some (.int .i64 sp) ∧ W.cell? ⟨q, off + k * 11 + 8, none⟩ = some (.int .i64 sn))
        ((first | exact HBA.out _ P6.out.s.bel | exact HBA.out _ hbe.out | assumption))
        ((go_at_call 13; refine (HA.out _ _ _ _ _ _ hKe.out).mono ?_; rintro e W6 ⟨rfl, hP6⟩; have P6 := Lib.hid hP6.swap; clear hP6))
      have hKf := Lib.hid (P6.out.later (Below.refl _ W6).drew)
      have hbf := Lib.hid hKf.out.s.bel
      clear P6 hKe hbe HA HBA
      by_cases e2 : sd = 2
      · subst e2
        go_wp2
        go_region_held3 (fun W => W.cell? ⟨q, off + k * 11, none⟩ = some (.int .i64 2) ∧ W.cell? ⟨q, off + k * 11 + 1, none⟩ = some (.string ts) ∧ W.cell? ⟨q, off + k * 11 + 2, none⟩ = some (.int .i64 v) ∧ W.cell? ⟨q, off + k * 11 + 2 + 1, none⟩ = some (.int .i64 u) ∧ W.cell? ⟨q, off + k * 11 + 2 + 2, none⟩ = some (.int .i64 d) ∧ W.cell? ⟨q, off + k * 11 + 2 + 3, none⟩ = some (.int .i64 l) ∧ W.cell? ⟨q, off + k * 11 + 2 + 4, none⟩ = some (.int .i64 g))
          ((first | exact HBP.out _ Pa.out.s.bel | exact HBP.out _ P9.out.s.bel | exact HBP.out _ P8.out.s.bel | exact HBP.out _ P7.out.s.bel | exact HBP.out _ hbf.out | assumption))
          ((first
          | (have _ := P9; go_at_call 17; refine (HR.out _ _ _ _ _ _ P9.out).mono ?_; rintro e Wa ⟨rfl, hPa⟩; have Pa := Lib.hid hPa.swap; clear hPa)
          | (go_at_call 17; refine (HR.out _ _ _ _ _ _ P8.out).mono ?_; rintro e W9 ⟨rfl, hP9⟩; have P9 := Lib.hid hP9.swap; clear hP9)
          | (have _ := P7; go_at_call 16; refine (HP.out _ _ _ _ _ _ P7.out).mono ?_; rintro e W8 ⟨rfl, hP8⟩; have P8 := Lib.hid hP8.swap; clear hP8)
          | (go_at_call 16; refine (HP.out _ _ _ _ _ _ hKf.out).mono ?_; rintro e W7 ⟨rfl, hP7⟩; have P7 := Lib.hid hP7.swap; clear hP7)))
        go_wp2
        go_roundw
        case rel => exact ⟨k + 1, _, by omega, by go_num, Pa.out⟩
        case measure => simp [intOf]; omega
      · have f2 : (sd == 2) = false := by simpa using e2
        have f3 : (sd = 2) = False := by simpa using e2
        go_wp2
        refine wp_region_held_drew (S := (fun W => W.cell? ⟨q, off + k * 11, none⟩ = some (.int .i64 sd) ∧ W.cell? ⟨q, off + k * 11 + 1, none⟩ = some (.string ts) ∧ W.cell? ⟨q, off + k * 11 + 2, none⟩ = some (.int .i64 v) ∧ W.cell? ⟨q, off + k * 11 + 2 + 1, none⟩ = some (.int .i64 u) ∧ W.cell? ⟨q, off + k * 11 + 2 + 2, none⟩ = some (.int .i64 d) ∧ W.cell? ⟨q, off + k * 11 + 2 + 3, none⟩ = some (.int .i64 l) ∧ W.cell? ⟨q, off + k * 11 + 2 + 4, none⟩ = some (.int .i64 g))) (by kernel_rfl) (HBP.out _ hbf.out) (fun hS => ?_)
        try simp only [List.getElem_toArray, List.getElem_cons_succ, List.getElem_cons_zero, Act.put, List.setIfInBounds_toArray, List.set_cons_zero, List.set_cons_succ]
        refine wpAnyH_take (i := 0) (v := .int .i64 z1) rfl (by kernel_rfl) (by kernel_rfl) (by kernel_rfl) (fun _ _ _ h => h) (Or.inl ⟨by kernel_rfl, by intro w' hSw; obtain ⟨s0, s1, s2, s3, s4, s5, s6⟩ := hSw; go_simp⟩) hS ?_
        try simp only [List.getElem_toArray, List.getElem_cons_succ, List.getElem_cons_zero, Act.put, List.setIfInBounds_toArray, List.set_cons_zero, List.set_cons_succ]
        refine wpAnyH_take (i := 1) (v := .int .i64 z1) rfl (by kernel_rfl) (by kernel_rfl) (by kernel_rfl) (fun _ _ _ h => h) (Or.inl ⟨by kernel_rfl, by intro w' hSw; obtain ⟨s0, s1, s2, s3, s4, s5, s6⟩ := hSw; go_simp⟩) hS ?_
        try simp only [List.getElem_toArray, List.getElem_cons_succ, List.getElem_cons_zero, Act.put, List.setIfInBounds_toArray, List.set_cons_zero, List.set_cons_succ]
        refine wpAnyH_take (i := 2) (v := .bool false) rfl (by kernel_rfl) (by kernel_rfl) (by kernel_rfl) (fun _ _ _ h => h) (Or.inl ⟨by kernel_rfl, by intro w' hSw; obtain ⟨s0, s1, s2, s3, s4, s5, s6⟩ := hSw; go_simp⟩) hS ?_
        try simp only [List.getElem_toArray, List.getElem_cons_succ, List.getElem_cons_zero, Act.put, List.setIfInBounds_toArray, List.set_cons_zero, List.set_cons_succ]
        refine wpAnyH_take (i := 3) (v := .bool false) rfl (by kernel_rfl) (by kernel_rfl) (by kernel_rfl) (fun _ _ _ h => h) (Or.inl ⟨by kernel_rfl, by intro w' hSw; obtain ⟨s0, s1, s2, s3, s4, s5, s6⟩ := hSw; go_simp⟩) hS ?_
        try simp only [List.getElem_toArray, List.getElem_cons_succ, List.getElem_cons_zero, Act.put, List.setIfInBounds_toArray, List.set_cons_zero, List.set_cons_succ]
        refine wpAnyH_take (i := 4) (v := .int .i64 z2) rfl (by kernel_rfl) (by kernel_rfl) (by kernel_rfl) (fun _ _ _ h => h) (Or.inl ⟨by kernel_rfl, by intro w' hSw; obtain ⟨s0, s1, s2, s3, s4, s5, s6⟩ := hSw; go_simp⟩) hS ?_
        try simp only [List.getElem_toArray, List.getElem_cons_succ, List.getElem_cons_zero, Act.put, List.setIfInBounds_toArray, List.set_cons_zero, List.set_cons_succ]
        refine wpAnyH_take (i := 5) (v := .int .i64 z2) rfl (by kernel_rfl) (by kernel_rfl) (by kernel_rfl) (fun _ _ _ h => h) (Or.inl ⟨by kernel_rfl, by intro w' hSw; obtain ⟨s0, s1, s2, s3, s4, s5, s6⟩ := hSw; go_simp⟩) hS ?_
        try simp only [List.getElem_toArray, List.getElem_cons_succ, List.getElem_cons_zero, Act.put, List.setIfInBounds_toArray, List.set_cons_zero, List.set_cons_succ]
        refine wpAnyH_take (i := 6) (v := .bool false) rfl (by kernel_rfl) (by kernel_rfl) (by kernel_rfl) (fun _ _ _ h => h) (Or.inl ⟨by kernel_rfl, by intro w' hSw; obtain ⟨s0, s1, s2, s3, s4, s5, s6⟩ := hSw; go_simp⟩) hS ?_
        try simp only [List.getElem_toArray, List.getElem_cons_succ, List.getElem_cons_zero, Act.put, List.setIfInBounds_toArray, List.set_cons_zero, List.set_cons_succ]
        refine wpAnyH_take (i := 7) (v := .bool false) rfl (by kernel_rfl) (by kernel_rfl) (by kernel_rfl) (fun _ _ _ h => h) (Or.inl ⟨by kernel_rfl, by intro w' hSw; obtain ⟨s0, s1, s2, s3, s4, s5, s6⟩ := hSw; go_simp⟩) hS ?_
        try simp only [List.getElem_toArray, List.getElem_cons_succ, List.getElem_cons_zero, Act.put, List.setIfInBounds_toArray, List.set_cons_zero, List.set_cons_succ]
        refine wpAnyH_take (i := 8) (v := .bool false) rfl (by kernel_rfl) (by kernel_rfl) (by kernel_rfl) (fun _ _ _ h => h) (Or.inl ⟨by kernel_rfl, by intro w' hSw; obtain ⟨s0, s1, s2, s3, s4, s5, s6⟩ := hSw; go_simp⟩) hS ?_
        try simp only [List.getElem_toArray, List.getElem_cons_succ, List.getElem_cons_zero, Act.put, List.setIfInBounds_toArray, List.set_cons_zero, List.set_cons_succ]
        refine wpAnyH_take (i := 9) (v := .pointer (some ⟨sb1, 0, none⟩)) rfl (by kernel_rfl) (by kernel_rfl) (by kernel_rfl) (fun _ _ _ h => h) (Or.inl ⟨by kernel_rfl, by intro w' hSw; obtain ⟨s0, s1, s2, s3, s4, s5, s6⟩ := hSw; go_simp⟩) hS ?_
        try simp only [List.getElem_toArray, List.getElem_cons_succ, List.getElem_cons_zero, Act.put, List.setIfInBounds_toArray, List.set_cons_zero, List.set_cons_succ]
        refine wpAnyH_take (i := 10) (v := .slice (some ⟨q, off, none⟩) len2 cap2) rfl (by kernel_rfl) (by kernel_rfl) (by kernel_rfl) (fun _ _ _ h => h) (Or.inl ⟨by kernel_rfl, by intro w' hSw; obtain ⟨s0, s1, s2, s3, s4, s5, s6⟩ := hSw; go_simp⟩) hS ?_
        try simp only [List.getElem_toArray, List.getElem_cons_succ, List.getElem_cons_zero, Act.put, List.setIfInBounds_toArray, List.set_cons_zero, List.set_cons_succ]
        refine wpAnyH_take (i := 11) (v := .int .i64 (k : Nat)) rfl (by kernel_rfl) (by kernel_rfl) (by kernel_rfl) (fun _ _ _ h => h) (Or.inl ⟨by kernel_rfl, by intro w' hSw; obtain ⟨s0, s1, s2, s3, s4, s5, s6⟩ := hSw; go_simp⟩) hS ?_
        try simp only [List.getElem_toArray, List.getElem_cons_succ, List.getElem_cons_zero, Act.put, List.setIfInBounds_toArray, List.set_cons_zero, List.set_cons_succ]
        refine wpAnyH_take (i := 12) (v := .pointer (some ⟨q, off + k * 11, none⟩)) rfl (by kernel_rfl) (by kernel_rfl) (by kernel_rfl) (fun _ _ _ h => h) (Or.inl ⟨by kernel_rfl, by intro w' hSw; obtain ⟨s0, s1, s2, s3, s4, s5, s6⟩ := hSw; go_simp⟩) hS ?_
        try simp only [List.getElem_toArray, List.getElem_cons_succ, List.getElem_cons_zero, Act.put, List.setIfInBounds_toArray, List.set_cons_zero, List.set_cons_succ]
        refine wpAnyH_take (i := 13) (v := .pointer (some ⟨q, off + k * 11 + 1, none⟩)) rfl (by kernel_rfl) (by kernel_rfl) (by kernel_rfl) (fun _ _ _ h => h) (Or.inl ⟨by kernel_rfl, by intro w' hSw; obtain ⟨s0, s1, s2, s3, s4, s5, s6⟩ := hSw; go_simp⟩) hS ?_
        try simp only [List.getElem_toArray, List.getElem_cons_succ, List.getElem_cons_zero, Act.put, List.setIfInBounds_toArray, List.set_cons_zero, List.set_cons_succ]
        refine wpAnyH_take (i := 14) (v := .string ts) rfl (by kernel_rfl) (by kernel_rfl) (by kernel_rfl) (fun _ _ _ h => h) (Or.inl ⟨by kernel_rfl, by intro w' hSw; obtain ⟨s0, s1, s2, s3, s4, s5, s6⟩ := hSw; go_simp⟩) hS ?_
        try simp only [List.getElem_toArray, List.getElem_cons_succ, List.getElem_cons_zero, Act.put, List.setIfInBounds_toArray, List.set_cons_zero, List.set_cons_succ]
        refine wpAnyH_take (i := 15) (v := .slice (some ⟨q, off, none⟩) len2 cap2) rfl (by kernel_rfl) (by kernel_rfl) (by kernel_rfl) (fun _ _ _ h => h) (Or.inl ⟨by kernel_rfl, by intro w' hSw; obtain ⟨s0, s1, s2, s3, s4, s5, s6⟩ := hSw; go_simp⟩) hS ?_
        try simp only [List.getElem_toArray, List.getElem_cons_succ, List.getElem_cons_zero, Act.put, List.setIfInBounds_toArray, List.set_cons_zero, List.set_cons_succ]
        refine wpAnyH_take (i := 16) (v := .int .i64 (k : Nat)) rfl (by kernel_rfl) (by kernel_rfl) (by kernel_rfl) (fun _ _ _ h => h) (Or.inl ⟨by kernel_rfl, by intro w' hSw; obtain ⟨s0, s1, s2, s3, s4, s5, s6⟩ := hSw; go_simp⟩) hS ?_
        try simp only [List.getElem_toArray, List.getElem_cons_succ, List.getElem_cons_zero, Act.put, List.setIfInBounds_toArray, List.set_cons_zero, List.set_cons_succ]
        refine wpAnyH_take (i := 17) (v := .pointer (some ⟨q, off + k * 11, none⟩)) rfl (by kernel_rfl) (by kernel_rfl) (by kernel_rfl) (fun _ _ _ h => h) (Or.inl ⟨by kernel_rfl, by intro w' hSw; obtain ⟨s0, s1, s2, s3, s4, s5, s6⟩ := hSw; go_simp⟩) hS ?_
        try simp only [List.getElem_toArray, List.getElem_cons_succ, List.getElem_cons_zero, Act.put, List.setIfInBounds_toArray, List.set_cons_zero, List.set_cons_succ]
        refine wpAnyH_take (i := 18) (v := .pointer (some ⟨q, off + k * 11 + 2, none⟩)) rfl (by kernel_rfl) (by kernel_rfl) (by kernel_rfl) (fun _ _ _ h => h) (Or.inl ⟨by kernel_rfl, by intro w' hSw; obtain ⟨s0, s1, s2, s3, s4, s5, s6⟩ := hSw; go_simp⟩) hS ?_
        try simp only [List.getElem_toArray, List.getElem_cons_succ, List.getElem_cons_zero, Act.put, List.setIfInBounds_toArray, List.set_cons_zero, List.set_cons_succ]
        refine wpAnyH_take (i := 19) (v := cA v u d l g) rfl (by kernel_rfl) (by kernel_rfl) (by kernel_rfl) (fun _ _ _ h => h) (Or.inl ⟨by kernel_rfl, by intro w' hSw; obtain ⟨s0, s1, s2, s3, s4, s5, s6⟩ := hSw; go_simp⟩) hS ?_
        try simp only [List.getElem_toArray, List.getElem_cons_succ, List.getElem_cons_zero, Act.put, List.setIfInBounds_toArray, List.set_cons_zero, List.set_cons_succ]
        refine wpAnyH_take (i := 21) (v := .pointer (some ⟨sb2, 0, none⟩)) rfl (by kernel_rfl) (by kernel_rfl) (by kernel_rfl) (fun _ _ _ h => h) (Or.inl ⟨by kernel_rfl, by intro w' hSw; obtain ⟨s0, s1, s2, s3, s4, s5, s6⟩ := hSw; go_simp⟩) hS ?_
        try simp only [List.getElem_toArray, List.getElem_cons_succ, List.getElem_cons_zero, Act.put, List.setIfInBounds_toArray, List.set_cons_zero, List.set_cons_succ]
        refine wpAnyH_take (i := 22) (v := .slice (some ⟨q, off, none⟩) len2 cap2) rfl (by kernel_rfl) (by kernel_rfl) (by kernel_rfl) (fun _ _ _ h => h) (Or.inl ⟨by kernel_rfl, by intro w' hSw; obtain ⟨s0, s1, s2, s3, s4, s5, s6⟩ := hSw; go_simp⟩) hS ?_
        try simp only [List.getElem_toArray, List.getElem_cons_succ, List.getElem_cons_zero, Act.put, List.setIfInBounds_toArray, List.set_cons_zero, List.set_cons_succ]
        refine wpAnyH_take (i := 23) (v := .int .i64 (k : Nat)) rfl (by kernel_rfl) (by kernel_rfl) (by kernel_rfl) (fun _ _ _ h => h) (Or.inl ⟨by kernel_rfl, by intro w' hSw; obtain ⟨s0, s1, s2, s3, s4, s5, s6⟩ := hSw; go_simp⟩) hS ?_
        try simp only [List.getElem_toArray, List.getElem_cons_succ, List.getElem_cons_zero, Act.put, List.setIfInBounds_toArray, List.set_cons_zero, List.set_cons_succ]
        refine wpAnyH_take (i := 24) (v := .pointer (some ⟨q, off + k * 11, none⟩)) rfl (by kernel_rfl) (by kernel_rfl) (by kernel_rfl) (fun _ _ _ h => h) (Or.inl ⟨by kernel_rfl, by intro w' hSw; obtain ⟨s0, s1, s2, s3, s4, s5, s6⟩ := hSw; go_simp⟩) hS ?_
        try simp only [List.getElem_toArray, List.getElem_cons_succ, List.getElem_cons_zero, Act.put, List.setIfInBounds_toArray, List.set_cons_zero, List.set_cons_succ]
        refine wpAnyH_take (i := 25) (v := .pointer (some ⟨q, off + k * 11 + 1, none⟩)) rfl (by kernel_rfl) (by kernel_rfl) (by kernel_rfl) (fun _ _ _ h => h) (Or.inl ⟨by kernel_rfl, by intro w' hSw; obtain ⟨s0, s1, s2, s3, s4, s5, s6⟩ := hSw; go_simp⟩) hS ?_
        try simp only [List.getElem_toArray, List.getElem_cons_succ, List.getElem_cons_zero, Act.put, List.setIfInBounds_toArray, List.set_cons_zero, List.set_cons_succ]
        refine wpAnyH_take (i := 26) (v := .string ts) rfl (by kernel_rfl) (by kernel_rfl) (by kernel_rfl) (fun _ _ _ h => h) (Or.inl ⟨by kernel_rfl, by intro w' hSw; obtain ⟨s0, s1, s2, s3, s4, s5, s6⟩ := hSw; go_simp⟩) hS ?_
        try simp only [List.getElem_toArray, List.getElem_cons_succ, List.getElem_cons_zero, Act.put, List.setIfInBounds_toArray, List.set_cons_zero, List.set_cons_succ]
        refine wpAnyH_take (i := 27) (v := .slice (some ⟨q, off, none⟩) len2 cap2) rfl (by kernel_rfl) (by kernel_rfl) (by kernel_rfl) (fun _ _ _ h => h) (Or.inl ⟨by kernel_rfl, by intro w' hSw; obtain ⟨s0, s1, s2, s3, s4, s5, s6⟩ := hSw; go_simp⟩) hS ?_
        try simp only [List.getElem_toArray, List.getElem_cons_succ, List.getElem_cons_zero, Act.put, List.setIfInBounds_toArray, List.set_cons_zero, List.set_cons_succ]
        refine wpAnyH_take (i := 28) (v := .int .i64 (k : Nat)) rfl (by kernel_rfl) (by kernel_rfl) (by kernel_rfl) (fun _ _ _ h => h) (Or.inl ⟨by kernel_rfl, by intro w' hSw; obtain ⟨s0, s1, s2, s3, s4, s5, s6⟩ := hSw; go_simp⟩) hS ?_
        try simp only [List.getElem_toArray, List.getElem_cons_succ, List.getElem_cons_zero, Act.put, List.setIfInBounds_toArray, List.set_cons_zero, List.set_cons_succ]
        refine wpAnyH_take (i := 29) (v := .pointer (some ⟨q, off + k * 11, none⟩)) rfl (by kernel_rfl) (by kernel_rfl) (by kernel_rfl) (fun _ _ _ h => h) (Or.inl ⟨by kernel_rfl, by intro w' hSw; obtain ⟨s0, s1, s2, s3, s4, s5, s6⟩ := hSw; go_simp⟩) hS ?_
        try simp only [List.getElem_toArray, List.getElem_cons_succ, List.getElem_cons_zero, Act.put, List.setIfInBounds_toArray, List.set_cons_zero, List.set_cons_succ]
        refine wpAnyH_take (i := 30) (v := .pointer (some ⟨q, off + k * 11 + 2, none⟩)) rfl (by kernel_rfl) (by kernel_rfl) (by kernel_rfl) (fun _ _ _ h => h) (Or.inl ⟨by kernel_rfl, by intro w' hSw; obtain ⟨s0, s1, s2, s3, s4, s5, s6⟩ := hSw; go_simp⟩) hS ?_
        try simp only [List.getElem_toArray, List.getElem_cons_succ, List.getElem_cons_zero, Act.put, List.setIfInBounds_toArray, List.set_cons_zero, List.set_cons_succ]
        refine wpAnyH_take (i := 31) (v := cA v u d l g) rfl (by kernel_rfl) (by kernel_rfl) (by kernel_rfl) (fun _ _ _ h => h) (Or.inl ⟨by kernel_rfl, by intro w' hSw; obtain ⟨s0, s1, s2, s3, s4, s5, s6⟩ := hSw; go_simp⟩) hS ?_
        try simp only [List.getElem_toArray, List.getElem_cons_succ, List.getElem_cons_zero, Act.put, List.setIfInBounds_toArray, List.set_cons_zero, List.set_cons_succ]
        refine wpAnyH_ready (rs := [20]) (by kernel_rfl) (by simp) ?_
        refine AllReadyH.cons rfl (fun K hK => ?_) AllReadyH.nil
        go_simp
        go_at_call 16
        refine (HP.out _ _ _ _ _ _ hKf.out).mono ?_
        rintro e W7 ⟨rfl, hP7⟩
        have P7 := Lib.hid hP7.swap
        clear hP7
        refine hK.out _ _ (HBP.out _ P7.out.s.bel) (fun hS => ?_)
        clear hK K
        try simp only [List.getElem_toArray, List.getElem_cons_succ, List.getElem_cons_zero, Act.put, List.setIfInBounds_toArray, List.set_cons_zero, List.set_cons_succ]
        refine wpAnyH_ready (rs := [32]) (by kernel_rfl) (by simp) ?_
        refine AllReadyH.cons rfl (fun K hK => ?_) AllReadyH.nil
        go_simp
        go_at_call 16
        refine (HP.out _ _ _ _ _ _ P7.out).mono ?_
        rintro e W8 ⟨rfl, hP8⟩
        have P8 := Lib.hid hP8.swap
        clear hP8
        refine hK.out _ _ (HBP.out _ P8.out.s.bel) (fun hS => ?_)
        clear hK K
        try simp only [List.getElem_toArray, List.getElem_cons_succ, List.getElem_cons_zero, Act.put, List.setIfInBounds_toArray, List.set_cons_zero, List.set_cons_succ]
        refine wpAnyH_take (i := 33) (v := .bool false) rfl (by kernel_rfl) (by kernel_rfl) (by kernel_rfl) (fun _ _ _ h => h) (Or.inl ⟨by kernel_rfl, by intro w' hSw; obtain ⟨s0, s1, s2, s3, s4, s5, s6⟩ := hSw; go_simp⟩) hS ?_
        try simp only [List.getElem_toArray, List.getElem_cons_succ, List.getElem_cons_zero, Act.put, List.setIfInBounds_toArray, List.set_cons_zero, List.set_cons_succ]
        refine wpAnyH_take (i := 34) (v := .bool false) rfl (by kernel_rfl) (by kernel_rfl) (by kernel_rfl) (fun _ _ _ h => h) (Or.inl ⟨by kernel_rfl, by intro w' hSw; obtain ⟨s0, s1, s2, s3, s4, s5, s6⟩ := hSw; go_simp⟩) hS ?_
        try simp only [List.getElem_toArray, List.getElem_cons_succ, List.getElem_cons_zero, Act.put, List.setIfInBounds_toArray, List.set_cons_zero, List.set_cons_succ]
        refine wpAnyH_take (i := 35) (v := .bool false) rfl (by kernel_rfl) (by kernel_rfl) (by kernel_rfl) (fun _ _ _ h => h) (Or.inl ⟨by kernel_rfl, by intro w' hSw; obtain ⟨s0, s1, s2, s3, s4, s5, s6⟩ := hSw; go_simp⟩) hS ?_
        try simp only [List.getElem_toArray, List.getElem_cons_succ, List.getElem_cons_zero, Act.put, List.setIfInBounds_toArray, List.set_cons_zero, List.set_cons_succ]
        refine wpAnyH_take (i := 36) (v := .slice (some ⟨q, off, none⟩) len2 cap2) rfl (by kernel_rfl) (by kernel_rfl) (by kernel_rfl) (fun _ _ _ h => h) (Or.inl ⟨by kernel_rfl, by intro w' hSw; obtain ⟨s0, s1, s2, s3, s4, s5, s6⟩ := hSw; go_simp⟩) hS ?_
        try simp only [List.getElem_toArray, List.getElem_cons_succ, List.getElem_cons_zero, Act.put, List.setIfInBounds_toArray, List.set_cons_zero, List.set_cons_succ]
        refine wpAnyH_take (i := 37) (v := .int .i64 (k : Nat)) rfl (by kernel_rfl) (by kernel_rfl) (by kernel_rfl) (fun _ _ _ h => h) (Or.inl ⟨by kernel_rfl, by intro w' hSw; obtain ⟨s0, s1, s2, s3, s4, s5, s6⟩ := hSw; go_simp⟩) hS ?_
        try simp only [List.getElem_toArray, List.getElem_cons_succ, List.getElem_cons_zero, Act.put, List.setIfInBounds_toArray, List.set_cons_zero, List.set_cons_succ]
        refine wpAnyH_take (i := 38) (v := .pointer (some ⟨q, off + k * 11, none⟩)) rfl (by kernel_rfl) (by kernel_rfl) (by kernel_rfl) (fun _ _ _ h => h) (Or.inl ⟨by kernel_rfl, by intro w' hSw; obtain ⟨s0, s1, s2, s3, s4, s5, s6⟩ := hSw; go_simp⟩) hS ?_
        try simp only [List.getElem_toArray, List.getElem_cons_succ, List.getElem_cons_zero, Act.put, List.setIfInBounds_toArray, List.set_cons_zero, List.set_cons_succ]
        refine wpAnyH_take (i := 39) (v := .pointer (some ⟨q, off + k * 11, none⟩)) rfl (by kernel_rfl) (by kernel_rfl) (by kernel_rfl) (fun _ _ _ h => h) (Or.inl ⟨by kernel_rfl, by intro w' hSw; obtain ⟨s0, s1, s2, s3, s4, s5, s6⟩ := hSw; go_simp⟩) hS ?_
        try simp only [List.getElem_toArray, List.getElem_cons_succ, List.getElem_cons_zero, Act.put, List.setIfInBounds_toArray, List.set_cons_zero, List.set_cons_succ]
        refine wpAnyH_take (i := 40) (v := .int .i64 sd) rfl (by kernel_rfl) (by kernel_rfl) (by kernel_rfl) (fun _ _ _ h => h) (Or.inl ⟨by kernel_rfl, by intro w' hSw; obtain ⟨s0, s1, s2, s3, s4, s5, s6⟩ := hSw; go_simp⟩) hS ?_
        try simp only [List.getElem_toArray, List.getElem_cons_succ, List.getElem_cons_zero, Act.put, List.setIfInBounds_toArray, List.set_cons_zero, List.set_cons_succ]
        refine wpAnyH_take (i := 41) (v := .bool false) rfl (by kernel_rfl) (by kernel_rfl) (by kernel_rfl) (fun _ _ _ h => h) (Or.inl ⟨by kernel_rfl, by intro w' hSw; obtain ⟨s0, s1, s2, s3, s4, s5, s6⟩ := hSw; go_simp⟩) hS ?_
        try simp only [List.getElem_toArray, List.getElem_cons_succ, List.getElem_cons_zero, Act.put, List.setIfInBounds_toArray, List.set_cons_zero, List.set_cons_succ]
        refine wpAnyH_take (i := 42) (v := .bool false) rfl (by kernel_rfl) (by kernel_rfl) (by kernel_rfl) (fun _ _ _ h => h) (Or.inl ⟨by kernel_rfl, by intro w' hSw; obtain ⟨s0, s1, s2, s3, s4, s5, s6⟩ := hSw; go_simp⟩) hS ?_
        try simp only [List.getElem_toArray, List.getElem_cons_succ, List.getElem_cons_zero, Act.put, List.setIfInBounds_toArray, List.set_cons_zero, List.set_cons_succ]
        refine wpAnyH_take (i := 43) (v := undef) rfl (by kernel_rfl) (by kernel_rfl) (by kernel_rfl) (fun _ _ _ h => h) (Or.inr ⟨by kernel_rfl, rfl⟩) hS ?_
        try simp only [List.getElem_toArray, List.getElem_cons_succ, List.getElem_cons_zero, Act.put, List.setIfInBounds_toArray, List.set_cons_zero, List.set_cons_succ]
        refine wpAnyH_take (i := 44) (v := undef) rfl (by kernel_rfl) (by kernel_rfl) (by kernel_rfl) (fun _ _ _ h => h) (Or.inr ⟨by kernel_rfl, rfl⟩) hS ?_
        try simp only [List.getElem_toArray, List.getElem_cons_succ, List.getElem_cons_zero, Act.put, List.setIfInBounds_toArray, List.set_cons_zero, List.set_cons_succ]
        refine wpAnyH_take (i := 45) (v := undef) rfl (by kernel_rfl) (by kernel_rfl) (by kernel_rfl) (fun _ _ _ h => h) (Or.inr ⟨by kernel_rfl, rfl⟩) hS ?_
        try simp only [List.getElem_toArray, List.getElem_cons_succ, List.getElem_cons_zero, Act.put, List.setIfInBounds_toArray, List.set_cons_zero, List.set_cons_succ]
        refine wpAnyH_take (i := 46) (v := undef) rfl (by kernel_rfl) (by kernel_rfl) (by kernel_rfl) (fun _ _ _ h => h) (Or.inr ⟨by kernel_rfl, rfl⟩) hS ?_
        try simp only [List.getElem_toArray, List.getElem_cons_succ, List.getElem_cons_zero, Act.put, List.setIfInBounds_toArray, List.set_cons_zero, List.set_cons_succ]
        refine wpAnyH_take (i := 47) (v := undef) rfl (by kernel_rfl) (by kernel_rfl) (by kernel_rfl) (fun _ _ _ h => h) (Or.inr ⟨by kernel_rfl, rfl⟩) hS ?_
        try simp only [List.getElem_toArray, List.getElem_cons_succ, List.getElem_cons_zero, Act.put, List.setIfInBounds_toArray, List.set_cons_zero, List.set_cons_succ]
        refine wpAnyH_take (i := 48) (v := undef) rfl (by kernel_rfl) (by kernel_rfl) (by kernel_rfl) (fun _ _ _ h => h) (Or.inr ⟨by kernel_rfl, rfl⟩) hS ?_
        try simp only [List.getElem_toArray, List.getElem_cons_succ, List.getElem_cons_zero, Act.put, List.setIfInBounds_toArray, List.set_cons_zero, List.set_cons_succ]
        refine wpAnyH_take (i := 49) (v := undef) rfl (by kernel_rfl) (by kernel_rfl) (by kernel_rfl) (fun _ _ _ h => h) (Or.inr ⟨by kernel_rfl, rfl⟩) hS ?_
        try simp only [List.getElem_toArray, List.getElem_cons_succ, List.getElem_cons_zero, Act.put, List.setIfInBounds_toArray, List.set_cons_zero, List.set_cons_succ]
        refine wpAnyH_take (i := 50) (v := undef) rfl (by kernel_rfl) (by kernel_rfl) (by kernel_rfl) (fun _ _ _ h => h) (Or.inr ⟨by kernel_rfl, rfl⟩) hS ?_
        try simp only [List.getElem_toArray, List.getElem_cons_succ, List.getElem_cons_zero, Act.put, List.setIfInBounds_toArray, List.set_cons_zero, List.set_cons_succ]
        refine wpAnyH_take (i := 51) (v := undef) rfl (by kernel_rfl) (by kernel_rfl) (by kernel_rfl) (fun _ _ _ h => h) (Or.inr ⟨by kernel_rfl, rfl⟩) hS ?_
        try simp only [List.getElem_toArray, List.getElem_cons_succ, List.getElem_cons_zero, Act.put, List.setIfInBounds_toArray, List.set_cons_zero, List.set_cons_succ]
        refine wpAnyH_take (i := 52) (v := undef) rfl (by kernel_rfl) (by kernel_rfl) (by kernel_rfl) (fun _ _ _ h => h) (Or.inr ⟨by kernel_rfl, rfl⟩) hS ?_
        try simp only [List.getElem_toArray, List.getElem_cons_succ, List.getElem_cons_zero, Act.put, List.setIfInBounds_toArray, List.set_cons_zero, List.set_cons_succ]
        refine wpAnyH_take (i := 53) (v := undef) rfl (by kernel_rfl) (by kernel_rfl) (by kernel_rfl) (fun _ _ _ h => h) (Or.inr ⟨by kernel_rfl, rfl⟩) hS ?_
        try simp only [List.getElem_toArray, List.getElem_cons_succ, List.getElem_cons_zero, Act.put, List.setIfInBounds_toArray, List.set_cons_zero, List.set_cons_succ]
        refine wpAnyH_take (i := 54) (v := undef) rfl (by kernel_rfl) (by kernel_rfl) (by kernel_rfl) (fun _ _ _ h => h) (Or.inr ⟨by kernel_rfl, rfl⟩) hS ?_
        try simp only [List.getElem_toArray, List.getElem_cons_succ, List.getElem_cons_zero, Act.put, List.setIfInBounds_toArray, List.set_cons_zero, List.set_cons_succ]
        refine wpAnyH_take (i := 55) (v := undef) rfl (by kernel_rfl) (by kernel_rfl) (by kernel_rfl) (fun _ _ _ h => h) (Or.inr ⟨by kernel_rfl, rfl⟩) hS ?_
        try simp only [List.getElem_toArray, List.getElem_cons_succ, List.getElem_cons_zero, Act.put, List.setIfInBounds_toArray, List.set_cons_zero, List.set_cons_succ]
        refine wpAnyH_take (i := 56) (v := undef) rfl (by kernel_rfl) (by kernel_rfl) (by kernel_rfl) (fun _ _ _ h => h) (Or.inr ⟨by kernel_rfl, rfl⟩) hS ?_
        try simp only [List.getElem_toArray, List.getElem_cons_succ, List.getElem_cons_zero, Act.put, List.setIfInBounds_toArray, List.set_cons_zero, List.set_cons_succ]
        refine wpAnyH_take (i := 57) (v := undef) rfl (by kernel_rfl) (by kernel_rfl) (by kernel_rfl) (fun _ _ _ h => h) (Or.inr ⟨by kernel_rfl, rfl⟩) hS ?_
        try simp only [List.getElem_toArray, List.getElem_cons_succ, List.getElem_cons_zero, Act.put, List.setIfInBounds_toArray, List.set_cons_zero, List.set_cons_succ]
        refine wpAnyH_take (i := 58) (v := .bool false) rfl (by kernel_rfl) (by kernel_rfl) (by kernel_rfl) (fun _ _ _ h => h) (Or.inl ⟨by kernel_rfl, by intro w' hSw; obtain ⟨s0, s1, s2, s3, s4, s5, s6⟩ := hSw; go_simp⟩) hS ?_
        try simp only [List.getElem_toArray, List.getElem_cons_succ, List.getElem_cons_zero, Act.put, List.setIfInBounds_toArray, List.set_cons_zero, List.set_cons_succ]
        refine wpAnyH_take (i := 59) (v := .bool false) rfl (by kernel_rfl) (by kernel_rfl) (by kernel_rfl) (fun _ _ _ h => h) (Or.inl ⟨by kernel_rfl, by intro w' hSw; obtain ⟨s0, s1, s2, s3, s4, s5, s6⟩ := hSw; go_simp⟩) hS ?_
        try simp only [List.getElem_toArray, List.getElem_cons_succ, List.getElem_cons_zero, Act.put, List.setIfInBounds_toArray, List.set_cons_zero, List.set_cons_succ]
        refine wpAnyH_done (by kernel_rfl) ?_ _
        clear hS
        go_wp2
        go_roundw
        case rel => exact ⟨k + 1, _, by omega, by go_num, P8.out⟩
        case measure => simp [intOf]; omega
    · have i1 : decide ((k : Int) < (len2 : Int)) = false := by simp; omega
      clear HI HL
      go_wp2_with fail
      refine hK.keysT.mono ?_
      rintro e w5 ⟨a3, c3, rfl, hc1, hc2, hK5, HR⟩
      clear hK
      go_wp2
      go_loopw [14] (fun i wr => ∃ j : Nat, j ≤ N.length ∧ i = .int .i64 j ∧ Kq3 w sb b M sb1 b1 N sb2 b2 N wr ∧ (0 < N.length → ∃ g, a3 = some ⟨g, 0, none⟩ ∧ Ro w sb b sb1 b1 sb2 b2 g N.length wr)) (fun i _ => N.length - (intOf i).toNat)
      case atStart => exact ⟨0, Nat.zero_le _, rfl, hK5, HR⟩
      case round =>
        obtain ⟨j, hj, rfl, hK6, HR6⟩ := hrel
        clear hK5 HR
        by_cases hjl : j < N.length
        · obtain ⟨g, rfl, r⟩ := HR6 (by omega)
          obtain ⟨⟨x0, e0⟩, f0⟩ := r.cell j hjl
          have i2 : decide ((j : Int) < (N.length : Int)) = true := by simp; omega
          have i3 : (j : Int) < (N.length : Int) := by omega
          have Kn := Lib.hid (hK6.set r j (.string ⟨#[]⟩))
          have Rn := Lib.hid (r.set j (.string ⟨#[]⟩))
          clear hK6 HR6 r HF HW
          go_wp2
          go_roundw
          case rel => exact ⟨j + 1, by omega, by go_num, Kn.out, fun _ => ⟨g, rfl, Rn.out⟩⟩
          case measure => simp [intOf]; omega
        · have i2 : decide ((j : Int) < (N.length : Int)) = false := by simp; omega
          clear HR6
          go_wp2_with fail
          refine (equal_any _ hK6.t.sx hK6.u.sx).mono ?_
          rintro e w7 ⟨rfl, hb7⟩
          have K7 := Lib.hid (hK6.later hb7)
          clear hK6 hb7
          go_wp2_with fail
          refine (HF.out _ K7.out.s.bel).mono ?_
          rintro e w8 ⟨sb3, b3, rfl, k8, hsb8⟩
          have K8 := K7.out.later k8.bel
          have s8 := K8.s.sx
          have u8 := k8.sx
          replace K8 := Lib.hid K8
          clear K7 k8 hsb8 HF
          go_wp2_with fail
          refine (equal_any _ s8 u8).mono ?_
          rintro e w9 ⟨rfl, hb9⟩
          have K9 := Lib.hid (K8.out.later hb9)
          clear s8 u8 K8 hb9
          go_wp2_with fail
          refine (HW.out _).mono ?_
          rintro e wa ⟨rfl, hba⟩
          have KA := Lib.hid (K9.out.later hba)
          clear K9 hba
          go_wp2
          go_ret
          exact ⟨rfl, KA.out.s.bel⟩
end Go.Proofs.Ytiahjacjpakkdaa.Sto
