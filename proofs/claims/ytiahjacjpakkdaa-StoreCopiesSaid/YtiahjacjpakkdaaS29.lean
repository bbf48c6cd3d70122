/- A store behind a script. -/
import Derived.Test.YtiahjacjpakkdaaS28
namespace Go.Proofs.Ytiahjacjpakkdaa.Sto
open Go.RowKit Go.Lib
open Cnt (Ct cA OkC quietB appC)
open Rng (tx tx_of tx_size nameOk bl)
set_option linter.unusedVariables false
set_option linter.unusedSimpArgs false
set_option maxRecDepth 20000

theorem stOk_k {s : Sp} (h : stOk s = true) : s.k.length ≤ 40 := by unfold stOk at h; simp at h; omega
theorem maxLen_of {k : List UInt8} (h : k.length ≤ 40) : k.length ≤ maxLen := by unfold maxLen; omega
/-- The cells of a step in the spellings of a walk. -/
theorem Sc.facts {W : World} {b o : Nat} {s : Sp} (x : Sc W b o s) :
    W.cell? ⟨b, o, none⟩ = some (.int .i64 s.d) ∧ W.cell? ⟨b, o + 1, none⟩ = some (.string (tx s.k)) ∧ W.cell? ⟨b, o + 2, none⟩ = some (.int .i64 s.c.v) ∧ W.cell? ⟨b, o + 2 + 1, none⟩ = some (.int .i64 s.c.u) ∧ W.cell? ⟨b, o + 2 + 2, none⟩ = some (.int .i64 s.c.d) ∧ W.cell? ⟨b, o + 2 + 3, none⟩ = some (.int .i64 s.c.l) ∧ W.cell? ⟨b, o + 2 + 4, none⟩ = some (.int .i64 s.c.h) ∧
    W.cell? ⟨b, o + 7, none⟩ = some (.int .i64 s.p) ∧ W.cell? ⟨b, o + 8, none⟩ = some (.int .i64 s.n) ∧ W.cell? ⟨b, o + 9, none⟩ = some (.string (tx s.r.f)) ∧ W.cell? ⟨b, o + 9 + 1, none⟩ = some (.string (tx s.r.t)) :=
  ⟨x.c0, x.c1, x.c2, x.c3, x.c4, x.c5, x.c6, x.c7, x.c8, x.c9, x.c10⟩
set_option maxHeartbeats 16000000 in
theorem filled_any (a : Option Addr) (len cap : Nat) (S : Nat → Sp) (w : World) (h : IsSt w a len cap S) (hs : shortB S len = true) :
    Calls Try.prog 22 #[.slice a len cap] w fun e w' => ∃ sb b, e = .returned (.pointer (some ⟨sb, 0, none⟩)) ∧ Sw w w' sb b (fillM S len) ∧ w.heap.size ≤ sb := by
  obtain ⟨hlen, hall⟩ : len ≤ 120 ∧ ∀ i, i < len → stOk (S i) = true := by
    unfold shortB at hs
    rw [Bool.and_eq_true, List.all_eq_true] at hs
    exact ⟨of_decide_eq_true hs.1, fun i hi => hs.2 i (List.mem_range.2 hi)⟩
  have hmc := h.fit
  have hc := Lib.hid (fun (W : World) (hb : Below w.heap.size w W) (k : Nat) (hk : k < len) => (show ∃ b off, a = some ⟨b, off, none⟩ ∧ Sc W b (off + k * 11) (S k) by
    obtain ⟨b, off, e, hlt, hh⟩ := h.cell (by omega)
    exact ⟨b, off, e, (hh k hk).same (hb.block b hlt)⟩))
  replace hall := Lib.hid hall
  clear h hs
  go_enter Try.func22, Try.ntmps22
  go_wp2_with fail
  refine (new_any _).mono ?_
  rintro e x1 ⟨sb, b, rfl, hx, hsb, hbg, hb⟩
  have hw1 : Sw w x1 sb b (fillM S 0) := ⟨hx, hb, hbg⟩
  clear hx hb hbg
  go_wp2_with fail
  go_loopw [4] (fun i wr => ∃ k : Nat, k ≤ len ∧ i = .int .i64 k ∧ Sw w wr sb b (fillM S k)) (fun i _ => len - (intOf i).toNat)
  case atStart => exact ⟨0, Nat.zero_le _, rfl, hw1⟩
  case round =>
    obtain ⟨k, hk, rfl, hw⟩ := hrel
    clear hw1
    by_cases hlt : k < len
    · obtain ⟨q, off, rfl, x⟩ := hc.out wr hw.bel k hlt
      have hsk := stOk_k (hall.out k hlt)
      have e0 := x.c0
      have hml : (k : Int) < (len : Int) := by omega
      have hnext : fillM S (k + 1) = stepM (fillM S k) (S k) := rfl
      clear hc hall
      generalize S k = st at *
      obtain ⟨sd, sk, ⟨v, u, d, l, g⟩, sp, sn, sr⟩ := st
      dsimp only at hsk e0 hnext
      have hst : stepM (fillM S k) ⟨sd, sk, ⟨v, u, d, l, g⟩, sp, sn, sr⟩ = if sd = 0 then putS (fillM S k) sk ⟨v, u, d, l, g⟩ else if sd = 1 then (apR (fillM S k) sk sp sn).2.2 else if sd = 2 then remM (fillM S k) sk else fillM S k := rfl
      rw [hst] at hnext
      clear hst
      generalize fillM S k = M at *
      by_cases h0 : sd = 0
      · subst h0
        rw [if_pos rfl] at hnext
        replace hnext := Lib.hid hnext
        have hP := Lib.hid (fun (W : World) (h : Sw w W sb b M) => put_any sk v u d l g W h.sx)
        generalize putE M sk ⟨v, u, d, l, g⟩ = z at *
        generalize putS M sk ⟨v, u, d, l, g⟩ = N at *
        generalize hty : tx sk = ts at *
        go_wp2
        refine wp_region_held_drew (S := (fun W => Sc W q (off + k * 11) ⟨0, sk, ⟨v, u, d, l, g⟩, sp, sn, sr⟩)) (by kernel_rfl) (x.same rfl) (fun hS => ?_)
        try simp only [Act.put, List.setIfInBounds_toArray, List.set_cons_zero, List.set_cons_succ]
        refine wpAnyH_take (i := 0) (v := .pointer (some ⟨sb, 0, none⟩)) rfl (by kernel_rfl) (by kernel_rfl) (by kernel_rfl) (fun _ _ _ h => h) (Or.inl ⟨by kernel_rfl, by intro w' hSw; have hF := hSw.facts; obtain ⟨s0, s1, s2, s3, s4, s5, s6, s7, s8, s9, s10⟩ := hF; rw [hty] at s1; dsimp only at s0 s1 s2 s3 s4 s5 s6 s7 s8 s9 s10; go_simp⟩) hS ?_
        try simp only [Act.put, List.setIfInBounds_toArray, List.set_cons_zero, List.set_cons_succ]
        refine wpAnyH_take (i := 1) (v := .slice (some ⟨q, off, none⟩) len cap) rfl (by kernel_rfl) (by kernel_rfl) (by kernel_rfl) (fun _ _ _ h => h) (Or.inl ⟨by kernel_rfl, by intro w' hSw; have hF := hSw.facts; obtain ⟨s0, s1, s2, s3, s4, s5, s6, s7, s8, s9, s10⟩ := hF; rw [hty] at s1; dsimp only at s0 s1 s2 s3 s4 s5 s6 s7 s8 s9 s10; go_simp⟩) hS ?_
        try simp only [Act.put, List.setIfInBounds_toArray, List.set_cons_zero, List.set_cons_succ]
        refine wpAnyH_take (i := 2) (v := .int .i64 (k : Nat)) rfl (by kernel_rfl) (by kernel_rfl) (by kernel_rfl) (fun _ _ _ h => h) (Or.inl ⟨by kernel_rfl, by intro w' hSw; have hF := hSw.facts; obtain ⟨s0, s1, s2, s3, s4, s5, s6, s7, s8, s9, s10⟩ := hF; rw [hty] at s1; dsimp only at s0 s1 s2 s3 s4 s5 s6 s7 s8 s9 s10; go_simp⟩) hS ?_
        try simp only [Act.put, List.setIfInBounds_toArray, List.set_cons_zero, List.set_cons_succ]
        refine wpAnyH_take (i := 3) (v := .pointer (some ⟨q, off + k * 11, none⟩)) rfl (by kernel_rfl) (by kernel_rfl) (by kernel_rfl) (fun _ _ _ h => h) (Or.inl ⟨by kernel_rfl, by intro w' hSw; have hF := hSw.facts; obtain ⟨s0, s1, s2, s3, s4, s5, s6, s7, s8, s9, s10⟩ := hF; rw [hty] at s1; dsimp only at s0 s1 s2 s3 s4 s5 s6 s7 s8 s9 s10; go_simp⟩) hS ?_
        try simp only [Act.put, List.setIfInBounds_toArray, List.set_cons_zero, List.set_cons_succ]
        refine wpAnyH_take (i := 4) (v := .pointer (some ⟨q, off + k * 11 + 1, none⟩)) rfl (by kernel_rfl) (by kernel_rfl) (by kernel_rfl) (fun _ _ _ h => h) (Or.inl ⟨by kernel_rfl, by intro w' hSw; have hF := hSw.facts; obtain ⟨s0, s1, s2, s3, s4, s5, s6, s7, s8, s9, s10⟩ := hF; rw [hty] at s1; dsimp only at s0 s1 s2 s3 s4 s5 s6 s7 s8 s9 s10; go_simp⟩) hS ?_
        try simp only [Act.put, List.setIfInBounds_toArray, List.set_cons_zero, List.set_cons_succ]
        refine wpAnyH_take (i := 5) (v := .string ts) rfl (by kernel_rfl) (by kernel_rfl) (by kernel_rfl) (fun _ _ _ h => h) (Or.inl ⟨by kernel_rfl, by intro w' hSw; have hF := hSw.facts; obtain ⟨s0, s1, s2, s3, s4, s5, s6, s7, s8, s9, s10⟩ := hF; rw [hty] at s1; dsimp only at s0 s1 s2 s3 s4 s5 s6 s7 s8 s9 s10; go_simp⟩) hS ?_
        try simp only [Act.put, List.setIfInBounds_toArray, List.set_cons_zero, List.set_cons_succ]
        refine wpAnyH_take (i := 6) (v := .slice (some ⟨q, off, none⟩) len cap) rfl (by kernel_rfl) (by kernel_rfl) (by kernel_rfl) (fun _ _ _ h => h) (Or.inl ⟨by kernel_rfl, by intro w' hSw; have hF := hSw.facts; obtain ⟨s0, s1, s2, s3, s4, s5, s6, s7, s8, s9, s10⟩ := hF; rw [hty] at s1; dsimp only at s0 s1 s2 s3 s4 s5 s6 s7 s8 s9 s10; go_simp⟩) hS ?_
        try simp only [Act.put, List.setIfInBounds_toArray, List.set_cons_zero, List.set_cons_succ]
        refine wpAnyH_take (i := 7) (v := .int .i64 (k : Nat)) rfl (by kernel_rfl) (by kernel_rfl) (by kernel_rfl) (fun _ _ _ h => h) (Or.inl ⟨by kernel_rfl, by intro w' hSw; have hF := hSw.facts; obtain ⟨s0, s1, s2, s3, s4, s5, s6, s7, s8, s9, s10⟩ := hF; rw [hty] at s1; dsimp only at s0 s1 s2 s3 s4 s5 s6 s7 s8 s9 s10; go_simp⟩) hS ?_
        try simp only [Act.put, List.setIfInBounds_toArray, List.set_cons_zero, List.set_cons_succ]
        refine wpAnyH_take (i := 8) (v := .pointer (some ⟨q, off + k * 11, none⟩)) rfl (by kernel_rfl) (by kernel_rfl) (by kernel_rfl) (fun _ _ _ h => h) (Or.inl ⟨by kernel_rfl, by intro w' hSw; have hF := hSw.facts; obtain ⟨s0, s1, s2, s3, s4, s5, s6, s7, s8, s9, s10⟩ := hF; rw [hty] at s1; dsimp only at s0 s1 s2 s3 s4 s5 s6 s7 s8 s9 s10; go_simp⟩) hS ?_
        try simp only [Act.put, List.setIfInBounds_toArray, List.set_cons_zero, List.set_cons_succ]
        refine wpAnyH_take (i := 9) (v := .pointer (some ⟨q, off + k * 11 + 2, none⟩)) rfl (by kernel_rfl) (by kernel_rfl) (by kernel_rfl) (fun _ _ _ h => h) (Or.inl ⟨by kernel_rfl, by intro w' hSw; have hF := hSw.facts; obtain ⟨s0, s1, s2, s3, s4, s5, s6, s7, s8, s9, s10⟩ := hF; rw [hty] at s1; dsimp only at s0 s1 s2 s3 s4 s5 s6 s7 s8 s9 s10; go_simp⟩) hS ?_
        try simp only [Act.put, List.setIfInBounds_toArray, List.set_cons_zero, List.set_cons_succ]
        refine wpAnyH_take (i := 10) (v := cA v u d l g) rfl (by kernel_rfl) (by kernel_rfl) (by kernel_rfl) (fun _ _ _ h => h) (Or.inl ⟨by kernel_rfl, by intro w' hSw; have hF := hSw.facts; obtain ⟨s0, s1, s2, s3, s4, s5, s6, s7, s8, s9, s10⟩ := hF; rw [hty] at s1; dsimp only at s0 s1 s2 s3 s4 s5 s6 s7 s8 s9 s10; go_simp⟩) hS ?_
        try simp only [Act.put, List.setIfInBounds_toArray, List.set_cons_zero, List.set_cons_succ]
        refine wpAnyH_ready (rs := [11]) (by kernel_rfl) (by simp) ?_
        refine AllReadyH.cons rfl (fun K hK => ?_) AllReadyH.nil
        go_simp
        go_at_call 16
        refine (hP.out _ (hw.later (Below.refl _ wr).drew)).mono ?_
        rintro e w2 ⟨rfl, hx2, hg2⟩
        have hw2 := (hw.later (Below.refl _ wr).drew).step hx2 hg2
        refine hK.out _ _ ((x.same (W' := wr.drew) rfl).same (hg2.block q (World.block_lt_of_cell? wr _ e0) (by intro e; injection e with e; subst e; obtain ⟨es, ck, hh, _⟩ := hw.sx.own; rw [World.cell?, hh] at e0; cases e0))) (fun hS => ?_)
        clear hK K
        try simp only [Act.put, List.setIfInBounds_toArray, List.set_cons_zero, List.set_cons_succ]
        refine wpAnyH_done (by kernel_rfl) ?_ _
        clear hS
        go_wp2
        go_roundw
        case rel => exact ⟨k + 1, by omega, by go_num, by rw [hnext.out]; exact hw2⟩
        case measure => simp [intOf]; omega
      · have g0 : (sd == 0) = false := by simpa using h0
        have g0' : (sd = 0) = False := by simpa using h0
        rw [if_neg h0] at hnext
        clear h0
        by_cases h1 : sd = 1
        · subst h1
          rw [if_pos rfl] at hnext
          replace hnext := Lib.hid hnext
          have hP := Lib.hid (fun (W : World) (h : Sw w W sb b M) => ap_any sk sp sn W h.sx (maxLen_of hsk))
          generalize apR M sk sp sn = ar at *
          obtain ⟨z1, z2, N⟩ := ar
          dsimp only at hP hnext
          generalize hty : tx sk = ts at *
          go_wp2
          refine wp_region_held_drew (S := (fun W => Sc W q (off + k * 11) ⟨1, sk, ⟨v, u, d, l, g⟩, sp, sn, sr⟩)) (by kernel_rfl) (x.same rfl) (fun hS => ?_)
          try simp only [Act.put, List.setIfInBounds_toArray, List.set_cons_zero, List.set_cons_succ]
          refine wpAnyH_take (i := 0) (v := .pointer (some ⟨sb, 0, none⟩)) rfl (by kernel_rfl) (by kernel_rfl) (by kernel_rfl) (fun _ _ _ h => h) (Or.inl ⟨by kernel_rfl, by intro w' hSw; have hF := hSw.facts; obtain ⟨s0, s1, s2, s3, s4, s5, s6, s7, s8, s9, s10⟩ := hF; rw [hty] at s1; dsimp only at s0 s1 s2 s3 s4 s5 s6 s7 s8 s9 s10; go_simp⟩) hS ?_
          try simp only [Act.put, List.setIfInBounds_toArray, List.set_cons_zero, List.set_cons_succ]
          refine wpAnyH_take (i := 1) (v := .slice (some ⟨q, off, none⟩) len cap) rfl (by kernel_rfl) (by kernel_rfl) (by kernel_rfl) (fun _ _ _ h => h) (Or.inl ⟨by kernel_rfl, by intro w' hSw; have hF := hSw.facts; obtain ⟨s0, s1, s2, s3, s4, s5, s6, s7, s8, s9, s10⟩ := hF; rw [hty] at s1; dsimp only at s0 s1 s2 s3 s4 s5 s6 s7 s8 s9 s10; go_simp⟩) hS ?_
          try simp only [Act.put, List.setIfInBounds_toArray, List.set_cons_zero, List.set_cons_succ]
          refine wpAnyH_take (i := 2) (v := .int .i64 (k : Nat)) rfl (by kernel_rfl) (by kernel_rfl) (by kernel_rfl) (fun _ _ _ h => h) (Or.inl ⟨by kernel_rfl, by intro w' hSw; have hF := hSw.facts; obtain ⟨s0, s1, s2, s3, s4, s5, s6, s7, s8, s9, s10⟩ := hF; rw [hty] at s1; dsimp only at s0 s1 s2 s3 s4 s5 s6 s7 s8 s9 s10; go_simp⟩) hS ?_
          try simp only [Act.put, List.setIfInBounds_toArray, List.set_cons_zero, List.set_cons_succ]
          refine wpAnyH_take (i := 3) (v := .pointer (some ⟨q, off + k * 11, none⟩)) rfl (by kernel_rfl) (by kernel_rfl) (by kernel_rfl) (fun _ _ _ h => h) (Or.inl ⟨by kernel_rfl, by intro w' hSw; have hF := hSw.facts; obtain ⟨s0, s1, s2, s3, s4, s5, s6, s7, s8, s9, s10⟩ := hF; rw [hty] at s1; dsimp only at s0 s1 s2 s3 s4 s5 s6 s7 s8 s9 s10; go_simp⟩) hS ?_
          try simp only [Act.put, List.setIfInBounds_toArray, List.set_cons_zero, List.set_cons_succ]
          refine wpAnyH_take (i := 4) (v := .pointer (some ⟨q, off + k * 11 + 1, none⟩)) rfl (by kernel_rfl) (by kernel_rfl) (by kernel_rfl) (fun _ _ _ h => h) (Or.inl ⟨by kernel_rfl, by intro w' hSw; have hF := hSw.facts; obtain ⟨s0, s1, s2, s3, s4, s5, s6, s7, s8, s9, s10⟩ := hF; rw [hty] at s1; dsimp only at s0 s1 s2 s3 s4 s5 s6 s7 s8 s9 s10; go_simp⟩) hS ?_
          try simp only [Act.put, List.setIfInBounds_toArray, List.set_cons_zero, List.set_cons_succ]
          refine wpAnyH_take (i := 5) (v := .string ts) rfl (by kernel_rfl) (by kernel_rfl) (by kernel_rfl) (fun _ _ _ h => h) (Or.inl ⟨by kernel_rfl, by intro w' hSw; have hF := hSw.facts; obtain ⟨s0, s1, s2, s3, s4, s5, s6, s7, s8, s9, s10⟩ := hF; rw [hty] at s1; dsimp only at s0 s1 s2 s3 s4 s5 s6 s7 s8 s9 s10; go_simp⟩) hS ?_
          try simp only [Act.put, List.setIfInBounds_toArray, List.set_cons_zero, List.set_cons_succ]
          refine wpAnyH_take (i := 6) (v := .slice (some ⟨q, off, none⟩) len cap) rfl (by kernel_rfl) (by kernel_rfl) (by kernel_rfl) (fun _ _ _ h => h) (Or.inl ⟨by kernel_rfl, by intro w' hSw; have hF := hSw.facts; obtain ⟨s0, s1, s2, s3, s4, s5, s6, s7, s8, s9, s10⟩ := hF; rw [hty] at s1; dsimp only at s0 s1 s2 s3 s4 s5 s6 s7 s8 s9 s10; go_simp⟩) hS ?_
          try simp only [Act.put, List.setIfInBounds_toArray, List.set_cons_zero, List.set_cons_succ]
          refine wpAnyH_take (i := 7) (v := .int .i64 (k : Nat)) rfl (by kernel_rfl) (by kernel_rfl) (by kernel_rfl) (fun _ _ _ h => h) (Or.inl ⟨by kernel_rfl, by intro w' hSw; have hF := hSw.facts; obtain ⟨s0, s1, s2, s3, s4, s5, s6, s7, s8, s9, s10⟩ := hF; rw [hty] at s1; dsimp only at s0 s1 s2 s3 s4 s5 s6 s7 s8 s9 s10; go_simp⟩) hS ?_
          try simp only [Act.put, List.setIfInBounds_toArray, List.set_cons_zero, List.set_cons_succ]
          refine wpAnyH_take (i := 8) (v := .pointer (some ⟨q, off + k * 11, none⟩)) rfl (by kernel_rfl) (by kernel_rfl) (by kernel_rfl) (fun _ _ _ h => h) (Or.inl ⟨by kernel_rfl, by intro w' hSw; have hF := hSw.facts; obtain ⟨s0, s1, s2, s3, s4, s5, s6, s7, s8, s9, s10⟩ := hF; rw [hty] at s1; dsimp only at s0 s1 s2 s3 s4 s5 s6 s7 s8 s9 s10; go_simp⟩) hS ?_
          try simp only [Act.put, List.setIfInBounds_toArray, List.set_cons_zero, List.set_cons_succ]
          refine wpAnyH_take (i := 9) (v := .pointer (some ⟨q, off + k * 11 + 7, none⟩)) rfl (by kernel_rfl) (by kernel_rfl) (by kernel_rfl) (fun _ _ _ h => h) (Or.inl ⟨by kernel_rfl, by intro w' hSw; have hF := hSw.facts; obtain ⟨s0, s1, s2, s3, s4, s5, s6, s7, s8, s9, s10⟩ := hF; rw [hty] at s1; dsimp only at s0 s1 s2 s3 s4 s5 s6 s7 s8 s9 s10; go_simp⟩) hS ?_
          try simp only [Act.put, List.setIfInBounds_toArray, List.set_cons_zero, List.set_cons_succ]
          refine wpAnyH_take (i := 10) (v := .int .i64 sp) rfl (by kernel_rfl) (by kernel_rfl) (by kernel_rfl) (fun _ _ _ h => h) (Or.inl ⟨by kernel_rfl, by intro w' hSw; have hF := hSw.facts; obtain ⟨s0, s1, s2, s3, s4, s5, s6, s7, s8, s9, s10⟩ := hF; rw [hty] at s1; dsimp only at s0 s1 s2 s3 s4 s5 s6 s7 s8 s9 s10; go_simp⟩) hS ?_
          try simp only [Act.put, List.setIfInBounds_toArray, List.set_cons_zero, List.set_cons_succ]
          refine wpAnyH_take (i := 11) (v := .slice (some ⟨q, off, none⟩) len cap) rfl (by kernel_rfl) (by kernel_rfl) (by kernel_rfl) (fun _ _ _ h => h) (Or.inl ⟨by kernel_rfl, by intro w' hSw; have hF := hSw.facts; obtain ⟨s0, s1, s2, s3, s4, s5, s6, s7, s8, s9, s10⟩ := hF; rw [hty] at s1; dsimp only at s0 s1 s2 s3 s4 s5 s6 s7 s8 s9 s10; go_simp⟩) hS ?_
          try simp only [Act.put, List.setIfInBounds_toArray, List.set_cons_zero, List.set_cons_succ]
          refine wpAnyH_take (i := 12) (v := .int .i64 (k : Nat)) rfl (by kernel_rfl) (by kernel_rfl) (by kernel_rfl) (fun _ _ _ h => h) (Or.inl ⟨by kernel_rfl, by intro w' hSw; have hF := hSw.facts; obtain ⟨s0, s1, s2, s3, s4, s5, s6, s7, s8, s9, s10⟩ := hF; rw [hty] at s1; dsimp only at s0 s1 s2 s3 s4 s5 s6 s7 s8 s9 s10; go_simp⟩) hS ?_
          try simp only [Act.put, List.setIfInBounds_toArray, List.set_cons_zero, List.set_cons_succ]
          refine wpAnyH_take (i := 13) (v := .pointer (some ⟨q, off + k * 11, none⟩)) rfl (by kernel_rfl) (by kernel_rfl) (by kernel_rfl) (fun _ _ _ h => h) (Or.inl ⟨by kernel_rfl, by intro w' hSw; have hF := hSw.facts; obtain ⟨s0, s1, s2, s3, s4, s5, s6, s7, s8, s9, s10⟩ := hF; rw [hty] at s1; dsimp only at s0 s1 s2 s3 s4 s5 s6 s7 s8 s9 s10; go_simp⟩) hS ?_
          try simp only [Act.put, List.setIfInBounds_toArray, List.set_cons_zero, List.set_cons_succ]
          refine wpAnyH_take (i := 14) (v := .pointer (some ⟨q, off + k * 11 + 8, none⟩)) rfl (by kernel_rfl) (by kernel_rfl) (by kernel_rfl) (fun _ _ _ h => h) (Or.inl ⟨by kernel_rfl, by intro w' hSw; have hF := hSw.facts; obtain ⟨s0, s1, s2, s3, s4, s5, s6, s7, s8, s9, s10⟩ := hF; rw [hty] at s1; dsimp only at s0 s1 s2 s3 s4 s5 s6 s7 s8 s9 s10; go_simp⟩) hS ?_
          try simp only [Act.put, List.setIfInBounds_toArray, List.set_cons_zero, List.set_cons_succ]
          refine wpAnyH_take (i := 15) (v := .int .i64 sn) rfl (by kernel_rfl) (by kernel_rfl) (by kernel_rfl) (fun _ _ _ h => h) (Or.inl ⟨by kernel_rfl, by intro w' hSw; have hF := hSw.facts; obtain ⟨s0, s1, s2, s3, s4, s5, s6, s7, s8, s9, s10⟩ := hF; rw [hty] at s1; dsimp only at s0 s1 s2 s3 s4 s5 s6 s7 s8 s9 s10; go_simp⟩) hS ?_
          try simp only [Act.put, List.setIfInBounds_toArray, List.set_cons_zero, List.set_cons_succ]
          refine wpAnyH_ready (rs := [16]) (by kernel_rfl) (by simp) ?_
          refine AllReadyH.cons rfl (fun K hK => ?_) AllReadyH.nil
          go_simp
          go_at_call 13
          refine (hP.out _ (hw.later (Below.refl _ wr).drew)).mono ?_
          rintro e w2 ⟨rfl, hx2, hg2⟩
          have hw2 := (hw.later (Below.refl _ wr).drew).step hx2 hg2
          refine hK.out _ _ ((x.same (W' := wr.drew) rfl).same (hg2.block q (World.block_lt_of_cell? wr _ e0) (by intro e; injection e with e; subst e; obtain ⟨es, ck, hh, _⟩ := hw.sx.own; rw [World.cell?, hh] at e0; cases e0))) (fun hS => ?_)
          clear hK K
          try simp only [Act.put, List.setIfInBounds_toArray, List.set_cons_zero, List.set_cons_succ]
          refine wpAnyH_done (by kernel_rfl) ?_ _
          clear hS
          go_wp2
          go_roundw
          case rel => exact ⟨k + 1, by omega, by go_num, by rw [hnext.out]; exact hw2⟩
          case measure => simp [intOf]; omega
        · have g1 : (sd == 1) = false := by simpa using h1
          have g1' : (sd = 1) = False := by simpa using h1
          rw [if_neg h1] at hnext
          clear h1
          by_cases h2 : sd = 2
          · subst h2
            rw [if_pos rfl] at hnext
            replace hnext := Lib.hid hnext
            have hP := Lib.hid (fun (W : World) (h : Sw w W sb b M) => rem_any sk W h.sx (maxLen_of hsk))
            generalize (if (getM M sk).isSome then (0 : Int) else 5) = z at *
            generalize remM M sk = N at *
            have e1 := x.c1
            dsimp only at e1
            generalize tx sk = ts at *
            go_wp2_with fail
            refine (hP.out _ hw).mono ?_
            rintro e w2 ⟨rfl, hx2, hg2⟩
            have hw2 := hw.step hx2 hg2
            go_wp2
            go_roundw
            case rel => exact ⟨k + 1, by omega, by go_num, by rw [hnext.out]; exact hw2⟩
            case measure => simp [intOf]; omega
          · have g2 : (sd == 2) = false := by simpa using h2
            have g2' : (sd = 2) = False := by simpa using h2
            rw [if_neg h2] at hnext
            clear h2
            replace hnext := Lib.hid hnext
            go_wp2
            go_roundw
            case rel => exact ⟨k + 1, by omega, by go_num, by rw [hnext.out]; exact hw⟩
            case measure => simp [intOf]; omega
    · obtain rfl : k = len := by omega
      clear hc hall
      go_wp2
      go_ret
      exact ⟨sb, b, rfl, hw, hsb⟩
end Go.Proofs.Ytiahjacjpakkdaa.Sto
