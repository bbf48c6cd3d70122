/- Two acceptors of one's own; the walk of AcceptForgets. -/
import Derived.Test.YtpaoaagphacclaaA15
namespace Go.Proofs.Ytpaoaagphacclaa.Acc
open Go.RowKit Go.Maps Go.Lib
open Bal (TB alloc_b)
set_option linter.unusedVariables false
set_option linter.unusedSimpArgs false
set_option maxRecDepth 100000

structure Tw (w : World) (sb mb : Nat) (s : St) (sb' mb' : Nat) (t : St) (W : World) : Prop where
  a : WAt w sb mb s W
  b : WAt w sb' mb' t W
  ne : sb ≠ sb' ∧ mb ≠ mb'
section
variable {w W W' : World} {sb mb sb' mb' : Nat} {s t s' : St}
theorem Tw.later (h : Tw w sb mb s sb' mb' t W) (hb : Below W.heap.size W W') : Tw w sb mb s sb' mb' t W' := ⟨h.a.later hb, h.b.later hb, h.ne⟩
theorem Tw.swap (h : Tw w sb mb s sb' mb' t W) : Tw w sb' mb' t sb mb s W := ⟨h.b, h.a, fun e => h.ne.1 e.symm, fun e => h.ne.2 e.symm⟩
theorem Tw.step (h : Tw w sb mb s sb' mb' t W) (hA : WAt w sb mb s' W') (hK : Keeps (fun k => k = sb ∨ k = mb) W W') : Tw w sb mb s' sb' mb' t W' := by
  obtain ⟨n1, n2⟩ := h.ne
  have hne1 : sb' ≠ mb := by
    intro e
    obtain ⟨es, clock, hb, _⟩ := h.a.ax.own
    have := h.b.ax.box
    rw [e, hb] at this
    cases this
  have hne2 : mb' ≠ sb := by
    intro e
    obtain ⟨es, clock, hb, _⟩ := h.b.ax.own
    rw [e, h.a.ax.box] at hb
    cases hb
  exact ⟨hA, ⟨h.b.ax.kept hK (fun h => h.elim (fun e => n1 e.symm) hne1) (fun h => h.elim hne2 (fun e => n2 e.symm)), hA.bel, h.b.hs, h.b.hm⟩, h.ne⟩
theorem WAt.copy (h : WAt w sb mb s W) : Calls Try.prog 23 #[.pointer (some ⟨sb, 0, none⟩)] W fun e W' => ∃ sb' mb', e = .returned (.pointer (some ⟨sb', 0, none⟩)) ∧ Tw w sb mb s sb' mb' s W' ∧ Below W.heap.size W W' ∧ W.heap.size ≤ sb' ∧ W.heap.size ≤ mb' :=
  (copy_any W h.ax).mono fun e W' ⟨sb', mb', he, h1, h2, hA, hb⟩ => by
    have hlt := h.ax.lt
    exact ⟨sb', mb', he, ⟨h.later hb, ⟨hA, (h.later hb).bel, Nat.le_trans h.bel.size h1, Nat.le_trans h.bel.size h2⟩, by omega, by omega⟩, hb, h1, h2⟩
end
theorem pro_n (s : St) (x y f : Int) : (proS s x y f).n = s.n := by unfold proS; split <;> rfl
theorem acc_n (s : St) (x y k : Int) (v : ByteArray) : (accS s x y k v).n = s.n := by unfold accS; split <;> rfl
theorem for_n (s : St) (u : Int) : (forS s u).n = s.n := by unfold forS; split <;> rfl
theorem step_n (s : St) (t : Sp) : (stepS s t).n = s.n := by
  unfold stepS
  split
  · exact pro_n _ _ _ _
  · split
    · exact acc_n _ _ _ _ _
    · split
      · exact for_n _ _
      · rfl
theorem fill_n (S : Nat → Sp) : ∀ k, (fillS S k).n = 3
  | 0 => rfl
  | k + 1 => (step_n _ _).trans (fill_n S k)
theorem ord_nn {a b x y : Int} : Bal.ordV a b x y < 0 ↔ (a < x ∨ (a = x ∧ b < y)) := by
  unfold Bal.ordV Bal.fdV compareInt
  by_cases h1 : a < x
  · simp [h1]
  · by_cases h2 : x < a
    · simp [h1, h2]; omega
    · have : a = x := by omega
      subst this
      by_cases h3 : b < y
      · simp [h3]
      · by_cases h4 : y < b
        · simp [h3, h4]
        · simp [h3, h4]
theorem for_pos (s : St) {u : Int} (hu : 0 ≤ u ∧ u ≤ 4096) : forS s u = ⟨s.n, s.r, s.m, max s.b u, frM s.M u⟩ := if_pos hu
theorem get_below {s : St} (h : OkS s) {k : Int} (hk : k < s.b) : getM s.M k = none := by
  rw [get_none]
  intro p hp e
  have := (h.ent p hp).1
  omega
set_option maxHeartbeats 4000000 in
theorem forgets_any (a : Option Addr) (len cap : Nat) (S : Nat → Sp) (un : Nat) (w : World) (h : IsSt w a len cap S) (hun : un ≤ 65535) :
    Calls Try.prog 9 #[.slice a len cap, .int .u16 (un : Nat)] w (Yes w) := by
  have HS := Lib.hid (short_any a len cap S w h)
  have HW := Lib.hid (fun W => works_any W)
  cases hsh : shortB S len with
  | false =>
    rw [hsh] at HS
    clear h
    go_enter Try.func9, Try.ntmps9
    go_wp2_with (first
      | (go_at_call 12; refine HS.out.mono ?_; rintro e w1 ⟨rfl, rfl⟩)
      | (go_at_call 13; refine (HW.out _).mono ?_; rintro e w1 ⟨rfl, hb⟩))
    go_ret
    exact ⟨rfl, hb⟩
  | true =>
    rw [hsh] at HS
    have HF := Lib.hid (filled_any a len cap S w w (Below.refl _ _) h (short_len hsh))
    have hn3 := fill_n S len
    obtain ⟨u, hu⟩ : ∃ u : Nat, u = un % 4097 := ⟨_, rfl⟩
    have hu1 : (0 : Int) ≤ (u : Nat) ∧ ((u : Nat) : Int) ≤ 4096 := by omega
    have t1 : (un : Int).tmod 4097 = (u : Nat) := by rw [hu]; exact (Int.ofNat_tmod un 4097).symm
    have t2 : IntKind.i64.wrap (un : Nat) = (un : Nat) := by rw [IntKind.wrap_i64]; omega
    have t3 : IntKind.i64.wrap (u : Nat) = (u : Nat) := by rw [IntKind.wrap_i64]; omega
    generalize fillS S len = s at *
    obtain ⟨sn, sr, sm, sbb, sM⟩ := s
    simp only at hn3
    subst hn3
    obtain ⟨B, hB⟩ : ∃ B, B = max sbb (u : Int) := ⟨_, rfl⟩
    have hmx : max (u : Int) sbb = B := by omega
    have hfs := for_pos ⟨3, sr, sm, sbb, sM⟩ hu1
    simp only [← hB] at hfs
    have hfe : forE (u : Nat) = 0 := if_pos hu1
    have hq := fun W => (Bal.eq_b sr sm sr sm W).trans (by rw [Bal.eqB_t ⟨rfl, rfl⟩])
    have hmx2 : max sbb (u : Int) = B := hB.symm
    replace hB := Lib.hid hB
    clear hu h hsh hun
    go_enter Try.func9, Try.ntmps9
    go_wp2_with (go_at_call 12; refine HS.out.mono ?_; rintro e w1 ⟨rfl, rfl⟩)
    go_at_call 35
    refine HF.out.mono ?_
    rintro e w1 ⟨sb, mb, rfl, hA1⟩
    go_wp2_with fail
    go_at_call 23
    refine hA1.copy.mono ?_
    rintro e w2 ⟨sb', mb', rfl, hT2, _, _, _⟩
    have ok1 := hT2.a.ax.ok
    have ok2 := ok_for ok1 u
    rw [hfs] at ok2
    have hfr0 : frM (frM sM u) 0 = frM sM u := fr_zero ok2
    have hfrB : frM sM B = frM sM u := by
      have h1 : frM sM sbb = sM := fr_all fun p hp => (ok1.ent p hp).1
      rw [hB.out, ← fr_fr, h1]
    have hlen1 : (frM sM u).length ≤ 100000 := Nat.le_trans (fr_len _ _) (Nat.le_trans ok1.len (by omega))
    have hB0 : 0 ≤ B := ok2.hb.1
    have hB1 : B ≤ 4096 := ok2.hb.2
    have hbok := ok1.hp
    have hgn : getM (frM sM u) (B - 1) = none := get_below ok2 (by show B - 1 < B; omega)
    clear hA1 ok1 ok2
    go_wp2_with fail
    go_at_call 21
    refine (hT2.a.forget u hfe hfs).mono ?_
    rintro e w3 ⟨rfl, hA3, hK3⟩
    have hT3 := hT2.step hA3 hK3
    clear hT2 hA3 hK3
    go_wp2_with fail
    go_at_call 29
    refine hT3.a.base.mono ?_
    rintro e w3 ⟨rfl, rfl⟩
    go_wp2_with fail
    go_at_call 29
    refine hT3.b.base.mono ?_
    rintro e w3 ⟨rfl, rfl⟩
    go_wp2_with fail
    go_at_call 31
    refine (hT3.a.list 0 hfr0).mono ?_
    rintro e w4 ⟨v4, rfl, hO4, _, hb4⟩
    have hT4 := hT3.later hb4
    clear hT3
    go_wp2_with fail
    go_at_call 29
    refine hT4.b.base.mono ?_
    rintro e w5 ⟨rfl, rfl⟩
    go_wp2_with fail
    go_at_call 31
    refine (hT4.b.list B hfrB).mono ?_
    rintro e w5 ⟨v5, rfl, hO5, _, hb5⟩
    have hT5 := hT4.later hb5
    clear hT4
    go_wp2_with fail
    go_at_call 37
    refine (entries_any _ _ _ _ w5 (hO4.later hb5).is hO5.is hlen1 hlen1).mono ?_
    rintro e w6 ⟨rfl, hb6⟩
    rw [eqLs_t]
    have hT6 := hT5.later hb6
    clear hT5 hO4 hO5 hb6 hb5 hb4
    go_wp2_with fail
    go_at_call 27
    refine hT6.a.promised.mono ?_
    rintro e w7 ⟨rfl, _, hb7⟩
    have hT7 := hT6.later hb7
    clear hT6 hb7
    go_wp2_with fail
    go_at_call 27
    refine hT7.b.promised.mono ?_
    rintro e w8 ⟨rfl, _, hb8⟩
    have hT8 := hT7.later hb8
    clear hT7 hb8
    go_wp2_with fail
    go_at_call 29
    refine hT8.a.base.mono ?_
    rintro e w9 ⟨rfl, rfl⟩
    by_cases hz : B = 0
    · have hzb : (B == 0) = true := by simpa using hz
      clear hmx hmx2 hB
      go_wp2_with (go_at_call 13; refine (HW.out _).mono ?_; rintro e w1 ⟨rfl, hb⟩)
      go_ret
      exact ⟨rfl, below2 hT8.a.bel hb⟩
    · have hzb : (B == 0) = false := by simpa using hz
      have hwm : IntKind.i64.wrap (B - 1) = B - 1 := by rw [IntKind.wrap_i64]; omega
      have hwf : (Lit.int .i64 (B - 1)).wf = true := wf64 (by omega) (by omega)
      have hacE : accE ⟨3, sr, sm, B, frM sM u⟩ 1073741824 2 (B - 1) ⟨#[118]⟩ = 3 := by
        unfold accE
        have hg : Gd 3 1073741824 2 := by decide
        have hno : ¬ Bal.ordV 1073741824 2 sr sm < 0 := by
          rw [ord_nn]
          rcases hbok with hh | hh
          · obtain ⟨e1, e2⟩ := hh
            replace e1 : sr = 0 := e1
            omega
          · obtain ⟨e1, e2, e3, e4⟩ := hh
            replace e2 : sr ≤ 1073741824 := e2
            replace e4 : sm < 3 := e4
            omega
        rw [if_pos ⟨hg, by omega, by omega⟩, if_neg (by decide), if_neg hno]
        exact if_pos (show B - 1 < B by omega)
      have hacS : accS ⟨3, sr, sm, B, frM sM u⟩ 1073741824 2 (B - 1) ⟨#[118]⟩ = ⟨3, sr, sm, B, frM sM u⟩ := by unfold accS; rw [if_neg (by rw [hacE]; decide)]
      clear hmx hmx2 hB
      go_wp2_with fail
      go_at_call 29
      refine hT8.a.base.mono ?_
      rintro e w9 ⟨rfl, rfl⟩
      go_wp2_with fail
      go_at_call 19
      refine (hT8.a.accept 1073741824 2 (B - 1) ⟨#[118]⟩ hacE hacS).mono ?_
      rintro e w9 ⟨rfl, hA9, hK9⟩
      have hT9 := hT8.step hA9 hK9
      clear hT8 hA9 hK9
      go_wp2_with fail
      go_at_call 29
      refine hT9.a.base.mono ?_
      rintro e w10 ⟨rfl, rfl⟩
      go_wp2_with fail
      go_at_call 25
      refine (hT9.a.accepted (B - 1) hwf hgn).mono ?_
      rintro e w10 ⟨rfl, _, hb10⟩
      have hT10 := (hT9.later hb10).later (alloc_b _ (.cells #[.int .i64 0, .int .i64 0, .int .i64 0, .string ⟨#[]⟩] TE))
      clear hT9 hb10
      go_wp2_with fail
      go_at_call 27
      refine hT10.a.promised.mono ?_
      rintro e w11 ⟨rfl, _, hb11⟩
      have hT11 := hT10.later hb11
      go_wp2_with fail
      go_at_call 27
      refine hT11.b.promised.mono ?_
      rintro e w12 ⟨rfl, _, hb12⟩
      have hT12 := hT11.later hb12
      go_wp2_with (go_at_call 13; refine (HW.out _).mono ?_; rintro e w1 ⟨rfl, hb⟩)
      go_ret
      exact ⟨rfl, below2 hT12.a.bel hb⟩
theorem forgets_law (a : Option Addr) (len cap : Nat) (S : Nat → Sp) (x : Int) (w : World) (h : IsSt w a len cap S) (hx : (Lit.int .u16 x).wf = true) :
    Calls Try.prog 9 #[.slice a len cap, .int .u16 x] w (Yes w) := by
  have hb := bounds_u16 hx
  obtain ⟨n, rfl⟩ := Int.eq_ofNat_of_zero_le hb.1
  exact forgets_any a len cap S n w h (by have := hb.2; omega)
end Go.Proofs.Ytpaoaagphacclaa.Acc
