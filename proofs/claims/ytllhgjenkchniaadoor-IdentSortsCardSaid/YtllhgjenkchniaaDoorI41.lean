/- The walk of IdentSorts, from the call on. -/
import Derived.Test.YtllhgjenkchniaaDoorI40
namespace Go.Proofs.YtllhgjenkchniaaDoor.Ident
open Go.RowKit Go.Lib
set_option linter.unusedVariables false
set_option linter.unusedSimpArgs false
set_option maxRecDepth 20000

/-- What one round knows of its number. -/
structure Rn (x : Nat) (A B P : Int) : Prop where
  ok : effOk A B P
  ef : ∀ W, Calls Tryd.prog 34 #[.int .u16 ((x / 256 % 65536 : Nat) : Int), .int .u8 ((x / 16 % 16 : Nat) : Int), .int .u8 ((x % 16 : Nat) : Int)] W fun e w' => e = .returned (.agg #[.int .i64 A, .int .i64 B, .int .i64 P]) ∧ Below W.heap.size W w'
  nm : ∀ W, Hv W → Calls Tryd.prog 26 #[.agg #[.int .i64 A, .int .i64 B, .int .i64 P, .int .i64 0, .bool false, .int .i64 3]] W fun e w' => e = .returned (.tuple #[.int .i64 (nmE A B P), .int .i64 0]) ∧ Below W.heap.size W w'
theorem rn_of (x : Nat) (hx : x < 4294967296) : ∃ A B P, Rn x A B P := by
  refine ⟨_, _, _, ?_, fun W => law_effect _ _ _ (by omega) (by omega) (by omega) W, ?_⟩
  · unfold effOk; omega
  · intro W hW
    have ho : okIt ⟨((1 + x / 256 % 65536 % 9999 : Nat) : Int), ((x / 16 % 16 % 8 : Nat) : Int), ((1 + x % 16 % 3 : Nat) : Int), 0, false, 3⟩ :=
      ⟨(show (1 : Int) ≤ 3 by decide), (show (3 : Int) ≤ 7 by decide), .inl ⟨rfl, rfl, (show effOk ((1 + x / 256 % 65536 % 9999 : Nat) : Int) ((x / 16 % 16 % 8 : Nat) : Int) ((1 + x % 16 % 3 : Nat) : Int) by unfold effOk; omega)⟩⟩
    have h := number_it ⟨((1 + x / 256 % 65536 % 9999 : Nat) : Int), ((x / 16 % 16 % 8 : Nat) : Int), ((1 + x % 16 % 3 : Nat) : Int), 0, false, 3⟩ W hW
    rw [show ckI _ = 0 from if_pos ho] at h
    exact h
set_option maxHeartbeats 8000000 in
theorem sorts_go (a b p c d q : Int) (x y z : Nat) (hx : x < 4294967296) (hy : y < 4294967296) (hz : z < 4294967296) (w : World) (hH : Hv w) :
    Calls Tryd.prog 10 #[.agg #[.int .i64 a, .int .i64 b, .int .i64 p], .agg #[.int .i64 c, .int .i64 d, .int .i64 q], .int .u32 x, .int .u32 y, .int .u32 z] w fun e w' => e = .returned (.bool true) ∧ Below w.heap.size w w' := by
  have O0 := oat_new w a b p c d q
  obtain ⟨k0, k1, k2, k3, k4, k5, _⟩ := O0.cells
  have o1 := fun W => order_any a b p c d q W
  have o2 := fun W => order_any c d q a b p W
  rw [ord3_anti a b p c d q] at o2
  have hr := ord3_rng a b p c d q
  have hq := fun W => eq_e a b p c d q W
  have hz1 : (ordV a b p c d q == 0) = decide (a = c ∧ b = d ∧ p = q) := by rw [Bool.eq_iff_iff, beq_iff_eq, decide_eq_true_iff]; exact ord3_zero
  have hz2 : decide (ordV a b p c d q = 0) = decide (a = c ∧ b = d ∧ p = q) := hz1
  generalize decide (a = c ∧ b = d ∧ p = q) = zb at *
  generalize ordV a b p c d q = k at *
  have d1 : ¬ k < -1 := by omega
  have d2 : ¬ 1 < k := by omega
  have d3 : IntKind.i64.wrap k = k := wr (by omega) (by omega)
  have d4 : IntKind.i64.wrap (-(-k)) = k := by rw [wr (by omega) (by omega)]; omega
  obtain ⟨A0, B0, P0, R0⟩ := rn_of x hx
  obtain ⟨A1, B1, P1, R1⟩ := rn_of y hy
  obtain ⟨A2, B2, P2, R2⟩ := rn_of z hz
  have s0 : IntKind.u16.wrap ((x : Int) / 256) = ((x / 256 % 65536 : Nat) : Int) := by rw [IntKind.wrap_u16]; omega
  have s1 : IntKind.u16.wrap ((y : Int) / 256) = ((y / 256 % 65536 : Nat) : Int) := by rw [IntKind.wrap_u16]; omega
  have s2 : IntKind.u16.wrap ((z : Int) / 256) = ((z / 256 % 65536 : Nat) : Int) := by rw [IntKind.wrap_u16]; omega
  have s3 : IntKind.u8.wrap ((x : Int) / 16 % 16) = ((x / 16 % 16 : Nat) : Int) := by rw [IntKind.wrap_u8']; omega
  have s4 : IntKind.u8.wrap ((y : Int) / 16 % 16) = ((y / 16 % 16 : Nat) : Int) := by rw [IntKind.wrap_u8']; omega
  have s5 : IntKind.u8.wrap ((z : Int) / 16 % 16) = ((z / 16 % 16 : Nat) : Int) := by rw [IntKind.wrap_u8']; omega
  have s6 : IntKind.u8.wrap ((x : Int) % 16) = ((x % 16 : Nat) : Int) := by rw [IntKind.wrap_u8']; omega
  have s7 : IntKind.u8.wrap ((y : Int) % 16) = ((y % 16 : Nat) : Int) := by rw [IntKind.wrap_u8']; omega
  have s8 : IntKind.u8.wrap ((z : Int) % 16) = ((z % 16 : Nat) : Int) := by rw [IntKind.wrap_u8']; omega
  replace o1 := Lib.hid o1
  replace o2 := Lib.hid o2
  replace R0 := Lib.hid R0
  replace R1 := Lib.hid R1
  replace R2 := Lib.hid R2
  replace O0 := Lib.hid O0
  clear hr
  go_enter Tryd.func10, Tryd.ntmps10
  go_wp2_with fail
  refine (o1.out _).mono ?_
  rintro e w1 ⟨rfl, hb1⟩
  have O1 := O0.out.later hb1
  obtain ⟨i0, i1, i2, i3, i4, i5, _⟩ := O1.cells
  clear k0 k1 k2 k3 k4 k5 O0 hb1
  replace O1 := Lib.hid O1
  go_wp2_with fail
  refine (o2.out _).mono ?_
  rintro e w2 ⟨rfl, hb2⟩
  have O2 := O1.out.later hb2
  obtain ⟨k0, k1, k2, k3, k4, k5, _⟩ := O2.cells
  have B0' := Lib.hid O2.bel
  clear i0 i1 i2 i3 i4 i5 O1 hb2 O2
  go_wp2
  have S0 : Sx w w2.heap.size 0 0 0 0 0 0 0 0 0 0 0 0 x y z (((w2.alloc (.cells #[.int .i64 0, .int .i64 0, .int .i64 0, .int .i64 0, .int .i64 0, .int .i64 0, .int .i64 0, .int .i64 0, .int .i64 0] T3E)).alloc (.cells #[.int .i64 0, .int .i64 0, .int .i64 0] T3I)).alloc (.cells #[.int .u32 x, .int .u32 y, .int .u32 z] 50)) := by
    have hs1 : (w2.alloc (.cells #[.int .i64 0, .int .i64 0, .int .i64 0, .int .i64 0, .int .i64 0, .int .i64 0, .int .i64 0, .int .i64 0, .int .i64 0] T3E)).heap.size = w2.heap.size + 1 := by show (w2.heap.push _).size = _; rw [Array.size_push]
    have hs2 : ((w2.alloc (.cells #[.int .i64 0, .int .i64 0, .int .i64 0, .int .i64 0, .int .i64 0, .int .i64 0, .int .i64 0, .int .i64 0, .int .i64 0] T3E)).alloc (.cells #[.int .i64 0, .int .i64 0, .int .i64 0] T3I)).heap.size = w2.heap.size + 1 + 1 := by show ((w2.heap.push _).push _).size = _; rw [Array.size_push, Array.size_push]
    refine ⟨?_, ?_, ?_, below2 (below2 (below2 B0'.out (alloc_b _ _)) (alloc_b _ _)) (alloc_b _ _), B0'.out.size⟩
    · rw [Below.heap_alloc _ _ _ (by omega), Below.heap_alloc _ _ _ (by omega)]; exact heap_alloc_new _ _
    · rw [Below.heap_alloc _ _ _ (by omega), ← hs1]; exact heap_alloc_new _ _
    · rw [← hs2]; exact heap_alloc_new _ _
  obtain ⟨u0, u1, u2⟩ := S0.uc
  refine wp_loop_rounds 4 ?_
  rw [rounds_succ]
  go_wp2_with fail
  refine (R0.out.ef _).mono ?_
  rintro e v0 ⟨rfl, hv0⟩
  have E0 := S0.later hv0
  obtain ⟨i0, i1, i2, i3, i4, i5, i6, i7, i8, ifr⟩ := E0.ec
  have F0 := E0.e0 A0 B0 P0
  clear k0 k1 k2 k3 k4 k5 S0 hv0 E0 u0 u1 u2
  replace F0 := Lib.hid F0
  go_wp2_with fail
  refine (R0.out.nm _ (hH.later F0.out.bel)).mono ?_
  rintro e t0 ⟨rfl, ht0⟩
  have G0 := F0.out.later ht0
  obtain ⟨n0, n1, n2, nfr⟩ := G0.nc
  have S1 := G0.m0 (nmE A0 B0 P0)
  obtain ⟨u0, u1, u2⟩ := S1.uc
  clear i0 i1 i2 i3 i4 i5 i6 i7 i8 ifr F0 ht0 G0
  go_wp2
  clear n0 n1 n2 nfr
  rw [rounds_succ]
  go_wp2_with fail
  refine (R1.out.ef _).mono ?_
  rintro e v1 ⟨rfl, hv1⟩
  have E1 := S1.later hv1
  obtain ⟨i0, i1, i2, i3, i4, i5, i6, i7, i8, ifr⟩ := E1.ec
  have F1 := E1.e1 A1 B1 P1
  clear S1 hv1 E1 u0 u1 u2
  replace F1 := Lib.hid F1
  go_wp2_with fail
  refine (R1.out.nm _ (hH.later F1.out.bel)).mono ?_
  rintro e t1 ⟨rfl, ht1⟩
  have G1 := F1.out.later ht1
  obtain ⟨n0, n1, n2, nfr⟩ := G1.nc
  have S2 := G1.m1 (nmE A1 B1 P1)
  obtain ⟨u0, u1, u2⟩ := S2.uc
  clear i0 i1 i2 i3 i4 i5 i6 i7 i8 ifr F1 ht1 G1
  go_wp2
  clear n0 n1 n2 nfr
  rw [rounds_succ]
  go_wp2_with fail
  refine (R2.out.ef _).mono ?_
  rintro e v2 ⟨rfl, hv2⟩
  have E2 := S2.later hv2
  obtain ⟨i0, i1, i2, i3, i4, i5, i6, i7, i8, ifr⟩ := E2.ec
  have F2 := E2.e2 A2 B2 P2
  clear S2 hv2 E2 u0 u1 u2
  replace F2 := Lib.hid F2
  go_wp2_with fail
  refine (R2.out.nm _ (hH.later F2.out.bel)).mono ?_
  rintro e t2 ⟨rfl, ht2⟩
  have G2 := F2.out.later ht2
  obtain ⟨n0, n1, n2, nfr⟩ := G2.nc
  have S3 := G2.m2 (nmE A2 B2 P2)
  obtain ⟨u0, u1, u2⟩ := S3.uc
  clear i0 i1 i2 i3 i4 i5 i6 i7 i8 ifr F2 ht2 G2
  go_wp2
  clear n0 n1 n2 nfr
  rw [rounds_succ]
  go_wp2
  have T1 := Lib.hid (fun (h1 : ordV A0 B0 P0 A1 B1 P1 ≤ 0) (h2 : ordV A1 B1 P1 A2 B2 P2 ≤ 0) => ord3_tr h1 h2)
  have T2 : Hid (0 ≤ ordV A0 B0 P0 A1 B1 P1 → 0 ≤ ordV A1 B1 P1 A2 B2 P2 → 0 ≤ ordV A0 B0 P0 A2 B2 P2) := by
    intro h1 h2
    have e1 := ord3_anti A0 B0 P0 A1 B1 P1
    have e2 := ord3_anti A1 B1 P1 A2 B2 P2
    have e3 := ord3_anti A0 B0 P0 A2 B2 P2
    have := ord3_tr (a := A2) (b := B2) (p := P2) (x := A1) (y := B1) (z := P1) (u := A0) (v := B0) (t := P0) (by omega) (by omega)
    omega
  have L1 := Lib.hid (nmE_lt R0.out.ok R1.out.ok)
  have L2 := Lib.hid (nmE_lt R1.out.ok R2.out.ok)
  have G1 := Lib.hid (ord3_rng A0 B0 P0 A1 B1 P1)
  have G2 := Lib.hid (ord3_rng A1 B1 P1 A2 B2 P2)
  have HO := Lib.hid (fun a b p x y z W => order_any a b p x y z W)
  have HE : Hid (∀ W, Sx w w2.heap.size A0 B0 P0 A1 B1 P1 A2 B2 P2 (nmE A0 B0 P0) (nmE A1 B1 P1) (nmE A2 B2 P2) x y z W → W.cell? ⟨w2.heap.size, 0, none⟩ = some (.int .i64 A0) ∧ W.cell? ⟨w2.heap.size, 1, none⟩ = some (.int .i64 B0) ∧ W.cell? ⟨w2.heap.size, 2, none⟩ = some (.int .i64 P0) ∧ W.cell? ⟨w2.heap.size, 3, none⟩ = some (.int .i64 A1) ∧ W.cell? ⟨w2.heap.size, 4, none⟩ = some (.int .i64 B1) ∧
    W.cell? ⟨w2.heap.size, 5, none⟩ = some (.int .i64 P1) ∧ W.cell? ⟨w2.heap.size, 6, none⟩ = some (.int .i64 A2) ∧ W.cell? ⟨w2.heap.size, 7, none⟩ = some (.int .i64 B2) ∧ W.cell? ⟨w2.heap.size, 8, none⟩ = some (.int .i64 P2) ∧ Sx w w2.heap.size A0 B0 P0 A1 B1 P1 A2 B2 P2 (nmE A0 B0 P0) (nmE A1 B1 P1) (nmE A2 B2 P2) x y z W) :=
    fun W h => by obtain ⟨c0, c1, c2, c3, c4, c5, c6, c7, c8, _⟩ := h.ec; exact ⟨c0, c1, c2, c3, c4, c5, c6, c7, c8, h⟩
  clear u0 u1 u2 R0 R1 R2 s0 s1 s2 s3 s4 s5 s6 s7 s8 hq hz1 hz2 d1 d2 d3 d4 o1 o2
  have S4 := S3.drew
  replace S3 := Lib.hid S3
  go_region_held3 (fun W => W.cell? ⟨w2.heap.size, 0, none⟩ = some (.int .i64 A0) ∧ W.cell? ⟨w2.heap.size, 1, none⟩ = some (.int .i64 B0) ∧ W.cell? ⟨w2.heap.size, 2, none⟩ = some (.int .i64 P0) ∧ W.cell? ⟨w2.heap.size, 3, none⟩ = some (.int .i64 A1) ∧ W.cell? ⟨w2.heap.size, 4, none⟩ = some (.int .i64 B1) ∧
    W.cell? ⟨w2.heap.size, 5, none⟩ = some (.int .i64 P1) ∧ W.cell? ⟨w2.heap.size, 6, none⟩ = some (.int .i64 A2) ∧ W.cell? ⟨w2.heap.size, 7, none⟩ = some (.int .i64 B2) ∧ W.cell? ⟨w2.heap.size, 8, none⟩ = some (.int .i64 P2) ∧ Sx w w2.heap.size A0 B0 P0 A1 B1 P1 A2 B2 P2 (nmE A0 B0 P0) (nmE A1 B1 P1) (nmE A2 B2 P2) x y z W)
    ((first | exact HE.out _ S4 | exact HE.out _ (by assumption) | assumption))
    ((go_at_call 32; refine (HO.out _ _ _ _ _ _ _).mono ?_; rintro e w9 ⟨rfl, hb9⟩; have hS9 := Sx.later (by assumption) hb9))
  rename Sx w w2.heap.size _ _ _ _ _ _ _ _ _ _ _ _ _ _ _ _ => hF
  obtain ⟨c0, c1, c2, _⟩ := hF.nc
  have hB := Lib.hid hF.bel
  clear hF
  have M1 : decide (nmE A0 B0 P0 < nmE A1 B1 P1) = decide (ordV A0 B0 P0 A1 B1 P1 < 0) := by rw [Bool.eq_iff_iff, decide_eq_true_iff, decide_eq_true_iff]; exact L1.out
  have M2 : decide (nmE A1 B1 P1 < nmE A2 B2 P2) = decide (ordV A1 B1 P1 A2 B2 P2 < 0) := by rw [Bool.eq_iff_iff, decide_eq_true_iff, decide_eq_true_iff]; exact L2.out
  clear L1 L2 HE S3
  generalize ordV A0 B0 P0 A1 B1 P1 = u1 at *
  generalize ordV A1 B1 P1 A2 B2 P2 = u2 at *
  generalize ordV A0 B0 P0 A2 B2 P2 = u3 at *
  generalize nmE A0 B0 P0 = N0 at *
  generalize nmE A1 B1 P1 = N1 at *
  generalize nmE A2 B2 P2 = N2 at *
  replace G1 := G1.out
  replace G2 := G2.out
  rcases G1 with rfl | rfl | rfl
  all_goals
    rcases G2 with rfl | rfl | rfl
    all_goals
      (try (have r1 : ¬ (0 : Int) < u3 := by have := T1.out (by decide) (by decide); omega))
      (try (have r2 : ¬ u3 < (0 : Int) := by have := T2.out (by decide) (by decide); omega))
      go_wp2_with fail
      refine (works_any _ (hH.later hB.out)).mono ?_
      rintro e w10 ⟨rfl, hb10⟩
      have hz10 := below2 hB.out hb10
      go_wp2
      go_ret
      exact ⟨rfl, hz10⟩
theorem w_identSorts (a b p c d q : Int) (x y z : Int) (w : World) (w0 : True) (w1 : True) (w2 : (Lit.int .u32 x).wf = true) (w3 : (Lit.int .u32 y).wf = true) (w4 : (Lit.int .u32 z).wf = true) (hH : Hv w) :
    Calls Tryd.prog 10 #[.agg #[.int .i64 a, .int .i64 b, .int .i64 p], .agg #[.int .i64 c, .int .i64 d, .int .i64 q], .int .u32 x, .int .u32 y, .int .u32 z] w fun e w' => e = .returned (.bool true) ∧ Below w.heap.size w w' := by
  have b0 := bounds_u32 w2
  have b1 := bounds_u32 w3
  have b2 := bounds_u32 w4
  obtain ⟨x, rfl⟩ := Int.eq_ofNat_of_zero_le b0.1
  obtain ⟨y, rfl⟩ := Int.eq_ofNat_of_zero_le b1.1
  obtain ⟨z, rfl⟩ := Int.eq_ofNat_of_zero_le b2.1
  exact sorts_go a b p c d q x y z (by omega) (by omega) (by omega) w hH
end Go.Proofs.YtllhgjenkchniaaDoor.Ident
