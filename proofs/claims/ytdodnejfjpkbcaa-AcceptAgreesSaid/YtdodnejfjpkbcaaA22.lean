/- A turn of AcceptAgrees: a promise that tells an entry. -/
import Derived.Test.YtdodnejfjpkbcaaA19
namespace Go.Proofs.Ytdodnejfjpkbcaa.Acc
open Go.RowKit Go.Maps Go.Lib
open Bal (TB alloc_b)
set_option linter.unusedVariables false
set_option linter.unusedSimpArgs false
set_option maxRecDepth 100000

set_option maxHeartbeats 8000000 in
theorem turn_P3b (n g cap tb bb off len1 cap1 j TB' TN' : Nat) (P : Nat → Nat × Nat) (σ : Sg) (w wr : World) (x0 x2 x3 x4 x7 x8 x9 x24 x25 x26 x27 x28 x29 x30 x31 x32 x33 x34 x35 x36 x37 x38 x39 x40 x41 x42 x43 x44 x45 x46 x47 x48 x49 x50 x51 x52 x53 x54 x55 x56 x57 x207 x13 x14 x15 x16 x17 x18 x19 x20 x21 x22 x23 x58 x59 x60 x61 x62 x63 x64 x65 x66 x67 x68 x69 x70 x71 x72 x73 x74 x75 x76 x77 x78 x79 x80 x81 x82 x83 x84 x85 x86 x87 x88 x89 x90 x91 x92 x93 x94 x95 x96 x97 x98 x99 x100 x101 x102 x103 x104 x105 x106 x107 x108 x109 x110 x111 x112 x113 x114 x115 x116 x117 x118 x119 x120 x121 x122 x123 x124 x125 x126 x127 x128 x129 x130 x131 x132 x133 x134 x135 x136 x137 x138 x139 x140 x141 x142 x143 x144 x145 x146 x147 x148 x149 x150 x151 x152 x153 x154 x155 x156 x157 x158 x159 x160 x161 x162 x163 x164 x165 x166 x167 x168 x169 x170 x171 x172 x173 x174 x175 x176 x177 x178 x179 x180 x181 x182 x183 x184 x185 x186 x187 x188 x189 x190 x191 x192 x193 x194 x195 x196 x197 x198 x199 x200 x201 x202 x203 x204 x205 x206 : Value) (Q : Exit → Act → World → Prop)
    (hn1 : 1 ≤ n) (hn5 : n ≤ 5) (hInv : Inv n σ) (hA : Ag w n (.slice (some ⟨g, 0, none⟩) n cap) P tb σ wr) (hlt : j < len1) (hl : len1 ≤ 150) (rb : TB' ≤ 255) (rn : TN' ≤ 255)
    (q0 : wr.cell? ⟨bb, off + j * 3, none⟩ = some (.int .u8 (TB' : Nat))) (q1 : wr.cell? ⟨bb, off + j * 3 + 1, none⟩ = some (.int .u8 (TN' : Nat))) (q2 : wr.cell? ⟨bb, off + j * 3 + 2, none⟩ = some (.bool false))
    (hp : (σ.As (TN' % n)).p ≤ TB' % 12 + 1) (hm : maj n (σ.Ts (TB' % 12)).t = false) (ha : ¬ (σ.As (TN' % n)).a = 0)
    (hQ : EndOK Q n g cap tb bb off len1 cap1 j P w x0 x2 x3 x4 x7 x8 x9 x24 x25 x26 x27 x28 x29 x30 x31 x32 x33 x34 x35 x36 x37 x38 x39 x40 x41 x42 x43 x44 x45 x46 x47 x48 x49 x50 x51 x52 x53 x54 x55 x56 x57 x207) :
    Code.wp Try.prog codeB3 Q ⟨#[x0, .slice (some ⟨bb, off, none⟩) len1 cap1, x2, x3, x4, .int .i64 (n : Nat), .slice (some ⟨g, 0, none⟩) n cap, x7, x8, x9, .pointer (some ⟨tb, 0, none⟩), .string σ.ch, .int .i64 (j : Nat), x13, x14, x15, x16, x17, x18, x19, x20, x21, x22, x23, x24, x25, x26, x27, x28, x29, x30, x31, x32, x33, x34, x35, x36, x37, x38, x39, x40, x41, x42, x43, x44, x45, x46, x47, x48, x49, x50, x51, x52, x53, x54, x55, x56, x57, x58, x59, x60, x61, x62, x63, x64, x65, x66, x67, x68, x69, x70, x71, x72, x73, x74, x75, x76, x77, x78, x79, x80, x81, x82, x83, x84, x85, x86, x87, x88, x89, x90, x91, x92, x93, x94, x95, x96, x97, x98, x99, x100, x101, x102, x103, x104, x105, x106, x107, x108, x109, x110, x111, x112, x113, x114, x115, x116, x117, x118, x119, x120, x121, x122, x123, x124, x125, x126, x127, x128, x129, x130, x131, x132, x133, x134, x135, x136, x137, x138, x139, x140, x141, x142, x143, x144, x145, x146, x147, x148, x149, x150, x151, x152, x153, x154, x155, x156, x157, x158, x159, x160, x161, x162, x163, x164, x165, x166, x167, x168, x169, x170, x171, x172, x173, x174, x175, x176, x177, x178, x179, x180, x181, x182, x183, x184, x185, x186, x187, x188, x189, x190, x191, x192, x193, x194, x195, x196, x197, x198, x199, x200, x201, x202, x203, x204, x205, x206, x207], []⟩ wr := by
  obtain ⟨kk, hkk⟩ : ∃ kk, kk = TB' % 12 := ⟨_, rfl⟩
  obtain ⟨at', hat⟩ : ∃ a, a = TN' % n := ⟨_, rfl⟩
  have hk12 : kk < 12 := by omega
  have hatn : at' < n := by rw [hat]; exact Nat.mod_lt _ (by omega)
  have f1 : (TB' : Int).tmod 12 = (kk : Nat) := by rw [hkk]; exact (Int.ofNat_tmod TB' 12).symm
  have f2 : IntKind.u8.wrap (kk : Nat) = (kk : Nat) := by rw [IntKind.wrap_u8]; omega
  have f3 : IntKind.i64.wrap (kk : Nat) = (kk : Nat) := by rw [IntKind.wrap_i64]; omega
  have f4 : (kk : Int).tdiv (n : Nat) = ((kk / n : Nat) : Int) := (Int.ofNat_tdiv kk n).symm
  have f5 : (kk : Int).tmod (n : Nat) = ((kk % n : Nat) : Int) := (Int.ofNat_tmod kk n).symm
  have f6 : (TN' : Int).tmod (n : Nat) = (at' : Nat) := by rw [hat]; exact (Int.ofNat_tmod TN' n).symm
  have f7 : IntKind.i64.wrap (TN' : Nat) = (TN' : Nat) := by rw [IntKind.wrap_i64]; omega
  have g1 : ((kk % n : Nat) : Int) = bM n (kk + 1) := by unfold bM; rw [if_neg (by omega)]; rfl
  have g2 : ((1 + kk / n : Nat) : Int) = bR n (kk + 1) := by unfold bR; rw [if_neg (by omega)]; rfl
  have g3 : kk / n ≤ kk := Nat.div_le_self _ _
  have g4 : kk % n ≤ kk := Nat.mod_le _ _
  generalize hdv : kk / n = dv at *
  have f8 : IntKind.i64.wrap (dv : Nat) = (dv : Nat) := by rw [IntKind.wrap_i64]; omega
  have f9 : IntKind.i64.wrap (1 + (dv : Int)) = bR n (kk + 1) := by rw [← g2, IntKind.wrap_i64]; omega
  have f10 : IntKind.i64.wrap ((kk % n : Nat) : Int) = bM n (kk + 1) := by rw [← g1, IntKind.wrap_i64]; omega
  have f11 : IntKind.i64.wrap (at' : Nat) = (at' : Nat) := by rw [IntKind.wrap_i64]; omega
  rw [g1] at f5 f10
  have f12 : ((n : Int) == 0) = false := by simp; omega
  have f13 : (n == 0) = false := by simp; omega
  have f14 : ¬ (n : Int) = 0 := by omega
  have f15 : ¬ n = 0 := by omega
  have z1 : (0 : Int) ≤ (j : Nat) := by omega
  have z2 : (j : Int) < (len1 : Nat) := by omega
  have z3 : (0 : Int) ≤ (kk : Nat) := by omega
  have z4 : (kk : Int) < 12 := by omega
  have z5 : (0 : Int) ≤ (at' : Nat) := by omega
  have z6 : (at' : Int) < (n : Nat) := by omega
  try rw [← hkk] at hp
  try rw [← hat] at hp
  try rw [← hkk] at hm
  try rw [← hat] at hm
  try rw [← hkk] at ha
  try rw [← hat] at ha
  clear hkk hat hdv g3 g4
  obtain ⟨c0, c1, c2, c3, c4, c5⟩ := hA.cells hk12
  have HQ := Lib.hid (fun (x : Nat) (W : World) (hx : x < 2 ^ n) => quo_any hn1 hn5 hx W)
  generalize hR : bR n (kk + 1) = R at *
  generalize hM : bM n (kk + 1) = M at *
  replace hInv := Lib.hid hInv
  have hA0 := Lib.hid hA
  clear hA g1 g2
  have hq1 : ∀ W, Below wr.heap.size wr W → W.cell? ⟨bb, off + j * 3 + 1, none⟩ = some (.int .u8 (TN' : Nat)) ∧ W.cell? ⟨bb, off + j * 3 + 2, none⟩ = some (.bool false) := fun W hb => by
    have hb0 : bb < wr.heap.size := World.block_lt_of_cell? wr _ q0
    exact ⟨(hb.cell (p := ⟨bb, off + j * 3 + 1, none⟩) hb0).trans q1, (hb.cell (p := ⟨bb, off + j * 3 + 2, none⟩) hb0).trans q2⟩
  replace hq1 := Lib.hid hq1
  clear q1 q2 c0 c1 c2 c3 c4 c5
  replace hq1 : Hid (∀ W, Below wr.heap.size wr W → W.cell? ⟨bb, off + j * 3 + 1, none⟩ = some (.int .u8 (TN' : Nat)) ∧ W.cell? ⟨bb, off + j * 3 + 2, none⟩ = some (.bool false)) := hq1
  simp only [codeB3, blockOf, Try.f5, Option.getD_some, Nat.reduceEqDiff, reduceIte]
  go_wp2
  go_region
  have hb1 := (alloc_b wr (.cells #[.int .i64 R, .int .i64 M] TB)).drew
  have hA1 := hA0.out.later hb1
  have hbx := heap_alloc_new wr (.cells #[.int .i64 R, .int .i64 M] TB)
  change (wr.alloc (.cells #[.int .i64 R, .int .i64 M] TB)).drew.heap[wr.heap.size]? = _ at hbx
  obtain ⟨q1, q2⟩ := hq1.out _ hb1
  generalize (wr.alloc (.cells #[.int .i64 R, .int .i64 M] TB)).drew = W1 at *
  generalize wr.heap.size = qb at *
  obtain ⟨c0, _⟩ := hA1.cells hk12
  replace hA1 := Lib.hid hA1
  replace hbx := Lib.hid hbx
  have hbb1 := World.block_lt_of_cell? W1 _ q1
  have ht := (hInv.out.a2 kk hk12).1
  clear hA0 hq1 hb1
  have hmt : Hid (maj n (σ.Ts kk).t = false) := Lib.hid hm
  replace HQ : Hid (∀ W, Calls Try.prog 33 #[.int .u64 ((σ.Ts kk).t : Nat), .int .i64 (n : Nat)] W fun e W' => e = .returned (.tuple #[.bool false, .int .i64 0]) ∧ Below W.heap.size W W') := Lib.hid (by rw [← hm]; exact fun W => HQ.out _ W ht)
  clear hm
  have hs := (stA_pro hn1 hn5 (x := σ.As at') (hInv.out.a1 at' hatn).2.1 hk12).1 hp
  rw [hR, hM] at hs
  have hTl := Lib.hid (hInv.out.a2 kk hk12)
  have p1 := Quo.pow_in at' (by omega)
  have p2 := bits_or_u64_nat (σ.Ts kk).t (2 ^ at') (by have : 2 ^ n ≤ 2 ^ 5 := Nat.pow_le_pow_right (by omega) hn5; have := hTl.out.1; omega) (Quo.pow_lt at' (by omega))
  have p3 : Hid ((σ.Ts kk).t ||| 2 ^ at' < 2 ^ n) := Lib.hid (or_lt hTl.out.1 hatn)
  obtain ⟨t2, ht2⟩ : ∃ t2, t2 = (σ.Ts kk).t ||| 2 ^ at' := ⟨_, rfl⟩
  rw [← ht2] at p2 p3
  replace ht2 := Lib.hid ht2
  obtain ⟨pw, hpw⟩ : ∃ pw, pw = 2 ^ at' := ⟨_, rfl⟩
  rw [← hpw] at p1 p2
  replace hpw := Lib.hid hpw
  have hM0 : (stA n (σ.As at')).M = [⟨0, bR n (σ.As at').a, bM n (σ.As at').a, (σ.As at').v⟩] := if_neg ha
  rw [hM0] at hs
  as_aux_lemma =>
    go_wp2_with (first | (go_at_call 33; refine (HQ.out _).mono ?_; rintro e W2 ⟨rfl, hb2⟩; have q3 := (hb2.cell (p := ⟨bb, off + j * 3 + 2, none⟩) hbb1).trans q2; have hA2 := hA1.out.later hb2; have hbx2 := (hb2.block _ (Array.getElem?_eq_some_iff.1 hbx.out).1).trans hbx.out))
    have hS2 : W2.drew.cell? ⟨g, at', none⟩ = some (pV (P at').1) ∧ W2.drew.cell? ⟨qb, 0, none⟩ = some (.int .i64 R) ∧ W2.drew.cell? ⟨qb, 1, none⟩ = some (.int .i64 M) :=
      ⟨hA2.drew.nodeAt hn1 hatn, cell_of_row W2 _ 0 _ TB _ hbx2, cell_of_row W2 _ 1 _ TB _ hbx2⟩
    have hPr := Lib.hid ((hA2.drew.acc at' hatn).promise R M 0 hs.1 hs.2.1 hs.2.2)
    go_region_held3 (fun W => W.cell? ⟨g, at', none⟩ = some (pV (P at').1) ∧ W.cell? ⟨qb, 0, none⟩ = some (.int .i64 R) ∧ W.cell? ⟨qb, 1, none⟩ = some (.int .i64 M))
      (first | exact hS2 | exact hS4 | assumption)
      (((go_at_call 16; refine hPr.out.mono ?_; rintro e W4 ⟨v, rfl, hO, hW4, hK4⟩; obtain ⟨va, vc, rfl⟩ := rows_form hO; have hbx4 := blk_kept (hA2.drew.acc at' hatn).ax hbx2 (by decide) hK4; have hA4 := hA2.drew.step hatn ⟨kk + 1, (σ.As at').a, (σ.As at').v⟩ hW4 hK4 σ.ch; have hS4 : W4.cell? ⟨g, at', none⟩ = some (pV (P at').1) ∧ W4.cell? ⟨qb, 0, none⟩ = some (.int .i64 R) ∧ W4.cell? ⟨qb, 1, none⟩ = some (.int .i64 M) := ⟨hA4.nodeAt hn1 hatn, cell_of_row W4 _ 0 _ TB _ hbx4, cell_of_row W4 _ 1 _ TB _ hbx4⟩)))
    obtain ⟨k0, _⟩ := hA4.cells hk12
    have kf := hA4.frozen (kk * 6)
    have hA5 := (hA4.setT hk12 t2).drew
    have hK5 : Keeps (fun k => k = tb) W4 (W4.setCell ⟨tb, kk * 6, none⟩ (.int .u64 (t2 : Nat))).drew := ((Keeps.refl (fun k => k = tb) W4).setCell (p := ⟨tb, kk * 6, none⟩) (.inl rfl) _).drew
    clear hA4
    replace hA5 := Lib.hid hA5
    replace hK5 := Lib.hid hK5
    as_aux_lemma =>
      go_wp2
      go_region
      generalize (W4.setCell ⟨tb, kk * 6, none⟩ (.int .u64 (t2 : Nat))).drew = W5 at *
      obtain ⟨g2, cap2, hv2, hbg2, hlt2, hc2⟩ := hO.cells (by show 0 < 1; omega)
      injection hv2 with hv2 _ _
      subst hv2
      obtain ⟨m0, m1, m2, m3⟩ := hc2 0 _ rfl
      have hne2 : ¬ g2 = tb := by
        have h1 := hA2.tri
        obtain ⟨cs, hcs, _⟩ := h1
        have := (Array.getElem?_eq_some_iff.1 hcs).1
        have h3 : W2.drew.heap.size = W2.heap.size := rfl
        omega
      have hg2e := hK5.out.block g2 hlt2 hne2
      replace m0 := (World.cell?_of_block (w := W4) (a := ⟨g2, 0, none⟩) hg2e).trans m0
      replace m1 := (World.cell?_of_block (w := W4) (a := ⟨g2, 1, none⟩) hg2e).trans m1
      replace m2 := (World.cell?_of_block (w := W4) (a := ⟨g2, 2, none⟩) hg2e).trans m2
      replace m3 := (World.cell?_of_block (w := W4) (a := ⟨g2, 3, none⟩) hg2e).trans m3
      have hg25 : g2 < W5.heap.size := World.block_lt_of_cell? W5 _ m0
      have hA5' := hA5.out
      obtain ⟨_, _, v2, v3, _, _⟩ := hA5'.cells hk12
      simp only [upd_same] at v2 v3
      clear hc2 hO hbg2 hlt2 hA5'
      have hord := ord_lt hn1 hn5 (Nat.le_trans (hInv.out.a1 at' hatn).1 (hInv.out.a1 at' hatn).2.1) (Nat.le_trans hTl.out.2.2.1 (Nat.le_of_lt hk12))
      have HO := Lib.hid (fun W => Bal.order_any (bR n (σ.As at').a) (bM n (σ.As at').a) (bR n (σ.Ts kk).b) (bM n (σ.Ts kk).b) W)
      generalize Bal.ordV (bR n (σ.As at').a) (bM n (σ.As at').a) (bR n (σ.Ts kk).b) (bM n (σ.Ts kk).b) = oc at *
      have hfi : Hid (∀ W, Ag w n (.slice (some ⟨g, 0, none⟩) n cap) P tb ⟨upd σ.As at' ⟨kk + 1, (σ.As at').a, (σ.As at').v⟩, upd σ.Ts kk ⟨t2, (σ.Ts kk).b, (σ.Ts kk).bv, (σ.Ts kk).w⟩, σ.ch⟩ W → ((σ.Ts kk).b < (σ.As at').a → Ag w n (.slice (some ⟨g, 0, none⟩) n cap) P tb (pr2 σ at' kk) ((((W.setCell ⟨tb, kk * 6 + 1, none⟩ (.int .i64 0)).setCell ⟨tb, kk * 6 + 2, none⟩ (.int .i64 (bR n (σ.As at').a))).setCell ⟨tb, kk * 6 + 3, none⟩ (.int .i64 (bM n (σ.As at').a))).setCell ⟨tb, kk * 6 + 4, none⟩ (.string (σ.As at').v))) ∧
          (¬ (σ.Ts kk).b < (σ.As at').a → Ag w n (.slice (some ⟨g, 0, none⟩) n cap) P tb (pr2 σ at' kk) W)) := Lib.hid fun W h => by
        constructor
        · intro hlt
          have h1 := h.setB hk12 (σ.As at').a (σ.As at').v
          unfold pr2
          rw [if_pos hlt, if_pos hlt, ← ht2.out]
          simp only [upd_upd, upd_same] at h1
          exact h1
        · intro hlt
          unfold pr2
          rw [if_neg hlt, if_neg hlt, ← ht2.out]
          exact h
      obtain ⟨ba, hba⟩ : ∃ x, x = bR n (σ.As at').a := ⟨_, rfl⟩
      obtain ⟨ma, hma⟩ : ∃ x, x = bM n (σ.As at').a := ⟨_, rfl⟩
      rw [← hba] at HO hfi m1
      rw [← hma] at HO hfi m2
      generalize bR n (σ.Ts kk).b = bb2 at *
      generalize bM n (σ.Ts kk).b = mb2 at *
      by_cases hlt3 : (σ.Ts kk).b < (σ.As at').a
      · have hoc : 0 < oc := hord.2.2 hlt3
        have hocd : decide (0 < oc) = true := decide_eq_true hoc
        clear hord hba hma
        as_aux_lemma =>
          go_wp2
          go_still_tail 13, (by kernel_rfl)
          change wpList _ _ _ _ _ W5.drew
          as_aux_lemma =>
            go_wp2_with (first | (go_at_call 34; refine (HO.out _).mono ?_; rintro e W6 ⟨rfl, hb6⟩; have r0 := (hb6.cell (p := ⟨g2, 0, none⟩) hg25).trans m0; have r1 := (hb6.cell (p := ⟨g2, 1, none⟩) hg25).trans m1; have r2 := (hb6.cell (p := ⟨g2, 2, none⟩) hg25).trans m2; have r3 := (hb6.cell (p := ⟨g2, 3, none⟩) hg25).trans m3; have hA6 := hA5.out.drew.later hb6; obtain ⟨_, t1', t2', t3', t4', _⟩ := hA6.cells hk12; have s1 := hA6.frozen (kk * 6 + 1); have s2 := hA6.frozen (kk * 6 + 2); have s3 := hA6.frozen (kk * 6 + 3); have s4 := hA6.frozen (kk * 6 + 4)) | (show Q _ _ _; refine ?roundEnd))
            have hA7 := Lib.hid ((hfi.out _ hA6).1 hlt3)
            exact hQ (pr2 σ at' kk) _ (inv_pr2 hn1 hn5 hInv.out hatn hk12 hp hmt.out) (hA7.out) _ _ _ _ _ _ _ _ _ _ _ _ _ _ _ _ _ _ _ _ _ _ _ _ _ _ _ _ _ _ _ _ _ _ _ _ _ _ _ _ _ _ _ _ _ _ _ _ _ _ _ _ _ _ _ _ _ _ _ _ _ _ _ _ _ _ _ _ _ _ _ _ _ _ _ _ _ _ _ _ _ _ _ _ _ _ _ _ _ _ _ _ _ _ _ _ _ _ _ _ _ _ _ _ _ _ _ _ _ _ _ _ _ _ _ _ _ _ _ _ _ _ _ _ _ _ _ _ _ _ _ _ _ _ _ _ _ _ _ _ _ _ _ _ _ _ _ _ _ _ _ _ _ _ _ _ _ _ _ _
      · have hoc : ¬ 0 < oc := fun h => hlt3 (hord.2.1 h)
        have hocd : decide (0 < oc) = false := decide_eq_false hoc
        clear hord hba hma
        as_aux_lemma =>
          go_wp2
          go_still_tail 13, (by kernel_rfl)
          change wpList _ _ _ _ _ W5.drew
          as_aux_lemma =>
            go_wp2_with (first | (go_at_call 34; refine (HO.out _).mono ?_; rintro e W6 ⟨rfl, hb6⟩; have hA6 := hA5.out.drew.later hb6) | (show Q _ _ _; refine ?roundEnd))
            have hA7 := Lib.hid ((hfi.out _ hA6).2 hlt3)
            exact hQ (pr2 σ at' kk) _ (inv_pr2 hn1 hn5 hInv.out hatn hk12 hp hmt.out) (hA7.out) _ _ _ _ _ _ _ _ _ _ _ _ _ _ _ _ _ _ _ _ _ _ _ _ _ _ _ _ _ _ _ _ _ _ _ _ _ _ _ _ _ _ _ _ _ _ _ _ _ _ _ _ _ _ _ _ _ _ _ _ _ _ _ _ _ _ _ _ _ _ _ _ _ _ _ _ _ _ _ _ _ _ _ _ _ _ _ _ _ _ _ _ _ _ _ _ _ _ _ _ _ _ _ _ _ _ _ _ _ _ _ _ _ _ _ _ _ _ _ _ _ _ _ _ _ _ _ _ _ _ _ _ _ _ _ _ _ _ _ _ _ _ _ _ _ _ _ _ _ _ _ _ _ _ _ _ _ _ _ _
end Go.Proofs.Ytdodnejfjpkbcaa.Acc
