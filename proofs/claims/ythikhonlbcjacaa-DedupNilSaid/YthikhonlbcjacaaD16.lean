/- The walk of DedupNil. -/
import Derived.Test.YthikhonlbcjacaaD15
namespace Go.Proofs.Ythikhonlbcjacaa.Ded
open Go.RowKit Go.Lib Go.Shelf
open Rng (tx tx_of nameOk hasR okR)
open Eff (TE effOk)
set_option linter.unusedVariables false
set_option linter.unusedSimpArgs false
set_option maxRecDepth 100000

theorem eq_rp0 (w : World) : (Op.equalIn 10000 TRp (.agg #[.int .i64 0, .int .i64 0, .string ⟨#[]⟩]) (.agg #[.int .i64 0, .int .i64 0, .string ⟨#[]⟩])).run Try.prog w = .ok true w := by
  simp [go_sem]
/-- What the loop over the two tables needs. -/
structure LAt (w : World) (e : Ef) (zb sb : Nat) (W : World) : Prop where
  box : W.heap[w.heap.size]? = some (eBx e)
  zer : W.heap[zb]? = some (.cells #[.bool false, .int .i64 0, .slice none 0 0] TD (0, 0))
  row : W.heap[sb]? = some (.cells #[.pointer none, .pointer (some ⟨zb, 0, none⟩)] 27 (0, 0))
  bel : Below w.heap.size w W
theorem LAt.later {w W W' : World} {e : Ef} {zb sb : Nat} (h : LAt w e zb sb W) (hb : Below W.heap.size W W') : LAt w e zb sb W' :=
  ⟨(hb.block _ (Array.getElem?_eq_some_iff.1 h.box).1).trans h.box, (hb.block _ (Array.getElem?_eq_some_iff.1 h.zer).1).trans h.zer, (hb.block _ (Array.getElem?_eq_some_iff.1 h.row).1).trans h.row, h.bel.trans (hb.mono h.bel.size)⟩
theorem LAt.cells {w W : World} {e : Ef} {zb sb : Nat} (h : LAt w e zb sb W) : W.cell? ⟨w.heap.size, 0, none⟩ = some (.int .i64 e.s) ∧ W.cell? ⟨w.heap.size, 1, none⟩ = some (.int .i64 e.t) ∧ W.cell? ⟨w.heap.size, 2, none⟩ = some (.int .i64 e.p) :=
  ⟨cell_of_row W _ 0 _ TE _ h.box, cell_of_row W _ 1 _ TE _ h.box, cell_of_row W _ 2 _ TE _ h.box⟩
theorem LAt.at {w W : World} {e : Ef} {zb sb : Nat} (h : LAt w e zb sb W) (k : Nat) (hk : k < 2) : ∃ p, W.cell? ⟨sb, k, none⟩ = some p ∧ Nv p W := by
  rcases (by omega : k = 0 ∨ k = 1) with rfl | rfl
  · exact ⟨_, cell_of_row W _ 0 _ _ _ h.row, .inl rfl⟩
  · exact ⟨_, cell_of_row W _ 1 _ _ _ h.row, .inr ⟨zb, _, _, rfl, h.zer⟩⟩
abbrev xN : En := ⟨0, 0, [], ⟨3, 2, 1⟩, [97]⟩
abbrev yN : En := ⟨0, 0, [], ⟨1, 0, 1⟩, [98]⟩
theorem okN : OkN xN := ⟨by decide, by decide, by decide⟩
theorem okY : OkN yN := ⟨by decide, by decide, by decide⟩
structure NZ (B1 : Nat) (w1 : World) (b1 : Nat) (B2 : Nat) (w2 : World) (b2 : Nat) (xb : Nat) (w : World) (W : World) : Prop where
  d : Wk B1 w1 b1 5 [xN] W
  c : Wk B2 w2 b2 5 [yN, xN] W
  box : W.heap[xb]? = some (eBx ⟨3, 2, 1⟩)
  bel : Below w.heap.size w W
theorem NZ.later {B1 b1 B2 b2 xb : Nat} {w1 w2 w W W' : World} (h : NZ B1 w1 b1 B2 w2 b2 xb w W) (hb : Below W.heap.size W W') : NZ B1 w1 b1 B2 w2 b2 xb w W' :=
  ⟨h.d.later hb, h.c.later hb, (hb.block _ (Array.getElem?_eq_some_iff.1 h.box).1).trans h.box, h.bel.trans (hb.mono h.bel.size)⟩
abbrev S16 (B1 : Nat) (w1 : World) (b1 : Nat) (B2 : Nat) (w2 : World) (b2 : Nat) (xb : Nat) (w : World) (W : World) : Prop :=
  W.cell? ⟨xb, 0, none⟩ = some (.int .i64 3) ∧ W.cell? ⟨xb, 1, none⟩ = some (.int .i64 2) ∧ W.cell? ⟨xb, 2, none⟩ = some (.int .i64 1) ∧ NZ B1 w1 b1 B2 w2 b2 xb w W
theorem NZ.s16 {B1 b1 B2 b2 xb : Nat} {w1 w2 w W : World} (h : NZ B1 w1 b1 B2 w2 b2 xb w W) : S16 B1 w1 b1 B2 w2 b2 xb w W :=
  ⟨cell_of_row W _ 0 _ TE _ h.box, cell_of_row W _ 1 _ TE _ h.box, cell_of_row W _ 2 _ TE _ h.box, h⟩
set_option maxHeartbeats 4000000 in
theorem nil_any (e : Ef) (key : ByteArray) (w : World) : Calls Try.prog 10 #[efA e, .string key] w fun r w' => r = .returned (.bool true) ∧ Below w.heap.size w w' := by
  have hb0 : Below w.heap.size w (w.alloc (.cells #[.int .i64 e.s, .int .i64 e.t, .int .i64 e.p] TE)) := alloc_b _ _
  have HW := Lib.hid works_any
  by_cases hk : key.size ≤ 100
  · have hd : decide (100 < (key.size : Int)) = false := by simp; omega
    rw [← tx_of key] at hd ⊢
    generalize key.data.toList = ky at *
    clear hk key
    have hq := eq_rp0
    have hL0 : LAt w e (w.heap.size + 1) (w.heap.size + 2) (((w.alloc (.cells #[.int .i64 e.s, .int .i64 e.t, .int .i64 e.p] TE)).alloc (.cells #[.bool false, .int .i64 0, .slice none 0 0] TD)).alloc (.cells #[.pointer none, .pointer (some ⟨w.heap.size + 1, 0, none⟩)] 27)) := by
      have h1 := heap_alloc_new (w.alloc (.cells #[.int .i64 e.s, .int .i64 e.t, .int .i64 e.p] TE)) (.cells #[.bool false, .int .i64 0, .slice none 0 0] TD)
      have h2 := heap_alloc_new ((w.alloc (.cells #[.int .i64 e.s, .int .i64 e.t, .int .i64 e.p] TE)).alloc (.cells #[.bool false, .int .i64 0, .slice none 0 0] TD)) (.cells #[.pointer none, .pointer (some ⟨w.heap.size + 1, 0, none⟩)] 27)
      simp only [World.size_alloc] at h1 h2
      refine ⟨?_, ?_, h2, (hb0.alloc (by simp) _).alloc (by simp; omega) _⟩
      · rw [Below.heap_alloc _ _ _ (by simp; omega), Below.heap_alloc _ _ _ (by simp)]
        exact heap_alloc_new _ _
      · rw [Below.heap_alloc _ _ _ (by simp)]
        exact h1
    replace hL0 := Lib.hid hL0
    clear hb0
    go_enter Try.func10, Try.ntmps10
    go_wp2
    go_loopw [28] (fun s28 wr => ∃ k : Nat, s28 = .int .i64 k ∧ k ≤ 2 ∧ Hid (LAt w e (w.heap.size + 1) (w.heap.size + 2) wr)) (fun s28 _ => 2 - (intOf s28).toNat)
    case atStart => exact ⟨0, rfl, by omega, hL0⟩
    case round =>
      obtain ⟨k, rfl, hk2, L1⟩ := hrel
      clear hL0
      by_cases hlt : k < 2
      · obtain ⟨p, cp, hv⟩ := L1.out.at k hlt
        have V1 := Lib.hid hv
        clear hv
        obtain ⟨c0, c1, c2⟩ := L1.out.cells
        go_wp2_with fail
        clear cp
        refine (get_nv e V1.out).mono ?_
        rintro r W1 ⟨rfl, hb⟩
        have hb2 := hb.trans ((alloc_b W1 (.cells #[.int .i64 0, .int .i64 0, .string ⟨#[]⟩] TRp)).mono hb.size)
        have L2 := Lib.hid (L1.out.later hb2)
        have V2 := Lib.hid (V1.out.later hb2)
        have R2 := Lib.hid (heap_alloc_new W1 (.cells #[.int .i64 0, .int .i64 0, .string ⟨#[]⟩] TRp))
        clear c0 c1 c2
        obtain ⟨c0, c1, c2⟩ := (L1.out.later hb).cells
        have hsz : w.heap.size < W1.heap.size := (Array.getElem?_eq_some_iff.1 (L1.out.later hb).box).1
        clear hb hb2 V1 L1
        go_wp2_with fail
        refine (key_nv e V2.out).mono ?_
        rintro r W2 ⟨rfl, hb⟩
        rw [show tx zEn.ky = ⟨#[]⟩ from rfl]
        have hr := (hb.block _ (Array.getElem?_eq_some_iff.1 R2.out).1).trans R2.out
        have R3 := Lib.hid hr
        have L3 := Lib.hid (L2.out.later hb)
        have V3 := Lib.hid (V2.out.later hb)
        clear hb hr V2 L2 R2 c0 c1 c2 hsz
        go_wp2_with fail
        refine (take_nv ⟨[], []⟩ V3.out).mono ?_
        rintro r W3 ⟨rfl, hb⟩
        have hr := (hb.block _ (Array.getElem?_eq_some_iff.1 R3.out).1).trans R3.out
        have R4 := Lib.hid hr
        have L4 := Lib.hid (L3.out.later hb)
        have V4 := Lib.hid (V3.out.later hb)
        clear hb hr V3 L3 R3
        obtain ⟨c0, c1, c2⟩ := L4.out.cells
        go_wp2_with fail
        refine (put_nv ⟨0, 0, [], e, ky⟩ V4.out).mono ?_
        rintro r W4 ⟨rfl, hb⟩
        have hr := (hb.block _ (Array.getElem?_eq_some_iff.1 R4.out).1).trans R4.out
        have q0 := cell_of_row _ _ 0 _ TRp _ hr
        have q1 := cell_of_row _ _ 1 _ TRp _ hr
        have q2 := cell_of_row _ _ 2 _ TRp _ hr
        have L5 := Lib.hid (L4.out.later hb)
        have V5 := Lib.hid (V4.out.later hb)
        clear hb hr V4 L4 R4 c0 c1 c2
        go_wp2_with fail
        clear q0 q1 q2
        refine (all_nv V5.out).mono ?_
        rintro r W5 ⟨rfl, hb⟩
        have L6 := Lib.hid (L5.out.later hb)
        have V6 := Lib.hid (V5.out.later hb)
        clear hb V5 L5
        go_wp2_with fail
        refine (len_nv V6.out).mono ?_
        rintro r W6 ⟨rfl, rfl⟩
        go_wp2_with fail
        refine (room_nv V6.out).mono ?_
        rintro r W7 ⟨rfl, hb⟩
        have L7 := Lib.hid (L6.out.later hb)
        have V7 := Lib.hid (V6.out.later hb)
        clear hb V6 L6
        go_wp2_with fail
        refine (copy_nv V7.out).mono ?_
        rintro r W8 ⟨rfl, hb⟩
        have L8 := Lib.hid (L7.out.later hb)
        clear hb V7 L7
        go_wp2
        go_roundw
        case rel => exact ⟨k + 1, by go_num, by omega, L8⟩
        case measure => simp [intOf]; omega
      · obtain rfl : k = 2 := by omega
        go_wp2_with fail
        have LB := Lib.hid L1.out.bel
        clear L1 hlt hk2 hq
        refine (Wk.new wr 5 (by decide) (by decide)).mono ?_
        rintro r W1 ⟨rfl, h1⟩
        have K1 := Lib.hid (h1.later (alloc_b _ (.cells #[.int .i64 3, .int .i64 2, .int .i64 1] TE)))
        have X1 := Lib.hid (heap_alloc_new W1 (.cells #[.int .i64 3, .int .i64 2, .int .i64 1] TE))
        have hne : W1.heap.size ≠ wr.heap.size := by have := h1.lt; omega
        replace hne := Lib.hid hne
        clear h1
        go_wp2_with fail
        refine (K1.out.put xN okN (by decide) (by decide)).mono ?_
        rintro r W2 ⟨rfl, h2, hfr⟩
        have X2 := Lib.hid (hfr _ _ X1.out hne.out (fun cur hc => by injection hc with _ hc _; exact absurd hc (by decide)))
        rw [show insL [] xN = [xN] by decide] at h2
        have K2 := Lib.hid h2
        clear h2 hfr K1 X1 hne
        go_wp2_with fail
        refine K2.out.all.mono ?_
        rintro r W3 ⟨v3, rfl, hF, hb, h3⟩
        obtain ⟨hfl, ⟨_, h0⟩ | ⟨g, cap, cur, rfl, hgb, hgg, hle, hm, hsz, ht⟩⟩ := hF
        · exact absurd h0 (by decide)
        have c3 : W3.cell? ⟨g, 0, none⟩ = some (.int .i64 3) := by
          have e1 : cur.toList[0]? = some (.int .i64 3) := by
            have : (cur.toList.take (1 * 3))[0]? = some (.int .i64 3) := by rw [show 1 * 3 = (effs [xN]).length * 3 from rfl, ht]; rfl
            simpa using this
          rw [cell_of_row W3 g 0 cur TE _ hgg]
          simpa using e1
        have f3 : W3.frozen? ⟨g, 0, none⟩ = false := by simp [World.frozen?, hgg]
        have hB4 := hb.setCell (p := ⟨g, 0, none⟩) hgb (.int .i64 4)
        have K4 := Lib.hid (K2.out.later hB4)
        have X4 := Lib.hid ((hB4.block _ (Array.getElem?_eq_some_iff.1 X2.out).1).trans X2.out)
        clear hfl hgb hgg hle hm hsz ht hB4 hb h3 K2 X2
        go_wp2_with fail
        clear c3 f3
        refine K4.out.copy.mono ?_
        rintro r W5 ⟨b2, rfl, c5, hb, d5⟩
        have X5 := Lib.hid ((hb.block _ (Array.getElem?_eq_some_iff.1 X4.out).1).trans X4.out)
        have C5 := Lib.hid c5
        have hle4 := Lib.hid ((Array.getElem?_eq_some_iff.1 X4.out).1)
        clear hb d5 c5
        go_wp2_with fail
        refine (C5.out.put yN okY (by decide) (by decide)).mono ?_
        rintro r W6 ⟨rfl, c6, _⟩
        rw [show insL [xN] yN = [yN, xN] by decide] at c6
        have Z := Lib.hid (NZ.mk (w := w) (K4.out.later c6.bel) c6 ((c6.bel.block _ hle4.out).trans X4.out) (LB.out.trans ((K4.out.later c6.bel).bel.mono LB.out.size)))
        clear c6 C5 X5 X4 K4 hle4
        go_wp2_with fail
        generalize W1.heap.size = xb at *
        generalize wr.heap.size = b1 at *
        generalize W3.setCell ⟨g, 0, none⟩ (.int .i64 4) = WB at *
        have HZ := Lib.hid (fun (W W' : World) (h : NZ b1 wr b1 WB.heap.size WB b2 xb w W) (hb : Below W.heap.size W W') => (h.later hb))
        have hS0 : S16 b1 wr b1 WB.heap.size WB b2 xb w W6.drew := (HZ.out _ _ Z.out (Below.refl _ _).drew).s16
        refine wp_region_held_drew (S := (S16 b1 wr b1 WB.heap.size WB b2 xb w)) (by kernel_rfl) (hS0) (fun hS => ?_)
        try simp only [Act.put, List.setIfInBounds_toArray, List.set_cons_zero, List.set_cons_succ]
        refine wpAnyH_take (i := 0) (v := .pointer (some ⟨b1, 0, none⟩)) rfl (by kernel_rfl) (by kernel_rfl) (by kernel_rfl) (fun _ _ _ h => h) (Or.inl ⟨by kernel_rfl, by intro w' hSw; obtain ⟨s0, s1, s2, s3⟩ := hSw; go_simp⟩) hS ?_
        try simp only [Act.put, List.setIfInBounds_toArray, List.set_cons_zero, List.set_cons_succ]
        refine wpAnyH_take (i := 2) (v := efA ⟨3, 2, 1⟩) rfl (by kernel_rfl) (by kernel_rfl) (by kernel_rfl) (fun _ _ _ h => h) (Or.inl ⟨by kernel_rfl, by intro w' hSw; obtain ⟨s0, s1, s2, s3⟩ := hSw; go_simp⟩) hS ?_
        try simp only [Act.put, List.setIfInBounds_toArray, List.set_cons_zero, List.set_cons_succ]
        refine wpAnyH_ready (rs := [1, 3]) (by kernel_rfl) (by simp) ?_
        refine AllReadyH.cons rfl (fun K hK => ?_) (AllReadyH.cons rfl (fun K hK => ?_) AllReadyH.nil)
        · go_simp
          go_at_call 24
          refine hS.2.2.2.d.all.mono ?_
          rintro r W7 ⟨v7, rfl, hF, hb, _⟩
          have F7 := hF.fs
          have S7 := (HZ.out _ _ hS.2.2.2 hb).s16
          clear hF hb
          refine hK.out _ _ S7 (fun hS => ?_)
          clear hK K
          try simp only [Act.put, List.setIfInBounds_toArray, List.set_cons_zero, List.set_cons_succ]
          refine wpAnyH_ready (rs := [3]) (by kernel_rfl) (by simp) ?_
          refine AllReadyH.cons rfl (fun K hK => ?_) AllReadyH.nil
          go_simp
          have G8 := fs_built _ [⟨3, 2, 1⟩] W7.heap.size 1 (heap_alloc_new W7 (.cells (flatE [⟨3, 2, 1⟩]).toArray TE))
          have F8 := F7.later (alloc_b W7 (.cells (flatE [⟨3, 2, 1⟩]).toArray TE))
          have S8 := (HZ.out _ _ S7.2.2.2 (alloc_b W7 (.cells (flatE [⟨3, 2, 1⟩]).toArray TE))).s16
          clear F7 S7
          refine hK.out _ _ S8 (fun hS => ?_)
          clear hK K
          try simp only [Act.put, List.setIfInBounds_toArray, List.set_cons_zero, List.set_cons_succ]
          refine wpAnyH_ready (rs := [4]) (by kernel_rfl) (by simp) ?_
          refine AllReadyH.cons rfl (fun K hK => ?_) AllReadyH.nil
          go_simp
          go_at_call 17
          refine (equal_any _ _ _ _ _ F8 G8 (by decide) (by decide)).mono ?_
          rintro r W9 ⟨rfl, hb⟩
          have S9 := (HZ.out _ _ S8.2.2.2 hb).s16
          rw [show eqF (effs [xN]) [⟨3, 2, 1⟩] = true by decide]
          clear hb S8 F8 G8
          refine hK.out _ _ S9 (fun hS => ?_)
          clear hK K
          try simp only [Act.put, List.setIfInBounds_toArray, List.set_cons_zero, List.set_cons_succ]
          refine wpAnyH_take (i := 5) (v := .bool true) rfl (by kernel_rfl) (by kernel_rfl) (by kernel_rfl) (fun _ _ _ h => h) (Or.inl ⟨by kernel_rfl, by intro w' hSw; obtain ⟨s0, s1, s2, s3⟩ := hSw; go_simp⟩) hS ?_
          try simp only [Act.put, List.setIfInBounds_toArray, List.set_cons_zero, List.set_cons_succ]
          refine wpAnyH_take (i := 6) (v := .pointer (some ⟨b2, 0, none⟩)) rfl (by kernel_rfl) (by kernel_rfl) (by kernel_rfl) (fun _ _ _ h => h) (Or.inl ⟨by kernel_rfl, by intro w' hSw; obtain ⟨s0, s1, s2, s3⟩ := hSw; go_simp⟩) hS ?_
          try simp only [Act.put, List.setIfInBounds_toArray, List.set_cons_zero, List.set_cons_succ]
          refine wpAnyH_ready (rs := [7]) (by kernel_rfl) (by simp) ?_
          refine AllReadyH.cons rfl (fun K hK => ?_) AllReadyH.nil
          go_simp
          go_at_call 29
          refine S9.2.2.2.c.len.mono ?_
          rintro r W10 ⟨rfl, hb, _⟩
          have S10 := (HZ.out _ _ S9.2.2.2 hb).s16
          clear hb S9
          refine hK.out _ _ S10 (fun hS => ?_)
          clear hK K
          try simp only [Act.put, List.setIfInBounds_toArray, List.set_cons_zero, List.set_cons_succ]
          refine wpAnyH_take (i := 8) (v := .bool true) rfl (by kernel_rfl) (by kernel_rfl) (by kernel_rfl) (fun _ _ _ h => h) (Or.inl ⟨by kernel_rfl, by intro w' hSw; obtain ⟨s0, s1, s2, s3⟩ := hSw; go_simp⟩) hS ?_
          try simp only [Act.put, List.setIfInBounds_toArray, List.set_cons_zero, List.set_cons_succ]
          refine wpAnyH_take (i := 9) (v := .bool true) rfl (by kernel_rfl) (by kernel_rfl) (by kernel_rfl) (fun _ _ _ h => h) (Or.inl ⟨by kernel_rfl, by intro w' hSw; obtain ⟨s0, s1, s2, s3⟩ := hSw; go_simp⟩) hS ?_
          try simp only [Act.put, List.setIfInBounds_toArray, List.set_cons_zero, List.set_cons_succ]
          refine wpAnyH_take (i := 10) (v := .bool true) rfl (by kernel_rfl) (by kernel_rfl) (by kernel_rfl) (fun _ _ _ h => h) (Or.inl ⟨by kernel_rfl, by intro w' hSw; obtain ⟨s0, s1, s2, s3⟩ := hSw; go_simp⟩) hS ?_
          try simp only [Act.put, List.setIfInBounds_toArray, List.set_cons_zero, List.set_cons_succ]
          refine wpAnyH_ready (rs := [11]) (by kernel_rfl) (by simp) ?_
          refine AllReadyH.cons rfl (fun K hK => ?_) AllReadyH.nil
          go_simp
          go_at_call 11
          refine (HW.out _).mono ?_
          rintro r W11 ⟨rfl, hb⟩
          have S11 := (HZ.out _ _ S10.2.2.2 hb).s16
          clear hb S10
          refine hK.out _ _ S11 (fun hS => ?_)
          clear hK K
          try simp only [Act.put, List.setIfInBounds_toArray, List.set_cons_zero, List.set_cons_succ]
          refine wpAnyH_take (i := 12) (v := .bool true) rfl (by kernel_rfl) (by kernel_rfl) (by kernel_rfl) (fun _ _ _ h => h) (Or.inl ⟨by kernel_rfl, by intro w' hSw; obtain ⟨s0, s1, s2, s3⟩ := hSw; go_simp⟩) hS ?_
          try simp only [Act.put, List.setIfInBounds_toArray, List.set_cons_zero, List.set_cons_succ]
          refine wpAnyH_ready (rs := [13]) (by kernel_rfl) (by simp) ?_
          refine AllReadyH.cons rfl (fun K hK => ?_) AllReadyH.nil
          go_simp
          refine hK.out _ _ S11 (fun hS => ?_)
          clear hK K
          try simp only [Act.put, List.setIfInBounds_toArray, List.set_cons_zero, List.set_cons_succ]
          refine wpAnyH_done (by kernel_rfl) ?_ _
          clear hS
          go_wp2
          go_ret
          exact ⟨rfl, S11.2.2.2.bel⟩

        · go_simp
          have G7 := fs_built _ [⟨3, 2, 1⟩] W6.heap.size 1 (show (W6.drew.alloc (.cells (flatE [⟨3, 2, 1⟩]).toArray TE)).heap[W6.heap.size]? = _ from heap_alloc_new W6.drew _)
          have S6 := (HZ.out _ _ hS.2.2.2 (alloc_b W6.drew (.cells (flatE [⟨3, 2, 1⟩]).toArray TE))).s16
          refine hK.out _ _ S6 (fun hS => ?_)
          clear hK K
          try simp only [Act.put, List.setIfInBounds_toArray, List.set_cons_zero, List.set_cons_succ]
          refine wpAnyH_ready (rs := [1]) (by kernel_rfl) (by simp) ?_
          refine AllReadyH.cons rfl (fun K hK => ?_) AllReadyH.nil
          go_simp
          go_at_call 24
          refine hS.2.2.2.d.all.mono ?_
          rintro r W7 ⟨v7, rfl, hF, hb, _⟩
          have F8 := hF.fs
          have G8 := G7.later hb
          have S8 := (HZ.out _ _ hS.2.2.2 hb).s16
          clear hF hb G7 S6
          refine hK.out _ _ S8 (fun hS => ?_)
          clear hK K
          try simp only [Act.put, List.setIfInBounds_toArray, List.set_cons_zero, List.set_cons_succ]
          refine wpAnyH_ready (rs := [4]) (by kernel_rfl) (by simp) ?_
          refine AllReadyH.cons rfl (fun K hK => ?_) AllReadyH.nil
          go_simp
          go_at_call 17
          refine (equal_any _ _ _ _ _ F8 G8 (by decide) (by decide)).mono ?_
          rintro r W9 ⟨rfl, hb⟩
          have S9 := (HZ.out _ _ S8.2.2.2 hb).s16
          rw [show eqF (effs [xN]) [⟨3, 2, 1⟩] = true by decide]
          clear hb S8 F8 G8
          refine hK.out _ _ S9 (fun hS => ?_)
          clear hK K
          try simp only [Act.put, List.setIfInBounds_toArray, List.set_cons_zero, List.set_cons_succ]
          refine wpAnyH_take (i := 5) (v := .bool true) rfl (by kernel_rfl) (by kernel_rfl) (by kernel_rfl) (fun _ _ _ h => h) (Or.inl ⟨by kernel_rfl, by intro w' hSw; obtain ⟨s0, s1, s2, s3⟩ := hSw; go_simp⟩) hS ?_
          try simp only [Act.put, List.setIfInBounds_toArray, List.set_cons_zero, List.set_cons_succ]
          refine wpAnyH_take (i := 6) (v := .pointer (some ⟨b2, 0, none⟩)) rfl (by kernel_rfl) (by kernel_rfl) (by kernel_rfl) (fun _ _ _ h => h) (Or.inl ⟨by kernel_rfl, by intro w' hSw; obtain ⟨s0, s1, s2, s3⟩ := hSw; go_simp⟩) hS ?_
          try simp only [Act.put, List.setIfInBounds_toArray, List.set_cons_zero, List.set_cons_succ]
          refine wpAnyH_ready (rs := [7]) (by kernel_rfl) (by simp) ?_
          refine AllReadyH.cons rfl (fun K hK => ?_) AllReadyH.nil
          go_simp
          go_at_call 29
          refine S9.2.2.2.c.len.mono ?_
          rintro r W10 ⟨rfl, hb, _⟩
          have S10 := (HZ.out _ _ S9.2.2.2 hb).s16
          clear hb S9
          refine hK.out _ _ S10 (fun hS => ?_)
          clear hK K
          try simp only [Act.put, List.setIfInBounds_toArray, List.set_cons_zero, List.set_cons_succ]
          refine wpAnyH_take (i := 8) (v := .bool true) rfl (by kernel_rfl) (by kernel_rfl) (by kernel_rfl) (fun _ _ _ h => h) (Or.inl ⟨by kernel_rfl, by intro w' hSw; obtain ⟨s0, s1, s2, s3⟩ := hSw; go_simp⟩) hS ?_
          try simp only [Act.put, List.setIfInBounds_toArray, List.set_cons_zero, List.set_cons_succ]
          refine wpAnyH_take (i := 9) (v := .bool true) rfl (by kernel_rfl) (by kernel_rfl) (by kernel_rfl) (fun _ _ _ h => h) (Or.inl ⟨by kernel_rfl, by intro w' hSw; obtain ⟨s0, s1, s2, s3⟩ := hSw; go_simp⟩) hS ?_
          try simp only [Act.put, List.setIfInBounds_toArray, List.set_cons_zero, List.set_cons_succ]
          refine wpAnyH_take (i := 10) (v := .bool true) rfl (by kernel_rfl) (by kernel_rfl) (by kernel_rfl) (fun _ _ _ h => h) (Or.inl ⟨by kernel_rfl, by intro w' hSw; obtain ⟨s0, s1, s2, s3⟩ := hSw; go_simp⟩) hS ?_
          try simp only [Act.put, List.setIfInBounds_toArray, List.set_cons_zero, List.set_cons_succ]
          refine wpAnyH_ready (rs := [11]) (by kernel_rfl) (by simp) ?_
          refine AllReadyH.cons rfl (fun K hK => ?_) AllReadyH.nil
          go_simp
          go_at_call 11
          refine (HW.out _).mono ?_
          rintro r W11 ⟨rfl, hb⟩
          have S11 := (HZ.out _ _ S10.2.2.2 hb).s16
          clear hb S10
          refine hK.out _ _ S11 (fun hS => ?_)
          clear hK K
          try simp only [Act.put, List.setIfInBounds_toArray, List.set_cons_zero, List.set_cons_succ]
          refine wpAnyH_take (i := 12) (v := .bool true) rfl (by kernel_rfl) (by kernel_rfl) (by kernel_rfl) (fun _ _ _ h => h) (Or.inl ⟨by kernel_rfl, by intro w' hSw; obtain ⟨s0, s1, s2, s3⟩ := hSw; go_simp⟩) hS ?_
          try simp only [Act.put, List.setIfInBounds_toArray, List.set_cons_zero, List.set_cons_succ]
          refine wpAnyH_ready (rs := [13]) (by kernel_rfl) (by simp) ?_
          refine AllReadyH.cons rfl (fun K hK => ?_) AllReadyH.nil
          go_simp
          refine hK.out _ _ S11 (fun hS => ?_)
          clear hK K
          try simp only [Act.put, List.setIfInBounds_toArray, List.set_cons_zero, List.set_cons_succ]
          refine wpAnyH_done (by kernel_rfl) ?_ _
          clear hS
          go_wp2
          go_ret
          exact ⟨rfl, S11.2.2.2.bel⟩

  · have hd : decide (100 < (key.size : Int)) = true := by simp; omega
    go_enter Try.func10, Try.ntmps10
    go_wp2_with (go_at_call 11; refine (HW.out _).mono ?_; rintro r w2 ⟨rfl, h2⟩)
    go_ret
    exact ⟨rfl, hb0.trans (h2.mono hb0.size)⟩
theorem nil_law (e : Ef) (key : ByteArray) (w : World) (_ : True) (_ : key.size ≤ maxLen) : Calls Try.prog 10 #[efA e, .string key] w fun r w' => r = .returned (.bool true) ∧ Below w.heap.size w w' := nil_any e key w
end Go.Proofs.Ythikhonlbcjacaa.Ded
