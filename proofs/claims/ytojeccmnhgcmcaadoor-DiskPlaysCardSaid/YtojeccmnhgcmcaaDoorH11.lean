/- DiskNil. -/
import Derived.Test.YtojeccmnhgcmcaaDoorH10
namespace Go.Proofs.YtojeccmnhgcmcaaDoor.Dsk
open Go.RowKit Go.ChangeShapes Go.WideShapes _root_.Go.Proofs.YtojeccmnhgcmcaaDoor.Frame
open _root_.Go.Proofs.YtojeccmnhgcmcaaDoor.Crc (Hv more more_lt ret_u32)
set_option linter.unusedVariables false
set_option linter.unusedSimpArgs false
set_option maxRecDepth 100000

theorem Yes.from {w W : World} {e : Ending} {W' : World} (hb : Below w.heap.size w W) (h : Yes W e W') : Yes w e W' := ⟨h.1, hb.trans (h.2.mono hb.size)⟩
theorem one_sq {w : World} {t : Sq} {a : Option Addr} {n c : Nat} (h : SqW w t) (hv : t.v = .slice a n c) :
    IsSq (w.alloc (.cells #[.int .i64 t.k, .slice a n c, .int .i64 t.x] TP)) (some ⟨w.heap.size, 0, none⟩) 1 1 (fun _ => t) := by
  have hb : Below w.heap.size w (w.alloc (.cells #[.int .i64 t.k, .slice a n c, .int .i64 t.x] TP)) := (Below.refl _ _).alloc (Nat.le_refl _) _
  have B : Blk (w.alloc (.cells #[.int .i64 t.k, .slice a n c, .int .i64 t.x] TP)) w.heap.size [.int .i64 t.k, .slice a n c, .int .i64 t.x] TP := heap_alloc_new w _
  refine ⟨⟨Nat.le_refl _, by decide⟩, fun e => by (cases e), fun _ => ⟨w.heap.size, 0, rfl, by simp, fun i hi => ?_⟩, fun _ => ⟨h.1, h.2.1, (h.2.2.1.late hb).wide (fun k hk => Nat.lt_of_lt_of_le hk hb.size), h.2.2.2⟩⟩
  obtain rfl : i = 0 := by omega
  rw [hv]
  exact ⟨B.cell 0 _ rfl, B.cell 1 _ rfl, B.cell 2 _ rfl⟩
abbrev TPD : TypeId := 25
set_option maxHeartbeats 2000000 in
theorem nil_law (t : Sq) (w : World) (ht : SqW w t) (hH : Hv w) : Calls Tryd.prog 4 #[sqA t] w (Yes w) := by
  obtain ⟨av, cv, hv⟩ := ht.form
  have hs1 := one_sq ht hv
  obtain ⟨tk, tc, tx, tv⟩ := t
  dsimp only at hv hs1
  subst hv
  generalize tc.length = n at *
  obtain ⟨W1, hW1⟩ : ∃ W1, w.alloc (.cells #[.int .i64 tk, .slice av n cv, .int .i64 tx] TP) = W1 := ⟨_, rfl⟩
  have hz1 : W1.heap.size = w.heap.size + 1 := by rw [← hW1]; simp
  have hb1 : Below w.heap.size w W1 := by rw [← hW1]; exact (Below.refl _ _).alloc (Nat.le_refl _) _
  have B1 : Blk W1 w.heap.size [.int .i64 tk, .slice av n cv, .int .i64 tx] TP := by rw [← hW1]; exact heap_alloc_new w _
  have hs2 := one_sq (w := W1) (t := ⟨tk, tc, tx, .slice av n cv⟩) (a := av) (n := n) (c := cv) ⟨ht.1, ht.2.1, (ht.2.2.1.late hb1).wide (fun k hk => Nat.lt_of_lt_of_le hk hb1.size), ht.2.2.2⟩ rfl
  dsimp only at hs2
  rw [hz1] at hs2
  have hb2 : Below W1.heap.size W1 (W1.alloc (.cells #[.int .i64 tk, .slice av n cv, .int .i64 tx] TP)) := (Below.refl _ _).alloc (Nat.le_refl _) _
  have hb12 := hb1.trans (hb2.mono hb1.size)
  have B2 := B1.later hb2
  have HS := Lib.hid (short_any hs2 (Below.refl _ _))
  have hH2 := hH.later hb12
  obtain ⟨W2, hW2⟩ : ∃ W2, W1.alloc (.cells #[.int .i64 tk, .slice av n cv, .int .i64 tx] TP) = W2 := ⟨_, rfl⟩
  rw [hW2] at HS hH2 B2 hb12
  have e0 := B1.cell 0 _ rfl
  have e1 := B1.cell 1 _ rfl
  have e2 := B1.cell 2 _ rfl
  clear hs1 hs2 ht B1 hb2
  replace hb12 := Lib.hid hb12
  replace hH2 := Lib.hid hH2
  go_enter Tryd.func4, Tryd.ntmps4
  go_wp2_with fail
  try rw [hW1]
  try rw [hW2]
  refine HS.out.mono ?_
  rintro e W3 ⟨b, rfl, _, rfl⟩
  have HW := Lib.hid (works_any W2 hH2.out)
  cases b with
  | false =>
    go_wp2_with (go_at_call 12; refine HW.out.mono ?_; rintro e W5 ⟨rfl, hb5⟩)
    go_ret
    exact Yes.from hb12.out ⟨rfl, hb5⟩
  | true =>
    have c1 := B2.cell 1 _ rfl
    have c2 := B2.cell 2 _ rfl
    obtain ⟨q, hq⟩ : ∃ q, W2.heap.size = q := ⟨_, rfl⟩
    obtain ⟨W4, hW4⟩ : ∃ W4, (W2.alloc (.cells #[.slice none 0 0, .int .i64 0, .slice none 0 0, .bool false, .bool false] TD)).alloc (.cells #[.pointer none, .pointer (some ⟨q, 0, none⟩)] TPD) = W4 := ⟨_, rfl⟩
    have hbA : Below W2.heap.size W2 W4 := by rw [← hW4]; exact ((Below.refl _ _).alloc (Nat.le_refl _) _).alloc (by simp) _
    have D4 : Blk W4 q [.slice none 0 0, .int .i64 0, .slice none 0 0, .bool false, .bool false] TD := by
      rw [← hW4, ← hq]
      show _ = _
      rw [Below.heap_alloc _ _ _ (by simp)]
      exact heap_alloc_new W2 _
    have P4 : Blk W4 (q + 1) [.pointer none, .pointer (some ⟨q, 0, none⟩)] TPD := by
      have := heap_alloc_new (W2.alloc (.cells #[.slice none 0 0, .int .i64 0, .slice none 0 0, .bool false, .bool false] TD)) (.cells #[.pointer none, .pointer (some ⟨q, 0, none⟩)] TPD)
      rw [World.size_alloc, hq, hW4] at this
      exact this
    have d1 := (hbA.cell (p := ⟨w.heap.size, 1, none⟩) B2.lt).trans c1
    have d2 := (hbA.cell (p := ⟨w.heap.size, 2, none⟩) B2.lt).trans c2
    have HP : Hid (∀ k : Nat, k < 2 → ∃ p, W4.cell? ⟨q + 1, k, none⟩ = some (.pointer p) ∧ NoD p W4) := Lib.hid fun k hk => by
      rcases (by omega : k = 0 ∨ k = 1) with rfl | rfl
      · exact ⟨none, P4.cell 0 _ rfl, no_nil _⟩
      · exact ⟨some ⟨q, 0, none⟩, P4.cell 1 _ rfl, no_zero _ (D4.cell 4 _ rfl)⟩
    have hb4 := Lib.hid (hb12.out.trans (hbA.mono hb12.out.size))
    have HW4 := Lib.hid (works_any W4 (hH2.out.later hbA))
    clear c1 c2 B2 D4 P4 hbA HW
    clear e0 e1 e2 hW1 hW2
    go_wp2
    try rw [hq]
    try rw [hW4]
    go_loopw [5] (fun i wr => ∃ k : Nat, k ≤ 2 ∧ i = .int .i64 k ∧ W4 = wr) (fun i _ => 2 - nOf i)
    case atStart => exact ⟨0, Nat.zero_le _, rfl, rfl⟩
    case round =>
      obtain ⟨k, hk, rfl, rfl⟩ := hrel
      by_cases hlt : k < 2
      · obtain ⟨p, hp, hN⟩ := HP.out k hlt
        have i1 : decide ((k : Int) < (2 : Int)) = true := by simp; omega
        have N1 := Lib.hid hN.sync
        have N2 := Lib.hid (hN.tear tx)
        have N3 := Lib.hid hN.snap
        have N4 := Lib.hid (hN.app av n cv)
        have N5 := Lib.hid (hN.save av n cv)
        have N6 := Lib.hid hN.records
        have N7 := Lib.hid hN.safe
        have N8 := Lib.hid hN.len
        have N9 := Lib.hid hN.copy
        clear hN HP hW4 hq
        go_wp2_with (first
          | (go_at_call 17; refine N1.out.mono ?_; rintro e W5 ⟨rfl, rfl⟩)
          | (go_at_call 19; refine N2.out.mono ?_; rintro e W5 ⟨rfl, rfl⟩)
          | (go_at_call 25; refine N3.out.mono ?_; rintro e W5 ⟨rfl, rfl⟩)
          | (go_at_call 15; refine N4.out.mono ?_; rintro e W5 ⟨rfl, rfl⟩)
          | (go_at_call 21; refine N5.out.mono ?_; rintro e W5 ⟨rfl, rfl⟩)
          | (go_at_call 32; refine N6.out.mono ?_; rintro e W5 ⟨rfl, rfl⟩)
          | (go_at_call 29; refine N7.out.mono ?_; rintro e W5 ⟨rfl, rfl⟩)
          | (go_at_call 27; refine N8.out.mono ?_; rintro e W5 ⟨rfl, rfl⟩)
          | (go_at_call 23; refine N9.out.mono ?_; rintro e W5 ⟨rfl, rfl⟩))
        go_roundw
        case rel => exact ⟨k + 1, by omega, by go_num, (by trivial)⟩
        case measure => simp [nOf]; omega
      · have hkn : k = 2 := by omega
        subst hkn
        clear HP hW4 hq
        go_wp2_with (go_at_call 12; refine HW4.out.mono ?_; rintro e W5 ⟨rfl, hb5⟩)
        go_ret
        exact Yes.from hb4.out ⟨rfl, hb5⟩
end Go.Proofs.YtojeccmnhgcmcaaDoor.Dsk
