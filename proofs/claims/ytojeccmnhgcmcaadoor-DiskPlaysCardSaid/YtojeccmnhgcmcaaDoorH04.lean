/- Save, Snapshot, Copy. -/
import Derived.Test.YtojeccmnhgcmcaaDoorH03
namespace Go.Proofs.YtojeccmnhgcmcaaDoor.Dsk
open Go.RowKit Go.ChangeShapes _root_.Go.Proofs.YtojeccmnhgcmcaaDoor.Frame
open _root_.Go.Proofs.YtojeccmnhgcmcaaDoor.Crc (Hv more more_lt ret_u32)
set_option linter.unusedVariables false
set_option linter.unusedSimpArgs false
set_option maxRecDepth 100000

def savE (c : List Nat) : Nat := if 65536 < c.length then 11 else 0
def savS (m : St) (c : List Nat) : St := if 65536 < c.length then m else ⟨[], 0, c, true⟩
theorem ok_sav {c : List Nat} (h8 : Byt c) (hl : ¬ 65536 < c.length) : OkS ⟨[], 0, c, true⟩ :=
  ⟨fun c hc => absurd hc List.not_mem_nil, fun c hc => absurd hc List.not_mem_nil, Nat.zero_le _, Nat.le_refl _, h8, by show c.length ≤ 65536; omega, fun h => by cases h⟩
theorem ok_savS {m : St} {c : List Nat} (h : OkS m) (h8 : Byt c) : OkS (savS m c) := by
  unfold savS
  split
  · exact h
  · exact ok_sav h8 (by assumption)
set_option maxHeartbeats 1000000 in
theorem save_any {W : World} {d : Nat} {F G : Nat → Prop} {m : St} {v : Value} {c : List Nat} (h : Dx W d F m) (hv : Bs W G v c) (hG : ∀ k, G k → k < W.heap.size) (hcl : c.length ≤ 9223372036854775807) :
    Calls Tryd.prog 21 #[.pointer (some ⟨d, 0, none⟩), v] W fun e W' => e = .returned (.int .i64 (savE c : Nat)) ∧ Did W d F (savS m c) W' := by
  have hV := Lib.hid h.valid
  have h8 := hv.1
  by_cases hl : 65536 < c.length
  · have HE := Lib.hid (show savE c = 11 from if_pos hl)
    have HS := Lib.hid (show savS m c = m from if_pos hl)
    have HD := Lib.hid (Did.none h (Below.refl _ _))
    obtain ⟨_, a, cap, rfl, _⟩ := hv
    have hdl : decide ((65536 : Int) < (c.length : Int)) = true := by simp; omega
    clear h hl
    go_enter Tryd.func21, Tryd.ntmps21
    go_wp2_with (first
      | (go_at_call 39; refine hV.out.mono ?_; rintro e w' ⟨rfl, rfl⟩))
    go_ret
    exact ⟨by rw [HE.out]; rfl, by rw [HS.out]; exact HD.out⟩
  · have HE := Lib.hid (show savE c = 0 from if_neg hl)
    have HS := Lib.hid (show savS m c = ⟨[], 0, c, true⟩ from if_neg hl)
    have HC := Lib.hid (clone_any G v c W hv hG (by omega))
    have hfd := h.fd
    obtain ⟨vw, vs, h1, h2, h3, h4, h5⟩ := h.ex
    obtain ⟨_, a, cap, rfl, _⟩ := hv
    have hdl : decide ((65536 : Int) < (c.length : Int)) = false := by simp; omega
    have hfin : Hid (∀ (W1 : World) v', Below W.heap.size W W1 → W1.ownsRow W.heap.size TB 1 v' c.length (bv c) →
        (Blk W1 d [vw, .int .i64 (safe m : Nat), vs, .bool m.h, .bool true] TD ∧ Did W d F ⟨[], 0, c, true⟩ ((((W1.setCell ⟨d, 2, none⟩ v').setCell ⟨d, 3, none⟩ (.bool true)).setCell ⟨d, 0, none⟩ (.slice none 0 0)).setCell ⟨d, 1, none⟩ (.int .i64 0)))) := Lib.hid (by
      intro W1 v' hb hw
      have B1 := h1.later hb
      have hne := box_ne B1 hw
      have B2 := (((B1.set 2 v').set 3 (.bool true)).set 0 (.slice none 0 0)).set 1 (.int .i64 0)
      have hbk : ∀ k, k ≠ d → ((((W1.setCell ⟨d, 2, none⟩ v').setCell ⟨d, 3, none⟩ (.bool true)).setCell ⟨d, 0, none⟩ (.slice none 0 0)).setCell ⟨d, 1, none⟩ (.int .i64 0)).heap[k]? = W1.heap[k]? := fun k hk =>
        (((Below.heap_setCell _ _ _ k hk).trans (Below.heap_setCell _ _ _ k hk)).trans (Below.heap_setCell _ _ _ k hk)).trans (Below.heap_setCell _ _ _ k hk)
      have hkp : Keeps F W ((((W1.setCell ⟨d, 2, none⟩ v').setCell ⟨d, 3, none⟩ (.bool true)).setCell ⟨d, 0, none⟩ (.slice none 0 0)).setCell ⟨d, 1, none⟩ (.int .i64 0)) :=
        (((((Keeps.of_below (F := F) hb).setCell (p := ⟨d, 2, none⟩) (.inl hfd) _).setCell (p := ⟨d, 3, none⟩) (.inl hfd) _).setCell (p := ⟨d, 0, none⟩) (.inl hfd) _).setCell (p := ⟨d, 1, none⟩) (.inl hfd) _)
      have o2 := rows_base (rows_kept hw fun k e => hbk k fun e2 => hne (by rw [← e2]; exact e)) (Nat.zero_le _)
      refine ⟨B1, ⟨⟨ok_sav h8 hl, ⟨.slice none 0 0, v', B2, ⟨rfl, .inl ⟨rfl, rfl⟩⟩, o2, fun k e => (by cases e), fun k e => .inr ⟨(rows_lt hw k e).1, (rows_lt o2 k e).2⟩⟩, .inl hfd, fun k hk => ?_⟩, hkp⟩⟩
      rcases hk with hk | hk
      · exact Nat.lt_of_lt_of_le (h.lt k hk) hkp.size
      · exact hk.2)
    clear h h1 h2 h3 h4 h5
    go_enter Tryd.func21, Tryd.ntmps21
    go_wp2_with (first
      | (go_at_call 39; refine hV.out.mono ?_; rintro e w' ⟨rfl, rfl⟩)
      | (go_at_call 45; refine HC.out.mono ?_; rintro e W1 ⟨v', rfl, hw, hb⟩; obtain ⟨B1, hD⟩ := hfin.out _ _ hb hw; have c0 := B1.cell 0 _ rfl; have c1 := B1.cell 1 _ rfl; have c2 := B1.cell 2 _ rfl; have c3 := B1.cell 3 _ rfl; have f0 := B1.free 0; have f1 := B1.free 1; have f2 := B1.free 2; have f3 := B1.free 3; obtain ⟨a2, cap2, rfl⟩ := rows_form hw; replace hD := Lib.hid hD; clear hb hw B1))
    go_ret
    exact ⟨by rw [HE.out]; rfl, by rw [HS.out]; exact hD.out⟩
theorem snap_any {W : World} {d : Nat} {F : Nat → Prop} {m : St} (h : Dx W d F m) :
    Calls Tryd.prog 25 #[.pointer (some ⟨d, 0, none⟩)] W fun e W' => ∃ v, e = .returned (.tuple #[v, .bool m.h]) ∧ Mine W' W.heap.size v m.S ∧ Below W.heap.size W W' := by
  have hV := Lib.hid h.valid
  have hok := h.ok
  obtain ⟨vw, vs, h1, h2, h3, h4, h5⟩ := h.ex
  have HC := Lib.hid (fun (W1 : World) (hb : Below W.heap.size W W1) => clone_any _ vs m.S W1 (own_bs (rows_later h3 hb) hok.sb) (fun k e => (rows_lt (rows_later h3 hb) k e).2) (by have := hok.sl; omega))
  have HB := Lib.hid hok.sb
  obtain ⟨a3, cap3, rfl⟩ := rows_form h3
  have HK := Lib.hid (fun (W1 : World) (hb : Below W.heap.size W W1) => (⟨(h1.later hb).cell 2 _ rfl, (h1.later hb).cell 3 _ rfl, hb⟩ : W1.cell? ⟨d, 2, none⟩ = some (.slice a3 m.S.length cap3) ∧ W1.cell? ⟨d, 3, none⟩ = some (.bool m.h) ∧ Below W.heap.size W W1))
  have hB0 := Lib.hid (Below.refl W.heap.size W)
  clear h h1 h2 h3 h4 h5 hok
  generalize m.h = hh at *
  generalize m.S = S at *
  go_enter Tryd.func25, Tryd.ntmps25
  go_wp2_with (first
    | (go_at_call 39; refine hV.out.mono ?_; rintro e w' ⟨rfl, rfl⟩))
  go_region_held3 (fun W1 => W1.cell? ⟨d, 2, none⟩ = some (.slice a3 S.length cap3) ∧ W1.cell? ⟨d, 3, none⟩ = some (.bool hh) ∧ Below W.heap.size W W1)
    ((first | exact HK.out _ hb3.out | exact HK.out _ (hB0.out.drew) | assumption))
    ((first | (go_at_call 45; refine (HC.out _ (by assumption : _ ∧ _ ∧ Below W.heap.size W _).2.2).mono ?_; rintro e W2 ⟨v', rfl, hw, hb2⟩; have hs2 := (by assumption : _ ∧ _ ∧ Below W.heap.size W _).2.2; have hb3 := Lib.hid (hs2.trans (hb2.mono hs2.size)); have hw2 := Lib.hid (rows_base hw hs2.size); clear hb2 hw hs2)))
  obtain ⟨a4, cap4, rfl⟩ := rows_form hw2.out
  go_wp2
  go_ret2
  exact ⟨_, rfl, ⟨hw2.out, HB.out⟩, hb3.out⟩
set_option maxHeartbeats 1000000 in
theorem copy_any {W : World} {d : Nat} {F : Nat → Prop} {m : St} (h : Dx W d F m) :
    Calls Tryd.prog 23 #[.pointer (some ⟨d, 0, none⟩)] W fun e W' => ∃ d', e = .returned (.pointer (some ⟨d', 0, none⟩)) ∧ Dx W' d' (From W.heap.size W') m ∧ Below W.heap.size W W' := by
  have hV := Lib.hid h.valid
  have hok := h.ok
  obtain ⟨vw, vs, h1, h2, h3, h4, h5⟩ := h.ex
  have HC1 := Lib.hid (fun (W1 : World) (hb : Below W.heap.size W W1) => clone_any _ vw (rcs m.L) W1 (own_bs (rows_later h2 hb) (rcs_byt hok.byt)) (fun k e => (rows_lt (rows_later h2 hb) k e).2) (by have := hok.le; rw [rcs_len]; omega))
  have HC2 := Lib.hid (fun (W1 : World) (hb : Below W.heap.size W W1) => clone_any _ vs m.S W1 (own_bs (rows_later h3 hb) hok.sb) (fun k e => (rows_lt (rows_later h3 hb) k e).2) (by have := hok.sl; omega))
  have HB := Lib.hid (fun (W1 : World) (hb : Below W.heap.size W W1) => h1.later hb)
  have hfin : Hid (∀ (W1 W2 : World) v1 v2, W.heap.size + 1 ≤ W1.heap.size → Below W.heap.size W W1 → Blk W1 W.heap.size [vw, .int .i64 (safe m : Nat), vs, .bool m.h, .bool true] TD → W1.ownsRow (W.heap.size + 1) TB 1 v1 (rcs m.L).length (bv (rcs m.L)) →
      Below W1.heap.size (W1.setCell ⟨W.heap.size, 0, none⟩ v1) W2 → W2.ownsRow W1.heap.size TB 1 v2 m.S.length (bv m.S) →
      (W2.cell? ⟨W.heap.size, 2, none⟩ = some vs ∧ W2.frozen? ⟨W.heap.size, 2, none⟩ = false) ∧ Dx (W2.setCell ⟨W.heap.size, 2, none⟩ v2) W.heap.size (From W.heap.size (W2.setCell ⟨W.heap.size, 2, none⟩ v2)) m ∧ Below W.heap.size W (W2.setCell ⟨W.heap.size, 2, none⟩ v2)) := Lib.hid (by
    intro W1 W2 v1 v2 hsz hb B1 o1 hb2 o2
    have hs1 : (W1.setCell ⟨W.heap.size, 0, none⟩ v1).heap.size = W1.heap.size := by simp [World.setCell]
    have B2 := Blk.later (B1.set 0 v1) (by rw [hs1]; exact hb2)
    have hne2 := box_ne B2 o2
    have o1' : W2.ownsRow (W.heap.size + 1) TB 1 v1 (rcs m.L).length (bv (rcs m.L)) := rows_kept o1 fun k e => by
      have := rows_lt o1 k e
      exact (hb2.block k this.2).trans (Below.heap_setCell _ _ _ k (by show k ≠ W.heap.size; omega))
    have hbk := fun k (hk : k ≠ W.heap.size) => Below.heap_setCell W2 ⟨W.heap.size, 2, none⟩ v2 k hk
    have hz : (W2.setCell ⟨W.heap.size, 2, none⟩ v2).heap.size = W2.heap.size := by simp [World.setCell]
    have hs2 : W1.heap.size ≤ W2.heap.size := by have := hb2.size; rw [hs1] at this; exact this
    refine ⟨⟨B2.cell 2 _ rfl, B2.free 2⟩, ⟨hok, ⟨v1, v2, B2.set 2 v2, ?_, ?_, fun k e => ?_, fun k e => ?_⟩, ⟨Nat.le_refl _, by rw [hz]; omega⟩, fun k hk => hk.2⟩, ?_⟩
    · rw [← rcs_len]
      exact rows_base (rows_kept o1' fun k e => hbk k (by have := (rows_lt o1 k e).1; omega)) (Nat.zero_le _)
    · exact rows_base (rows_kept o2 fun k e => hbk k (by have := (rows_lt o2 k e).1; omega)) (Nat.zero_le _)
    · have r1 := rows_lt o1 k e
      exact ⟨⟨by omega, by rw [hz]; omega⟩, fun e2 => by have := (rows_lt o2 k e2).1; omega⟩
    · have r2 := rows_lt o2 k e
      exact ⟨by omega, by rw [hz]; omega⟩
    · exact ((hb.setCell (p := ⟨W.heap.size, 0, none⟩) (Nat.le_refl _) _).trans (hb2.mono (by omega))).setCell (p := ⟨W.heap.size, 2, none⟩) (Nat.le_refl _) _)
  have c0 := h1.cell 0 _ rfl
  have c1 := h1.cell 1 _ rfl
  have c2 := h1.cell 2 _ rfl
  have c3 := h1.cell 3 _ rfl
  have c4 := h1.cell 4 _ rfl
  have hA : Hid (Below W.heap.size W (W.alloc (.cells #[vw, .int .i64 (safe m : Nat), vs, .bool m.h, .bool true] TD))) := Lib.hid ((Below.refl _ _).alloc (Nat.le_refl _) _)
  obtain ⟨aw, capw, rfl⟩ := rows_form h2
  obtain ⟨a3, cap3, rfl⟩ := rows_form h3
  clear h h1 h2 h3 h4 h5 hok
  generalize m.h = hh at *
  generalize safe m = s at *
  have c0' := (HB.out _ hA.out).cell 0 _ rfl
  have hbB : Blk (W.alloc (.cells #[.slice aw (tot m.L) capw, .int .i64 (s : Nat), .slice a3 m.S.length cap3, .bool hh, .bool true] TD)) W.heap.size [.slice aw (tot m.L) capw, .int .i64 (s : Nat), .slice a3 m.S.length cap3, .bool hh, .bool true] TD := heap_alloc_new W _
  replace hbB := Lib.hid hbB
  go_enter Tryd.func23, Tryd.ntmps23
  go_wp2_with (first
    | (go_at_call 39; refine hV.out.mono ?_; rintro e w' ⟨rfl, rfl⟩))
  refine (HC1.out _ hA.out).mono ?_
  rintro e W1 ⟨v1, rfl, hw1, hb1⟩
  have B1 := hbB.out.later hb1
  rw [World.size_alloc] at hw1
  have hb1' : Below W.heap.size W W1 := hA.out.trans (hb1.mono (by simp))
  have hsz1 : W.heap.size + 1 ≤ W1.heap.size := by have := hb1.size; rwa [World.size_alloc] at this
  have hb1s : Below W.heap.size W (W1.setCell ⟨W.heap.size, 0, none⟩ v1) := hb1'.setCell (p := ⟨W.heap.size, 0, none⟩) (Nat.le_refl _) _
  have d2 := (HB.out _ hb1s).cell 2 _ rfl
  have g0 := B1.cell 0 _ rfl
  have f0 := B1.free 0
  have HF := fun W2 v2 => hfin.out W1 W2 v1 v2 hsz1 hb1' B1 hw1
  replace HF := Lib.hid HF
  obtain ⟨a5, cap5, rfl⟩ := rows_form hw1
  replace hb1s := Lib.hid hb1s
  clear hb1 hb1' hw1 B1 hfin c0 c0' c1 c2 c3 c4
  go_wp2_with fail
  refine (HC2.out _ hb1s.out).mono ?_
  rintro e W2 ⟨v2, rfl, hw2, hb2⟩
  have hz : (W1.setCell ⟨W.heap.size, 0, none⟩ (.slice a5 (rcs m.L).length cap5)).heap.size = W1.heap.size := by simp [World.setCell]
  rw [hz] at hw2 hb2
  obtain ⟨⟨k2, l2⟩, hD, hbE⟩ := HF.out W2 v2 hb2 hw2
  replace hD := Lib.hid hD
  replace hbE := Lib.hid hbE
  obtain ⟨a6, cap6, rfl⟩ := rows_form hw2
  clear hw2 hb2 hz
  go_wp2
  go_ret
  exact ⟨_, rfl, hD.out, hbE.out⟩
end Go.Proofs.YtojeccmnhgcmcaaDoor.Dsk
