/- Put: an effect that is there, no room, and a new effect. -/
import Derived.Test.YtbgjiokocjnjhaaD09
namespace Go.Proofs.Ytbgjiokocjnjhaa.Ded
open Go.RowKit Go.Lib Go.Shelf
open Rng (tx nameOk)
open Eff (TE)
set_option linter.unusedVariables false
set_option linter.unusedSimpArgs false
set_option maxRecDepth 100000
variable {base : Nat} {w : World} {b : Nat} {v : Value} {n : Int} {L : List En}

theorem put_have (x y : En) (h : Dx base w b v n L) (hx : OkN x) (hg : getL L x.ef = some y) : Calls Try.prog 19 #[.pointer (some ⟨b, 0, none⟩), efA x.ef, .string (tx x.ky), rpA x] w (Ref 6 w) := by
  have hh : hasB L x.ef = true := by unfold hasB; rw [hg]; rfl
  have Q0 := QAt.new w x
  have D0 := Lib.hid (h.later Q0.bel)
  have HV := Lib.hid (h.later Q0.bel).valid
  have HE := Lib.hid (fun W => Eff.check_any x.ef.s x.ef.t x.ef.p W)
  rw [show Eff.okE x.ef.s x.ef.t x.ef.p = 0 from if_pos hx.1] at HE
  have HN := Lib.hid (fun W => Rng.name_any x.ky W)
  rw [hx.2.1] at HN
  have HR := Lib.hid (fun W => reply_any x.er x.nm x.da W)
  rw [hx.2.2] at HR
  have HP := Lib.hid (fun W (h : Dx base W b v n L) => place_any x.ef h)
  replace Q0 := Lib.hid Q0
  have HS : Hid (∀ (W : World) (r : Ending) (W' : World), Srch L x.ef W r W' → r = .returned (.tuple #[.int .i64 (plc L x.ef), .bool true]) ∧ Below W.heap.size W W') := Lib.hid fun W r W' h => by unfold Srch at h; rwa [hh] at h
  clear h hx hg hh
  go_enter Try.func19, Try.ntmps19
  go_wp2_with (first
    | (go_at_call 37; refine HV.out.mono ?_; rintro r w2 ⟨rfl, rfl⟩)
    | (go_at_call 50; refine (HE.out _).mono ?_; rintro r w2 ⟨rfl, hb2⟩; have Q1 := Lib.hid (Q0.out.later hb2); have D1 := Lib.hid (D0.out.later hb2); clear hb2; obtain ⟨c0, c1, c2, c3, c4, c5⟩ := Q1.out.cells)
    | (go_at_call 51; refine (HN.out _).mono ?_; rintro r w3 ⟨rfl, hb2⟩; have Q2 := Lib.hid (Q1.out.later hb2); have D2 := Lib.hid (D1.out.later hb2); clear hb2; obtain ⟨d0, d1, d2, d3, d4, d5⟩ := Q2.out.cells)
    | (go_at_call 52; refine (HR.out _).mono ?_; rintro r w4 ⟨rfl, hb2⟩; have Q3 := Lib.hid (Q2.out.later hb2); have D3 := Lib.hid (D2.out.later hb2); clear hb2; obtain ⟨e0, e1, e2, e3, e4, e5⟩ := Q3.out.cells)
    | (go_at_call 53; refine (HP.out _ D3.out).mono ?_; rintro r w5 hr; obtain ⟨rfl, hb2⟩ := HS.out _ _ _ hr; clear hr; have Q4 := Lib.hid (Q3.out.later hb2); have D4 := Lib.hid (D3.out.later hb2); clear hb2; obtain ⟨f0, f1, f2, f3, f4, f5⟩ := Q4.out.cells))
  go_ret
  exact ⟨rfl, Q4.out.bel⟩
theorem put_full (x : En) (h : Dx base w b v n L) (hx : OkN x) (hg : getL L x.ef = none) (hf : (L.length : Int) = n) : Calls Try.prog 19 #[.pointer (some ⟨b, 0, none⟩), efA x.ef, .string (tx x.ky), rpA x] w (Ref 4 w) := by
  have hh : hasB L x.ef = false := by unfold hasB; rw [hg]; rfl
  have Q0 := QAt.new w x
  have D0 := Lib.hid (h.later Q0.bel)
  have HV := Lib.hid (h.later Q0.bel).valid
  have HE := Lib.hid (fun W => Eff.check_any x.ef.s x.ef.t x.ef.p W)
  rw [show Eff.okE x.ef.s x.ef.t x.ef.p = 0 from if_pos hx.1] at HE
  have HN := Lib.hid (fun W => Rng.name_any x.ky W)
  rw [hx.2.1] at HN
  have HR := Lib.hid (fun W => reply_any x.er x.nm x.da W)
  rw [hx.2.2] at HR
  have HP := Lib.hid (fun W (h : Dx base W b v n L) => place_any x.ef h)
  replace Q0 := Lib.hid Q0
  have HS : Hid (∀ (W : World) (r : Ending) (W' : World), Srch L x.ef W r W' → r = .returned (.tuple #[.int .i64 (plc L x.ef), .bool false]) ∧ Below W.heap.size W W') := Lib.hid fun W r W' h => by unfold Srch at h; rwa [hh] at h
  have HRm : Hid (∀ W, Dx base W b v n L → Calls Try.prog 31 #[.pointer (some ⟨b, 0, none⟩)] W fun r w' => r = .returned (.int .i64 0) ∧ Below W.heap.size W w') := Lib.hid fun W h => by have := room_any h; rwa [show n - (L.length : Int) = 0 by omega] at this
  clear h hx hg hh hf
  go_enter Try.func19, Try.ntmps19
  go_wp2_with (first
    | (go_at_call 37; refine HV.out.mono ?_; rintro r w2 ⟨rfl, rfl⟩)
    | (go_at_call 50; refine (HE.out _).mono ?_; rintro r w2 ⟨rfl, hb2⟩; have Q1 := Lib.hid (Q0.out.later hb2); have D1 := Lib.hid (D0.out.later hb2); clear hb2; obtain ⟨c0, c1, c2, c3, c4, c5⟩ := Q1.out.cells)
    | (go_at_call 51; refine (HN.out _).mono ?_; rintro r w3 ⟨rfl, hb2⟩; have Q2 := Lib.hid (Q1.out.later hb2); have D2 := Lib.hid (D1.out.later hb2); clear hb2; obtain ⟨d0, d1, d2, d3, d4, d5⟩ := Q2.out.cells)
    | (go_at_call 52; refine (HR.out _).mono ?_; rintro r w4 ⟨rfl, hb2⟩; have Q3 := Lib.hid (Q2.out.later hb2); have D3 := Lib.hid (D2.out.later hb2); clear hb2; obtain ⟨e0, e1, e2, e3, e4, e5⟩ := Q3.out.cells)
    | (go_at_call 53; refine (HP.out _ D3.out).mono ?_; rintro r w5 hr; obtain ⟨rfl, hb2⟩ := HS.out _ _ _ hr; clear hr; have Q4 := Lib.hid (Q3.out.later hb2); have D4 := Lib.hid (D3.out.later hb2); clear hb2; obtain ⟨f0, f1, f2, f3, f4, f5⟩ := Q4.out.cells)
    | (go_at_call 31; refine (HRm.out _ D4.out).mono ?_; rintro r w6 ⟨rfl, hb2⟩; have Q5 := Lib.hid (Q4.out.later hb2); clear hb2))
  go_ret
  exact ⟨rfl, Q5.out.bel⟩
/-- The table behind a Put that succeeds. -/
def PutOk (base : Nat) (b : Nat) (v : Value) (n : Int) (M : List En) (w : World) (r : Ending) (w' : World) : Prop :=
  ∃ v', r = .returned (.int .i64 0) ∧ Dx base w' b v' n M ∧ But w w' b v ∧ (v'.ownBlock = v.ownBlock ∨ ∃ k, v'.ownBlock = some k ∧ w.heap.size ≤ k)
theorem put_fin {W W5 : World} {v' : Value} {x : En} (h : Dx base W b v n L) (hw : Below w.heap.size w W) (hbw : b < w.heap.size) (hvw : ∀ k, v.ownBlock = some k → k < w.heap.size) (hx : OkN x) (hg : getL L x.ef = none) (hl : (L.length : Int) < n)
    (h1 : Ow base (insL L x) v' W5) (h2 : (W.drew.alloc (.cells (ec x).toArray TN)).grownBy W5 v.ownBlock) (h3 : v'.ownBlock = v.ownBlock ∨ v'.ownBlock = some (W.drew.alloc (.cells (ec x).toArray TN)).heap.size) :
    PutOk base b v n (insL L x) w (.returned (.int .i64 0)) (W5.setCell ⟨b, 2, none⟩ v') := by
  have hsz : (W.drew.alloc (.cells (ec x).toArray TN)).heap.size = W.heap.size + 1 := by rw [World.size_alloc]; rfl
  have hwz := hw.size
  have hbW : b < W.heap.size := h.lt
  have hb5 : W5.heap[b]? = some (.cells #[.bool true, .int .i64 n, v] TD (0, 0)) := by
    rw [h2.block b (by omega) (fun e => h.ne e.symm), Below.heap_alloc _ _ _ (by exact hbW)]
    exact h.blk
  have hne : v'.ownBlock ≠ some b := by
    rcases h3 with e | e
    · rw [e]; exact h.ne
    · rw [e, hsz]
      intro c
      injection c with c
      omega
  have hB : (W5.setCell ⟨b, 2, none⟩ v').heap[b]? = some (.cells #[.bool true, .int .i64 n, v'] TD (0, 0)) := by
    rw [heap_setCell_same W5 b 2 _ TD v' hb5]
    simp
  refine ⟨v', rfl, ⟨hB, h1.kept fun k hk => heap_setCell_other W5 ⟨b, 2, none⟩ k v' (fun e => hne (by rw [hk, e])), hne, h.hb, srt_insL h.srt hg, fun y hy => ?_, ?_, h.max⟩, ⟨?_, ?_, ?_, ?_, fun k hk hkb hkv => ?_⟩, ?_⟩
  · rcases mem_insL.1 hy with rfl | hy
    · exact hx
    · exact h.ok y hy
  · rw [insL_len]; omega
  · exact h2.os.trans hw.os
  · exact h2.tape.trans hw.tape
  · exact h2.output.trans hw.output
  · have := h2.size
    simp only [World.size_setCell]
    omega
  · rw [heap_setCell_other W5 ⟨b, 2, none⟩ k v' hkb, h2.block k (by omega) (fun e => hkv e.symm), Below.heap_alloc _ _ _ (by show k < W.heap.size; omega)]
    exact hw.block k hk
  · rcases h3 with e | e
    · exact .inl e
    · exact .inr ⟨_, e, by omega⟩
abbrev S10 (w : World) (x : En) (W : World) : Prop :=
  W.cell? ⟨w.heap.size, 0, none⟩ = some (.int .i64 x.ef.s) ∧ W.cell? ⟨w.heap.size, 1, none⟩ = some (.int .i64 x.ef.t) ∧ W.cell? ⟨w.heap.size, 2, none⟩ = some (.int .i64 x.ef.p) ∧
    W.cell? ⟨w.heap.size + 1, 0, none⟩ = some (.int .i64 x.er) ∧ W.cell? ⟨w.heap.size + 1, 1, none⟩ = some (.int .i64 x.nm) ∧ W.cell? ⟨w.heap.size + 1, 2, none⟩ = some (.string (tx x.da))
theorem ow_form3 {base : Nat} {L : List En} {v : Value} {w : World} (h : Ow base L v w) : ∃ a m c, v = .slice a m c := by
  obtain ⟨a, c, e⟩ := h.form
  exact ⟨a, _, c, e⟩
theorem s10_grown {w W w7 : World} {x : En} {ob : Option Nat} (h : QAt w x W) (hG : W.grownBy w7 ob) (ho : ∀ k, ob = some k → k < w.heap.size) : S10 w x w7 := by
  have hl := (Array.getElem?_eq_some_iff.1 h.box).1
  have hl2 := (Array.getElem?_eq_some_iff.1 h.rep).1
  have h1 := (hG.block _ hl (fun e => by have := ho _ e.symm; omega)).trans h.box
  have h2 := (hG.block _ hl2 (fun e => by have := ho _ e.symm; omega)).trans h.rep
  exact ⟨cell_of_row _ _ 0 _ TE _ h1, cell_of_row _ _ 1 _ TE _ h1, cell_of_row _ _ 2 _ TE _ h1, cell_of_row _ _ 0 _ TRp _ h2, cell_of_row _ _ 1 _ TRp _ h2, cell_of_row _ _ 2 _ TRp _ h2⟩
theorem dx_grown {W w7 : World} (h : Dx base W b v n L) (hG : W.grownBy w7 v.ownBlock) : w7.cell? ⟨b, 2, none⟩ = some v ∧ w7.frozen? ⟨b, 2, none⟩ = false := by
  have hb := (hG.block b h.lt (fun e => h.ne e.symm)).trans h.blk
  exact ⟨cell_of_row _ _ 2 _ TD _ hb, by simp [World.frozen?, hb]⟩
theorem s10_set {w W : World} {x : En} {b : Nat} {u : Value} (h : S10 w x W) (hb : b < w.heap.size) : S10 w x (W.setCell ⟨b, 2, none⟩ u) := by
  obtain ⟨h1, h2, h3, h4, h5, h6⟩ := h
  have hh : ∀ k o, w.heap.size ≤ k → (W.setCell ⟨b, 2, none⟩ u).cell? ⟨k, o, none⟩ = W.cell? ⟨k, o, none⟩ := fun k o hk => World.cell?_of_block (heap_setCell_other W ⟨b, 2, none⟩ k u (by show k ≠ b; omega))
  exact ⟨(hh _ _ (Nat.le_refl _)).trans h1, (hh _ _ (Nat.le_refl _)).trans h2, (hh _ _ (Nat.le_refl _)).trans h3, (hh _ _ (by omega)).trans h4, (hh _ _ (by omega)).trans h5, (hh _ _ (by omega)).trans h6⟩
set_option maxHeartbeats 4000000 in
theorem put_ok (x : En) (h : Dx base w b v n L) (hbw : base ≤ w.heap.size) (hx : OkN x) (hg : getL L x.ef = none) (hf : (L.length : Int) < n) : Calls Try.prog 19 #[.pointer (some ⟨b, 0, none⟩), efA x.ef, .string (tx x.ky), rpA x] w (PutOk base b v n (insL L x) w) := by
  have hh : hasB L x.ef = false := by unfold hasB; rw [hg]; rfl
  have Q0 := QAt.new w x
  have D0 := Lib.hid (h.later Q0.bel)
  have HV := Lib.hid (h.later Q0.bel).valid
  have HE := Lib.hid (fun W => Eff.check_any x.ef.s x.ef.t x.ef.p W)
  rw [show Eff.okE x.ef.s x.ef.t x.ef.p = 0 from if_pos hx.1] at HE
  have HN := Lib.hid (fun W => Rng.name_any x.ky W)
  rw [hx.2.1] at HN
  have HR := Lib.hid (fun W => reply_any x.er x.nm x.da W)
  rw [hx.2.2] at HR
  have HP := Lib.hid (fun W (h : Dx base W b v n L) => place_any x.ef h)
  replace Q0 := Lib.hid Q0
  have HS : Hid (∀ (W : World) (r : Ending) (W' : World), Srch L x.ef W r W' → r = .returned (.tuple #[.int .i64 (plc L x.ef), .bool false]) ∧ Below W.heap.size W W') := Lib.hid fun W r W' h => by unfold Srch at h; rwa [hh] at h
  have hnz : (n - (L.length : Int) == 0) = false := by simp; omega
  have HRm : Hid (∀ W, Dx base W b v n L → Calls Try.prog 31 #[.pointer (some ⟨b, 0, none⟩)] W fun r w' => r = .returned (.int .i64 (n - L.length)) ∧ Below W.heap.size W w') := Lib.hid fun W h => room_any h
  have HF := Lib.hid (fun (W W5 : World) (v' : Value) (k : Dx base W b v n L) (hw : Below w.heap.size w W) => put_fin (W5 := W5) (v' := v') (x := x) k hw h.lt (fun k e => (h.row.lt k e).2) hx hg hf)
  have HI := Lib.hid (fun (W : World) (k : Dx base W b v n L) (vb : Nat) (hvb : W.heap[vb]? = some (.cells (ec x).toArray TN (0, 0))) (hne : v.ownBlock ≠ some vb) (hB : base ≤ W.heap.size) =>
    ins_any base v L x (plc L x.ef) vb 1 W (plc_le L x.ef) k.row hvb hne (by have := k.small; omega) hB)
  have hvl := Lib.hid h.row.lt
  have hlt := h.lt
  clear h hx hg hh hf
  go_enter Try.func19, Try.ntmps19
  go_wp2_with (first
    | (go_at_call 37; refine HV.out.mono ?_; rintro r w2 ⟨rfl, rfl⟩)
    | (go_at_call 50; refine (HE.out _).mono ?_; rintro r w2 ⟨rfl, hb2⟩; have Q1 := Lib.hid (Q0.out.later hb2); have D1 := Lib.hid (D0.out.later hb2); clear hb2; obtain ⟨c0, c1, c2, c3, c4, c5⟩ := Q1.out.cells)
    | (go_at_call 51; refine (HN.out _).mono ?_; rintro r w3 ⟨rfl, hb2⟩; have Q2 := Lib.hid (Q1.out.later hb2); have D2 := Lib.hid (D1.out.later hb2); clear hb2; obtain ⟨d0, d1, d2, d3, d4, d5⟩ := Q2.out.cells)
    | (go_at_call 52; refine (HR.out _).mono ?_; rintro r w4 ⟨rfl, hb2⟩; have Q3 := Lib.hid (Q2.out.later hb2); have D3 := Lib.hid (D2.out.later hb2); clear hb2; obtain ⟨e0, e1, e2, e3, e4, e5⟩ := Q3.out.cells)
    | (go_at_call 53; refine (HP.out _ D3.out).mono ?_; rintro r w5 hr; obtain ⟨rfl, hb2⟩ := HS.out _ _ _ hr; clear hr; have Q4 := Lib.hid (Q3.out.later hb2); have D4 := Lib.hid (D3.out.later hb2); clear hb2; obtain ⟨f0, f1, f2, f3, f4, f5⟩ := Q4.out.cells)
    | (go_at_call 31; refine (HRm.out _ D4.out).mono ?_; rintro r w6 ⟨rfl, hb2⟩; have Q5 := Lib.hid (Q4.out.later hb2); have D5 := Lib.hid (D4.out.later hb2); clear hb2))
  have hS0 : S10 w x w6.drew := (Q5.out.later (Below.refl _ _).drew).cells
  obtain ⟨g0, g1, g2⟩ := (D5.out.later (Below.refl _ _).drew).cells
  have hfz := (D5.out.later (Below.refl _ _).drew).froz.2.2
  clear g0 g1 hnz
  have hDa : Dx base (w6.alloc (.cells (ec x).toArray TN)).drew b v n L := D5.out.later (alloc_b w6 (.cells (ec x).toArray TN)).drew
  have hQa : QAt w x (w6.alloc (.cells (ec x).toArray TN)).drew := Q5.out.later (alloc_b w6 (.cells (ec x).toArray TN)).drew
  have hNb : (w6.alloc (.cells (ec x).toArray TN)).drew.heap[w6.heap.size]? = some (.cells (ec x).toArray TN (0, 0)) := heap_alloc_new w6 _
  have hS1 := Lib.hid (show S10 w x (w6.drew.alloc (.cells (ec x).toArray TN)) from (Q5.out.later ((Below.refl _ _).drew.alloc (Nat.le_refl _) _)).cells)
  have g3 : w6.cell? ⟨b, 2, none⟩ = some v := D5.out.cells.2.2
  have hbs : b < w6.heap.size := D5.out.lt
  have hw6 : w.heap.size ≤ w6.heap.size := Q5.out.bel.size
  have hB6 : base ≤ (w6.alloc (.cells (ec x).toArray TN)).drew.heap.size := by show base ≤ (w6.alloc _).heap.size; rw [World.size_alloc]; omega
  have hne : v.ownBlock ≠ some w6.heap.size := fun e => by have := (D5.out.row.lt _ e).2; omega
  have HC := Lib.hid (HI.out _ hDa w6.heap.size hNb hne hB6)
  have HE2 := Lib.hid (fun (w7 : World) (v' : Value) (hO : Ow base (insL L x) v' w7) (hG : (w6.alloc (.cells (ec x).toArray TN)).drew.grownBy w7 v.ownBlock) (hv : v'.ownBlock = v.ownBlock ∨ v'.ownBlock = some (w6.alloc (.cells (ec x).toArray TN)).drew.heap.size) => HF.out w6 w7 v' D5.out Q5.out.bel hO hG hv)
  have HS7 := Lib.hid (fun (w7 : World) (hG : (w6.alloc (.cells (ec x).toArray TN)).drew.grownBy w7 v.ownBlock) => s10_grown hQa hG (fun k e => (hvl.out k e).2))
  have HB7 := Lib.hid (fun (w7 : World) (hG : (w6.alloc (.cells (ec x).toArray TN)).drew.grownBy w7 v.ownBlock) => dx_grown hDa hG)
  clear hDa hQa hNb hB6 hne
  refine wp_region_held_drew (S := (S10 w x)) (by kernel_rfl) (hS0) (fun hS => ?_)
  try simp only [Act.put, List.setIfInBounds_toArray, List.set_cons_zero, List.set_cons_succ]
  refine wpAnyH_take (i := 0) (v := .pointer (some ⟨b, 0, none⟩)) rfl (by kernel_rfl) (by kernel_rfl) (by kernel_rfl) (fun _ _ _ h => h) (Or.inl ⟨by kernel_rfl, by intro w' hSw; obtain ⟨s0, s1, s2, s3, s4, s5⟩ := hSw; go_simp⟩) hS ?_
  try simp only [Act.put, List.setIfInBounds_toArray, List.set_cons_zero, List.set_cons_succ]
  refine wpAnyH_take (i := 1) (v := .pointer (some ⟨b, 0, none⟩)) rfl (by kernel_rfl) (by kernel_rfl) (by kernel_rfl) (fun _ _ _ h => h) (Or.inl ⟨by kernel_rfl, by intro w' hSw; obtain ⟨s0, s1, s2, s3, s4, s5⟩ := hSw; go_simp⟩) hS ?_
  try simp only [Act.put, List.setIfInBounds_toArray, List.set_cons_zero, List.set_cons_succ]
  refine wpAnyH_take (i := 2) (v := .pointer (some ⟨b, 0, none⟩)) rfl (by kernel_rfl) (by kernel_rfl) (by kernel_rfl) (fun _ _ _ h => h) (Or.inl ⟨by kernel_rfl, by intro w' hSw; obtain ⟨s0, s1, s2, s3, s4, s5⟩ := hSw; go_simp⟩) hS ?_
  try simp only [Act.put, List.setIfInBounds_toArray, List.set_cons_zero, List.set_cons_succ]
  refine wpAnyH_take (i := 3) (v := .pointer (some ⟨b, 2, none⟩)) rfl (by kernel_rfl) (by kernel_rfl) (by kernel_rfl) (fun _ _ _ h => h) (Or.inl ⟨by kernel_rfl, by intro w' hSw; obtain ⟨s0, s1, s2, s3, s4, s5⟩ := hSw; go_simp⟩) hS ?_
  try simp only [Act.put, List.setIfInBounds_toArray, List.set_cons_zero, List.set_cons_succ]
  refine wpAnyH_take (i := 5) (v := .int .i64 (plc L x.ef)) rfl (by kernel_rfl) (by kernel_rfl) (by kernel_rfl) (fun _ _ _ h => h) (Or.inl ⟨by kernel_rfl, by intro w' hSw; obtain ⟨s0, s1, s2, s3, s4, s5⟩ := hSw; go_simp⟩) hS ?_
  try simp only [Act.put, List.setIfInBounds_toArray, List.set_cons_zero, List.set_cons_succ]
  refine wpAnyH_take (i := 6) (v := rpA x) rfl (by kernel_rfl) (by kernel_rfl) (by kernel_rfl) (fun _ _ _ h => h) (Or.inl ⟨by kernel_rfl, by intro w' hSw; obtain ⟨s0, s1, s2, s3, s4, s5⟩ := hSw; go_simp⟩) hS ?_
  try simp only [Act.put, List.setIfInBounds_toArray, List.set_cons_zero, List.set_cons_succ]
  refine wpAnyH_take (i := 7) (v := efA x.ef) rfl (by kernel_rfl) (by kernel_rfl) (by kernel_rfl) (fun _ _ _ h => h) (Or.inl ⟨by kernel_rfl, by intro w' hSw; obtain ⟨s0, s1, s2, s3, s4, s5⟩ := hSw; go_simp⟩) hS ?_
  try simp only [Act.put, List.setIfInBounds_toArray, List.set_cons_zero, List.set_cons_succ]
  refine wpAnyH_take (i := 8) (v := .string (tx x.ky)) rfl (by kernel_rfl) (by kernel_rfl) (by kernel_rfl) (fun _ _ _ h => h) (Or.inl ⟨by kernel_rfl, by intro w' hSw; obtain ⟨s0, s1, s2, s3, s4, s5⟩ := hSw; go_simp⟩) hS ?_
  try simp only [Act.put, List.setIfInBounds_toArray, List.set_cons_zero, List.set_cons_succ]
  refine wpAnyH_take (i := 9) (v := enA x) rfl (by kernel_rfl) (by kernel_rfl) (by kernel_rfl) (fun _ _ _ h => h) (Or.inl ⟨by kernel_rfl, by intro w' hSw; obtain ⟨s0, s1, s2, s3, s4, s5⟩ := hSw; go_simp⟩) hS ?_
  try simp only [Act.put, List.setIfInBounds_toArray, List.set_cons_zero, List.set_cons_succ]
  refine wpAnyH_ready (rs := [4, 10]) (by kernel_rfl) (by simp) ?_
  refine AllReadyH.cons rfl (fun K hK => ?_) (AllReadyH.cons rfl (fun K hK => ?_) AllReadyH.nil)
  · go_simp
    refine hK.out _ _ hS (fun hS => ?_)
    clear hK K
    try simp only [Act.put, List.setIfInBounds_toArray, List.set_cons_zero, List.set_cons_succ]
    refine wpAnyH_ready (rs := [10]) (by kernel_rfl) (by simp) ?_
    refine AllReadyH.cons rfl (fun K hK => ?_) AllReadyH.nil
    go_simp
    refine hK.out _ _ (hS1.out) (fun hS => ?_)
    clear hK K
    try simp only [Act.put, List.setIfInBounds_toArray, List.set_cons_zero, List.set_cons_succ]
    refine wpAnyH_ready (rs := [11]) (by kernel_rfl) (by simp) ?_
    refine AllReadyH.cons rfl (fun K hK => ?_) AllReadyH.nil
    go_simp
    go_at_call 54
    refine HC.out.mono ?_
    rintro r w7 ⟨v', rfl, hO, hG, hv⟩
    obtain ⟨a7, m7, c7, rfl⟩ := ow_form3 hO
    have hE := Lib.hid (HE2.out w7 _ hO hG hv)
    have hS7 := Lib.hid (HS7.out w7 hG)
    obtain ⟨g7, f7⟩ := HB7.out w7 hG
    clear hO hG hv
    refine hK.out _ _ hS7.out (fun hS => ?_)
    clear hK K
    try simp only [Act.put, List.setIfInBounds_toArray, List.set_cons_zero, List.set_cons_succ]
    refine wpAnyH_ready (rs := [12]) (by kernel_rfl) (by simp) ?_
    refine AllReadyH.cons rfl (fun K hK => ?_) AllReadyH.nil
    go_simp
    refine hK.out _ _ hS7.out (fun hS => ?_)
    clear hK K
    try simp only [Act.put, List.setIfInBounds_toArray, List.set_cons_zero, List.set_cons_succ]
    refine wpAnyH_ready (rs := [13]) (by kernel_rfl) (by simp) ?_
    refine AllReadyH.cons rfl (fun K hK => ?_) AllReadyH.nil
    go_simp
    refine hK.out _ _ hS7.out (fun hS => ?_)
    clear hK K
    try simp only [Act.put, List.setIfInBounds_toArray, List.set_cons_zero, List.set_cons_succ]
    refine wpAnyH_ready (rs := [14]) (by kernel_rfl) (by simp) ?_
    refine AllReadyH.cons rfl (fun K hK => ?_) AllReadyH.nil
    go_simp
    refine hK.out _ _ (s10_set hS7.out hlt) (fun hS => ?_)
    clear hK K
    try simp only [Act.put, List.setIfInBounds_toArray, List.set_cons_zero, List.set_cons_succ]
    refine wpAnyH_done (by kernel_rfl) ?_ _
    clear hS
    go_wp2
    go_ret
    exact hE.out
  · go_simp
    refine hK.out _ _ (hS1.out) (fun hS => ?_)
    clear hK K
    try simp only [Act.put, List.setIfInBounds_toArray, List.set_cons_zero, List.set_cons_succ]
    refine wpAnyH_ready (rs := [4]) (by kernel_rfl) (by simp) ?_
    refine AllReadyH.cons rfl (fun K hK => ?_) AllReadyH.nil
    go_simp
    refine hK.out _ _ hS (fun hS => ?_)
    clear hK K
    try simp only [Act.put, List.setIfInBounds_toArray, List.set_cons_zero, List.set_cons_succ]
    refine wpAnyH_ready (rs := [11]) (by kernel_rfl) (by simp) ?_
    refine AllReadyH.cons rfl (fun K hK => ?_) AllReadyH.nil
    go_simp
    go_at_call 54
    refine HC.out.mono ?_
    rintro r w7 ⟨v', rfl, hO, hG, hv⟩
    obtain ⟨a7, m7, c7, rfl⟩ := ow_form3 hO
    have hE := Lib.hid (HE2.out w7 _ hO hG hv)
    have hS7 := Lib.hid (HS7.out w7 hG)
    obtain ⟨g7, f7⟩ := HB7.out w7 hG
    clear hO hG hv
    refine hK.out _ _ hS7.out (fun hS => ?_)
    clear hK K
    try simp only [Act.put, List.setIfInBounds_toArray, List.set_cons_zero, List.set_cons_succ]
    refine wpAnyH_ready (rs := [12]) (by kernel_rfl) (by simp) ?_
    refine AllReadyH.cons rfl (fun K hK => ?_) AllReadyH.nil
    go_simp
    refine hK.out _ _ hS7.out (fun hS => ?_)
    clear hK K
    try simp only [Act.put, List.setIfInBounds_toArray, List.set_cons_zero, List.set_cons_succ]
    refine wpAnyH_ready (rs := [13]) (by kernel_rfl) (by simp) ?_
    refine AllReadyH.cons rfl (fun K hK => ?_) AllReadyH.nil
    go_simp
    refine hK.out _ _ hS7.out (fun hS => ?_)
    clear hK K
    try simp only [Act.put, List.setIfInBounds_toArray, List.set_cons_zero, List.set_cons_succ]
    refine wpAnyH_ready (rs := [14]) (by kernel_rfl) (by simp) ?_
    refine AllReadyH.cons rfl (fun K hK => ?_) AllReadyH.nil
    go_simp
    refine hK.out _ _ (s10_set hS7.out hlt) (fun hS => ?_)
    clear hK K
    try simp only [Act.put, List.setIfInBounds_toArray, List.set_cons_zero, List.set_cons_succ]
    refine wpAnyH_done (by kernel_rfl) ?_ _
    clear hS
    go_wp2
    go_ret
    exact hE.out
end Go.Proofs.Ytbgjiokocjnjhaa.Ded
