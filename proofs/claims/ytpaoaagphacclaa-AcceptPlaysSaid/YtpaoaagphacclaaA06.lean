/- Forget, Promise, Accept. -/
import Derived.Test.YtpaoaagphacclaaA05
namespace Go.Proofs.Ytpaoaagphacclaa.Acc
open Go.RowKit Go.Maps Go.Lib
open Bal (TB bOk ckB ordV alloc_b)
set_option linter.unusedVariables false
set_option linter.unusedSimpArgs false
set_option maxRecDepth 20000

/-! What the calls do to a state. -/
def forE (u : Int) : Int := if 0 ≤ u ∧ u ≤ 4096 then 0 else 2
def forS (s : St) (u : Int) : St := if 0 ≤ u ∧ u ≤ 4096 then ⟨s.n, s.r, s.m, max s.b u, frM s.M u⟩ else s
def proE (s : St) (x y f : Int) : Int := if Gd s.n x y ∧ 0 ≤ f ∧ f ≤ 4096 then (if ordV x y s.r s.m < 0 then 8 else 0) else 2
def proS (s : St) (x y f : Int) : St := if proE s x y f = 0 then ⟨s.n, x, y, s.b, s.M⟩ else s
def proL (s : St) (x y f : Int) : List Et := if proE s x y f = 0 then frM s.M f else []
def accE (s : St) (x y k : Int) (v : ByteArray) : Int := if Gd s.n x y ∧ 0 ≤ k ∧ k < 4096 then (if 65536 < v.size then 11 else if ordV x y s.r s.m < 0 then 8 else if k < s.b then 3 else 0) else 2
def accS (s : St) (x y k : Int) (v : ByteArray) : St := if accE s x y k v = 0 then ⟨s.n, x, y, s.b, putM s.M ⟨k, x, y, v⟩⟩ else s
theorem ok_for {s : St} (h : OkS s) (u : Int) : OkS (forS s u) := by
  unfold forS
  split
  · rename_i hu
    refine ⟨h.hn, ⟨by show 0 ≤ max s.b u; omega, by show max s.b u ≤ 4096; have := h.hb.2; omega⟩, h.hp, srt_fr h.srt u, fun e he => ?_⟩
    obtain ⟨h1, h2⟩ := mem_fr.1 he
    obtain ⟨a, b, c⟩ := h.ent e h1
    exact ⟨by show max s.b u ≤ e.s; omega, b, c⟩
  · exact h
theorem ok_pro {s : St} (h : OkS s) (x y f : Int) : OkS (proS s x y f) := by
  unfold proS
  split
  · rename_i h0
    unfold proE at h0
    split at h0
    · rename_i hg
      exact ⟨h.hn, h.hb, .inr hg.1, h.srt, h.ent⟩
    · exact absurd h0 (by decide)
  · exact h
theorem ok_acc {s : St} (h : OkS s) (x y k : Int) (v : ByteArray) : OkS (accS s x y k v) := by
  unfold accS
  split
  · rename_i h0
    unfold accE at h0
    split at h0
    · rename_i hg
      split at h0
      · exact absurd h0 (by decide)
      · rename_i hv
        split at h0
        · exact absurd h0 (by decide)
        · split at h0
          · exact absurd h0 (by decide)
          · rename_i hk
            refine ⟨h.hn, h.hb, .inr hg.1, srt_put h.srt _, fun e he => ?_⟩
            rcases mem_put.1 he with rfl | ⟨h1, _⟩
            · exact ⟨by show s.b ≤ k; omega, hg.2.2, hg.1, by show v.size ≤ 65536; omega⟩
            · exact h.ent e h1
    · exact absurd h0 (by decide)
  · exact h

/-! Promise. -/
theorem Ax.setP {w : World} {sb mb : Nat} {s : St} (x : Ax w sb mb s) (r m : Int) (hp : bOk s.n r m) :
    Ax ((w.setCell ⟨sb, 1, none⟩ (.int .i64 r)).setCell ⟨sb, 2, none⟩ (.int .i64 m)) sb mb ⟨s.n, r, m, s.b, s.M⟩ ∧
    Keeps (fun k => k = sb) w ((w.setCell ⟨sb, 1, none⟩ (.int .i64 r)).setCell ⟨sb, 2, none⟩ (.int .i64 m)) := by
  refine ⟨⟨?_, ?_, ⟨x.ok.hn, x.ok.hb, hp, x.ok.srt, x.ok.ent⟩⟩, ((Keeps.refl (fun k => k = sb) w).setCell (p := ⟨sb, 1, none⟩) (.inl rfl) _).setCell (p := ⟨sb, 2, none⟩) (.inl rfl) _⟩
  · have h1 := heap_setCell_same w sb 1 _ TA (.int .i64 r) x.box
    exact heap_setCell_same _ sb 2 _ TA (.int .i64 m) h1
  · exact (x.own.setCell (Ne.symm x.ne) _).setCell (Ne.symm x.ne) _
/-- The ballot in the call's own box, and the acceptor. -/
structure PAt (w : World) (sb mb : Nat) (s : St) (x y : Int) (W : World) : Prop where
  b1 : W.heap[w.heap.size]? = some (.cells #[.int .i64 x, .int .i64 y] TB (0, 0))
  ax : Ax W sb mb s
  bel : Below w.heap.size w W
theorem PAt.later {w W W' : World} {sb mb : Nat} {s : St} {x y : Int} (h : PAt w sb mb s x y W) (hb : Below W.heap.size W W') : PAt w sb mb s x y W' :=
  ⟨(hb.block _ (Array.getElem?_eq_some_iff.1 h.b1).1).trans h.b1, h.ax.later hb, h.bel.trans (hb.mono h.bel.size)⟩
theorem PAt.drew {w W : World} {sb mb : Nat} {s : St} {x y : Int} (h : PAt w sb mb s x y W) : PAt w sb mb s x y W.drew := h.later (Below.refl _ _).drew
theorem PAt.cells {w W : World} {sb mb : Nat} {s : St} {x y : Int} (h : PAt w sb mb s x y W) : W.cell? ⟨w.heap.size, 0, none⟩ = some (.int .i64 x) ∧ W.cell? ⟨w.heap.size, 1, none⟩ = some (.int .i64 y) ∧ W.cell? ⟨sb, 3, none⟩ = some (.int .i64 s.b) ∧ W.cell? ⟨sb, 4, none⟩ = some (.map (some mb)) ∧
    W.cell? ⟨sb, 1, none⟩ = some (.int .i64 s.r) ∧ W.cell? ⟨sb, 2, none⟩ = some (.int .i64 s.m) :=
  ⟨cell_of_row W _ 0 _ TB _ h.b1, cell_of_row W _ 1 _ TB _ h.b1, h.ax.cells.2.2.2.1, h.ax.cells.2.2.2.2, h.ax.cells.2.1, h.ax.cells.2.2.1⟩
theorem pat_new {w : World} {sb mb : Nat} {s : St} (h : Ax w sb mb s) (x y : Int) : PAt w sb mb s x y (w.alloc (.cells #[.int .i64 x, .int .i64 y] TB)) :=
  ⟨heap_alloc_new _ _, h.alloc _, alloc_b _ _⟩
def ProIs (w : World) (sb mb : Nat) (s : St) (x y f : Int) (e : Ending) (w' : World) : Prop :=
  ∃ v, e = .returned (.tuple #[v, .int .i64 (proE s x y f)]) ∧ OwE w.heap.size (proL s x y f) v w' ∧ Ax w' sb mb (proS s x y f) ∧ Keeps (fun k => k = sb) w w'
set_option maxHeartbeats 2000000 in
theorem promise_any {sb mb : Nat} {s : St} (x y f : Int) (w : World) (h : Ax w sb mb s) :
    Calls Try.prog 16 #[.pointer (some ⟨sb, 0, none⟩), .agg #[.int .i64 x, .int .i64 y], .int .i64 f] w (ProIs w sb mb s x y f) := by
  have P0 := pat_new h x y
  have HV := Lib.hid P0.ax.valid
  have HG := Lib.hid (fun W (hW : Ax W sb mb s) => good_any x y W hW)
  have HL := Lib.hid (fun W (hW : Ax W sb mb s) => late_any x y W hW)
  have HS := Lib.hid (fun W => start_any f W)
  obtain ⟨c0, c1, _⟩ := P0.cells
  replace P0 := Lib.hid P0
  have hno : Hid (proE s x y f ≠ 0 → ∀ W, PAt w sb mb s x y W → ProIs w sb mb s x y f (.returned (.tuple #[.slice none 0 0, .int .i64 (proE s x y f)])) W) := Lib.hid fun h0 W hW =>
    ⟨_, rfl, by unfold proL; rw [if_neg h0]; exact OwE.nil _ _, by unfold proS; rw [if_neg h0]; exact hW.ax, Keeps.of_below hW.bel⟩
  by_cases hg : Gd s.n x y
  · have bg : decide (Gd s.n x y) = true := decide_eq_true hg
    generalize decide (Gd s.n x y) = g at *
    subst bg
    by_cases hf : 0 ≤ f ∧ f ≤ 4096
    · have bf : decide (0 ≤ f ∧ f ≤ 4096) = true := decide_eq_true hf
      generalize decide (0 ≤ f ∧ f ≤ 4096) = g at *
      subst bf
      by_cases hl : ordV x y s.r s.m < 0
      · have bl : decide (ordV x y s.r s.m < 0) = true := decide_eq_true hl
        generalize decide (ordV x y s.r s.m < 0) = g at *
        subst bl
        have hr : proE s x y f = 8 := by unfold proE; rw [if_pos ⟨hg, hf.1, hf.2⟩, if_pos hl]
        rw [hr] at hno
        clear hg hf hl hr h
        go_enter Try.func16, Try.ntmps16
        go_wp2_with (first
          | (go_at_call 38; refine HV.out.mono ?_; rintro e w' ⟨rfl, rfl⟩)
          | (go_at_call 39; refine (HG.out _ P0.out.ax).mono ?_; rintro e w1 ⟨rfl, hb1⟩; have P1 := P0.out.later hb1; obtain ⟨d0, d1, _⟩ := P1.cells; replace P1 := Lib.hid P1)
          | (go_at_call 40; refine (HS.out _).mono ?_; rintro e w' ⟨rfl, rfl⟩)
          | (go_at_call 41; refine (HL.out _ P1.out.ax).mono ?_; rintro e w2 ⟨rfl, hb2⟩; have P2 := P1.out.later hb2; replace P2 := Lib.hid P2))
        go_ret2
        exact hno.out (by decide) _ P2.out
      · have bl : decide (ordV x y s.r s.m < 0) = false := decide_eq_false hl
        generalize decide (ordV x y s.r s.m < 0) = g at *
        subst bl
        have hr : proE s x y f = 0 := by unfold proE; rw [if_pos ⟨hg, hf.1, hf.2⟩, if_neg hl]
        have hok : bOk s.n x y := .inr hg
        have hfin : Hid (∀ W v W', Ax W sb mb ⟨s.n, x, y, s.b, s.M⟩ → Keeps (fun k => k = sb) w W → OwE W.heap.size (frM s.M f) v W' → Below W.heap.size W W' → ProIs w sb mb s x y f (.returned (.tuple #[v, .int .i64 0])) W') := Lib.hid fun W v W' hA hK hO hB => by
          refine ⟨v, by rw [hr], ?_, ?_, hK.later hB⟩
          · unfold proL; rw [if_pos hr]; exact rows_base hO hK.size
          · unfold proS; rw [if_pos hr]; exact hA.later hB
        have HSet := Lib.hid (fun W (hW : Ax W sb mb s) => hW.setP x y hok)
        have HLi := Lib.hid (fun W (hW : Ax W sb mb ⟨s.n, x, y, s.b, s.M⟩) => list_any f W hW)
        clear hg hf hl hr h hok hno
        go_enter Try.func16, Try.ntmps16
        go_wp2_with (first
          | (go_at_call 38; refine HV.out.mono ?_; rintro e w' ⟨rfl, rfl⟩)
          | (go_at_call 39; refine (HG.out _ P0.out.ax).mono ?_; rintro e w1 ⟨rfl, hb1⟩; have P1 := P0.out.later hb1; obtain ⟨d0, d1, _⟩ := P1.cells; replace P1 := Lib.hid P1)
          | (go_at_call 40; refine (HS.out _).mono ?_; rintro e w' ⟨rfl, rfl⟩)
          | (go_at_call 41; refine (HL.out _ P1.out.ax).mono ?_; rintro e w2 ⟨rfl, hb2⟩; have P2 := P1.out.later hb2; obtain ⟨e0, e1, _, _, e2, e3⟩ := P2.cells; have f2 := P2.ax.frozen 1; have f3 := P2.ax.frozen 2; replace P2 := Lib.hid P2)
          | (go_at_call 31; refine (HLi.out _ (HSet.out _ P2.out.ax).1).mono ?_; rintro e w3 ⟨v, rfl, hO, hB⟩))
        go_ret2
        exact hfin.out _ v _ (HSet.out _ P2.out.ax).1 ((Keeps.of_below P2.out.bel).trans (HSet.out _ P2.out.ax).2 fun i hi _ => hi) hO hB
    · have bf : decide (0 ≤ f ∧ f ≤ 4096) = false := decide_eq_false hf
      generalize decide (0 ≤ f ∧ f ≤ 4096) = g at *
      subst bf
      have hr : proE s x y f = 2 := by unfold proE; rw [if_neg (fun h => hf h.2)]
      rw [hr] at hno
      clear hg hf hr h
      go_enter Try.func16, Try.ntmps16
      go_wp2_with (first
        | (go_at_call 38; refine HV.out.mono ?_; rintro e w' ⟨rfl, rfl⟩)
        | (go_at_call 39; refine (HG.out _ P0.out.ax).mono ?_; rintro e w1 ⟨rfl, hb1⟩; have P1 := P0.out.later hb1; replace P1 := Lib.hid P1)
        | (go_at_call 40; refine (HS.out _).mono ?_; rintro e w' ⟨rfl, rfl⟩))
      go_ret2
      exact hno.out (by decide) _ P1.out
  · have bg : decide (Gd s.n x y) = false := decide_eq_false hg
    generalize decide (Gd s.n x y) = g at *
    subst bg
    have hr : proE s x y f = 2 := by unfold proE; rw [if_neg (fun h => hg h.1)]
    rw [hr] at hno
    clear hg hr h
    go_enter Try.func16, Try.ntmps16
    go_wp2_with (first
      | (go_at_call 38; refine HV.out.mono ?_; rintro e w' ⟨rfl, rfl⟩)
      | (go_at_call 39; refine (HG.out _ P0.out.ax).mono ?_; rintro e w1 ⟨rfl, hb1⟩; have P1 := P0.out.later hb1; replace P1 := Lib.hid P1))
    go_ret2
    exact hno.out (by decide) _ P1.out
/-! Accept. -/
theorem put_run {w : World} {sb mb : Nat} {s : St} (x : Ax w sb mb s) (e : Et) (hok : OkS ⟨s.n, s.r, s.m, s.b, putM s.M e⟩) (hk : (Lit.int .i64 e.s).wf = true) :
    ∃ w', (Instr.mapUpdate TM (.map (some mb)) (.int .i64 e.s) (vE e)).run Try.prog w = .ok () w' ∧ Ax w' sb mb ⟨s.n, s.r, s.m, s.b, putM s.M e⟩ ∧ w.grownBy w' (some mb) := by
  have hlen := x.ok.len
  obtain ⟨w', hrun, r1, r2⟩ := x.own.update (t := TM) keyI Try.underlying52 (by unfold maxLen; omega) (key_of hk) (rdE_mk e)
  rw [put_DM] at r1
  refine ⟨w', hrun, ⟨?_, own_tight r1, hok⟩, r2⟩
  exact (r2.block sb x.lt.1 (fun h => by injection h with h; exact x.ne h)).trans x.box
def AccIs (w : World) (sb mb : Nat) (s : St) (x y k : Int) (v : ByteArray) (e : Ending) (w' : World) : Prop :=
  e = .returned (.int .i64 (accE s x y k v)) ∧ Ax w' sb mb (accS s x y k v) ∧ Keeps (fun k => k = sb ∨ k = mb) w w'
set_option maxHeartbeats 2000000 in
theorem accept_any {sb mb : Nat} {s : St} (x y k : Int) (v : ByteArray) (w : World) (h : Ax w sb mb s) :
    Calls Try.prog 19 #[.pointer (some ⟨sb, 0, none⟩), .agg #[.int .i64 x, .int .i64 y], .int .i64 k, .string v] w (AccIs w sb mb s x y k v) := by
  have P0 := pat_new h x y
  have HV := Lib.hid P0.ax.valid
  have HG := Lib.hid (fun W (hW : Ax W sb mb s) => good_any x y W hW)
  have HL := Lib.hid (fun W (hW : Ax W sb mb s) => late_any x y W hW)
  have HS := Lib.hid (fun W => slot_any k W)
  have hAok := Lib.hid (ok_acc h.ok x y k v)
  obtain ⟨c0, c1, _⟩ := P0.cells
  replace P0 := Lib.hid P0
  have hno : Hid (accE s x y k v ≠ 0 → ∀ W, PAt w sb mb s x y W → AccIs w sb mb s x y k v (.returned (.int .i64 (accE s x y k v))) W) := Lib.hid fun h0 W hW =>
    ⟨rfl, by unfold accS; rw [if_neg h0]; exact hW.ax, Keeps.of_below hW.bel⟩
  by_cases hg : Gd s.n x y
  · have bhg : decide (Gd s.n x y) = true := decide_eq_true hg
    generalize decide (Gd s.n x y) = g at *
    subst bhg
    by_cases hf : 0 ≤ k ∧ k < 4096
    · have bhf : decide (0 ≤ k ∧ k < 4096) = true := decide_eq_true hf
      generalize decide (0 ≤ k ∧ k < 4096) = g at *
      subst bhf
      by_cases hv : 65536 < v.size
      · have bhv : decide (65536 < v.size) = true := decide_eq_true hv
        have bhv0 : decide ((65536 : Int) < (v.size : Int)) = true := decide_eq_true (by omega)
        have hr : accE s x y k v = 11 := by unfold accE; rw [if_pos ⟨hg, hf.1, hf.2⟩, if_pos hv]
        rw [hr] at hno
        clear hg hf hv hr h hAok
        go_enter Try.func19, Try.ntmps19
        go_wp2_with (first
          | (go_at_call 38; refine HV.out.mono ?_; rintro e w' ⟨rfl, rfl⟩)
          | (go_at_call 39; refine (HG.out _ P0.out.ax).mono ?_; rintro e w1 ⟨rfl, hb1⟩; have P1 := P0.out.later hb1; obtain ⟨d0, d1, _⟩ := P1.cells; replace P1 := Lib.hid P1)
          | (go_at_call 45; refine (HS.out _).mono ?_; rintro e w' ⟨rfl, rfl⟩))
        go_ret
        exact hno.out (by decide) _ P1.out
      · have bhv : decide (65536 < v.size) = false := decide_eq_false hv
        have bhv0 : decide ((65536 : Int) < (v.size : Int)) = false := decide_eq_false (by omega)
        by_cases hl : ordV x y s.r s.m < 0
        · have bhl : decide (ordV x y s.r s.m < 0) = true := decide_eq_true hl
          generalize decide (ordV x y s.r s.m < 0) = g at *
          subst bhl
          have hr : accE s x y k v = 8 := by unfold accE; rw [if_pos ⟨hg, hf.1, hf.2⟩, if_neg hv, if_pos hl]
          rw [hr] at hno
          clear hg hf hv hl hr h hAok
          go_enter Try.func19, Try.ntmps19
          go_wp2_with (first
            | (go_at_call 38; refine HV.out.mono ?_; rintro e w' ⟨rfl, rfl⟩)
            | (go_at_call 39; refine (HG.out _ P0.out.ax).mono ?_; rintro e w1 ⟨rfl, hb1⟩; have P1 := P0.out.later hb1; obtain ⟨d0, d1, _⟩ := P1.cells; replace P1 := Lib.hid P1)
            | (go_at_call 45; refine (HS.out _).mono ?_; rintro e w' ⟨rfl, rfl⟩)
            | (go_at_call 41; refine (HL.out _ P1.out.ax).mono ?_; rintro e w2 ⟨rfl, hb2⟩; have P2 := P1.out.later hb2; obtain ⟨e0, e1, e4, e5, e2, e3⟩ := P2.cells; have f2 := P2.ax.frozen 1; have f3 := P2.ax.frozen 2; replace P2 := Lib.hid P2))
          go_ret
          exact hno.out (by decide) _ P2.out
        · have bhl : decide (ordV x y s.r s.m < 0) = false := decide_eq_false hl
          generalize decide (ordV x y s.r s.m < 0) = g at *
          subst bhl
          by_cases hk : k < s.b
          · have bhk : decide (k < s.b) = true := decide_eq_true hk
            have hr : accE s x y k v = 3 := by unfold accE; rw [if_pos ⟨hg, hf.1, hf.2⟩, if_neg hv, if_neg hl, if_pos hk]
            rw [hr] at hno
            clear hg hf hv hl hk hr h hAok
            go_enter Try.func19, Try.ntmps19
            go_wp2_with (first
              | (go_at_call 38; refine HV.out.mono ?_; rintro e w' ⟨rfl, rfl⟩)
              | (go_at_call 39; refine (HG.out _ P0.out.ax).mono ?_; rintro e w1 ⟨rfl, hb1⟩; have P1 := P0.out.later hb1; obtain ⟨d0, d1, _⟩ := P1.cells; replace P1 := Lib.hid P1)
              | (go_at_call 45; refine (HS.out _).mono ?_; rintro e w' ⟨rfl, rfl⟩)
              | (go_at_call 41; refine (HL.out _ P1.out.ax).mono ?_; rintro e w2 ⟨rfl, hb2⟩; have P2 := P1.out.later hb2; obtain ⟨e0, e1, e4, e5, e2, e3⟩ := P2.cells; have f2 := P2.ax.frozen 1; have f3 := P2.ax.frozen 2; replace P2 := Lib.hid P2))
            go_ret
            exact hno.out (by decide) _ P2.out
          · have bhk : decide (k < s.b) = false := decide_eq_false hk
            have hr : accE s x y k v = 0 := by unfold accE; rw [if_pos ⟨hg, hf.1, hf.2⟩, if_neg hv, if_neg hl, if_neg hk]
            have hS0 : accS s x y k v = ⟨s.n, x, y, s.b, putM s.M ⟨k, x, y, v⟩⟩ := by unfold accS; rw [if_pos hr]
            rw [hS0] at hAok
            have hok : bOk s.n x y := .inr hg
            have hwf : (Lit.int .i64 k).wf = true := wf64 (by omega) (by omega)
            have HSet := Lib.hid (fun W (hW : Ax W sb mb s) => hW.setP x y hok)
            have HP := Lib.hid (fun W (hW : Ax W sb mb ⟨s.n, x, y, s.b, s.M⟩) => put_run hW ⟨k, x, y, v⟩ hAok.out hwf)
            have hfin : Hid (∀ W W', Keeps (fun k => k = sb) w W → Ax W' sb mb ⟨s.n, x, y, s.b, putM s.M ⟨k, x, y, v⟩⟩ → W.grownBy W' (some mb) → AccIs w sb mb s x y k v (.returned (.int .i64 0)) W') := Lib.hid fun W W' hK hA hgr =>
              ⟨by rw [hr], by rw [hS0]; exact hA, (hK.wide fun k h => .inl h).grown hgr fun g hg => by injection hg with hg; exact .inl (.inr hg.symm)⟩
            have h0 := h.lt.1
            clear hg hf hv hl hr h hok hno hwf hS0 hAok
            go_enter Try.func19, Try.ntmps19
            go_wp2_with (first
              | (go_at_call 38; refine HV.out.mono ?_; rintro e w' ⟨rfl, rfl⟩)
              | (go_at_call 39; refine (HG.out _ P0.out.ax).mono ?_; rintro e w1 ⟨rfl, hb1⟩; have P1 := P0.out.later hb1; obtain ⟨d0, d1, _⟩ := P1.cells; replace P1 := Lib.hid P1)
              | (go_at_call 45; refine (HS.out _).mono ?_; rintro e w' ⟨rfl, rfl⟩)
              | (go_at_call 41; refine (HL.out _ P1.out.ax).mono ?_; rintro e w2 ⟨rfl, hb2⟩; have P2 := P1.out.later hb2; obtain ⟨e0, e1, e4, e5, e2, e3⟩ := P2.cells; have f2 := P2.ax.frozen 1; have f3 := P2.ax.frozen 2; replace P2 := Lib.hid P2))
            obtain ⟨hA3, hK3⟩ := HSet.out _ P2.out.ax
            obtain ⟨w5, hrun, hA5, hg5⟩ := HP.out _ hA3.drew
            have hK3' := (Keeps.of_below P2.out.bel).trans hK3 fun i hi _ => hi
            have hF := Lib.hid (hfin.out _ w5 hK3'.drew hA5 hg5)
            have g4 := hA3.cells.2.2.2.2
            have hqn : w.heap.size ≠ sb := by have := h0; omega
            have q : ((w2.setCell ⟨sb, 1, none⟩ (.int .i64 x)).setCell ⟨sb, 2, none⟩ (.int .i64 y)).heap[w.heap.size]? = some (.cells #[.int .i64 x, .int .i64 y] TB (0, 0)) :=
              (hK3.block _ (Array.getElem?_eq_some_iff.1 P2.out.b1).1 hqn).trans P2.out.b1
            have q0 := cell_of_row _ _ 0 _ TB _ q
            have q1 := cell_of_row _ _ 1 _ TB _ q
            clear hA3 hK3 hA5 hg5 hK3' q P2 hb2 e0 e1 e2 e3 e4 e5 f2 f3
            generalize (w2.setCell ⟨sb, 1, none⟩ (.int .i64 x)).setCell ⟨sb, 2, none⟩ (.int .i64 y) = W at *
            go_region
            all_goals
              go_wp2
              go_ret
              exact hF.out
    · have bhf : decide (0 ≤ k ∧ k < 4096) = false := decide_eq_false hf
      generalize decide (0 ≤ k ∧ k < 4096) = g at *
      subst bhf
      have hr : accE s x y k v = 2 := by unfold accE; rw [if_neg (fun h => hf h.2)]
      rw [hr] at hno
      clear hg hf hr h hAok
      go_enter Try.func19, Try.ntmps19
      go_wp2_with (first
        | (go_at_call 38; refine HV.out.mono ?_; rintro e w' ⟨rfl, rfl⟩)
        | (go_at_call 39; refine (HG.out _ P0.out.ax).mono ?_; rintro e w1 ⟨rfl, hb1⟩; have P1 := P0.out.later hb1; obtain ⟨d0, d1, _⟩ := P1.cells; replace P1 := Lib.hid P1)
        | (go_at_call 45; refine (HS.out _).mono ?_; rintro e w' ⟨rfl, rfl⟩))
      go_ret
      exact hno.out (by decide) _ P1.out
  · have bhg : decide (Gd s.n x y) = false := decide_eq_false hg
    generalize decide (Gd s.n x y) = g at *
    subst bhg
    have hr : accE s x y k v = 2 := by unfold accE; rw [if_neg (fun h => hg h.1)]
    rw [hr] at hno
    clear hg hr h hAok
    go_enter Try.func19, Try.ntmps19
    go_wp2_with (first
      | (go_at_call 38; refine HV.out.mono ?_; rintro e w' ⟨rfl, rfl⟩)
      | (go_at_call 39; refine (HG.out _ P0.out.ax).mono ?_; rintro e w1 ⟨rfl, hb1⟩; have P1 := P0.out.later hb1; obtain ⟨d0, d1, _⟩ := P1.cells; replace P1 := Lib.hid P1)
      | (go_at_call 45; refine (HS.out _).mono ?_; rintro e w' ⟨rfl, rfl⟩))
    go_ret
    exact hno.out (by decide) _ P1.out
end Go.Proofs.Ytpaoaagphacclaa.Acc
