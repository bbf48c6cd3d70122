/- The document's acceptor: Promise Forget Accepted. -/
import Derived.Test.YtpaoaagphacclaaA35
namespace Go.Proofs.Ytpaoaagphacclaa.Acc
open Go.RowKit Go.Maps Go.Lib
open Bal (TB bOk ckB ordV eqB eqB_t eqB_f eq_b alloc_b)
set_option linter.unusedVariables false
set_option linter.unusedSimpArgs false
set_option maxRecDepth 20000

theorem keeps_set {w W W' : World} {rb : Nat} (h1 : Below w.heap.size w W) (h2 : Keeps (fun i => i = rb) W W') : Keeps (fun i => i = rb) w W' :=
  (Keeps.of_below (F := fun i => i = rb) h1).trans h2 fun i hi _ => hi
theorem Rx.setB {W : World} {rb : Nat} {s : St} {v : Value} (h : Rx W rb s v) (x y : Int) (hok : OkS ⟨s.n, x, y, s.b, s.M⟩) :
    Rx ((W.setCell ⟨rb, 2, none⟩ (.int .i64 x)).setCell ⟨rb, 3, none⟩ (.int .i64 y)) rb ⟨s.n, x, y, s.b, s.M⟩ v ∧ Keeps (fun i => i = rb) W ((W.setCell ⟨rb, 2, none⟩ (.int .i64 x)).setCell ⟨rb, 3, none⟩ (.int .i64 y)) := by
  have k : Keeps (fun i => i = rb) W ((W.setCell ⟨rb, 2, none⟩ (.int .i64 x)).setCell ⟨rb, 3, none⟩ (.int .i64 y)) :=
    ((Keeps.refl (fun i => i = rb) W).setCell (p := ⟨rb, 2, none⟩) (.inl rfl) _).setCell (p := ⟨rb, 3, none⟩) (.inl rfl) _
  exact ⟨⟨Go.heap_setCell_same _ rb 3 _ TRA (.int .i64 y) (Go.heap_setCell_same W rb 2 _ TRA (.int .i64 x) h.box), rows_kept h.row fun i hi => k.block i (World.ownsRow.lt h.row i hi).2 (h.apart i hi), hok⟩, k⟩
def RPro (w : World) (rb : Nat) (s : St) (x y f : Int) (e : Ending) (w' : World) : Prop :=
  ∃ v vl, e = .returned (.tuple #[v, .int .i64 (proE s x y f)]) ∧ OwE w.heap.size (proL s x y f) v w' ∧ Rx w' rb (proS s x y f) vl ∧ Keeps (fun i => i = rb) w w'
theorem rpro_off {w W : World} {rb : Nat} {s : St} {vl : Value} {x y f c : Int} (h0 : proE s x y f = c) (hc : c ≠ 0) (hW : PRt w rb s vl x y W) : RPro w rb s x y f (.returned (.tuple #[.slice none 0 0, .int .i64 c])) W := by
  refine ⟨_, vl, by rw [h0], ?_, ?_, Keeps.of_below hW.bel⟩
  · unfold proL; rw [if_neg (by rw [h0]; exact hc)]; exact OwE.nil _ _
  · unfold proS; rw [if_neg (by rw [h0]; exact hc)]; exact hW.rx
set_option maxHeartbeats 4000000 in
theorem rpromise_any {rb : Nat} {s : St} {vl : Value} (x y f : Int) (w : World) (h : Rx w rb s vl) :
    Calls Try.prog 17 #[.pointer (some ⟨rb, 0, none⟩), .agg #[.int .i64 x, .int .i64 y], .int .i64 f] w (RPro w rb s x y f) := by
  have P0 := prt_new h x y
  obtain ⟨c0, c1, _⟩ := P0.cells
  have HV := Lib.hid (rvalid_any _ P0.rx)
  have HG := Lib.hid (rgood_any x y _ P0.rx)
  have hoff : Hid (∀ c W, proE s x y f = c → c ≠ 0 → PRt w rb s vl x y W → RPro w rb s x y f (.returned (.tuple #[.slice none 0 0, .int .i64 c])) W) := Lib.hid fun c W h0 hc hW => rpro_off h0 hc hW
  by_cases hg : Gd s.n x y
  · have b0 : decide (Gd s.n x y) = true := decide_eq_true hg
    rw [b0] at HG
    by_cases h1 : f < 0
    · have b1 : decide (f < 0) = true := decide_eq_true h1
      have e := Lib.hid (show proE s x y f = 2 from if_neg (by rintro ⟨_, h2, _⟩; omega))
      replace P0 := Lib.hid P0
      clear hg h1 b0 h
      go_enter Try.func17, Try.ntmps17
      go_wp2_with (first
        | (go_at_call 42; refine HV.out.mono ?_; rintro e w' ⟨rfl, rfl⟩)
        | (go_at_call 43; refine HG.out.mono ?_; rintro e w1 ⟨rfl, hb1⟩; have P1 := Lib.hid (P0.out.later hb1)))
      go_ret2
      exact hoff.out _ _ e.out (by decide) P1.out
    · have b1 : decide (f < 0) = false := decide_eq_false h1
      by_cases h2 : 4096 < f
      · have b2 : decide (4096 < f) = true := decide_eq_true h2
        have e := Lib.hid (show proE s x y f = 2 from if_neg (by rintro ⟨_, _, h3⟩; omega))
        replace P0 := Lib.hid P0
        clear hg h1 h2 b0 h
        go_enter Try.func17, Try.ntmps17
        go_wp2_with (first
          | (go_at_call 42; refine HV.out.mono ?_; rintro e w' ⟨rfl, rfl⟩)
          | (go_at_call 43; refine HG.out.mono ?_; rintro e w1 ⟨rfl, hb1⟩; have P1 := Lib.hid (P0.out.later hb1)))
        go_ret2
        exact hoff.out _ _ e.out (by decide) P1.out
      · have b2 : decide (4096 < f) = false := decide_eq_false h2
        have hE : proE s x y f = if ordV x y s.r s.m < 0 then 8 else 0 := if_pos ⟨hg, by omega, by omega⟩
        have HO := Lib.hid (fun W => Bal.rorder_any x y s.r s.m W)
        have HK : Hid (∀ W, PRt w rb s vl x y W → W.cell? ⟨w.heap.size, 0, none⟩ = some (.int .i64 x) ∧ W.cell? ⟨w.heap.size, 1, none⟩ = some (.int .i64 y) ∧ W.cell? ⟨rb, 2, none⟩ = some (.int .i64 s.r) ∧ W.cell? ⟨rb, 3, none⟩ = some (.int .i64 s.m)) := Lib.hid fun W h => ⟨h.cells.1, h.cells.2.1, h.cells.2.2.2.1, h.cells.2.2.2.2.1⟩
        have hL := Lib.hid (fun (h0 : proE s x y f = 0) => show proS s x y f = ⟨s.n, x, y, s.b, s.M⟩ ∧ proL s x y f = frM s.M f from ⟨if_pos h0, if_pos h0⟩)
        have hok := Lib.hid (ok_pro h.ok x y f)
        replace P0 := Lib.hid P0
        clear hg h1 h2 b0 h
        generalize hoo : ordV x y s.r s.m = oo at *
        replace hoo := Lib.hid hoo
        by_cases ho : oo < 0
        · have b3 : decide (oo < 0) = true := decide_eq_true ho
          rw [if_pos ho] at hE
          replace hE := Lib.hid hE
          clear ho
          go_enter Try.func17, Try.ntmps17
          go_wp2_with (first
            | (go_at_call 42; refine HV.out.mono ?_; rintro e w' ⟨rfl, rfl⟩)
            | (go_at_call 43; refine HG.out.mono ?_; rintro e w1 ⟨rfl, hb1⟩; have P1 := Lib.hid (P0.out.later hb1).drew))
          go_region_held3 (fun W => W.cell? ⟨w.heap.size, 0, none⟩ = some (.int .i64 x) ∧ W.cell? ⟨w.heap.size, 1, none⟩ = some (.int .i64 y) ∧ W.cell? ⟨rb, 2, none⟩ = some (.int .i64 s.r) ∧ W.cell? ⟨rb, 3, none⟩ = some (.int .i64 s.m))
            ((first | exact HK.out _ P2.out | exact HK.out _ P1.out | assumption))
            ((first | (go_at_call 44; refine (HO.out _).mono ?_; rintro e2 w2 ⟨rfl, hb2⟩; have P2 := Lib.hid (P1.out.later hb2))))
          go_wp2
          go_ret2
          exact hoff.out _ _ hE.out (by decide) P2.out
        · have b3 : decide (oo < 0) = false := decide_eq_false ho
          rw [if_neg ho] at hE
          obtain ⟨hS, hLL⟩ := hL.out hE
          rw [hS] at hok
          have hfin : Hid (∀ W W' v, Below w.heap.size w W → Keeps (fun i => i = rb) W W' → Rx W' rb ⟨s.n, x, y, s.b, s.M⟩ vl → OwE w.heap.size (frM s.M f) v W' → RPro w rb s x y f (.returned (.tuple #[v, .int .i64 0])) W') := Lib.hid fun W W' v h1 h2 h3 h4 =>
            ⟨v, vl, by rw [hE], by rw [hLL]; exact h4, by rw [hS]; exact h3, keeps_set h1 h2⟩
          clear ho hE hS hLL hL
          go_enter Try.func17, Try.ntmps17
          go_wp2_with (first
            | (go_at_call 42; refine HV.out.mono ?_; rintro e w' ⟨rfl, rfl⟩)
            | (go_at_call 43; refine HG.out.mono ?_; rintro e w1 ⟨rfl, hb1⟩; have P1 := Lib.hid (P0.out.later hb1).drew))
          go_region_held3 (fun W => W.cell? ⟨w.heap.size, 0, none⟩ = some (.int .i64 x) ∧ W.cell? ⟨w.heap.size, 1, none⟩ = some (.int .i64 y) ∧ W.cell? ⟨rb, 2, none⟩ = some (.int .i64 s.r) ∧ W.cell? ⟨rb, 3, none⟩ = some (.int .i64 s.m))
            ((first | exact HK.out _ P2.out | exact HK.out _ P1.out | assumption))
            ((first | (go_at_call 44; refine (HO.out _).mono ?_; rintro e2 w2 ⟨rfl, hb2⟩; have P2 := Lib.hid (P1.out.later hb2))))
          obtain ⟨d0, d1, _⟩ := P2.out.cells
          have f2 := P2.out.rx.frozen 2
          have f3 := P2.out.rx.frozen 3
          obtain ⟨hx, hk⟩ := P2.out.rx.setB x y hok.out
          have HL := Lib.hid (rlist_any f _ hx)
          replace hx := Lib.hid hx
          replace hk := Lib.hid hk
          go_wp2_with (go_at_call 32; refine HL.out.mono ?_; rintro e w3 ⟨v3, rfl, hO3, hb3⟩)
          go_ret2
          refine hfin.out _ _ _ P2.out.bel (hk.out.later hb3) (hx.out.later hb3) (rows_base hO3 ?_)
          have := P2.out.bel.size
          have := hk.out.size
          omega
  · have b0 : decide (Gd s.n x y) = false := decide_eq_false hg
    rw [b0] at HG
    have e := Lib.hid (show proE s x y f = 2 from if_neg (fun h => hg h.1))
    replace P0 := Lib.hid P0
    clear hg b0 h
    go_enter Try.func17, Try.ntmps17
    go_wp2_with (first
      | (go_at_call 42; refine HV.out.mono ?_; rintro e w' ⟨rfl, rfl⟩)
      | (go_at_call 43; refine HG.out.mono ?_; rintro e w1 ⟨rfl, hb1⟩; have P1 := Lib.hid (P0.out.later hb1)))
    go_ret2
    exact hoff.out _ _ e.out (by decide) P1.out
end Go.Proofs.Ytpaoaagphacclaa.Acc
