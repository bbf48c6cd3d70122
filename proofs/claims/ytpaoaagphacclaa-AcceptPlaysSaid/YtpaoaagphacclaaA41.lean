/- The document's acceptor: Accept where it refuses. -/
import Derived.Test.YtpaoaagphacclaaA40
namespace Go.Proofs.Ytpaoaagphacclaa.Acc
open Go.RowKit Go.Maps Go.Lib
open Bal (TB bOk ckB ordV eqB eqB_t eqB_f eq_b alloc_b)
set_option linter.unusedVariables false
set_option linter.unusedSimpArgs false
set_option maxRecDepth 20000

def RAcc (w : World) (rb : Nat) (s : St) (x y k : Int) (v : ByteArray) (e : Ending) (w' : World) : Prop :=
  e = .returned (.int .i64 (accE s x y k v)) ∧ ∃ vl, Rx w' rb (accS s x y k v) vl ∧ Keeps (fun i => i = rb) w w'
theorem racc_off {w W : World} {rb : Nat} {s : St} {vl : Value} {x y k c : Int} {v : ByteArray} (h0 : accE s x y k v = c) (hc : c ≠ 0) (hW : PRt w rb s vl x y W) : RAcc w rb s x y k v (.returned (.int .i64 c)) W :=
  ⟨by rw [h0], vl, by unfold accS; rw [if_neg (by rw [h0]; exact hc)]; exact hW.rx, Keeps.of_below hW.bel⟩
def accBad (s : St) (x y k : Int) (v : ByteArray) (b : Nat) : Prop :=
  match b with
  | 0 => ¬ Gd s.n x y
  | 1 => Gd s.n x y ∧ k < 0
  | 2 => Gd s.n x y ∧ ¬ k < 0 ∧ 4096 ≤ k
  | 3 => Gd s.n x y ∧ ¬ k < 0 ∧ ¬ 4096 ≤ k ∧ 65536 < v.size
  | 4 => Gd s.n x y ∧ ¬ k < 0 ∧ ¬ 4096 ≤ k ∧ ¬ 65536 < v.size ∧ ordV x y s.r s.m < 0
  | 5 => Gd s.n x y ∧ ¬ k < 0 ∧ ¬ 4096 ≤ k ∧ ¬ 65536 < v.size ∧ ¬ ordV x y s.r s.m < 0 ∧ k < s.b
  | _ => Gd s.n x y ∧ ¬ k < 0 ∧ ¬ 4096 ≤ k ∧ ¬ 65536 < v.size ∧ ¬ ordV x y s.r s.m < 0 ∧ ¬ k < s.b
theorem acc_cases (s : St) (x y k : Int) (v : ByteArray) : ∃ b, b < 7 ∧ accBad s x y k v b := by
  by_cases h0 : Gd s.n x y
  · by_cases h1 : k < 0
    · exact ⟨1, by omega, h0, h1⟩
    · by_cases h2 : 4096 ≤ k
      · exact ⟨2, by omega, h0, h1, h2⟩
      · by_cases h3 : 65536 < v.size
        · exact ⟨3, by omega, h0, h1, h2, h3⟩
        · by_cases h4 : ordV x y s.r s.m < 0
          · exact ⟨4, by omega, h0, h1, h2, h3, h4⟩
          · by_cases h5 : k < s.b
            · exact ⟨5, by omega, h0, h1, h2, h3, h4, h5⟩
            · exact ⟨6, by omega, h0, h1, h2, h3, h4, h5⟩
  · exact ⟨0, by omega, h0⟩
set_option maxHeartbeats 4000000 in
theorem racc_0 {rb : Nat} {s : St} {vl : Value} (x y k : Int) (v : ByteArray) (w : World) (h : Rx w rb s vl) (hb : accBad s x y k v 0) :
    Calls Try.prog 20 #[.pointer (some ⟨rb, 0, none⟩), .agg #[.int .i64 x, .int .i64 y], .int .i64 k, .string v] w (RAcc w rb s x y k v) := by
  have P0 := prt_new h x y
  obtain ⟨c0, c1, _⟩ := P0.cells
  have HV := Lib.hid (rvalid_any _ P0.rx)
  have HG := Lib.hid (rgood_any x y _ P0.rx)
  have h0 : ¬ Gd s.n x y := hb
  have b0 : decide (Gd s.n x y) = false := decide_eq_false h0
  rw [b0] at HG
  have e := Lib.hid (show accE s x y k v = 2 from if_neg (fun h => h0 h.1))
  have hoff : Hid (∀ W, PRt w rb s vl x y W → RAcc w rb s x y k v (.returned (.int .i64 2)) W) := Lib.hid fun W hW => racc_off e.out (by decide) hW
  replace P0 := Lib.hid P0
  clear h0 b0 e h
  go_enter Try.func20, Try.ntmps20
  go_wp2_with (first
    | (go_at_call 42; refine HV.out.mono ?_; rintro e w' ⟨rfl, rfl⟩)
    | (go_at_call 43; refine HG.out.mono ?_; rintro e w1 ⟨rfl, hb1⟩; have P1 := Lib.hid (P0.out.later hb1)))
  go_ret
  exact hoff.out _ P1.out
set_option maxHeartbeats 4000000 in
theorem racc_1 {rb : Nat} {s : St} {vl : Value} (x y k : Int) (v : ByteArray) (w : World) (h : Rx w rb s vl) (hb : accBad s x y k v 1) :
    Calls Try.prog 20 #[.pointer (some ⟨rb, 0, none⟩), .agg #[.int .i64 x, .int .i64 y], .int .i64 k, .string v] w (RAcc w rb s x y k v) := by
  have P0 := prt_new h x y
  obtain ⟨c0, c1, _⟩ := P0.cells
  have HV := Lib.hid (rvalid_any _ P0.rx)
  have HG := Lib.hid (rgood_any x y _ P0.rx)
  obtain ⟨h0, h1⟩ := hb
  have b0 : decide (Gd s.n x y) = true := decide_eq_true h0
  rw [b0] at HG
  have b1 : decide (k < 0) = true := decide_eq_true h1
  have e := Lib.hid (show accE s x y k v = 2 from if_neg (by rintro ⟨_, g1, g2⟩; omega))
  have hoff : Hid (∀ W, PRt w rb s vl x y W → RAcc w rb s x y k v (.returned (.int .i64 2)) W) := Lib.hid fun W hW => racc_off e.out (by decide) hW
  replace P0 := Lib.hid P0
  clear h0 h1 b0 e h
  go_enter Try.func20, Try.ntmps20
  go_wp2_with (first
    | (go_at_call 42; refine HV.out.mono ?_; rintro e w' ⟨rfl, rfl⟩)
    | (go_at_call 43; refine HG.out.mono ?_; rintro e w1 ⟨rfl, hb1⟩; have P1 := Lib.hid (P0.out.later hb1)))
  go_ret
  exact hoff.out _ P1.out
set_option maxHeartbeats 4000000 in
theorem racc_2 {rb : Nat} {s : St} {vl : Value} (x y k : Int) (v : ByteArray) (w : World) (h : Rx w rb s vl) (hb : accBad s x y k v 2) :
    Calls Try.prog 20 #[.pointer (some ⟨rb, 0, none⟩), .agg #[.int .i64 x, .int .i64 y], .int .i64 k, .string v] w (RAcc w rb s x y k v) := by
  have P0 := prt_new h x y
  obtain ⟨c0, c1, _⟩ := P0.cells
  have HV := Lib.hid (rvalid_any _ P0.rx)
  have HG := Lib.hid (rgood_any x y _ P0.rx)
  obtain ⟨h0, h1, h2⟩ := hb
  have b0 : decide (Gd s.n x y) = true := decide_eq_true h0
  rw [b0] at HG
  have b1 : decide (k < 0) = false := decide_eq_false h1
  have b2 : decide (4096 ≤ k) = true := decide_eq_true h2
  have e := Lib.hid (show accE s x y k v = 2 from if_neg (by rintro ⟨_, g1, g2⟩; omega))
  have hoff : Hid (∀ W, PRt w rb s vl x y W → RAcc w rb s x y k v (.returned (.int .i64 2)) W) := Lib.hid fun W hW => racc_off e.out (by decide) hW
  replace P0 := Lib.hid P0
  clear h0 h1 h2 b0 e h
  go_enter Try.func20, Try.ntmps20
  go_wp2_with (first
    | (go_at_call 42; refine HV.out.mono ?_; rintro e w' ⟨rfl, rfl⟩)
    | (go_at_call 43; refine HG.out.mono ?_; rintro e w1 ⟨rfl, hb1⟩; have P1 := Lib.hid (P0.out.later hb1)))
  go_ret
  exact hoff.out _ P1.out
set_option maxHeartbeats 4000000 in
theorem racc_3 {rb : Nat} {s : St} {vl : Value} (x y k : Int) (v : ByteArray) (w : World) (h : Rx w rb s vl) (hb : accBad s x y k v 3) :
    Calls Try.prog 20 #[.pointer (some ⟨rb, 0, none⟩), .agg #[.int .i64 x, .int .i64 y], .int .i64 k, .string v] w (RAcc w rb s x y k v) := by
  have P0 := prt_new h x y
  obtain ⟨c0, c1, _⟩ := P0.cells
  have HV := Lib.hid (rvalid_any _ P0.rx)
  have HG := Lib.hid (rgood_any x y _ P0.rx)
  obtain ⟨h0, h1, h2, h3⟩ := hb
  have b0 : decide (Gd s.n x y) = true := decide_eq_true h0
  rw [b0] at HG
  have b1 : decide (k < 0) = false := decide_eq_false h1
  have b2 : decide (4096 ≤ k) = false := decide_eq_false h2
  have b3 : decide (65536 < v.size) = true := decide_eq_true h3
  have b3' : decide ((65536 : Int) < (v.size : Int)) = true := by simp; omega
  have e := Lib.hid (show accE s x y k v = 11 from by unfold accE; rw [if_pos ⟨h0, by omega, by omega⟩, if_pos h3])
  have hoff : Hid (∀ W, PRt w rb s vl x y W → RAcc w rb s x y k v (.returned (.int .i64 11)) W) := Lib.hid fun W hW => racc_off e.out (by decide) hW
  replace P0 := Lib.hid P0
  clear h0 h1 h2 h3 b0 e h
  go_enter Try.func20, Try.ntmps20
  go_wp2_with (first
    | (go_at_call 42; refine HV.out.mono ?_; rintro e w' ⟨rfl, rfl⟩)
    | (go_at_call 43; refine HG.out.mono ?_; rintro e w1 ⟨rfl, hb1⟩; have P1 := Lib.hid (P0.out.later hb1)))
  go_ret
  exact hoff.out _ P1.out
set_option maxHeartbeats 4000000 in
theorem racc_4 {rb : Nat} {s : St} {vl : Value} (x y k : Int) (v : ByteArray) (w : World) (h : Rx w rb s vl) (hb : accBad s x y k v 4) :
    Calls Try.prog 20 #[.pointer (some ⟨rb, 0, none⟩), .agg #[.int .i64 x, .int .i64 y], .int .i64 k, .string v] w (RAcc w rb s x y k v) := by
  have P0 := prt_new h x y
  obtain ⟨c0, c1, _⟩ := P0.cells
  have HV := Lib.hid (rvalid_any _ P0.rx)
  have HG := Lib.hid (rgood_any x y _ P0.rx)
  obtain ⟨h0, h1, h2, h3, h4⟩ := hb
  have b0 : decide (Gd s.n x y) = true := decide_eq_true h0
  rw [b0] at HG
  have b1 : decide (k < 0) = false := decide_eq_false h1
  have b2 : decide (4096 ≤ k) = false := decide_eq_false h2
  have b3 : decide (65536 < v.size) = false := decide_eq_false h3
  have b3' : decide ((65536 : Int) < (v.size : Int)) = false := by simp; omega
  have e := Lib.hid (show accE s x y k v = 8 from by unfold accE; rw [if_pos ⟨h0, by omega, by omega⟩, if_neg h3, if_pos h4])
  have hoff : Hid (∀ W, PRt w rb s vl x y W → RAcc w rb s x y k v (.returned (.int .i64 8)) W) := Lib.hid fun W hW => racc_off e.out (by decide) hW
  have HO := Lib.hid (fun W => Bal.rorder_any x y s.r s.m W)
  have HK : Hid (∀ W, PRt w rb s vl x y W → W.cell? ⟨w.heap.size, 0, none⟩ = some (.int .i64 x) ∧ W.cell? ⟨w.heap.size, 1, none⟩ = some (.int .i64 y) ∧ W.cell? ⟨rb, 2, none⟩ = some (.int .i64 s.r) ∧ W.cell? ⟨rb, 3, none⟩ = some (.int .i64 s.m)) := Lib.hid fun W h => ⟨h.cells.1, h.cells.2.1, h.cells.2.2.2.1, h.cells.2.2.2.2.1⟩
  have b4 : decide (ordV x y s.r s.m < 0) = true := decide_eq_true h4
  replace P0 := Lib.hid P0
  clear h0 h1 h2 h3 h4 b0 e h
  generalize ordV x y s.r s.m = oo at *
  go_enter Try.func20, Try.ntmps20
  go_wp2_with (first
    | (go_at_call 42; refine HV.out.mono ?_; rintro e w' ⟨rfl, rfl⟩)
    | (go_at_call 43; refine HG.out.mono ?_; rintro e w1 ⟨rfl, hb1⟩; have P1 := Lib.hid (P0.out.later hb1).drew))
  go_region_held3 (fun W => W.cell? ⟨w.heap.size, 0, none⟩ = some (.int .i64 x) ∧ W.cell? ⟨w.heap.size, 1, none⟩ = some (.int .i64 y) ∧ W.cell? ⟨rb, 2, none⟩ = some (.int .i64 s.r) ∧ W.cell? ⟨rb, 3, none⟩ = some (.int .i64 s.m))
    ((first | exact HK.out _ P2.out | exact HK.out _ P1.out | assumption))
    ((first | (go_at_call 44; refine (HO.out _).mono ?_; rintro e2 w2 ⟨rfl, hb2⟩; have P2 := Lib.hid (P1.out.later hb2))))
  go_wp2
  go_ret
  exact hoff.out _ P2.out
set_option maxHeartbeats 4000000 in
theorem racc_5 {rb : Nat} {s : St} {vl : Value} (x y k : Int) (v : ByteArray) (w : World) (h : Rx w rb s vl) (hb : accBad s x y k v 5) :
    Calls Try.prog 20 #[.pointer (some ⟨rb, 0, none⟩), .agg #[.int .i64 x, .int .i64 y], .int .i64 k, .string v] w (RAcc w rb s x y k v) := by
  have P0 := prt_new h x y
  obtain ⟨c0, c1, _⟩ := P0.cells
  have HV := Lib.hid (rvalid_any _ P0.rx)
  have HG := Lib.hid (rgood_any x y _ P0.rx)
  obtain ⟨h0, h1, h2, h3, h4, h5⟩ := hb
  have b0 : decide (Gd s.n x y) = true := decide_eq_true h0
  rw [b0] at HG
  have b1 : decide (k < 0) = false := decide_eq_false h1
  have b2 : decide (4096 ≤ k) = false := decide_eq_false h2
  have b3 : decide (65536 < v.size) = false := decide_eq_false h3
  have b3' : decide ((65536 : Int) < (v.size : Int)) = false := by simp; omega
  have e := Lib.hid (show accE s x y k v = 3 from by unfold accE; rw [if_pos ⟨h0, by omega, by omega⟩, if_neg h3, if_neg h4, if_pos h5])
  have hoff : Hid (∀ W, PRt w rb s vl x y W → RAcc w rb s x y k v (.returned (.int .i64 3)) W) := Lib.hid fun W hW => racc_off e.out (by decide) hW
  have HO := Lib.hid (fun W => Bal.rorder_any x y s.r s.m W)
  have HK : Hid (∀ W, PRt w rb s vl x y W → W.cell? ⟨w.heap.size, 0, none⟩ = some (.int .i64 x) ∧ W.cell? ⟨w.heap.size, 1, none⟩ = some (.int .i64 y) ∧ W.cell? ⟨rb, 2, none⟩ = some (.int .i64 s.r) ∧ W.cell? ⟨rb, 3, none⟩ = some (.int .i64 s.m)) := Lib.hid fun W h => ⟨h.cells.1, h.cells.2.1, h.cells.2.2.2.1, h.cells.2.2.2.2.1⟩
  have b4 : decide (ordV x y s.r s.m < 0) = false := decide_eq_false h4
  have b5 : decide (k < s.b) = true := decide_eq_true h5
  replace P0 := Lib.hid P0
  clear h0 h1 h2 h3 h4 h5 b0 e h
  generalize ordV x y s.r s.m = oo at *
  go_enter Try.func20, Try.ntmps20
  go_wp2_with (first
    | (go_at_call 42; refine HV.out.mono ?_; rintro e w' ⟨rfl, rfl⟩)
    | (go_at_call 43; refine HG.out.mono ?_; rintro e w1 ⟨rfl, hb1⟩; have P1 := Lib.hid (P0.out.later hb1).drew))
  go_region_held3 (fun W => W.cell? ⟨w.heap.size, 0, none⟩ = some (.int .i64 x) ∧ W.cell? ⟨w.heap.size, 1, none⟩ = some (.int .i64 y) ∧ W.cell? ⟨rb, 2, none⟩ = some (.int .i64 s.r) ∧ W.cell? ⟨rb, 3, none⟩ = some (.int .i64 s.m))
    ((first | exact HK.out _ P2.out | exact HK.out _ P1.out | assumption))
    ((first | (go_at_call 44; refine (HO.out _).mono ?_; rintro e2 w2 ⟨rfl, hb2⟩; have P2 := Lib.hid (P1.out.later hb2))))
  obtain ⟨_, _, _, _, _, d5⟩ := P2.out.cells
  go_wp2
  go_ret
  exact hoff.out _ P2.out
end Go.Proofs.Ytpaoaagphacclaa.Acc
