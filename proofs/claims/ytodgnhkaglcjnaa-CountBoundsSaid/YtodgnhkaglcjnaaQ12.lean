/- The walk of CountRoom. -/
import Derived.Test.YtodgnhkaglcjnaaQ11
namespace Go.Proofs.Ytodgnhkaglcjnaa.Cnt
open Go.RowKit
set_option linter.unusedVariables false
set_option linter.unusedSimpArgs false
set_option maxRecDepth 20000

theorem room_mk {v u d b o : Int} (h : I32 v ∧ U16 u ∧ U16 d ∧ U16 b ∧ U16 o) : roomV (mk v u d b o) = .tuple #[.int .i64 o, .int .i64 b, .int .i64 0] := by
  unfold roomV
  rw [if_pos (okC_t (mk_ok h))]
  unfold I32 U16 at h
  have e1 : roomN (mk v u d b o) = o := by unfold roomN mk; simp only; omega
  have e2 : roomN (mirC (mk v u d b o)) = b := by unfold roomN mirC mk; simp only; omega
  rw [e1, e2]
theorem do_room {v u d b o n : Int} (h : I32 v ∧ U16 u ∧ U16 d ∧ U16 b ∧ U16 o) (hn : Ok n) : (chC addC (mk v u d b o) n).2 = if n ≤ o ∧ -n ≤ b then 0 else 7 := by
  have hc := mk_ok h
  unfold I32 U16 at h
  by_cases h0 : 0 ≤ n
  · unfold mk at *
    rw [doP _ _ _ _ _ _ hc hn h0]
    split <;> split <;> first | rfl | omega
  · unfold mk at *
    rw [doN _ _ _ _ _ _ hc hn h0]
    split <;> split <;> first | rfl | omega
/-- What lies in memory while the deltas are tried. -/
structure Lx (w : World) (pv pu pd pb po : Int) (qc : Nat) (c : Ct) (qs : Nat) (D : Array Value) (W : World) : Prop where
  prt : W.heap[w.heap.size]? = some (pRow pv pu pd pb po)
  bx : Bxs w [(qc, c)] W
  row : W.heap[qs]? = some (.cells D 2 (0, 0))
theorem Lx.later {w W W2 : World} {pv pu pd pb po : Int} {qc qs : Nat} {c : Ct} {D : Array Value} (x : Lx w pv pu pd pb po qc c qs D W) (hb : Below W.heap.size W W2) : Lx w pv pu pd pb po qc c qs D W2 :=
  ⟨(hb.block _ (Array.getElem?_eq_some_iff.1 x.prt).1).trans x.prt, x.bx.later hb, (hb.block _ (Array.getElem?_eq_some_iff.1 x.row).1).trans x.row⟩
theorem Lx.alloc {w W : World} {pv pu pd pb po : Int} {qc qs : Nat} {c : Ct} {D : Array Value} (x : Lx w pv pu pd pb po qc c qs D W) (o : Obj) : Lx w pv pu pd pb po qc c qs D (W.alloc o) := x.later (alloc_b _ _)
theorem prt_cells {W : World} {q : Nat} {v u d b o : Int} (h : W.heap[q]? = some (pRow v u d b o)) : W.cell? ⟨q, 0, none⟩ = some (.int .i32 v) ∧ W.cell? ⟨q, 1, none⟩ = some (.int .u16 u) ∧ W.cell? ⟨q, 2, none⟩ = some (.int .u16 d) ∧ W.cell? ⟨q, 3, none⟩ = some (.int .u16 b) ∧ W.cell? ⟨q, 4, none⟩ = some (.int .u16 o) :=
  ⟨cell_of_row W q 0 _ _ _ h, cell_of_row W q 1 _ _ _ h, cell_of_row W q 2 _ _ _ h, cell_of_row W q 3 _ _ _ h, cell_of_row W q 4 _ _ _ h⟩
def dAt (n b o : Int) (k : Nat) : Int := match k with | 0 => n | 1 => o | 2 => o + 1 | 3 => -b | 4 => -b - 1 | _ => 0
theorem dAt_cell (n b o : Int) (k : Nat) (hk : k < 6) : (#[.int .i64 n, .int .i64 o, .int .i64 (o + 1), .int .i64 (-b), .int .i64 (-b - 1), .int .i64 0] : Array Value)[k]? = some (.int .i64 (dAt n b o k)) := by
  match k, hk with
  | 0, _ => rfl
  | 1, _ => rfl
  | 2, _ => rfl
  | 3, _ => rfl
  | 4, _ => rfl
  | 5, _ => rfl
theorem dAt_ok {n b o : Int} (hn : -2147483648 ≤ n ∧ n ≤ 2147483647) (hb : U16 b) (ho : U16 o) (k : Nat) : -2147483648 ≤ dAt n b o k ∧ dAt n b o k ≤ 2147483648 := by
  unfold U16 at *
  unfold dAt
  split <;> omega
set_option maxHeartbeats 4000000 in
theorem w_countRoom (pv pu pd pb po n : Int) (w : World) (w0 : I32 pv ∧ U16 pu ∧ U16 pd ∧ U16 pb ∧ U16 po) (w1 : (Lit.int .i32 n).wf = true) :
    Calls Try.prog 8 #[pA pv pu pd pb po, .int .i32 n] w fun e w' => e = .returned (.bool true) ∧ Below w.heap.size w w' := by
  have hnb := bounds_i32 w1
  have hw := Lib.hid (fun W => works_any W)
  have hM := Lib.hid (fun W => made_any pv pu pd pb po W w0.1 w0.2.1 w0.2.2.1 w0.2.2.2.1 w0.2.2.2.2)
  have hR := fun W => room3_any pv pu pd (pv - pu - pb) (pv + pd + po) W
  have hrm := room_mk w0
  unfold mk at hrm
  rw [hrm] at hR
  have hD : ∀ k, k < 6 → ∃ x0 x1 x2 x3 x4, ∀ W, Calls Try.prog 12 #[cA pv pu pd (pv - pu - pb) (pv + pd + po), .int .i64 (dAt n pb po k)] W fun e w' => e = .returned (P2 x0 x1 x2 x3 x4 (if dAt n pb po k ≤ po ∧ -(dAt n pb po k) ≤ pb then 0 else 7)) ∧ Below W.heap.size W w' := fun k hk => by
    have hok : Ok (dAt n pb po k) := by have := dAt_ok hnb w0.2.2.2.1 w0.2.2.2.2 k; unfold Ok; omega
    have h1 := do_room w0 hok
    have h2 := fun W => do_any pv pu pd (pv - pu - pb) (pv + pd + po) (dAt n pb po k) W
    unfold mk at h1
    generalize chC addC ⟨pv, pu, pd, pv - pu - pb, pv + pd + po⟩ (dAt n pb po k) = r at *
    obtain ⟨⟨x0, x1, x2, x3, x4⟩, x5⟩ := r
    refine ⟨x0, x1, x2, x3, x4, fun W => ?_⟩
    replace h1 : x5 = _ := h1
    have h3 := h2 W
    rw [h1] at h3
    exact h3
  have hneg : ∀ k, IntKind.i64.wrap (-(dAt n pb po k)) = -(dAt n pb po k) := fun k => by
    have := dAt_ok hnb w0.2.2.2.1 w0.2.2.2.2 k
    exact i64w (by omega) (by omega)
  have i1 : IntKind.i64.wrap n = n := i64w (by omega) (by omega)
  have hU := w0
  unfold U16 I32 at hU
  have i2 : IntKind.i64.wrap (po + 1) = po + 1 := i64w (by omega) (by omega)
  have i3 : IntKind.i64.wrap (-pb) = -pb := i64w (by omega) (by omega)
  have i4 : IntKind.i64.wrap (-pb - 1) = -pb - 1 := i64w (by omega) (by omega)
  have i5 : IntKind.i64.wrap po = po := i64w (by omega) (by omega)
  have i6 : IntKind.i64.wrap pb = pb := i64w (by omega) (by omega)
  have z1 : decide (po < 0) = false := by simp; omega
  have z2 : decide (pb < 0) = false := by simp; omega
  have z3 : (po < 0) = False := by simp; omega
  have z4 : (pb < 0) = False := by simp; omega
  have hp0 : (w.alloc (pRow pv pu pd pb po)).heap[w.heap.size]? = some (pRow pv pu pd pb po) := heap_alloc_new _ _
  have hb0 := Bxs.nil (alloc_b w (pRow pv pu pd pb po))
  replace hD := Lib.hid hD
  replace hneg := Lib.hid hneg
  replace hR := Lib.hid hR
  clear hU hrm w0 w1 hnb
  generalize pv - pu - pb = l at *
  generalize pv + pd + po = g at *
  go_enter Try.func8, Try.ntmps8
  go_wp2_with fail
  refine (hM.out _).mono ?_
  rintro e w1 ⟨rfl, hb1⟩
  have hB := (hb0.later hb1).add pv pu pd l g
  replace hp0 := rw_later hp0 (hb1.trans ((alloc_b w1 (cRow pv pu pd l g)).mono hb1.size))
  go_wp2_with fail
  refine (hR.out _).mono ?_
  rintro e w2 ⟨rfl, hb2⟩
  have hL : Lx w pv pu pd pb po w1.heap.size ⟨pv, pu, pd, l, g⟩ w2.heap.size _ _ := ⟨rw_later hp0 (hb2.trans ((alloc_b w2 (.cells #[.int .i64 n, .int .i64 po, .int .i64 (po + 1), .int .i64 (-pb), .int .i64 (-pb - 1), .int .i64 0] 2)).mono hb2.size)), (hB.later hb2).alloc (.cells #[.int .i64 n, .int .i64 po, .int .i64 (po + 1), .int .i64 (-pb), .int .i64 (-pb - 1), .int .i64 0] 2), rw_new w2 (.cells #[.int .i64 n, .int .i64 po, .int .i64 (po + 1), .int .i64 (-pb), .int .i64 (-pb - 1), .int .i64 0] 2)⟩
  clear hB hp0 hb1 hb2 hR hM hb0
  go_wp2_with fail
  generalize w1.heap.size = qc at *
  generalize w2.heap.size = qs at *
  generalize hDD : (#[.int .i64 n, .int .i64 po, .int .i64 (po + 1), .int .i64 (-pb), .int .i64 (-pb - 1), .int .i64 0] : Array Value) = DD at *
  have hdc : Hid (∀ k, k < 6 → DD[k]? = some (.int .i64 (dAt n pb po k))) := fun k hk => by rw [← hDD]; exact dAt_cell n pb po k hk
  clear hDD
  go_loopw [43] (fun i wr => ∃ k : Nat, k ≤ 6 ∧ i = .int .i64 k ∧ Lx w pv pu pd pb po qc ⟨pv, pu, pd, l, g⟩ qs DD wr) (fun i _ => 6 - (intOf i).toNat)
  case atStart => exact ⟨0, Nat.zero_le _, rfl, hL⟩
  case round =>
    obtain ⟨k, hk, rfl, hKr⟩ := hrel
    by_cases hlt : k < 6
    · obtain ⟨x0, x1, x2, x3, x4, hDk⟩ := hD.out k hlt
      have hnk := hneg.out k
      have p0 : wr.cell? ⟨qs, k, none⟩ = some (.int .i64 (dAt n pb po k)) := (cell_of_row wr qs k _ _ _ hKr.row).trans (hdc.out k hlt)
      obtain ⟨c0, c1, c2, c3, c4, clt⟩ := hKr.bx.cells 0 rfl
      replace hDk := Lib.hid hDk
      generalize dAt n pb po k = D at *
      by_cases h1 : D ≤ po
      · by_cases h2 : -D ≤ pb
        · have hDk2 : Hid (∀ W, Calls Try.prog 12 #[cA pv pu pd l g, .int .i64 D] W fun e w' => e = .returned (P2 x0 x1 x2 x3 x4 0) ∧ Below W.heap.size W w') := fun W => by
            have := hDk.out W
            rwa [if_pos ⟨h1, h2⟩] at this
          have b1 : decide (D ≤ po) = true := by simpa using h1
          have b2 : decide (-D ≤ pb) = true := by simpa using h2
          clear h1 h2 hDk
          go_wp2_with (go_at_call 12; refine (hDk2.out _).mono ?_; rintro e w3 ⟨rfl, hb3⟩; have hK3 := (hKr.later hb3).alloc (cRow x0 x1 x2 x3 x4))
          go_roundw
          case rel => exact ⟨k + 1, by omega, by go_num, hK3⟩
          case measure => simp [intOf]; omega
        · have hDk2 : Hid (∀ W, Calls Try.prog 12 #[cA pv pu pd l g, .int .i64 D] W fun e w' => e = .returned (P2 x0 x1 x2 x3 x4 7) ∧ Below W.heap.size W w') := fun W => by
            have := hDk.out W
            rwa [if_neg (fun h => h2 h.2)] at this
          have b1 : decide (D ≤ po) = true := by simpa using h1
          have b2 : decide (-D ≤ pb) = false := by simpa using h2
          have b3 : (-D ≤ pb) = False := by simpa using h2
          clear h1 h2 hDk
          go_wp2_with (go_at_call 12; refine (hDk2.out _).mono ?_; rintro e w3 ⟨rfl, hb3⟩; have hK3 := (hKr.later hb3).alloc (cRow x0 x1 x2 x3 x4))
          go_roundw
          case rel => exact ⟨k + 1, by omega, by go_num, hK3⟩
          case measure => simp [intOf]; omega
      · have hDk2 : Hid (∀ W, Calls Try.prog 12 #[cA pv pu pd l g, .int .i64 D] W fun e w' => e = .returned (P2 x0 x1 x2 x3 x4 7) ∧ Below W.heap.size W w') := fun W => by
          have := hDk.out W
          rwa [if_neg (fun h => h1 h.1)] at this
        have b1 : decide (D ≤ po) = false := by simpa using h1
        have b3 : (D ≤ po) = False := by simpa using h1
        clear h1 hDk
        go_wp2_with (go_at_call 12; refine (hDk2.out _).mono ?_; rintro e w3 ⟨rfl, hb3⟩; have hK3 := (hKr.later hb3).alloc (cRow x0 x1 x2 x3 x4))
        go_roundw
        case rel => exact ⟨k + 1, by omega, by go_num, hK3⟩
        case measure => simp [intOf]; omega
    · obtain rfl : k = 6 := by omega
      clear hlt hk
      obtain ⟨t0, t1, t2, t3, t4⟩ := prt_cells hKr.prt
      go_wp2_with (go_at_call 20; refine (hw.out _).mono ?_; rintro e w3 ⟨rfl, hb3⟩; have hK3 := hKr.later hb3)
      go_ret
      exact ⟨rfl, hK3.bx.bel⟩
end Go.Proofs.Ytodgnhkaglcjnaa.Cnt
