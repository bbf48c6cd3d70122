/- The walk of StoreNil. -/
import Derived.Test.YtdihlgbnmpefiaaS31
namespace Go.Proofs.Ytdihlgbnmpefiaa.Sto
open Go.RowKit Go.Lib
open Cnt (Ct cA OkC quietB appC)
open Rng (tx tx_of tx_size nameOk bl)
set_option linter.unusedVariables false
set_option linter.unusedSimpArgs false
set_option maxRecDepth 20000

theorem Bs.all {W : World} {p : Nat} {s : Sp} (h : Bs W p s) : W.cell? ⟨p, 0, none⟩ = some (.int .i64 s.d) ∧ W.cell? ⟨p, 1, none⟩ = some (.string (tx s.k)) ∧ W.cell? ⟨p, 2, none⟩ = some (.int .i64 s.c.v) ∧ W.cell? ⟨p, 3, none⟩ = some (.int .i64 s.c.u) ∧ W.cell? ⟨p, 4, none⟩ = some (.int .i64 s.c.d) ∧ W.cell? ⟨p, 5, none⟩ = some (.int .i64 s.c.l) ∧ W.cell? ⟨p, 6, none⟩ = some (.int .i64 s.c.h) ∧ W.cell? ⟨p, 7, none⟩ = some (.int .i64 s.p) ∧ W.cell? ⟨p, 8, none⟩ = some (.int .i64 s.n) ∧ W.cell? ⟨p, 9, none⟩ = some (.string (tx s.r.f)) ∧ W.cell? ⟨p, 10, none⟩ = some (.string (tx s.r.t)) :=
  ⟨cell_of_row W p 0 _ _ _ h, cell_of_row W p 1 _ _ _ h, cell_of_row W p 2 _ _ _ h, cell_of_row W p 3 _ _ _ h, cell_of_row W p 4 _ _ _ h, cell_of_row W p 5 _ _ _ h, cell_of_row W p 6 _ _ _ h, cell_of_row W p 7 _ _ _ h, cell_of_row W p 8 _ _ _ h, cell_of_row W p 9 _ _ _ h, cell_of_row W p 10 _ _ _ h⟩
/-- A pointer to no valid store, and a step in a box. -/
structure Np (w W : World) (p : Nat) (s : Sp) (q : Value) : Prop where
  bel : Below w.heap.size w W
  bx : Bs W p s
  nv : Nv q W
theorem Np.later {w W W' : World} {p : Nat} {s : Sp} {q : Value} (h : Np w W p s q) (hb : Below W.heap.size W W') : Np w W' p s q := ⟨h.bel.trans (hb.mono h.bel.size), h.bx.later hb, h.nv.later hb⟩
theorem eq_zero0 (w : World) : (Op.equalIn 10000 Cnt.TC (cA 0 0 0 0 0) (cA 0 0 0 0 0)).run Try.prog w = .ok true w := by
  rw [Cnt.eq_c, Cnt.eqC_t rfl]
set_option maxHeartbeats 16000000 in
theorem nil_any (s : Sp) (w : World) (_ : True) :
    Calls Try.prog 3 #[sA s] w fun e w' => e = .returned (.bool true) ∧ Below w.heap.size w w' := by
  have hW := Lib.hid (fun W => works_any W)
  have hb1 := Cnt.alloc_b w (.cells (row11 s) TP)
  have hT := short_any _ _ _ _ _ (one_st (W := w.alloc (.cells (row11 s) TP)) s)
  rw [short_one, World.size_alloc] at hT
  generalize stOk s = ok at *
  have hb2 : Below w.heap.size w ((w.alloc (.cells (row11 s) TP)).alloc (.cells (row11 s) TP)) := hb1.alloc hb1.size _
  have hbx : Bs (w.alloc (.cells (row11 s) TP)) w.heap.size s := heap_alloc_new w _
  have hbx2 := hbx.later (Cnt.alloc_b _ (.cells (row11 s) TP))
  generalize hw2e : (w.alloc (.cells (row11 s) TP)).alloc (.cells (row11 s) TP) = w2 at *
  replace hT := Lib.hid hT
  have c0 := cell_of_row _ _ 0 _ _ _ hbx
  have c1 := cell_of_row _ _ 1 _ _ _ hbx
  have c2 := cell_of_row _ _ 2 _ _ _ hbx
  have c3 := cell_of_row _ _ 3 _ _ _ hbx
  have c4 := cell_of_row _ _ 4 _ _ _ hbx
  have c5 := cell_of_row _ _ 5 _ _ _ hbx
  have c6 := cell_of_row _ _ 6 _ _ _ hbx
  have c7 := cell_of_row _ _ 7 _ _ _ hbx
  have c8 := cell_of_row _ _ 8 _ _ _ hbx
  have c9 := cell_of_row _ _ 9 _ _ _ hbx
  have c10 := cell_of_row _ _ 10 _ _ _ hbx
  obtain ⟨sd, sk, ⟨cv, cu, cd, cl, cg⟩, sp, sn, ⟨rf, rt⟩⟩ := s
  obtain ⟨st, hst⟩ : ∃ st, st = (⟨sd, sk, ⟨cv, cu, cd, cl, cg⟩, sp, sn, ⟨rf, rt⟩⟩ : Sp) := ⟨_, rfl⟩
  rw [← hst] at hbx2
  have hall : Hid (∀ (W : World) (p : Nat), Bs W p st → W.cell? ⟨p, 1, none⟩ = some (.string (tx sk)) ∧ W.cell? ⟨p, 2, none⟩ = some (.int .i64 cv) ∧ W.cell? ⟨p, 3, none⟩ = some (.int .i64 cu) ∧ W.cell? ⟨p, 4, none⟩ = some (.int .i64 cd) ∧ W.cell? ⟨p, 5, none⟩ = some (.int .i64 cl) ∧ W.cell? ⟨p, 6, none⟩ = some (.int .i64 cg) ∧ W.cell? ⟨p, 7, none⟩ = some (.int .i64 sp) ∧ W.cell? ⟨p, 8, none⟩ = some (.int .i64 sn) ∧ W.cell? ⟨p, 9, none⟩ = some (.string (tx rf)) ∧ W.cell? ⟨p, 10, none⟩ = some (.string (tx rt))) := fun W p h => by
    have := h.all
    rw [hst] at this
    exact this.2
  clear hst hbx
  dsimp only [row11, sA] at *
  generalize tx sk = s1 at *
  generalize tx rf = s2 at *
  generalize tx rt = s3 at *
  cases ok with
  | false =>
    go_enter Try.func3, Try.ntmps3
    go_wp2_with fail
    refine hT.out.mono ?_
    rintro e w' ⟨rfl, rfl⟩
    go_wp2_with fail
    refine (hW.out _).mono ?_
    rintro e w3 ⟨rfl, hb3⟩
    go_wp2_with fail
    go_ret
    exact ⟨rfl, hb2.trans (hb3.mono hb2.size)⟩
  | true =>
    go_enter Try.func3, Try.ntmps3
    go_wp2_with fail
    refine hT.out.mono ?_
    rintro e w' ⟨rfl, rfl⟩
    clear c0 c1 c2 c3 c4 c5 c6 c7 c8 c9 c10 hw2e hT
    have hz : Nv (.pointer (some ⟨w2.heap.size, 0, none⟩)) ((w2.alloc (.cells #[.map none] TB)).alloc (.cells #[.pointer none, .pointer (some ⟨w2.heap.size, 0, none⟩)] 31)) := (show Nv _ (w2.alloc (.cells #[.map none] TB)) from .inr ⟨_, rfl, heap_alloc_new _ _⟩).alloc _
    have hr := heap_alloc_new (w2.alloc (.cells #[.map none] TB)) (.cells #[.pointer none, .pointer (some ⟨w2.heap.size, 0, none⟩)] 31)
    rw [World.size_alloc] at hr
    have hb3 : Below w2.heap.size w2 ((w2.alloc (.cells #[.map none] TB)).alloc (.cells #[.pointer none, .pointer (some ⟨w2.heap.size, 0, none⟩)] 31)) := ((Below.refl _ _).alloc (Nat.le_refl _) _).alloc (by simp) _
    have hn0 := hbx2.later hb3
    go_wp2_with fail
    obtain ⟨z, hzq⟩ : ∃ z, w2.heap.size = z := ⟨_, rfl⟩
    obtain ⟨w3, hw3⟩ : ∃ w3, (w2.alloc (.cells #[.map none] TB)).alloc (.cells #[.pointer none, .pointer (some ⟨w2.heap.size, 0, none⟩)] 31) = w3 := ⟨_, rfl⟩
    rw [hw3] at hz hr hn0 hb3 ⊢
    rw [hzq] at hz hr ⊢
    have hbw := hb2.trans (hb3.mono hb2.size)
    clear hb2 hb3 hbx2 hw3 hb1
    go_loopw [5] (fun i wr => ∃ k : Nat, k ≤ 2 ∧ i = .int .i64 k ∧ Below w3.heap.size w3 wr) (fun i _ => 2 - (intOf i).toNat)
    case atStart => exact ⟨0, Nat.zero_le _, rfl, Below.refl _ _⟩
    case round =>
      obtain ⟨k, hk, rfl, hb⟩ := hrel
      obtain ⟨p, hp⟩ : ∃ p, w.heap.size = p := ⟨_, rfl⟩
      rw [hp] at hn0
      by_cases hlt : k < 2
      · obtain ⟨q, hq, hnv⟩ : ∃ q, wr.cell? ⟨z + 1, k, none⟩ = some q ∧ Nv q w3 := by
          have hr2 := (hb.block (z + 1) (Array.getElem?_eq_some_iff.1 hr).1).trans hr
          have hkk : k = 0 ∨ k = 1 := by omega
          rcases hkk with rfl | rfl
          · exact ⟨_, cell_of_row _ _ 0 _ _ _ hr2, .inl rfl⟩
          · exact ⟨_, cell_of_row _ _ 1 _ _ _ hr2, hz⟩
        have hN : Np w wr p st q := ⟨hbw.trans (hb.mono hbw.size), hn0.later hb, hnv.later hb⟩
        have hsz := hb.size
        have hml : (k : Int) < 2 := by omega
        have hB : Below wr.heap.size wr wr := Below.refl _ _
        have hq0 := eq_zero0
        clear hnv hn0 hz hr
        rw [hp]
        skip
        obtain ⟨k1, k2, k3, k4, k5, k6, k7, k8, k9, k10⟩ := hall.out _ _ hN.bx
        go_wp2_with fail
        refine (get_nv q s1 _ hN.nv).mono ?_
        rintro e y1 ⟨rfl, hy1⟩
        have hy1 := hy1.trans ((Cnt.alloc_b y1 (Cnt.cRow 0 0 0 0 0)).mono hy1.size)
        have hN := hN.later hy1
        have hB := hB.trans (hy1.mono hB.size)
        have hcr := heap_alloc_new y1 (Cnt.cRow 0 0 0 0 0)
        obtain ⟨q7, hq7⟩ : ∃ q7, y1.heap.size = q7 := ⟨_, rfl⟩
        rw [hq7] at hcr
        clear k1 k2 k3 k4 k5 k6 k7 k8 k9 k10
        obtain ⟨k1, k2, k3, k4, k5, k6, k7, k8, k9, k10⟩ := hall.out _ _ hN.bx
        go_wp2_with fail
        refine (ap_nv q s1 sp sn _ hN.nv).mono ?_
        rintro e y2 ⟨rfl, hy2⟩
        have hN := hN.later hy2
        have hB := hB.trans (hy2.mono hB.size)
        have hcr := (hy2.block q7 (Array.getElem?_eq_some_iff.1 hcr).1).trans hcr
        clear k1 k2 k3 k4 k5 k6 k7 k8 k9 k10
        obtain ⟨k1, k2, k3, k4, k5, k6, k7, k8, k9, k10⟩ := hall.out _ _ hN.bx
        go_wp2_with fail
        refine (in_nv q s2 s3 _ hN.nv).mono ?_
        rintro e y3 ⟨rfl, hy3⟩
        have hN := hN.later hy3
        have hB := hB.trans (hy3.mono hB.size)
        have hcr := (hy3.block q7 (Array.getElem?_eq_some_iff.1 hcr).1).trans hcr
        clear k1 k2 k3 k4 k5 k6 k7 k8 k9 k10
        obtain ⟨k1, k2, k3, k4, k5, k6, k7, k8, k9, k10⟩ := hall.out _ _ hN.bx
        go_wp2_with fail
        refine (sum_nv q _ hN.nv).mono ?_
        rintro e y4 ⟨rfl, hy4⟩
        have hN := hN.later hy4
        have hB := hB.trans (hy4.mono hB.size)
        have hcr := (hy4.block q7 (Array.getElem?_eq_some_iff.1 hcr).1).trans hcr
        clear k1 k2 k3 k4 k5 k6 k7 k8 k9 k10
        have d0 := cell_of_row _ _ 0 _ _ _ hcr
        have d1 := cell_of_row _ _ 1 _ _ _ hcr
        have d2 := cell_of_row _ _ 2 _ _ _ hcr
        have d3 := cell_of_row _ _ 3 _ _ _ hcr
        have d4 := cell_of_row _ _ 4 _ _ _ hcr
        have d0 : y4.cell? ⟨q7, 0, none⟩ = some (.int .i64 0) := d0
        have d1 : y4.cell? ⟨q7, 1, none⟩ = some (.int .i64 0) := d1
        have d2 : y4.cell? ⟨q7, 2, none⟩ = some (.int .i64 0) := d2
        have d3 : y4.cell? ⟨q7, 3, none⟩ = some (.int .i64 0) := d3
        have d4 : y4.cell? ⟨q7, 4, none⟩ = some (.int .i64 0) := d4
        obtain ⟨k1, k2, k3, k4, k5, k6, k7, k8, k9, k10⟩ := hall.out _ _ hN.bx
        go_wp2_with fail
        refine (put_nv q s1 cv cu cd cl cg _ hN.nv).mono ?_
        rintro e y5 ⟨rfl, hy5⟩
        have hN := hN.later hy5
        have hB := hB.trans (hy5.mono hB.size)
        have hcr := (hy5.block q7 (Array.getElem?_eq_some_iff.1 hcr).1).trans hcr
        clear k1 k2 k3 k4 k5 k6 k7 k8 k9 k10
        obtain ⟨k1, k2, k3, k4, k5, k6, k7, k8, k9, k10⟩ := hall.out _ _ hN.bx
        go_wp2_with fail
        refine (rem_nv q s1 _ hN.nv).mono ?_
        rintro e y6 ⟨rfl, hy6⟩
        have hN := hN.later hy6
        have hB := hB.trans (hy6.mono hB.size)
        have hcr := (hy6.block q7 (Array.getElem?_eq_some_iff.1 hcr).1).trans hcr
        clear k1 k2 k3 k4 k5 k6 k7 k8 k9 k10
        obtain ⟨k1, k2, k3, k4, k5, k6, k7, k8, k9, k10⟩ := hall.out _ _ hN.bx
        go_wp2_with fail
        refine (keys_nv q _ hN.nv).mono ?_
        rintro e y7 ⟨rfl, hy7⟩
        have hN := hN.later hy7
        have hB := hB.trans (hy7.mono hB.size)
        have hcr := (hy7.block q7 (Array.getElem?_eq_some_iff.1 hcr).1).trans hcr
        clear k1 k2 k3 k4 k5 k6 k7 k8 k9 k10
        obtain ⟨k1, k2, k3, k4, k5, k6, k7, k8, k9, k10⟩ := hall.out _ _ hN.bx
        go_wp2_with fail
        refine (len_nv q _ hN.nv).mono ?_
        rintro e w' ⟨rfl, rfl⟩
        clear k1 k2 k3 k4 k5 k6 k7 k8 k9 k10
        obtain ⟨k1, k2, k3, k4, k5, k6, k7, k8, k9, k10⟩ := hall.out _ _ hN.bx
        go_wp2_with fail
        refine (quiet_nv q _ hN.nv).mono ?_
        rintro e y8 ⟨rfl, hy8⟩
        have hN := hN.later hy8
        have hB := hB.trans (hy8.mono hB.size)
        have hcr := (hy8.block q7 (Array.getElem?_eq_some_iff.1 hcr).1).trans hcr
        clear k1 k2 k3 k4 k5 k6 k7 k8 k9 k10
        obtain ⟨k1, k2, k3, k4, k5, k6, k7, k8, k9, k10⟩ := hall.out _ _ hN.bx
        go_wp2_with fail
        refine (copy_nv q _ hN.nv).mono ?_
        rintro e w' ⟨rfl, rfl⟩
        clear k1 k2 k3 k4 k5 k6 k7 k8 k9 k10
        go_wp2_with fail
        go_roundw
        case rel => exact ⟨k + 1, by omega, by go_num, hb.trans (hB.mono hb.size)⟩
        case measure => simp [intOf]; omega
      · obtain rfl : k = 2 := by omega
        clear hz hr hn0
        go_wp2_with fail
        refine (hW.out _).mono ?_
        rintro e y ⟨rfl, hy⟩
        go_wp2_with fail
        go_ret
        have hb5 := hbw.trans (hb.mono hbw.size)
        exact ⟨rfl, hb5.trans (hy.mono hb5.size)⟩
end Go.Proofs.Ytdihlgbnmpefiaa.Sto
