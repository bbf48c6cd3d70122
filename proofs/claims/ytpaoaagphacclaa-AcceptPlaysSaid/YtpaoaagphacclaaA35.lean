/- The document's acceptor: good Promised List Forget. -/
import Derived.Test.YtpaoaagphacclaaA34
namespace Go.Proofs.Ytpaoaagphacclaa.Acc
open Go.RowKit Go.Maps Go.Lib
open Bal (TB bOk ckB ordV eqB eqB_t eqB_f eq_b alloc_b)
set_option linter.unusedVariables false
set_option linter.unusedSimpArgs false
set_option maxRecDepth 20000

structure PRt (w : World) (rb : Nat) (s : St) (v : Value) (x y : Int) (W : World) : Prop where
  blk : W.heap[w.heap.size]? = some (.cells #[.int .i64 x, .int .i64 y] TB (0, 0))
  rx : Rx W rb s v
  bel : Below w.heap.size w W
section
variable {w W W' : World} {rb : Nat} {s : St} {v : Value} {x y : Int}
theorem PRt.later (h : PRt w rb s v x y W) (hb : Below W.heap.size W W') : PRt w rb s v x y W' := ⟨(hb.block _ (Array.getElem?_eq_some_iff.1 h.blk).1).trans h.blk, h.rx.later hb, h.bel.trans (hb.mono h.bel.size)⟩
theorem PRt.drew (h : PRt w rb s v x y W) : PRt w rb s v x y W.drew := h.later (Below.refl _ _).drew
theorem prt_new (h : Rx w rb s v) (x y : Int) : PRt w rb s v x y (w.alloc (.cells #[.int .i64 x, .int .i64 y] TB)) := ⟨heap_alloc_new _ _, h.alloc _, alloc_b _ _⟩
theorem PRt.cells (h : PRt w rb s v x y W) : W.cell? ⟨w.heap.size, 0, none⟩ = some (.int .i64 x) ∧ W.cell? ⟨w.heap.size, 1, none⟩ = some (.int .i64 y) ∧ W.cell? ⟨rb, 1, none⟩ = some (.int .i64 s.n) ∧ W.cell? ⟨rb, 2, none⟩ = some (.int .i64 s.r) ∧ W.cell? ⟨rb, 3, none⟩ = some (.int .i64 s.m) ∧ W.cell? ⟨rb, 5, none⟩ = some (.int .i64 s.b) :=
  ⟨cell_of_row W w.heap.size 0 _ TB _ h.blk, cell_of_row W w.heap.size 1 _ TB _ h.blk, h.rx.cells.2.1, h.rx.cells.2.2.1, h.rx.cells.2.2.2.1, h.rx.cells.2.2.2.2.2⟩
end
set_option maxHeartbeats 2000000 in
theorem rgood_any {rb : Nat} {s : St} {v : Value} (x y : Int) (w : World) (h : Rx w rb s v) :
    Calls Try.prog 43 #[.pointer (some ⟨rb, 0, none⟩), .agg #[.int .i64 x, .int .i64 y]] w fun e w' => e = .returned (.bool (decide (Gd s.n x y))) ∧ Below w.heap.size w w' := by
  have P0 := prt_new h x y
  have hn := h.ok.hn
  have hq := fun W => eq_b x y 0 0 W
  by_cases hz : x = 0 ∧ y = 0
  · rw [eqB_t hz] at hq
    obtain ⟨c0, c1, c2, _⟩ := P0.cells
    have e := Lib.hid (show decide (Gd s.n x y) = false from decide_eq_false (fun h => by have := h.1; omega))
    have hB := Lib.hid P0.bel
    clear P0 hz hn h
    go_enter Try.func43, Try.ntmps43
    go_wp2
    go_quiet (fail)
    go_wp2
    go_ret
    exact ⟨by rw [e.out]; rfl, below_drewN hB.out _⟩
  · rw [eqB_f hz] at hq
    have HC := Lib.hid (fun W => Bal.rcheck_any x y s.n W)
    have hck : (ckB x y s.n == 0) = decide (Gd s.n x y) := by
      unfold ckB
      by_cases hg : Gd s.n x y
      · rw [if_pos ⟨hn, .inr hg⟩, decide_eq_true hg]; rfl
      · rw [if_neg (by rintro ⟨_, h1 | h1⟩; exact hz h1; exact hg h1), decide_eq_false hg]; rfl
    generalize ckB x y s.n = ck at *
    have HK : Hid (∀ W, PRt w rb s v x y W → W.cell? ⟨w.heap.size, 0, none⟩ = some (.int .i64 x) ∧ W.cell? ⟨w.heap.size, 1, none⟩ = some (.int .i64 y) ∧ W.cell? ⟨rb, 1, none⟩ = some (.int .i64 s.n)) := Lib.hid fun W h => ⟨h.cells.1, h.cells.2.1, h.cells.2.2.1⟩
    have P0d := Lib.hid P0.drew
    clear P0 hz hn h
    generalize decide (Gd s.n x y) = gd at *
    go_enter Try.func43, Try.ntmps43
    go_wp2_with fail
    generalize w.alloc (.cells #[.int .i64 x, .int .i64 y] TB) = W0 at *
    go_region_held3 (fun W => W.cell? ⟨w.heap.size, 0, none⟩ = some (.int .i64 x) ∧ W.cell? ⟨w.heap.size, 1, none⟩ = some (.int .i64 y) ∧ W.cell? ⟨rb, 1, none⟩ = some (.int .i64 s.n))
      ((first | exact HK.out _ P1.out | exact HK.out _ P0d.out | assumption))
      ((first | (go_at_call 55; refine (HC.out _).mono ?_; rintro e2 w1 ⟨rfl, hb1⟩; have P1 := Lib.hid (P0d.out.later hb1))))
    go_wp2
    go_ret
    exact ⟨rfl, P1.out.bel⟩
set_option maxHeartbeats 1000000 in
theorem rpromised_any {rb : Nat} {s : St} {v : Value} (w : World) (x : Rx w rb s v) :
    Calls Try.prog 28 #[.pointer (some ⟨rb, 0, none⟩)] w fun e w' => e = .returned (.agg #[.int .i64 s.r, .int .i64 s.m]) ∧ Below w.heap.size w w' := by
  have x1 := x.alloc (.cells #[.int .i64 0, .int .i64 0] TB)
  have HV := Lib.hid (rvalid_any _ x1)
  obtain ⟨_, _, c2, c3, _⟩ := x1.cells
  have hs := Lib.hid (Bal.bx_new w s.r s.m)
  clear x x1
  go_enter Try.func28, Try.ntmps28
  go_wp2_with (go_at_call 42; refine HV.out.mono ?_; rintro e w' ⟨rfl, rfl⟩)
  refine bodyPost_ret (Bal.res2 rfl _ rfl hs.out) rfl ?_
  exact ⟨rfl, hs.out.bel⟩
set_option maxHeartbeats 4000000 in
theorem rlist_any {rb : Nat} {s : St} {vl : Value} (q : Int) (w : World) (x : Rx w rb s vl) :
    Calls Try.prog 32 #[.pointer (some ⟨rb, 0, none⟩), .int .i64 q] w fun e w' => ∃ v, e = .returned v ∧ OwE w.heap.size (frM s.M q) v w' ∧ Below w.heap.size w w' := by
  have hlen := x.ok.len
  obtain ⟨a, cap, rfl⟩ := x.form
  have hX := Lib.hid x
  generalize hM : s.M = M at *
  replace hM := Lib.hid hM
  clear x
  go_enter Try.func32, Try.ntmps32
  go_wp2
  go_loopw [5, 6] (fun v i wr => ∃ j : Nat, j ≤ M.length ∧ i = .int .i64 j ∧ OwE w.heap.size (frM (M.take j) q) v wr ∧ Below w.heap.size w wr) (fun _ i _ => M.length - (intOf i).toNat)
  case atStart => exact ⟨0, Nat.zero_le _, rfl, OwE.nil _ _, Below.refl _ _⟩
  case round =>
    obtain ⟨j, hj, rfl, hO, hB⟩ := hrel
    have xr := hX.out.later hB
    have HV := Lib.hid (rvalid_any wr xr)
    obtain ⟨_, _, _, _, c4, _⟩ := xr.cells
    have hlt2 : (frM (M.take j) q).length ≤ 100000 := Nat.le_trans (List.length_filter_le _ _) (by rw [List.length_take]; omega)
    obtain ⟨va, vc, rfl⟩ := rows_form hO
    by_cases hlj : j < M.length
    · obtain ⟨y, hy⟩ : ∃ y, M[j]? = some y := ⟨_, List.getElem?_eq_getElem hlj⟩
      have hrow := xr.row
      rw [hM.out] at hrow
      obtain ⟨g, cap', hv, _, hg, hc⟩ := hrow.cells (by omega)
      injection hv with hv1 hv2 hv3
      subst hv1
      obtain ⟨d0, d1, d2, d3⟩ := hc j y hy
      have htk : frM (M.take (j + 1)) q = frM (M.take j) q ++ (if q ≤ y.s then [y] else []) := by
        rw [List.take_add_one, hy]
        unfold frM
        rw [List.filter_append]
        congr 1
        by_cases h : q ≤ y.s <;> simp [h]
      have i1 : 0 ≤ (j : Int) := by omega
      have i2 : (j : Int) < (M.length : Int) := by omega
      have i3 : IntKind.i64.wrap ((j : Int) + 1) = ((j + 1 : Nat) : Int) := by rw [IntKind.wrap_i64]; omega
      obtain ⟨ys, yr, ym, yv⟩ := y
      simp only at d0 d1 d2 d3 htk
      have hOa := Lib.hid (hO.later (alloc_b wr (.cells #[.int .i64 ys, .int .i64 yr, .int .i64 ym, .string yv] TE)))
      have hca : Hid ((wr.alloc (.cells #[.int .i64 ys, .int .i64 yr, .int .i64 ym, .string yv] TE)).heap[wr.heap.size]? = some (.cells (ec ⟨ys, yr, ym, yv⟩).toArray TE (0, 0))) := Lib.hid (heap_alloc_new _ _)
      have hBa := Lib.hid (hB.alloc hB.size (.cells #[.int .i64 ys, .int .i64 yr, .int .i64 ym, .string yv] TE))
      have hsza := Lib.hid hBa.out.size
      replace hO := Lib.hid hO
      replace hB := Lib.hid hB
      clear hy xr hlj hv2 hv3 hc hrow
      by_cases hk : q ≤ ys
      · have q1 : decide (q ≤ ys) = true := decide_eq_true hk
        rw [if_pos hk] at htk
        replace htk := Lib.hid htk
        clear hk
        go_wp2_with (first
          | (go_at_call 42; refine HV.out.mono ?_; rintro e w' ⟨rfl, rfl⟩)
          | (at_builtin; refine wpList_append_e rfl _ _ rfl w.heap.size _ _ rfl hOa.out wr.heap.size _ ⟨ys, yr, ym, yv⟩ rfl hca.out hlt2 hsza.out ?_; intro v5 w5 hO5 hg5))
        have hB5 : Below w.heap.size w w5 := own_below hOa.out hg5 hBa.out (Nat.le_refl _)
        go_roundw
        case rel => exact ⟨j + 1, by omega, by go_num, by rw [htk.out]; exact hO5, hB5⟩
        case measure => simp [intOf]; omega
      · have q1 : decide (q ≤ ys) = false := decide_eq_false hk
        rw [if_neg hk, List.append_nil] at htk
        replace htk := Lib.hid htk
        clear hk
        go_wp2_with (go_at_call 42; refine HV.out.mono ?_; rintro e w' ⟨rfl, rfl⟩)
        go_roundw
        case rel => exact ⟨j + 1, by omega, by go_num, by rw [htk.out]; exact hO.out, hB.out⟩
        case measure => simp [intOf]; omega
    · have hjl : j = M.length := by omega
      subst hjl
      have i2 : decide ((M.length : Int) < (M.length : Int)) = false := by simp
      rw [List.take_length] at hO ⊢
      have hO' := Lib.hid hO
      clear hO xr
      replace hB := Lib.hid hB
      go_wp2_with (go_at_call 42; refine HV.out.mono ?_; rintro e w' ⟨rfl, rfl⟩)
      go_ret
      exact ⟨_, rfl, hO'.out, hB.out⟩
end Go.Proofs.Ytpaoaagphacclaa.Acc
