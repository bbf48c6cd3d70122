/- The document's learner: Forget, Open. -/
import Derived.Test.YtaacnhhinhdinaaE27
namespace Go.Proofs.Ytaacnhhinhdinaa.Lrn
open Go.RowKit Go.Maps Go.Lib
open Bal (TB bOk ckB ordV eqB eqB_t eqB_f eq_b alloc_b)
set_option linter.unusedVariables false
set_option linter.unusedSimpArgs false
set_option maxRecDepth 20000

/-- The box and its row. -/
structure Ry (w : World) (rb : Nat) (n b : Int) (L : List Et) (v : Value) : Prop where
  box : w.heap[rb]? = some (.cells #[.int .i64 n, .int .i64 b, v] TRL (0, 0))
  row : OwK 0 L v w
section
variable {w w' : World} {rb : Nat} {n b : Int} {L : List Et} {v : Value}
theorem Ry.lt (h : Ry w rb n b L v) : rb < w.heap.size := (Array.getElem?_eq_some_iff.1 h.box).1
theorem Ry.later (h : Ry w rb n b L v) (hb : Below w.heap.size w w') : Ry w' rb n b L v := ⟨(hb.block rb h.lt).trans h.box, h.row.later hb⟩
theorem Ry.cells (h : Ry w rb n b L v) : w.cell? ⟨rb, 0, none⟩ = some (.int .i64 n) ∧ w.cell? ⟨rb, 1, none⟩ = some (.int .i64 b) ∧ w.cell? ⟨rb, 2, none⟩ = some v :=
  ⟨cell_of_row w rb 0 _ TRL _ h.box, cell_of_row w rb 1 _ TRL _ h.box, cell_of_row w rb 2 _ TRL _ h.box⟩
theorem Ry.frozen (h : Ry w rb n b L v) (i : Nat) : w.frozen? ⟨rb, i, none⟩ = false := frozen_of_row w rb i _ TRL h.box
theorem Ry.base (h : Ry w rb n b L v) (b' : Int) : Ry (w.setCell ⟨rb, 1, none⟩ (.int .i64 b')) rb n b' L v :=
  ⟨Go.heap_setCell_same w rb 1 _ TRL _ h.box, rows_kept h.row fun k hk => heap_setCell_other w ⟨rb, 1, none⟩ k _ (h.row.ne h.box k hk)⟩
end
theorem Rx.ry {w : World} {rb : Nat} {s : St} {L : List Et} {v : Value} (h : Rx w rb s L v) : Ry w rb s.n s.b L v := ⟨h.box, h.row⟩
def RFor (w : World) (rb : Nat) (s : St) (u : Int) (e : Ending) (w' : World) : Prop :=
  e = .returned (.int .i64 (forE u)) ∧ ∃ L' v', Rx w' rb (forS s u) L' v' ∧ Keeps (fun i => i = rb) w w'
set_option maxHeartbeats 4000000 in
theorem rforget_any {rb : Nat} {s : St} {L : List Et} {vl : Value} (u : Int) (w : World) (x : Rx w rb s L vl) :
    Calls Try.prog 19 #[.pointer (some ⟨rb, 0, none⟩), .int .i64 u] w (RFor w rb s u) := by
  by_cases hu : 0 ≤ u ∧ u ≤ 4096
  · have b0 : decide (u < 0) = false := by simp; omega
    have b1 : decide (4096 < u) = false := by simp; omega
    have he : forE u = 0 := if_pos hu
    have hs : forS s u = ⟨s.n, max s.b u, frM s.M u⟩ := if_pos hu
    have hrel := Lib.hid (x.rel.for x.ok u)
    have hok := ok_for x.ok u
    rw [hs] at hok
    have hlen := x.len
    obtain ⟨a, cap, rfl⟩ := x.form
    have hfin : Hid (∀ W L' v', Rx W rb ⟨s.n, max s.b u, frM s.M u⟩ L' v' → Keeps (fun i => i = rb) w W → RFor w rb s u (.returned (.int .i64 0)) W) := Lib.hid fun W L' v' h1 h2 =>
      ⟨by rw [he], L', v', by rw [hs]; exact h1, h2⟩
    have y1 := x.ry.base (max s.b u)
    have hK1 : Keeps (fun i => i = rb) w (w.setCell ⟨rb, 1, none⟩ (.int .i64 (max s.b u))) := (Keeps.refl (fun i => i = rb) w).setCell (p := ⟨rb, 1, none⟩) (.inl rfl) _
    obtain ⟨_, c1, c2⟩ := x.cells
    have f1 := x.frozen 1
    replace hok := Lib.hid hok
    replace y1 := Lib.hid y1
    replace hK1 := Lib.hid hK1
    clear x he hs hu
    generalize hB0 : max s.b u = B at *
    have hB0' := Lib.hid hB0
    clear hB0
    go_enter Try.func19, Try.ntmps19
    go_wp2_with fail
    rw [hB0'.out]
    generalize w.setCell ⟨rb, 1, none⟩ (.int .i64 B) = W1 at *
    go_loopw [5, 6] (fun v i wr => ∃ j : Nat, j ≤ L.length ∧ i = .int .i64 j ∧ OwK W1.heap.size (frM (L.take j) B) v wr ∧ Below W1.heap.size W1 wr) (fun _ i _ => L.length - (intOf i).toNat)
    case atStart => exact ⟨0, Nat.zero_le _, rfl, OwK.nil _ _, Below.refl _ _⟩
    case round =>
      obtain ⟨j, hj, rfl, hO, hB⟩ := hrel
      have yr := y1.out.later hB
      obtain ⟨_, d1', d2'⟩ := yr.cells
      have hlt2 : (frM (L.take j) B).length ≤ 10000 := Nat.le_trans (List.length_filter_le _ _) (by rw [List.length_take]; omega)
      obtain ⟨va, vc, rfl⟩ := rows_form hO
      by_cases hlj : j < L.length
      · obtain ⟨y, hy⟩ : ∃ y, L[j]? = some y := ⟨_, List.getElem?_eq_getElem hlj⟩
        obtain ⟨g, cap', hv, hg, d0, d1, d2, d3, d4, d5, d6⟩ := yr.row.at hy
        injection hv with hv1 hv2 hv3
        subst hv1
        have htk : frM (L.take (j + 1)) B = frM (L.take j) B ++ (if B ≤ y.s then [y] else []) := by
          rw [List.take_add_one, hy]
          unfold frM
          rw [List.filter_append]
          congr 1
          by_cases h : B ≤ y.s <;> simp [h]
        have i1 : 0 ≤ (j : Int) := by omega
        have i2 : (j : Int) < (L.length : Int) := by omega
        have i3 : IntKind.i64.wrap ((j : Int) + 1) = ((j + 1 : Nat) : Int) := by rw [IntKind.wrap_i64]; omega
        obtain ⟨ys, ⟨yc, yv, yr', ym, yt, yx⟩⟩ := y
        simp only at d0 d1 d2 d3 d4 d5 d6 htk
        replace hO := Lib.hid hO
        have hB' := Lib.hid (fun n => below_drewN hB n)
        clear hy yr hlj hv2 hv3
        by_cases hk : B ≤ ys
        · have q1 : decide (B ≤ ys) = true := decide_eq_true hk
          rw [if_pos hk] at htk
          replace htk := Lib.hid htk
          clear hk
          go_wp2
          go_quiet (fail)
          generalize hW2 : wr.drewN nq = W2 at *
          have hO2 : OwK W1.heap.size (frM (L.take j) B) (.slice va (frM (L.take j) B).length vc) (W2.alloc (.cells (eA ⟨ys, ⟨yc, yv, yr', ym, yt, yx⟩⟩) TRK)) := by
            rw [← hW2]
            exact (hO.out.later (below_drewN (Below.refl _ _) _)).later (alloc_b _ _)
          have hB2 : Below W1.heap.size W1 W2 := by rw [← hW2]; exact hB'.out _
          have hc2 := heap_alloc_new W2 (.cells (eA ⟨ys, ⟨yc, yv, yr', ym, yt, yx⟩⟩) TRK)
          have f2 : W2.cell? ⟨rb, 2, none⟩ = some (.slice (some ⟨g, 0, none⟩) L.length cap) := by rw [← hW2]; exact d2'
          have f0 : W2.cell? ⟨g, j * 7, none⟩ = some (.int .i64 ys) := by rw [← hW2]; exact d0
          have f1 : W2.cell? ⟨g, j * 7 + 1, none⟩ = some (.bool yc) := by rw [← hW2]; exact d1
          have f2' : W2.cell? ⟨g, j * 7 + 2, none⟩ = some (.string yv) := by rw [← hW2]; exact d2
          have f3 : W2.cell? ⟨g, j * 7 + 3, none⟩ = some (.int .i64 yr') := by rw [← hW2]; exact d3
          have f4 : W2.cell? ⟨g, j * 7 + 4, none⟩ = some (.int .i64 ym) := by rw [← hW2]; exact d4
          have f5 : W2.cell? ⟨g, j * 7 + 5, none⟩ = some (.string yt) := by rw [← hW2]; exact d5
          have f6 : W2.cell? ⟨g, j * 7 + 6, none⟩ = some (.int .u64 yx) := by rw [← hW2]; exact d6
          have hB3 := hB2.alloc hB2.size (.cells (eA ⟨ys, ⟨yc, yv, yr', ym, yt, yx⟩⟩) TRK)
          have hsz3 := Lib.hid hB3.size
          replace hO2 := Lib.hid hO2
          replace hc2 := Lib.hid hc2
          replace hB3 := Lib.hid hB3
          clear hW2 hB2 d2' d1' d0 d1 d2 d3 d4 d5 d6 hB' hO
          go_wp2_with (at_builtin; refine wpList_append_k rfl _ _ rfl W1.heap.size _ _ rfl hO2.out W2.heap.size _ ⟨ys, ⟨yc, yv, yr', ym, yt, yx⟩⟩ rfl hc2.out hlt2 hsz3.out ?_; intro v5 w5 hO5 hg5)
          have hB5 : Below W1.heap.size W1 w5 := own_below hO2.out hg5 hB3.out (Nat.le_refl _)
          go_roundw
          case rel => exact ⟨j + 1, by omega, by go_num, by rw [htk.out]; exact hO5, hB5⟩
          case measure => simp [intOf]; omega
        · have q1 : decide (B ≤ ys) = false := decide_eq_false hk
          rw [if_neg hk, List.append_nil] at htk
          replace htk := Lib.hid htk
          clear hk
          go_wp2
          go_quiet (fail)
          go_wp2
          go_roundw
          case rel => exact ⟨j + 1, by omega, by go_num, by rw [htk.out]; exact hO.out.later (below_drewN (Below.refl _ _) _), hB'.out _⟩
          case measure => simp [intOf]; omega
      · have hjl : j = L.length := by omega
        have hO' : OwK W1.heap.size (frM L B) (.slice va (frM (L.take j) B).length vc) wr := by
          have h2 := hO
          rw [hjl, List.take_length] at h2 ⊢
          exact h2
        have i2 : decide ((j : Int) < (L.length : Int)) = false := by simp; omega
        have hfr := yr.frozen 2
        have hx : Rx (wr.setCell ⟨rb, 2, none⟩ (.slice va (frM (L.take j) B).length vc)) rb ⟨s.n, B, frM s.M u⟩ (frM L B) (.slice va (frM (L.take j) B).length vc) :=
          ⟨Go.heap_setCell_same wr rb 2 _ TRL _ yr.box, rows_base (base := W1.heap.size) (base' := 0) (rows_kept hO' fun k hk => heap_setCell_other wr ⟨rb, 2, none⟩ k _ (hO'.ne yr.box k hk)) (Nat.zero_le _), hrel.out, hok.out⟩
        have hk2 : Keeps (fun i => i = rb) w (wr.setCell ⟨rb, 2, none⟩ (.slice va (frM (L.take j) B).length vc)) := (hK1.out.later hB).setCell (p := ⟨rb, 2, none⟩) (.inl rfl) _
        have hF := Lib.hid (hfin.out _ _ _ hx hk2)
        clear hO hO' hB yr hlj hlt2 hx hk2
        go_wp2
        go_ret
        have hF' := hF.out
        rw [hjl, List.take_length] at hF'
        exact hF'
  · have he : forE u = 3 := if_neg hu
    have hs : forS s u = s := if_neg hu
    have hfin : Hid (RFor w rb s u (.returned (.int .i64 3)) w) := Lib.hid ⟨by rw [he], L, vl, by rw [hs]; exact x, Keeps.refl _ _⟩
    clear he hs x
    by_cases h0 : u < 0
    · have b0 : decide (u < 0) = true := decide_eq_true h0
      clear hu h0
      go_enter Try.func19, Try.ntmps19
      go_wp2
      go_ret
      exact hfin.out
    · have b0 : decide (u < 0) = false := decide_eq_false h0
      have b1 : decide (4096 < u) = true := by simp; omega
      clear hu h0
      go_enter Try.func19, Try.ntmps19
      go_wp2
      go_ret
      exact hfin.out

/-! Open. -/
theorem opn_mem {s : St} {L : List Et} (hr : RelL s L) (hs : OkS s) {x : Int} : x ∈ opnL s ↔ ∃ e ∈ L, e.s = x ∧ e.k.c = false := by
  unfold opnL keysM
  rw [List.mem_map]
  constructor
  · rintro ⟨e, he, rfl⟩
    obtain ⟨h1, h2⟩ := List.mem_filter.1 he
    exact ⟨e, (hr.mem hs).2 h1, rfl, by simpa using h2⟩
  · rintro ⟨e, he, rfl, hc⟩
    exact ⟨e, List.mem_filter.2 ⟨(hr.mem hs).1 he, by simp [hc]⟩, rfl⟩
theorem opn_srt {s : St} (hs : OkS s) : (opnL s).Pairwise (· < ·) := keys_srt (M := s.M.filter fun e => !e.k.c) (List.Pairwise.sublist List.filter_sublist hs.srt)
theorem opn_in {s : St} (hs : OkS s) {x : Int} (h : x ∈ opnL s) : 0 ≤ x ∧ x < 4096 := by
  unfold opnL keysM at h
  obtain ⟨e, he, rfl⟩ := List.mem_map.1 h
  have := hs.ent e (List.mem_filter.1 he).1
  have := hs.hb.1
  omega
/-- What is found by a scan: the least open slot behind the last one. -/
structure Nx (L : List Et) (last N : Int) (j : Nat) : Prop where
  le : N ≤ 4096
  src : N = 4096 ∨ ∃ e ∈ L.take j, e.s = N ∧ e.k.c = false ∧ last < N
  min : ∀ e ∈ L.take j, e.k.c = false → last < e.s → N ≤ e.s
theorem nx_zero (L : List Et) (last : Int) : Nx L last 4096 0 := ⟨Int.le_refl _, .inl rfl, fun e he => by simp at he⟩
theorem take_mem {L : List Et} {j : Nat} {y : Et} (hy : L[j]? = some y) {e : Et} : e ∈ L.take (j + 1) ↔ e ∈ L.take j ∨ e = y := by
  rw [List.take_add_one, hy]
  simp
theorem nx_skip {L : List Et} {last N : Int} {j : Nat} {y : Et} (h : Nx L last N j) (hy : L[j]? = some y) (hn : y.k.c = true ∨ ¬ last < y.s ∨ N ≤ y.s) : Nx L last N (j + 1) := by
  refine ⟨h.le, ?_, fun e he hc hl => ?_⟩
  · rcases h.src with h1 | ⟨e, he, h1⟩
    · exact .inl h1
    · exact .inr ⟨e, (take_mem hy).2 (.inl he), h1⟩
  · rcases (take_mem hy).1 he with he | rfl
    · exact h.min e he hc hl
    · rcases hn with h1 | h1 | h1
      · rw [hc] at h1; cases h1
      · exact absurd hl h1
      · exact h1
theorem nx_take {L : List Et} {last N : Int} {j : Nat} {y : Et} (h : Nx L last N j) (hy : L[j]? = some y) (hc : y.k.c = false) (hl : last < y.s) (hn : y.s < N) : Nx L last y.s (j + 1) := by
  refine ⟨by have := h.le; omega, .inr ⟨y, (take_mem hy).2 (.inr rfl), rfl, hc, hl⟩, fun e he hc2 hl2 => ?_⟩
  rcases (take_mem hy).1 he with he | rfl
  · have := h.min e he hc2 hl2; omega
  · exact Int.le_refl _
/-- How far the list is told. -/
structure Fr (O : List Int) (last : Int) (i : Nat) : Prop where
  le : i ≤ O.length
  lo : ∀ x ∈ O.take i, x ≤ last
  hi : ∀ x ∈ O.drop i, last < x
theorem fr_next {s : St} {L : List Et} (hr : RelL s L) (hs : OkS s) {last N : Int} {i : Nat} (hf : Fr (opnL s) last i) (hn : Nx L last N L.length) :
    (N = 4096 ∧ (opnL s).take i = opnL s) ∨ (N ≠ 4096 ∧ (opnL s)[i]? = some N ∧ Fr (opnL s) N (i + 1)) := by
  have hsrc := hn.src
  have hmin := hn.min
  rw [List.take_length] at hsrc hmin
  have hinN : N ≠ 4096 → N ∈ (opnL s).drop i ∧ last < N := by
    intro h
    rcases hsrc with h1 | ⟨e, he, h1, h2, h3⟩
    · exact absurd h1 h
    · have hm : N ∈ opnL s := (opn_mem hr hs).2 ⟨e, he, h1, h2⟩
      rw [← List.take_append_drop i (opnL s)] at hm
      rcases List.mem_append.1 hm with hm | hm
      · have := hf.lo N hm; omega
      · exact ⟨hm, h3⟩
  rcases Nat.lt_or_ge i (opnL s).length with hi | hi
  · right
    obtain ⟨x0, hx0⟩ : ∃ x, (opnL s)[i]? = some x := ⟨_, List.getElem?_eq_getElem hi⟩
    have hd : (opnL s).drop i = x0 :: (opnL s).drop (i + 1) := by
      rw [List.getElem?_eq_getElem hi] at hx0
      injection hx0 with hx0
      rw [← hx0]
      exact List.drop_eq_getElem_cons hi
    have hx0m : x0 ∈ opnL s := List.mem_of_getElem? hx0
    have hx0l : last < x0 := hf.hi x0 (by rw [hd]; exact List.mem_cons_self ..)
    obtain ⟨e, he, he1, he2⟩ := (opn_mem hr hs).1 hx0m
    have hle : N ≤ x0 := by
      have := hmin e he he2 (by omega)
      omega
    have hlt := (opn_in hs hx0m).2
    have hne : N ≠ 4096 := by omega
    obtain ⟨hNd, hNl⟩ := hinN hne
    have hsd : ((opnL s).drop i).Pairwise (· < ·) := (opn_srt hs).sublist (List.drop_sublist _ _)
    rw [hd] at hsd hNd
    have hp := List.pairwise_cons.1 hsd
    have hN : N = x0 := by
      rcases List.mem_cons.1 hNd with h | h
      · exact h
      · have := hp.1 N h; omega
    subst hN
    refine ⟨hne, hx0, ⟨hi, fun x hx => ?_, fun x hx => hp.1 x hx⟩⟩
    rw [List.take_add_one, hx0] at hx
    rcases List.mem_append.1 hx with hx | hx
    · have := hf.lo x hx; omega
    · simp at hx; omega
  · left
    have ht : (opnL s).take i = opnL s := List.take_of_length_le hi
    refine ⟨?_, ht⟩
    rcases Classical.em (N = 4096) with h | h
    · exact h
    · have := (hinN h).1
      rw [List.drop_eq_nil_of_le hi] at this
      simp at this
set_option maxHeartbeats 4000000 in
theorem ropen_any {rb : Nat} {s : St} {L : List Et} {vl : Value} (w : World) (x : Rx w rb s L vl) :
    Calls Try.prog 47 #[.pointer (some ⟨rb, 0, none⟩)] w fun e w' => ∃ v, e = .returned v ∧ OwI w.heap.size (opnL s) v w' ∧ Below w.heap.size w w' := by
  have hlen := x.len
  obtain ⟨a, cap, rfl⟩ := x.form
  have hf0 : Fr (opnL s) (-1) 0 := ⟨Nat.zero_le _, fun x hx => by simp at hx, fun z hz => by have := opn_in x.ok (by simpa using hz); omega⟩
  have hnx := Lib.hid (fun (last N : Int) (i : Nat) (h1 : Fr (opnL s) last i) (h2 : Nx L last N L.length) => fr_next x.rel x.ok h1 h2)
  have holen : Hid ((opnL s).length ≤ 4096) := Lib.hid (by
    unfold opnL keysM
    rw [List.length_map]
    exact Nat.le_trans (List.length_filter_le _ _) x.ok.len)
  have HX := Lib.hid x
  clear x
  generalize opnL s = O at *
  go_enter Try.func47, Try.ntmps47
  go_wp2
  go_loopw [3, 4] (fun v la wr => ∃ (i : Nat) (last : Int), la = .int .i64 last ∧ Fr O last i ∧ OwI w.heap.size (O.take i) v wr ∧ Below w.heap.size w wr) (fun v _ _ => 5000 - (match v with | .slice _ n _ => n | _ => 0))
  case atStart => exact ⟨0, -1, rfl, hf0, OwI.nil _ _, Below.refl _ _⟩
  case round =>
    clear hf0
    obtain ⟨i, last, rfl, hF, hO, hB⟩ := hrel
    have xr := HX.out.later hB
    obtain ⟨_, _, c2⟩ := xr.cells
    have hrow := Lib.hid xr.row
    obtain ⟨va, vc, rfl⟩ := rows_form hO
    replace hF := Lib.hid hF
    replace hO := Lib.hid hO
    replace hB := Lib.hid hB
    clear xr
    go_wp2
    go_loopw [5, 6] (fun nx ii W => ∃ (j : Nat) (N : Int), j ≤ L.length ∧ ii = .int .i64 j ∧ nx = .int .i64 N ∧ Nx L last N j ∧ W = wr) (fun _ ii _ => L.length - (intOf ii).toNat)
    case atStart => exact ⟨0, 4096, Nat.zero_le _, rfl, rfl, nx_zero L last, rfl⟩
    case round =>
      obtain ⟨j, N, hj, rfl, rfl, hN, rfl⟩ := hrel
      by_cases hlj : j < L.length
      · obtain ⟨y, hy⟩ : ∃ y, L[j]? = some y := ⟨_, List.getElem?_eq_getElem hlj⟩
        obtain ⟨g, cap', hv, hg, d0, d1, _⟩ := hrow.out.at hy
        injection hv with hv1 hv2 hv3
        subst hv1
        have i1 : 0 ≤ (j : Int) := by omega
        have i2 : (j : Int) < (L.length : Int) := by omega
        have i3 : IntKind.i64.wrap ((j : Int) + 1) = ((j + 1 : Nat) : Int) := by rw [IntKind.wrap_i64]; omega
        have hsk := Lib.hid (fun h => nx_skip hN hy h)
        have htk := Lib.hid (fun h1 h2 h3 => nx_take hN hy h1 h2 h3)
        obtain ⟨ys, ⟨yc, yv, yr', ym, yt, yx⟩⟩ := y
        simp only at d0 d1
        clear hy hN hlj hv2 hv3
        cases yc with
        | true =>
          have hE := Lib.hid (hsk.out (.inl rfl))
          clear hsk htk
          go_wp2
          go_roundw
          case rel => exact ⟨j + 1, N, by omega, by go_num, rfl, hE.out, trivial⟩
          case measure => simp [intOf]; omega
        | false =>
          by_cases h1 : last < ys
          · have q1 : decide (last < ys) = true := decide_eq_true h1
            by_cases h2 : ys < N
            · have q2 : decide (ys < N) = true := decide_eq_true h2
              have hE := Lib.hid (htk.out rfl h1 h2)
              clear hsk htk h1 h2
              go_wp2
              go_roundw
              case rel => exact ⟨j + 1, ys, by omega, by go_num, rfl, hE.out, trivial⟩
              case measure => simp [intOf]; omega
            · have q2 : decide (ys < N) = false := decide_eq_false h2
              have hE := Lib.hid (hsk.out (.inr (.inr (by show N ≤ ys; omega))))
              clear hsk htk h1 h2
              go_wp2
              go_roundw
              case rel => exact ⟨j + 1, N, by omega, by go_num, rfl, hE.out, trivial⟩
              case measure => simp [intOf]; omega
          · have q1 : decide (last < ys) = false := decide_eq_false h1
            have hE := Lib.hid (hsk.out (.inr (.inl h1)))
            clear hsk htk h1
            go_wp2
            go_roundw
            case rel => exact ⟨j + 1, N, by omega, by go_num, rfl, hE.out, trivial⟩
            case measure => simp [intOf]; omega
      · have hjl : j = L.length := by omega
        subst hjl
        have i2 : decide ((L.length : Int) < (L.length : Int)) = false := by simp
        rcases hnx.out last N i hF.out hN with ⟨rfl, ht⟩ | ⟨hne, hget, hF2⟩
        · have hO2 := Lib.hid hO.out
          rw [ht] at hO2 ⊢
          clear hN hlj
          go_wp2
          go_ret
          exact ⟨_, rfl, hO2.out, hB.out⟩
        · have q1 : (N == 4096) = false := by simpa using hne
          have q2 : (N = 4096) = False := by simpa using hne
          have htk : O.take (i + 1) = O.take i ++ [N] := by rw [List.take_add_one, hget]; rfl
          have hil : (O.take i).length < (O.take (i + 1)).length := by rw [htk, List.length_append]; simp
          have hl1 : (O.take (i + 1)).length ≤ 4096 := by rw [List.length_take]; exact Nat.le_trans (Nat.min_le_right _ _) holen.out
          have hOa := Lib.hid (rows_later hO.out (alloc_b wr (.cells #[.int .i64 N] TI)) : OwI w.heap.size (O.take i) _ _)
          have hca := Lib.hid (cell_of_row _ _ 0 _ TI _ (heap_alloc_new wr (.cells #[.int .i64 N] TI)))
          have hBa := Lib.hid (hB.out.alloc hB.out.size (.cells #[.int .i64 N] TI))
          have hsza := Lib.hid hBa.out.size
          have hlt1 : (O.take i).length ≤ 100000 := by omega
          replace htk := Lib.hid htk
          have hil' := Lib.hid hil
          have hl1' := Lib.hid hl1
          clear hN hlj hget hne hil hl1
          go_wp2_with (at_builtin; refine wpList_append_i rfl _ _ rfl w.heap.size _ _ rfl hOa.out wr.heap.size _ N rfl hca.out hlt1 hsza.out ?_; intro v5 w5 hO5 hg5)
          have hB5 : Below w.heap.size w w5 := own_below hOa.out hg5 hBa.out (Nat.le_refl _)
          obtain ⟨a5, c5, rfl⟩ := rows_form hO5
          go_roundw
          case rel => exact ⟨i + 1, N, rfl, hF2, by rw [htk.out]; exact hO5, hB5⟩
          case measure => have h1 := hil'.out; have h2 := hl1'.out; rw [htk.out] at h1 h2; simp only; omega
end Go.Proofs.Ytaacnhhinhdinaa.Lrn
