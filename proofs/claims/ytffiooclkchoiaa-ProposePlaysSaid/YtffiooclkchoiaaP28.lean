/- The document's proposer: its box; valid, New, Ballot, Nodes, Ready, Upto. -/
import Derived.Test.YtffiooclkchoiaaP27
import Derived.Deep.CutRange
namespace Go.Proofs.Ytffiooclkchoiaa.Prp
open Go.RowKit Go.Lib
open Bal (TB bOk ckB ordV eqB eqB_t eqB_f eq_b alloc_b check_any order_any rcheck_any rorder_any)
set_option linter.unusedVariables false
set_option linter.unusedSimpArgs false
set_option maxRecDepth 100000

abbrev TRP : TypeId := 79
abbrev rboxC (s : St) (vs : Nat → Value) : Array Value := #[.bool true, .int .i64 s.n, .int .i64 s.r, .int .i64 s.m, .int .i64 s.f,
  .bool (s.P 0).a, .bool (s.P 1).a, .bool (s.P 2).a, .bool (s.P 3).a, .bool (s.P 4).a, .bool (s.P 5).a, .bool (s.P 6).a,
  vs 0, vs 1, vs 2, vs 3, vs 4, vs 5, vs 6,
  .int .i64 (s.P 0).u, .int .i64 (s.P 1).u, .int .i64 (s.P 2).u, .int .i64 (s.P 3).u, .int .i64 (s.P 4).u, .int .i64 (s.P 5).u, .int .i64 (s.P 6).u]
structure Rx (base : Nat) (w : World) (b : Nat) (vs : Nat → Value) (s : St) : Prop where
  box : w.heap[b]? = some (.cells (rboxC s vs) TRP (0, 0))
  lst : ∀ i, i < 7 → OwE base (s.P i).l (vs i) w
  ok : OkS s
section
variable {base : Nat} {w w' : World} {b : Nat} {vs : Nat → Value} {s : St}
theorem Rx.lt (x : Rx base w b vs s) : b < w.heap.size := (Array.getElem?_eq_some_iff.1 x.box).1
theorem Rx.at' (x : Rx base w b vs s) (j : Nat) : w.cell? ⟨b, j, none⟩ = (rboxC s vs)[j]? := cell_of_row w b j _ TRP _ x.box
theorem Rx.cells (x : Rx base w b vs s) : w.cell? ⟨b, 0, none⟩ = some (.bool true) ∧ w.cell? ⟨b, 1, none⟩ = some (.int .i64 s.n) ∧ w.cell? ⟨b, 2, none⟩ = some (.int .i64 s.r) ∧ w.cell? ⟨b, 3, none⟩ = some (.int .i64 s.m) ∧ w.cell? ⟨b, 4, none⟩ = some (.int .i64 s.f) :=
  ⟨x.at' 0, x.at' 1, x.at' 2, x.at' 3, x.at' 4⟩
theorem rbox_at (s : St) (vs : Nat → Value) (k : Nat) (h : k < 7) : (rboxC s vs)[5 + k]? = some (.bool (s.P k).a) ∧ (rboxC s vs)[12 + k]? = some (vs k) ∧ (rboxC s vs)[19 + k]? = some (.int .i64 (s.P k).u) := by
  match k, h with
  | 0, _ => exact ⟨rfl, rfl, rfl⟩
  | 1, _ => exact ⟨rfl, rfl, rfl⟩
  | 2, _ => exact ⟨rfl, rfl, rfl⟩
  | 3, _ => exact ⟨rfl, rfl, rfl⟩
  | 4, _ => exact ⟨rfl, rfl, rfl⟩
  | 5, _ => exact ⟨rfl, rfl, rfl⟩
  | 6, _ => exact ⟨rfl, rfl, rfl⟩
theorem Rx.place (x : Rx base w b vs s) (k : Nat) (h : k < 7) : w.cell? ⟨b, 5 + k, none⟩ = some (.bool (s.P k).a) ∧ w.cell? ⟨b, 12 + k, none⟩ = some (vs k) ∧ w.cell? ⟨b, 19 + k, none⟩ = some (.int .i64 (s.P k).u) := by
  obtain ⟨h0, h1, h2⟩ := rbox_at s vs k h
  exact ⟨(x.at' _).trans h0, (x.at' _).trans h1, (x.at' _).trans h2⟩
theorem Rx.kept {F : Nat → Prop} (x : Rx base w b vs s) (h : Keeps F w w') (h1 : ¬ F b) (h2 : ∀ i, i < 7 → ∀ k, (vs i).ownBlock = some k → ¬ F k) : Rx base w' b vs s :=
  ⟨(h.block b x.lt h1).trans x.box, fun i hi => rows_kept (x.lst i hi) fun k hk => h.block k (World.ownsRow.lt (x.lst i hi) k hk).2 (h2 i hi k hk), x.ok⟩
theorem Rx.later (x : Rx base w b vs s) (h : Below w.heap.size w w') : Rx base w' b vs s := x.kept (F := fun _ => False) (Keeps.of_below h) id fun _ _ _ _ => id
theorem Rx.drew (x : Rx base w b vs s) : Rx base w.drew b vs s := x.later (Below.refl _ _).drew
theorem Rx.alloc (x : Rx base w b vs s) (o : Obj) : Rx base (w.alloc o) b vs s := x.later (alloc_b w o)
theorem Rx.low (x : Rx base w b vs s) {base' : Nat} (h : base' ≤ base) : Rx base' w b vs s := ⟨x.box, fun i hi => rows_base (x.lst i hi) h, x.ok⟩
theorem Rx.since (x : Rx base w b vs s) {n : Nat} (h : Below n w w') (hn : w.heap.size ≤ n) : Rx base w' b vs s := x.later (h.mono hn)
end
theorem off_n {s : St} (h : OkS s) {k : Nat} (hk : s.n ≤ k) : s.P k = zP := by
  cases ha : (s.P k).a with
  | false => exact h.off k ha
  | true => have := (h.on k ha).1; omega
theorem to_7 {s : St} (h : OkS s) {k : Nat} (hk : s.n = k) : nodesK s.P k = nodesK s.P 7 ∧ upK s.P k = upK s.P 7 ∧ allK s.P k = allK s.P 7 := by
  have h7 := h.n7
  have key : ∀ d, nodesK s.P (k + d) = nodesK s.P k ∧ upK s.P (k + d) = upK s.P k ∧ allK s.P (k + d) = allK s.P k := by
    intro d
    induction d with
    | zero => exact ⟨rfl, rfl, rfl⟩
    | succ d ih =>
      have e := off_n h (k := k + d) (by omega)
      have hu := up_nn s.P (k + d)
      refine ⟨?_, ?_, ?_⟩
      · show (if (s.P (k + d)).a then nodesK s.P (k + d) ||| 2 ^ (k + d) else nodesK s.P (k + d)) = _
        rw [e, if_neg (by simp)]; exact ih.1
      · show max (upK s.P (k + d)) (s.P (k + d)).u = _
        rw [e, ← ih.2.1]; show max _ (0 : Int) = _; omega
      · show allK s.P (k + d) ++ (s.P (k + d)).l = _
        rw [e, ih.2.2]; simp
  have := key (7 - k)
  rw [show k + (7 - k) = 7 by omega] at this
  exact ⟨this.1.symm, this.2.1.symm, this.2.2.symm⟩
theorem rvalid_at (b : Nat) (w : World) (c0 : w.cell? ⟨b, 0, none⟩ = some (.bool true)) :
    Calls Try.prog 35 #[.pointer (some ⟨b, 0, none⟩)] w fun e w' => e = .returned (.bool true) ∧ w = w' := by
  go_enter Try.func35, Try.ntmps35
  go_wp2
  go_ret
  exact ⟨rfl, rfl⟩
theorem rvalid_nil (w : World) :
    Calls Try.prog 35 #[.pointer none] w fun e w' => e = .returned (.bool false) ∧ w = w' := by
  go_enter Try.func35, Try.ntmps35
  go_wp2
  go_ret
  exact ⟨rfl, rfl⟩
section
variable {base : Nat} {w w' : World} {b : Nat} {vs : Nat → Value} {s : St}
theorem Rx.valid (x : Rx base w b vs s) : Calls Try.prog 35 #[.pointer (some ⟨b, 0, none⟩)] w fun e w' => e = .returned (.bool true) ∧ w = w' := rvalid_at b w x.cells.1
theorem Rx.ballot (x : Rx base w b vs s) :
    Calls Try.prog 24 #[.pointer (some ⟨b, 0, none⟩)] w fun e w' => e = .returned (.agg #[.int .i64 s.r, .int .i64 s.m]) ∧ Below w.heap.size w w' := by
  have x1 := x.alloc (.cells #[.int .i64 0, .int .i64 0] TB)
  obtain ⟨_, _, c1, c2, _⟩ := x1.cells
  have hV := Lib.hid x1.valid
  have hlt := x.lt
  clear x x1
  generalize s.r = r at *
  generalize s.m = m at *
  have hB := Lib.hid (Bal.bx_new w r m)
  go_enter Try.func24, Try.ntmps24
  go_wp2_with (go_at_call 35; refine hV.out.mono ?_; rintro e w' ⟨rfl, rfl⟩)
  obtain ⟨d0, d1, _⟩ := hB.out.cells
  refine bodyPost_ret (v := .agg #[.int .i64 r, .int .i64 m]) ?_ rfl ⟨rfl, hB.out.bel⟩
  simp [results, Try.results24, go_sem, d0, d1]
set_option maxHeartbeats 2000000 in
theorem Rx.nodes (x : Rx base w b vs s) :
    Calls Try.prog 26 #[.pointer (some ⟨b, 0, none⟩)] w fun e w' => e = .returned (.int .u64 (nodesK s.P 7 : Nat)) ∧ w = w' := by
  have hV := Lib.hid x.valid
  have c1 := x.cells.2.1
  have hP := Lib.hid (fun k h => (x.place k h).1)
  have hN := Lib.hid (nodes_in x.ok)
  obtain ⟨n, hn⟩ := Int.eq_ofNat_of_zero_le (show 0 ≤ s.n by have := x.ok.n1; omega)
  have h7 := x.ok.n7
  have hE := Lib.hid (to_7 x.ok hn).1
  rw [hn] at c1 h7
  have hal : Hid (∀ k, nodesK s.P k < 18446744073709551616) := Lib.hid fun k => all_lt x.ok.n7 (hN.out k)
  clear x hN hn
  generalize s.P = P at *
  go_enter Try.func26, Try.ntmps26
  go_wp2
  go_loopw [3, 4] (fun a i wr => ∃ k : Nat, k ≤ n ∧ a = .int .u64 (nodesK P k : Nat) ∧ i = .int .i64 k ∧ w = wr) (fun _ i _ => n - nOf i)
  case atStart => exact ⟨0, by omega, rfl, rfl, rfl⟩
  case round =>
    obtain ⟨k, hk, rfl, rfl, rfl⟩ := hrel
    by_cases hlt : k < n
    · have p0 := hP.out k (by omega)
      have i0 : (0 : Int) ≤ (k : Nat) := by omega
      have i1 : decide ((k : Int) < (n : Int)) = true := by simp; omega
      have i2 : (k : Int) < 7 := by omega
      have i3 : (k : Int) < 64 := by omega
      have hs := Quo.pow_in k (by omega)
      have hor := bits_or_u64_nat (nodesK P k) (2 ^ k) (hal.out k) (Quo.pow_lt k (by omega))
      have hnx : nodesK P (k + 1) = if (P k).a then nodesK P k ||| 2 ^ k else nodesK P k := rfl
      replace hal := Lib.hid hal
      cases ha : (P k).a with
      | false =>
        rw [ha] at p0 hnx
        rw [if_neg (by simp)] at hnx
        replace hnx := Lib.hid hnx
        clear ha hor
        generalize nodesK P k = N at *
        go_wp2_with (go_at_call 35; refine hV.out.mono ?_; rintro e w' ⟨rfl, rfl⟩)
        go_roundw
        case rel => exact ⟨k + 1, by omega, by rw [hnx.out], by go_num, (by first | rfl | trivial)⟩
        case measure => simp [nOf]; omega
      | true =>
        rw [ha] at p0 hnx
        rw [if_pos rfl] at hnx
        replace hnx := Lib.hid hnx
        clear ha
        generalize nodesK P k ||| 2 ^ k = z at *
        generalize nodesK P k = N at *
        generalize 2 ^ k = q at *
        go_wp2_with (go_at_call 35; refine hV.out.mono ?_; rintro e w' ⟨rfl, rfl⟩)
        go_roundw
        case rel => exact ⟨k + 1, by omega, by rw [hnx.out], by go_num, (by first | rfl | trivial)⟩
        case measure => simp [nOf]; omega
    · obtain rfl : k = n := by omega
      have i1 : decide ((k : Int) < (k : Int)) = false := by simp
      rw [hE.out]
      obtain ⟨N, hN7⟩ : ∃ N, N = nodesK P 7 := ⟨_, rfl⟩
      rw [← hN7]
      replace hN7 := Lib.hid hN7
      clear hE
      go_wp2_with (go_at_call 35; refine hV.out.mono ?_; rintro e w' ⟨rfl, rfl⟩)
      go_ret
      exact ⟨by rw [← hN7.out]; rfl, rfl⟩
set_option maxHeartbeats 2000000 in
theorem Rx.upto (x : Rx base w b vs s) :
    Calls Try.prog 22 #[.pointer (some ⟨b, 0, none⟩)] w fun e w' => e = .returned (.int .i64 (upK s.P 7)) ∧ w = w' := by
  have hV := Lib.hid x.valid
  have c1 := x.cells.2.1
  have hP := Lib.hid (fun k h => x.place k h)
  obtain ⟨n, hn⟩ := Int.eq_ofNat_of_zero_le (show 0 ≤ s.n by have := x.ok.n1; omega)
  have h7 := x.ok.n7
  have hE := Lib.hid (to_7 x.ok hn).2.1
  have hof := Lib.hid (fun k h => x.ok.off k h)
  rw [hn] at c1 h7
  clear x hn
  generalize s.P = P at *
  go_enter Try.func22, Try.ntmps22
  go_wp2
  go_loopw [3, 4] (fun a i wr => ∃ k : Nat, k ≤ n ∧ a = .int .i64 (upK P k) ∧ i = .int .i64 k ∧ w = wr) (fun _ i _ => n - nOf i)
  case atStart => exact ⟨0, by omega, rfl, rfl, rfl⟩
  case round =>
    obtain ⟨k, hk, rfl, rfl, rfl⟩ := hrel
    by_cases hlt : k < n
    · obtain ⟨p0, _, p2⟩ := hP.out k (by omega)
      have i0 : (0 : Int) ≤ (k : Nat) := by omega
      have i1 : decide ((k : Int) < (n : Int)) = true := by simp; omega
      have i2 : (k : Int) < 7 := by omega
      have hnx : upK P (k + 1) = max (upK P k) (P k).u := rfl
      have hnn := up_nn P k
      cases ha : (P k).a with
      | false =>
        have e := hof.out k ha
        rw [e] at hnx
        have hnx2 : upK P (k + 1) = upK P k := by rw [hnx]; show max _ (0 : Int) = _; omega
        rw [ha] at p0
        replace hnx2 := Lib.hid hnx2
        clear ha hnx p2 e
        generalize upK P k = N at *
        go_wp2_with (go_at_call 35; refine hV.out.mono ?_; rintro e w' ⟨rfl, rfl⟩)
        go_roundw
        case rel => exact ⟨k + 1, by omega, by rw [hnx2.out], by go_num, (by first | rfl | trivial)⟩
        case measure => simp [nOf]; omega
      | true =>
        rw [ha] at p0
        replace hnx := Lib.hid hnx
        clear ha
        generalize upK P k = N at *
        generalize (P k).u = u at *
        go_wp2_with (go_at_call 35; refine hV.out.mono ?_; rintro e w' ⟨rfl, rfl⟩)
        go_roundw
        case rel => exact ⟨k + 1, by omega, by rw [hnx.out], by go_num, (by first | rfl | trivial)⟩
        case measure => simp [nOf]; omega
    · obtain rfl : k = n := by omega
      have i1 : decide ((k : Int) < (k : Int)) = false := by simp
      rw [hE.out]
      obtain ⟨N, hN7⟩ : ∃ N, N = upK P 7 := ⟨_, rfl⟩
      rw [← hN7]
      replace hN7 := Lib.hid hN7
      clear hE
      go_wp2_with (go_at_call 35; refine hV.out.mono ?_; rintro e w' ⟨rfl, rfl⟩)
      go_ret
      exact ⟨by rw [← hN7.out]; rfl, rfl⟩
set_option maxHeartbeats 2000000 in
theorem Rx.ready (x : Rx base w b vs s) :
    Calls Try.prog 20 #[.pointer (some ⟨b, 0, none⟩)] w fun e w' => e = .returned (.bool (rdy s)) ∧ Below w.heap.size w w' := by
  have hV := Lib.hid x.valid
  have X0 := Lib.hid x
  have hK := Lib.hid (fun (W : World) (h : Rx base W b vs s ∧ Below w.heap.size w W) => (show W.cell? ⟨b, 1, none⟩ = some (.int .i64 s.n) ∧ (Rx base W b vs s ∧ Below w.heap.size w W) from ⟨h.1.cells.2.1, h⟩))
  have hNd := Lib.hid (fun (W : World) (h : Rx base W b vs s ∧ Below w.heap.size w W) => h.1.nodes)
  have hIs := Lib.hid (fun W => Quo.ris_any (nodesK s.P 7) (all_lt x.ok.n7 (nodes_in x.ok 7)) s.n W)
  unfold rdy
  clear x
  generalize nodesK s.P 7 = N at *
  go_enter Try.func20, Try.ntmps20
  go_wp2_with (go_at_call 35; refine hV.out.mono ?_; rintro e w' ⟨rfl, rfl⟩)
  go_region_held3 (fun W => W.cell? ⟨b, 1, none⟩ = some (.int .i64 s.n) ∧ (Rx base W b vs s ∧ Below w.heap.size w W))
    (first | exact hK.out _ ⟨X0.out.drew, (Below.refl _ _).drew⟩ | exact hK.out _ (by assumption) | assumption)
    (first
      | (go_at_call 26; refine (hNd.out _ (by assumption : _ ∧ (Rx base _ b vs s ∧ Below w.heap.size w _)).2).mono ?_; rintro e w2 ⟨rfl, rfl⟩; have hx2 := (by assumption : _ ∧ (Rx base _ b vs s ∧ Below w.heap.size w _)).2)
      | (go_at_call 39; refine (hIs.out _).mono ?_; rintro e w3 ⟨rfl, hb3⟩; have hx3 : Rx base w3 b vs s ∧ Below w.heap.size w w3 := ⟨hx2.1.later hb3, hx2.2.trans (hb3.mono hx2.2.size)⟩))
  go_wp2
  go_ret
  exact ⟨rfl, hx3.2⟩
end
/-! New. -/
theorem rnew_any (n r m f : Int) (h : newOk n r m f) (w : World) :
    Calls Try.prog 13 #[.int .i64 n, .agg #[.int .i64 r, .int .i64 m], .int .i64 f] w fun e w' => ∃ b, e = .returned (.tuple #[.pointer (some ⟨b, 0, none⟩), .int .i64 0]) ∧ Rx w.heap.size w' b (fun _ => nilS) (newS n r m f) ∧ w.heap.size ≤ b ∧ Below w.heap.size w w' := by
  have hb := alloc_b w (.cells #[.int .i64 r, .int .i64 m] TB)
  have hc := heap_alloc_new w (.cells #[.int .i64 r, .int .i64 m] TB)
  have hG := Lib.hid (fun W => rcheck_any r m n W)
  have e1 : ckB r m n = 0 := if_pos ⟨h.1, .inr ⟨h.2.1.1, h.2.1.2.1, h.2.1.2.2⟩⟩
  rw [e1] at hG
  have hq : ∀ W, (Op.equalIn 10000 TB (.agg #[.int .i64 r, .int .i64 m]) (.agg #[.int .i64 0, .int .i64 0])).run Try.prog W = .ok false W := fun W => (eq_b r m 0 0 W).trans (by rw [eqB_f (by have := h.2.1.1; omega)])
  have e2 : decide (f < 0) = false := decide_eq_false (by have := h.2.2; omega)
  have e3 : decide (4096 < f) = false := decide_eq_false (by have := h.2.2; omega)
  have hO := Lib.hid (ok_new h)
  clear h e1
  have key : Hid (∀ W, Below (w.alloc (.cells #[.int .i64 r, .int .i64 m] TB)).heap.size (w.alloc (.cells #[.int .i64 r, .int .i64 m] TB)) W → W.cell? ⟨w.heap.size, 0, none⟩ = some (.int .i64 r) ∧ W.cell? ⟨w.heap.size, 1, none⟩ = some (.int .i64 m) ∧ Below w.heap.size w W) := Lib.hid fun W hW => by
    have hd := (hW.block _ (Array.getElem?_eq_some_iff.1 hc).1).trans hc
    exact ⟨cell_of_row W _ 0 _ TB _ hd, cell_of_row W _ 1 _ TB _ hd, below2 hb hW⟩
  clear hc hb
  obtain ⟨k0, k1, _⟩ := key.out _ (Below.refl _ _)
  go_enter Try.func13, Try.ntmps13
  go_wp2_with (go_at_call 32; refine (hG.out _).mono ?_; rintro e w2 ⟨rfl, hb2⟩; obtain ⟨d0, d1, hB2⟩ := key.out _ hb2)
  go_ret2
  refine ⟨w2.heap.size, rfl, ⟨heap_alloc_new _ _, fun i _ => OwE.nil _ _, hO.out⟩, hB2.size, hB2.alloc hB2.size _⟩
theorem rnew_bad (n r m f : Int) (h : ¬ newOk n r m f) (w : World) :
    Calls Try.prog 13 #[.int .i64 n, .agg #[.int .i64 r, .int .i64 m], .int .i64 f] w fun e w' => e = .returned (.tuple #[.pointer none, .int .i64 2]) ∧ Below w.heap.size w w' := by
  have hb := alloc_b w (.cells #[.int .i64 r, .int .i64 m] TB)
  have hc := heap_alloc_new w (.cells #[.int .i64 r, .int .i64 m] TB)
  have hG := Lib.hid (fun W => rcheck_any r m n W)
  have key : Hid (∀ W, Below (w.alloc (.cells #[.int .i64 r, .int .i64 m] TB)).heap.size (w.alloc (.cells #[.int .i64 r, .int .i64 m] TB)) W → W.cell? ⟨w.heap.size, 0, none⟩ = some (.int .i64 r) ∧ W.cell? ⟨w.heap.size, 1, none⟩ = some (.int .i64 m) ∧ Below w.heap.size w W) := Lib.hid fun W hW => by
    have hd := (hW.block _ (Array.getElem?_eq_some_iff.1 hc).1).trans hc
    exact ⟨cell_of_row W _ 0 _ TB _ hd, cell_of_row W _ 1 _ TB _ hd, below2 hb hW⟩
  clear hc hb
  obtain ⟨k0, k1, _⟩ := key.out _ (Below.refl _ _)
  have hcl : ckB r m n = 0 ∨ ckB r m n = 2 := by unfold ckB; split <;> simp
  rcases hcl with e1 | e1
  · rw [e1] at hG
    by_cases hz : r = 0 ∧ m = 0
    · have hq : ∀ W, (Op.equalIn 10000 TB (.agg #[.int .i64 r, .int .i64 m]) (.agg #[.int .i64 0, .int .i64 0])).run Try.prog W = .ok true W := fun W => (eq_b r m 0 0 W).trans (by rw [eqB_t hz])
      clear h e1 hz
      go_enter Try.func13, Try.ntmps13
      go_wp2_with (go_at_call 32; refine (hG.out _).mono ?_; rintro e w2 ⟨rfl, hb2⟩; obtain ⟨d0, d1, hB2⟩ := key.out _ hb2)
      go_ret2
      exact ⟨rfl, hB2⟩
    · have hq : ∀ W, (Op.equalIn 10000 TB (.agg #[.int .i64 r, .int .i64 m]) (.agg #[.int .i64 0, .int .i64 0])).run Try.prog W = .ok false W := fun W => (eq_b r m 0 0 W).trans (by rw [eqB_f hz])
      have hf : f < 0 ∨ 4096 < f := by
        apply Classical.byContradiction
        intro hf
        unfold ckB at e1
        split at e1
        · rename_i hk
          rcases hk.2 with h0 | h0
          · exact hz h0
          · exact h ⟨hk.1, ⟨h0.1, h0.2.1, h0.2.2.1, h0.2.2.2⟩, by omega, by omega⟩
        · cases e1
      by_cases hf0 : f < 0
      · have e2 : decide (f < 0) = true := decide_eq_true hf0
        clear h e1 hz hf hf0
        go_enter Try.func13, Try.ntmps13
        go_wp2_with (go_at_call 32; refine (hG.out _).mono ?_; rintro e w2 ⟨rfl, hb2⟩; obtain ⟨d0, d1, hB2⟩ := key.out _ hb2)
        go_ret2
        exact ⟨rfl, hB2⟩
      · have e2 : decide (f < 0) = false := decide_eq_false hf0
        have e3 : decide (4096 < f) = true := decide_eq_true (by omega)
        clear h e1 hz hf hf0
        go_enter Try.func13, Try.ntmps13
        go_wp2_with (go_at_call 32; refine (hG.out _).mono ?_; rintro e w2 ⟨rfl, hb2⟩; obtain ⟨d0, d1, hB2⟩ := key.out _ hb2)
        go_ret2
        exact ⟨rfl, hB2⟩
  · rw [e1] at hG
    clear h e1
    go_enter Try.func13, Try.ntmps13
    go_wp2_with (go_at_call 32; refine (hG.out _).mono ?_; rintro e w2 ⟨rfl, hb2⟩; obtain ⟨d0, d1, hB2⟩ := key.out _ hb2)
    go_ret2
    exact ⟨rfl, hB2⟩
end Go.Proofs.Ytffiooclkchoiaa.Prp
