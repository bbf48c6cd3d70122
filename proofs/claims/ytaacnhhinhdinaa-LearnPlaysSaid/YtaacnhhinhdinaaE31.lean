/- The document's learner: Add. -/
import Derived.Test.YtaacnhhinhdinaaE30
import Derived.StillTailTactics
namespace Go.Proofs.Ytaacnhhinhdinaa.Lrn
open Go.RowKit Go.Maps Go.Lib
open Bal (TB bOk ckB ordV eqB eqB_t eqB_f eq_b alloc_b)
set_option linter.unusedVariables false
set_option linter.unusedSimpArgs false
set_option maxRecDepth 20000

theorem q_left {P : Program} {f : FuncId} {args : Array Value} {w : World} {n : Nat} {v : Value} (h : Calls P f args (w.drewN n) fun e w' => e = .returned v ∧ w.drewN n = w') :
    Calls P f args (w.drewN n) fun e w'' => e = .returned v ∧ ∃ m, w'' = w.drewN m := h.mono fun _ _ ⟨he, hm⟩ => ⟨he, n, hm.symm⟩
structure PRt (w : World) (rb : Nat) (s : St) (L : List Et) (vl : Value) (x y : Int) (W : World) : Prop where
  blk : W.heap[w.heap.size]? = some (.cells #[.int .i64 x, .int .i64 y] TB (0, 0))
  rx : Rx W rb s L vl
  bel : Below w.heap.size w W
section
variable {w W W' : World} {rb b : Nat} {s : St} {L : List Et} {vl : Value} {q : Et} {x y : Int}
theorem PRt.later (h : PRt w rb s L vl x y W) (hb : Below W.heap.size W W') : PRt w rb s L vl x y W' := ⟨(hb.block _ (Array.getElem?_eq_some_iff.1 h.blk).1).trans h.blk, h.rx.later hb, h.bel.trans (hb.mono h.bel.size)⟩
theorem PRt.drew (h : PRt w rb s L vl x y W) : PRt w rb s L vl x y W.drew := h.later (Below.refl _ _).drew
theorem prt_new (h : Rx w rb s L vl) (x y : Int) : PRt w rb s L vl x y (w.alloc (.cells #[.int .i64 x, .int .i64 y] TB)) := ⟨heap_alloc_new _ _, h.alloc _, alloc_b _ _⟩
theorem PRt.cells (h : PRt w rb s L vl x y W) : W.cell? ⟨w.heap.size, 0, none⟩ = some (.int .i64 x) ∧ W.cell? ⟨w.heap.size, 1, none⟩ = some (.int .i64 y) ∧ W.cell? ⟨rb, 0, none⟩ = some (.int .i64 s.n) :=
  ⟨cell_of_row W w.heap.size 0 _ TB _ h.blk, cell_of_row W w.heap.size 1 _ TB _ h.blk, h.rx.cells.1⟩
theorem RAt.drewN (h : RAt w rb s L vl b q W) (n : Nat) : RAt w rb s L vl b q (W.drewN n) := h.later (below_drewN (Below.refl _ _) n)
theorem RAt.drew (h : RAt w rb s L vl b q W) : RAt w rb s L vl b q W.drew := h.later (Below.refl _ _).drew
theorem RAt.set4 (h : RAt w rb s L vl b q W) (r m : Int) (v : ByteArray) : RAt w rb s L vl b ⟨q.s, ⟨q.k.c, q.k.v, r, m, v, 0⟩⟩ ((((W.setCell ⟨b, 3, none⟩ (.int .i64 r)).setCell ⟨b, 4, none⟩ (.int .i64 m)).setCell ⟨b, 5, none⟩ (.string v)).setCell ⟨b, 6, none⟩ (.int .u64 0)) :=
  h.put (((((Keeps.refl (fun i => i = b) W).setCell (p := ⟨b, 3, none⟩) (.inl rfl) _).setCell (p := ⟨b, 4, none⟩) (.inl rfl) _).setCell (p := ⟨b, 5, none⟩) (.inl rfl) _).setCell (p := ⟨b, 6, none⟩) (.inl rfl) _)
    (Go.heap_setCell_same _ b 6 _ TRK (.int .u64 0) (Go.heap_setCell_same _ b 5 _ TRK (.string v) (Go.heap_setCell_same _ b 4 _ TRK (.int .i64 m) (Go.heap_setCell_same W b 3 _ TRK (.int .i64 r) h.blk))))
theorem RAt.set1 (h : RAt w rb s L vl b q W) (z : Nat) : RAt w rb s L vl b ⟨q.s, ⟨q.k.c, q.k.v, q.k.r, q.k.m, q.k.t, z⟩⟩ (W.setCell ⟨b, 6, none⟩ (.int .u64 z)) :=
  h.put ((Keeps.refl (fun i => i = b) W).setCell (p := ⟨b, 6, none⟩) (.inl rfl) _) (Go.heap_setCell_same _ b 6 _ TRK (.int .u64 z) h.blk)
end
def RAdd (w : World) (rb : Nat) (s : St) (nd x y k : Int) (v : ByteArray) (e : Ending) (w' : World) : Prop :=
  e = .returned (.tuple #[.bool (addB s nd x y k v), .int .i64 (addE s nd x y k v)]) ∧ ∃ L' v', Rx w' rb (addS s nd x y k v) L' v' ∧ Keeps (fun i => i = rb) w w'
theorem radd_off {w W : World} {rb : Nat} {s : St} {L : List Et} {vl : Value} {nd x y k : Int} {v : ByteArray} (h0 : ¬ addOn s nd x y k v) {z : Int} (hz : addE s nd x y k v = z) (hA : Rx W rb s L vl) (hb : Below w.heap.size w W) :
    RAdd w rb s nd x y k v (.returned (.tuple #[.bool false, .int .i64 z])) W := by
  refine ⟨?_, L, vl, ?_, Keeps.of_below hb⟩
  · rw [hz]; unfold addB; rw [decide_eq_false h0, Bool.false_and]
  · unfold addS; rw [if_neg h0]; exact hA
theorem radd_on {w W W' : World} {rb : Nat} {s : St} {L' : List Et} {v' : Value} {nd x y k : Int} {v : ByteArray} (h0 : addOn s nd x y k v) {B : Bool} (hB : addN (withK (at' s k) nd x y v s.n) s.n = B) (hA : Rx W' rb ⟨s.n, s.b, putM s.M ⟨k, addW (at' s k) nd x y v s.n⟩⟩ L' v') (hb : Below w.heap.size w W) (hg : Keeps (fun i => i = rb) W W') :
    RAdd w rb s nd x y k v (.returned (.tuple #[.bool B, .int .i64 0])) W' := by
  refine ⟨?_, L', v', ?_, keeps_set hb hg⟩
  · unfold addB addE
    rw [decide_eq_true h0, Bool.true_and, hB, if_pos h0.1, if_pos h0.2.1, if_neg h0.2.2.1, if_neg (by rw [h0.2.2.2]; decide)]
  · unfold addS; rw [if_pos h0]; exact hA
/-- What the vote makes of an entry, in numbers. -/
theorem with_num {q : Kn} {d : Nat} {n r m : Int} {v : ByteArray} (hn : 1 ≤ n ∧ n ≤ 7) (hd : (d : Int) < n) (hq : OkK n q) :
    withK q d r m v n = ⟨(withP q r m v).c, (withP q r m v).v, (withP q r m v).r, (withP q r m v).m, (withP q r m v).t, (withP q r m v).x ||| 2 ^ d⟩ ∧ (withP q r m v).x ||| 2 ^ d ≤ Quo.all1 n.toNat ∧ (withP q r m v).x ≤ Quo.all1 n.toNat := by
  obtain ⟨n, rfl⟩ : ∃ i : Nat, n = i := ⟨n.toNat, by omega⟩
  have hx : (withP q r m v).x ≤ Quo.all1 n := by
    unfold withP
    split
    · have := hq.x; rwa [Int.toNat_natCast] at this
    · exact Nat.zero_le _
  refine ⟨?_, ?_, by rw [Int.toNat_natCast]; exact hx⟩
  · unfold withK
    rw [wi_or (by omega) (by omega) hx (by omega)]
  · rw [Int.toNat_natCast]
    exact or_low (by omega) hx (by omega)
theorem isv_num {x : Nat} {n : Int} (hn : 1 ≤ n ∧ n ≤ 7) (h : x ≤ Quo.all1 n.toNat) : Quo.isV n x = decide (n < 2 * (Quo.pc x : Int)) := by
  obtain ⟨n, rfl⟩ : ∃ i : Nat, n = i := ⟨n.toNat, by omega⟩
  rw [Int.toNat_natCast] at h
  rw [is_in (by omega) (by omega) h]
  by_cases h2 : n / 2 < Quo.pc x
  · rw [decide_eq_true h2, decide_eq_true (by omega)]
  · rw [decide_eq_false h2, decide_eq_false (by omega)]
set_option maxHeartbeats 4000000 in
theorem radd_low {rb : Nat} {s : St} {L : List Et} {vl : Value} (nd x y k : Int) (v : ByteArray) (w : World) (h : Rx w rb s L vl) (h1 : nd < 0) :
    Calls Try.prog 15 #[.pointer (some ⟨rb, 0, none⟩), .int .i64 nd, .agg #[.int .i64 x, .int .i64 y], .int .i64 k, .string v] w (RAdd w rb s nd x y k v) := by
  have P0 := prt_new h x y
  obtain ⟨c0, c1, c2⟩ := P0.cells
  have b0 : decide (nd < 0) = true := decide_eq_true h1
  have hno : Hid (∀ n, RAdd w rb s nd x y k v (.returned (.tuple #[.bool false, .int .i64 2])) ((w.alloc (.cells #[.int .i64 x, .int .i64 y] TB)).drewN n)) := Lib.hid fun n => by
    have hnn : ¬ isVote s.n nd x y := fun h2 => by have := h2.1.1; have := h2.1.2; omega
    have P1 := P0.later (below_drewN (Below.refl _ _) n)
    exact radd_off (fun h0 => hnn h0.1) (by unfold addE; rw [if_neg hnn]) P1.rx P1.bel
  clear P0 h h1
  go_enter Try.func15, Try.ntmps15
  go_wp2
  go_quiet (fail)
  go_wp2
  go_ret2
  exact hno.out _
set_option maxHeartbeats 4000000 in
theorem radd_high {rb : Nat} {s : St} {L : List Et} {vl : Value} (nd x y k : Int) (v : ByteArray) (w : World) (h : Rx w rb s L vl) (h0 : ¬ nd < 0) (h1 : s.n ≤ nd) :
    Calls Try.prog 15 #[.pointer (some ⟨rb, 0, none⟩), .int .i64 nd, .agg #[.int .i64 x, .int .i64 y], .int .i64 k, .string v] w (RAdd w rb s nd x y k v) := by
  have P0 := prt_new h x y
  obtain ⟨c0, c1, c2⟩ := P0.cells
  have b0 : decide (nd < 0) = false := decide_eq_false h0
  have b1 : decide (s.n ≤ nd) = true := decide_eq_true h1
  have hno : Hid (∀ n, RAdd w rb s nd x y k v (.returned (.tuple #[.bool false, .int .i64 2])) ((w.alloc (.cells #[.int .i64 x, .int .i64 y] TB)).drewN n)) := Lib.hid fun n => by
    have hnn : ¬ isVote s.n nd x y := fun h2 => by have := h2.1.1; have := h2.1.2; omega
    have P1 := P0.later (below_drewN (Below.refl _ _) n)
    exact radd_off (fun h0 => hnn h0.1) (by unfold addE; rw [if_neg hnn]) P1.rx P1.bel
  clear P0 h h1
  go_enter Try.func15, Try.ntmps15
  go_wp2
  go_quiet (fail)
  go_wp2
  go_ret2
  exact hno.out _
set_option maxHeartbeats 4000000 in
theorem radd_gd {rb : Nat} {s : St} {L : List Et} {vl : Value} (nd x y k : Int) (v : ByteArray) (w : World) (h : Rx w rb s L vl) (h1 : 0 ≤ nd ∧ nd < s.n) (h2 : ¬ Gd s.n x y) :
    Calls Try.prog 15 #[.pointer (some ⟨rb, 0, none⟩), .int .i64 nd, .agg #[.int .i64 x, .int .i64 y], .int .i64 k, .string v] w (RAdd w rb s nd x y k v) := by
  have P0 := prt_new h x y
  have HV := Lib.hid (fun W => rvalid_any x y s.n W)
  have b1 : decide (nd < 0) = false := by simp; omega
  have b2 : decide (s.n ≤ nd) = false := by simp; omega
  have b3 : decide (Gd s.n x y) = false := decide_eq_false h2
  have hno : Hid (∀ W, PRt w rb s L vl x y W → RAdd w rb s nd x y k v (.returned (.tuple #[.bool false, .int .i64 2])) W) := Lib.hid fun W hW =>
    radd_off (fun h0 => h2 h0.1.2) (by unfold addE; rw [if_neg (fun h0 => h2 h0.2)]) hW.rx hW.bel
  generalize decide (Gd s.n x y) = g at *
  subst b3
  clear h1 h2 h
  have HK : Hid (∀ W, PRt w rb s L vl x y W → W.cell? ⟨w.heap.size, 0, none⟩ = some (.int .i64 x) ∧ W.cell? ⟨w.heap.size, 1, none⟩ = some (.int .i64 y) ∧ W.cell? ⟨rb, 0, none⟩ = some (.int .i64 s.n) ∧ PRt w rb s L vl x y W) := Lib.hid fun W h => ⟨h.cells.1, h.cells.2.1, h.cells.2.2, h⟩
  have P0d := Lib.hid P0.drew
  clear P0
  go_enter Try.func15, Try.ntmps15
  go_wp2_with fail
  generalize w.alloc (.cells #[.int .i64 x, .int .i64 y] TB) = W0 at *
  go_region_held3 (fun W => W.cell? ⟨w.heap.size, 0, none⟩ = some (.int .i64 x) ∧ W.cell? ⟨w.heap.size, 1, none⟩ = some (.int .i64 y) ∧ W.cell? ⟨rb, 0, none⟩ = some (.int .i64 s.n) ∧ PRt w rb s L vl x y W)
    ((first | exact HK.out _ P0d.out | exact HK.out _ (by assumption) | assumption))
    ((go_at_call 37; refine (HV.out _).mono ?_; rintro e2 w1 ⟨rfl, hb1⟩; have P1 := P0d.out.later hb1))
  replace P1 := Lib.hid P1
  go_wp2
  go_ret2
  exact hno.out _ P1.out
set_option maxHeartbeats 4000000 in
theorem radd_ck {rb : Nat} {s : St} {L : List Et} {vl : Value} (nd x y k : Int) (v : ByteArray) (w : World) (h : Rx w rb s L vl) (hv : isVote s.n nd x y) (hc : ckV s.b k v ≠ 0) :
    Calls Try.prog 15 #[.pointer (some ⟨rb, 0, none⟩), .int .i64 nd, .agg #[.int .i64 x, .int .i64 y], .int .i64 k, .string v] w (RAdd w rb s nd x y k v) := by
  have P0 := prt_new h x y
  have HV := Lib.hid (fun W => rvalid_any x y s.n W)
  have b1 : decide (nd < 0) = false := by have := hv.1; simp; omega
  have b2 : decide (s.n ≤ nd) = false := by have := hv.1; simp; omega
  have b3 : decide (Gd s.n x y) = true := decide_eq_true hv.2
  have HC := Lib.hid (fun W (hW : Rx W rb s L vl) => rchk_any k v W hW)
  have hno : Hid (∀ W, PRt w rb s L vl x y W → RAdd w rb s nd x y k v (.returned (.tuple #[.bool false, .int .i64 (ckV s.b k v)])) W) := Lib.hid fun W hW =>
    radd_off (fun h0 => hc h0.2.1) (by unfold addE; rw [if_pos hv, if_neg hc]) hW.rx hW.bel
  generalize decide (Gd s.n x y) = g at *
  subst b3
  generalize hz : ckV s.b k v = z at *
  have hz1 : (z == 0) = false := by simpa using hc
  have hz2 : (z = 0) = False := by simpa using hc
  clear hv hc hz h
  have HK : Hid (∀ W, PRt w rb s L vl x y W → W.cell? ⟨w.heap.size, 0, none⟩ = some (.int .i64 x) ∧ W.cell? ⟨w.heap.size, 1, none⟩ = some (.int .i64 y) ∧ W.cell? ⟨rb, 0, none⟩ = some (.int .i64 s.n) ∧ PRt w rb s L vl x y W) := Lib.hid fun W h => ⟨h.cells.1, h.cells.2.1, h.cells.2.2, h⟩
  have P0d := Lib.hid P0.drew
  clear P0
  go_enter Try.func15, Try.ntmps15
  go_wp2_with fail
  generalize w.alloc (.cells #[.int .i64 x, .int .i64 y] TB) = W0 at *
  go_region_held3 (fun W => W.cell? ⟨w.heap.size, 0, none⟩ = some (.int .i64 x) ∧ W.cell? ⟨w.heap.size, 1, none⟩ = some (.int .i64 y) ∧ W.cell? ⟨rb, 0, none⟩ = some (.int .i64 s.n) ∧ PRt w rb s L vl x y W)
    ((first | exact HK.out _ P0d.out | exact HK.out _ (by assumption) | assumption))
    ((go_at_call 37; refine (HV.out _).mono ?_; rintro e2 w1 ⟨rfl, hb1⟩; have P1 := P0d.out.later hb1))
  replace P1 := Lib.hid P1
  go_wp2_with (go_at_call 38; refine (HC.out _ P1.out.rx).mono ?_; rintro e w' ⟨rfl, rfl⟩)
  go_ret2
  exact hno.out _ P1.out
theorem ref_t {c : Bool} {qv v t : ByteArray} {r m : Int} {u : Nat} (hr : refV ⟨c, qv, r, m, t, u⟩ v = true) : c = true ∧ (v.toList == qv.toList) = false := by
  unfold refV at hr
  simp only [Bool.and_eq_true, Bool.not_eq_true'] at hr
  refine ⟨hr.1, ?_⟩
  rw [tl_eq]
  have := of_decide_eq_false hr.2
  exact decide_eq_false fun h => this h.symm
theorem ref_f {c : Bool} {qv v t : ByteArray} {r m : Int} {u : Nat} (hr : refV ⟨c, qv, r, m, t, u⟩ v = false) : c = false ∨ (c = true ∧ (v.toList == qv.toList) = true) := by
  cases c with
  | false => exact .inl rfl
  | true =>
    refine .inr ⟨rfl, ?_⟩
    rw [tl_eq]
    unfold refV at hr
    simp only [Bool.true_and, Bool.not_eq_false'] at hr
    unfold eqT at hr ⊢
    have := of_decide_eq_true hr
    exact decide_eq_true this.symm
set_option maxHeartbeats 4000000 in
theorem radd_late {rb : Nat} {s : St} {L : List Et} {vl : Value} (nd x y k : Int) (v : ByteArray) (w : World) (h : Rx w rb s L vl) (hv : isVote s.n nd x y) (hc : ckV s.b k v = 0) (ho : ordV x y (at' s k).r (at' s k).m < 0) :
    Calls Try.prog 15 #[.pointer (some ⟨rb, 0, none⟩), .int .i64 nd, .agg #[.int .i64 x, .int .i64 y], .int .i64 k, .string v] w (RAdd w rb s nd x y k v) := by
  have P0 := prt_new h x y
  have HV := Lib.hid (fun W => rvalid_any x y s.n W)
  have b1 : decide (nd < 0) = false := by have := hv.1; simp; omega
  have b2 : decide (s.n ≤ nd) = false := by have := hv.1; simp; omega
  have b3 : decide (Gd s.n x y) = true := decide_eq_true hv.2
  have HC : Hid (∀ W, Rx W rb s L vl → Calls Try.prog 38 #[.pointer (some ⟨rb, 0, none⟩), .int .i64 k, .string v] W fun e w' => e = .returned (.int .i64 0) ∧ W = w') := Lib.hid fun W hW => by have := rchk_any k v W hW; rw [hc] at this; exact this
  have HG := Lib.hid (fun W (hW : Rx W rb s L vl) => rget_any k W hW)
  have HB := Lib.hid (fun W => rbelow_any x y (at' s k).r (at' s k).m W)
  have hno : Hid (∀ W, PRt w rb s L vl x y W → RAdd w rb s nd x y k v (.returned (.tuple #[.bool false, .int .i64 0])) W) := Lib.hid fun W hW =>
    radd_off (fun h0 => h0.2.2.1 ho) (by unfold addE; rw [if_pos hv, if_pos hc, if_pos ho]) hW.rx hW.bel
  generalize decide (Gd s.n x y) = g at *
  subst b3
  have HR := Lib.hid (fun w1 (hb : Below w.heap.size w w1) (q : Et) => rat_new h hb q)
  obtain ⟨q, hqq⟩ : ∃ q, at' s k = q := ⟨_, rfl⟩
  rw [hqq] at HG HB ho
  obtain ⟨c, qv, qr, qm, t, u⟩ := q
  replace hqq := Lib.hid hqq
  simp only at ho HB
  have bo : decide (ordV x y qr qm < 0) = true := decide_eq_true ho
  clear hv hc h  ho
  generalize ordV x y qr qm = oo at *
  have HK : Hid (∀ W, PRt w rb s L vl x y W → W.cell? ⟨w.heap.size, 0, none⟩ = some (.int .i64 x) ∧ W.cell? ⟨w.heap.size, 1, none⟩ = some (.int .i64 y) ∧ W.cell? ⟨rb, 0, none⟩ = some (.int .i64 s.n) ∧ PRt w rb s L vl x y W) := Lib.hid fun W h => ⟨h.cells.1, h.cells.2.1, h.cells.2.2, h⟩
  have P0d := Lib.hid P0.drew
  clear P0
  go_enter Try.func15, Try.ntmps15
  go_wp2_with fail
  generalize w.alloc (.cells #[.int .i64 x, .int .i64 y] TB) = W0 at *
  go_region_held3 (fun W => W.cell? ⟨w.heap.size, 0, none⟩ = some (.int .i64 x) ∧ W.cell? ⟨w.heap.size, 1, none⟩ = some (.int .i64 y) ∧ W.cell? ⟨rb, 0, none⟩ = some (.int .i64 s.n) ∧ PRt w rb s L vl x y W)
    ((first | exact HK.out _ P0d.out | exact HK.out _ (by assumption) | assumption))
    ((go_at_call 37; refine (HV.out _).mono ?_; rintro e2 w1 ⟨rfl, hb1⟩; have P1 := P0d.out.later hb1))
  replace P1 := Lib.hid P1
  go_wp2_with (first
    | (go_at_call 38; refine (HC.out _ P1.out.rx).mono ?_; rintro e w' ⟨rfl, rfl⟩)
    | (go_at_call 39; refine (HG.out _ P1.out.rx).mono ?_; rintro e w2 ⟨rfl, hb2⟩; have P2 := P1.out.later hb2; have P3 := P2.later (alloc_b w2 (.cells (eA ⟨k, ⟨c, qv, qr, qm, t, u⟩⟩) TRK)); obtain ⟨p0, p1, p2⟩ := P3.cells; have A3 := HR.out w2 P2.bel ⟨k, ⟨c, qv, qr, qm, t, u⟩⟩; obtain ⟨d0, d1, d2, d3, d4, d5, d6⟩ := A3.e.cells; simp only at d0 d1 d2 d3 d4 d5 d6; replace P3 := Lib.hid P3; replace A3 := Lib.hid A3)
    | (go_at_call 40; refine (HB.out _).mono ?_; rintro e w4 ⟨rfl, hb4⟩; have P4 := P3.out.later hb4; have A4 := A3.out.later hb4; obtain ⟨p0, p1, p2⟩ := P4.cells; obtain ⟨g0, g1, g2, g3, g4, g5, g6⟩ := A4.e.cells; simp only at g0 g1 g2 g3 g4 g5 g6; have f1 := A4.e.frozen 1; have f2 := A4.e.frozen 2; have f3 := A4.e.frozen 3; have f4 := A4.e.frozen 4; have f5 := A4.e.frozen 5; have f6 := A4.e.frozen 6; replace P4 := Lib.hid P4; replace A4 := Lib.hid A4))
  go_ret2
  exact hno.out _ P4.out
set_option maxHeartbeats 4000000 in
theorem radd_other {rb : Nat} {s : St} {L : List Et} {vl : Value} (nd x y k : Int) (v : ByteArray) (w : World) (h : Rx w rb s L vl) (hv : isVote s.n nd x y) (hc : ckV s.b k v = 0) (ho : ¬ ordV x y (at' s k).r (at' s k).m < 0) (he : eqB x y (at' s k).r (at' s k).m = true) (ht : eqT v (at' s k).t = false) :
    Calls Try.prog 15 #[.pointer (some ⟨rb, 0, none⟩), .int .i64 nd, .agg #[.int .i64 x, .int .i64 y], .int .i64 k, .string v] w (RAdd w rb s nd x y k v) := by
  have P0 := prt_new h x y
  have HV := Lib.hid (fun W => rvalid_any x y s.n W)
  have b1 : decide (nd < 0) = false := by have := hv.1; simp; omega
  have b2 : decide (s.n ≤ nd) = false := by have := hv.1; simp; omega
  have b3 : decide (Gd s.n x y) = true := decide_eq_true hv.2
  have HC : Hid (∀ W, Rx W rb s L vl → Calls Try.prog 38 #[.pointer (some ⟨rb, 0, none⟩), .int .i64 k, .string v] W fun e w' => e = .returned (.int .i64 0) ∧ W = w') := Lib.hid fun W hW => by have := rchk_any k v W hW; rw [hc] at this; exact this
  have HG := Lib.hid (fun W (hW : Rx W rb s L vl) => rget_any k W hW)
  have HB := Lib.hid (fun W => rbelow_any x y (at' s k).r (at' s k).m W)
  have hbad : addBad (at' s k) x y v = true := by unfold addBad; rw [he, ht]; rfl
  have hno : Hid (∀ W, PRt w rb s L vl x y W → RAdd w rb s nd x y k v (.returned (.tuple #[.bool false, .int .i64 9])) W) := Lib.hid fun W hW =>
    radd_off (fun h0 => by have := h0.2.2.2; rw [hbad] at this; cases this) (by unfold addE; rw [if_pos hv, if_pos hc, if_neg ho, if_pos hbad]) hW.rx hW.bel
  clear hbad
  generalize decide (Gd s.n x y) = g at *
  subst b3
  have HR := Lib.hid (fun w1 (hb : Below w.heap.size w w1) (q : Et) => rat_new h hb q)
  obtain ⟨q, hqq⟩ : ∃ q, at' s k = q := ⟨_, rfl⟩
  rw [hqq] at HG HB ho he ht
  obtain ⟨c, qv, qr, qm, t, u⟩ := q
  replace hqq := Lib.hid hqq
  simp only at ho he ht HB
  have bo : decide (ordV x y qr qm < 0) = false := decide_eq_false ho
  have hq := fun W => (eq_b x y qr qm W).trans (by rw [he])
  have htl := (tl_eq v t).trans ht
  clear hv hc h  ho he ht
  generalize ordV x y qr qm = oo at *
  have HK : Hid (∀ W, PRt w rb s L vl x y W → W.cell? ⟨w.heap.size, 0, none⟩ = some (.int .i64 x) ∧ W.cell? ⟨w.heap.size, 1, none⟩ = some (.int .i64 y) ∧ W.cell? ⟨rb, 0, none⟩ = some (.int .i64 s.n) ∧ PRt w rb s L vl x y W) := Lib.hid fun W h => ⟨h.cells.1, h.cells.2.1, h.cells.2.2, h⟩
  have P0d := Lib.hid P0.drew
  clear P0
  go_enter Try.func15, Try.ntmps15
  go_wp2_with fail
  generalize w.alloc (.cells #[.int .i64 x, .int .i64 y] TB) = W0 at *
  go_region_held3 (fun W => W.cell? ⟨w.heap.size, 0, none⟩ = some (.int .i64 x) ∧ W.cell? ⟨w.heap.size, 1, none⟩ = some (.int .i64 y) ∧ W.cell? ⟨rb, 0, none⟩ = some (.int .i64 s.n) ∧ PRt w rb s L vl x y W)
    ((first | exact HK.out _ P0d.out | exact HK.out _ (by assumption) | assumption))
    ((go_at_call 37; refine (HV.out _).mono ?_; rintro e2 w1 ⟨rfl, hb1⟩; have P1 := P0d.out.later hb1))
  replace P1 := Lib.hid P1
  go_wp2_with (first
    | (go_at_call 38; refine (HC.out _ P1.out.rx).mono ?_; rintro e w' ⟨rfl, rfl⟩)
    | (go_at_call 39; refine (HG.out _ P1.out.rx).mono ?_; rintro e w2 ⟨rfl, hb2⟩; have P2 := P1.out.later hb2; have P3 := P2.later (alloc_b w2 (.cells (eA ⟨k, ⟨c, qv, qr, qm, t, u⟩⟩) TRK)); obtain ⟨p0, p1, p2⟩ := P3.cells; have A3 := HR.out w2 P2.bel ⟨k, ⟨c, qv, qr, qm, t, u⟩⟩; obtain ⟨d0, d1, d2, d3, d4, d5, d6⟩ := A3.e.cells; simp only at d0 d1 d2 d3 d4 d5 d6; replace P3 := Lib.hid P3; replace A3 := Lib.hid A3)
    | (go_at_call 40; refine (HB.out _).mono ?_; rintro e w4 ⟨rfl, hb4⟩; have P4 := P3.out.later hb4; have A4 := A3.out.later hb4; obtain ⟨p0, p1, p2⟩ := P4.cells; obtain ⟨g0, g1, g2, g3, g4, g5, g6⟩ := A4.e.cells; simp only at g0 g1 g2 g3 g4 g5 g6; have f1 := A4.e.frozen 1; have f2 := A4.e.frozen 2; have f3 := A4.e.frozen 3; have f4 := A4.e.frozen 4; have f5 := A4.e.frozen 5; have f6 := A4.e.frozen 6; replace P4 := Lib.hid P4; replace A4 := Lib.hid A4))
  go_ret2
  exact hno.out _ P4.out
set_option maxHeartbeats 4000000 in
theorem radd_ref1 {rb : Nat} {s : St} {L : List Et} {vl : Value} (nd x y k : Int) (v : ByteArray) (w : World) (h : Rx w rb s L vl) (hv : isVote s.n nd x y) (hc : ckV s.b k v = 0) (ho : ¬ ordV x y (at' s k).r (at' s k).m < 0) (he : eqB x y (at' s k).r (at' s k).m = true) (ht : eqT v (at' s k).t = true) (hr : refV (at' s k) v = true) :
    Calls Try.prog 15 #[.pointer (some ⟨rb, 0, none⟩), .int .i64 nd, .agg #[.int .i64 x, .int .i64 y], .int .i64 k, .string v] w (RAdd w rb s nd x y k v) := by
  have P0 := prt_new h x y
  have HV := Lib.hid (fun W => rvalid_any x y s.n W)
  have b1 : decide (nd < 0) = false := by have := hv.1; simp; omega
  have b2 : decide (s.n ≤ nd) = false := by have := hv.1; simp; omega
  have b3 : decide (Gd s.n x y) = true := decide_eq_true hv.2
  have HC : Hid (∀ W, Rx W rb s L vl → Calls Try.prog 38 #[.pointer (some ⟨rb, 0, none⟩), .int .i64 k, .string v] W fun e w' => e = .returned (.int .i64 0) ∧ W = w') := Lib.hid fun W hW => by have := rchk_any k v W hW; rw [hc] at this; exact this
  have HG := Lib.hid (fun W (hW : Rx W rb s L vl) => rget_any k W hW)
  have HB := Lib.hid (fun W => rbelow_any x y (at' s k).r (at' s k).m W)
  have hbad : addBad (at' s k) x y v = true := by unfold addBad; rw [hr, Bool.or_true]
  have hno : Hid (∀ W, PRt w rb s L vl x y W → RAdd w rb s nd x y k v (.returned (.tuple #[.bool false, .int .i64 9])) W) := Lib.hid fun W hW =>
    radd_off (fun h0 => by have := h0.2.2.2; rw [hbad] at this; cases this) (by unfold addE; rw [if_pos hv, if_pos hc, if_neg ho, if_pos hbad]) hW.rx hW.bel
  clear hbad
  generalize decide (Gd s.n x y) = g at *
  subst b3
  have HR := Lib.hid (fun w1 (hb : Below w.heap.size w w1) (q : Et) => rat_new h hb q)
  obtain ⟨q, hqq⟩ : ∃ q, at' s k = q := ⟨_, rfl⟩
  rw [hqq] at HG HB ho he ht hr
  obtain ⟨c, qv, qr, qm, t, u⟩ := q
  replace hqq := Lib.hid hqq
  simp only at ho he ht hr HB
  have bo : decide (ordV x y qr qm < 0) = false := decide_eq_false ho
  have hq := fun W => (eq_b x y qr qm W).trans (by rw [he])
  have htl := (tl_eq v t).trans ht
  obtain ⟨rfl, htl2⟩ := ref_t hr
  clear hv hc h  ho he ht hr
  generalize ordV x y qr qm = oo at *
  have HK : Hid (∀ W, PRt w rb s L vl x y W → W.cell? ⟨w.heap.size, 0, none⟩ = some (.int .i64 x) ∧ W.cell? ⟨w.heap.size, 1, none⟩ = some (.int .i64 y) ∧ W.cell? ⟨rb, 0, none⟩ = some (.int .i64 s.n) ∧ PRt w rb s L vl x y W) := Lib.hid fun W h => ⟨h.cells.1, h.cells.2.1, h.cells.2.2, h⟩
  have P0d := Lib.hid P0.drew
  clear P0
  go_enter Try.func15, Try.ntmps15
  go_wp2_with fail
  generalize w.alloc (.cells #[.int .i64 x, .int .i64 y] TB) = W0 at *
  go_region_held3 (fun W => W.cell? ⟨w.heap.size, 0, none⟩ = some (.int .i64 x) ∧ W.cell? ⟨w.heap.size, 1, none⟩ = some (.int .i64 y) ∧ W.cell? ⟨rb, 0, none⟩ = some (.int .i64 s.n) ∧ PRt w rb s L vl x y W)
    ((first | exact HK.out _ P0d.out | exact HK.out _ (by assumption) | assumption))
    ((go_at_call 37; refine (HV.out _).mono ?_; rintro e2 w1 ⟨rfl, hb1⟩; have P1 := P0d.out.later hb1))
  replace P1 := Lib.hid P1
  go_wp2_with (first
    | (go_at_call 38; refine (HC.out _ P1.out.rx).mono ?_; rintro e w' ⟨rfl, rfl⟩)
    | (go_at_call 39; refine (HG.out _ P1.out.rx).mono ?_; rintro e w2 ⟨rfl, hb2⟩; have P2 := P1.out.later hb2; have P3 := P2.later (alloc_b w2 (.cells (eA ⟨k, ⟨true, qv, qr, qm, t, u⟩⟩) TRK)); obtain ⟨p0, p1, p2⟩ := P3.cells; have A3 := HR.out w2 P2.bel ⟨k, ⟨true, qv, qr, qm, t, u⟩⟩; obtain ⟨d0, d1, d2, d3, d4, d5, d6⟩ := A3.e.cells; simp only at d0 d1 d2 d3 d4 d5 d6; replace P3 := Lib.hid P3; replace A3 := Lib.hid A3)
    | (go_at_call 40; refine (HB.out _).mono ?_; rintro e w4 ⟨rfl, hb4⟩; have P4 := P3.out.later hb4; have A4 := A3.out.later hb4; obtain ⟨p0, p1, p2⟩ := P4.cells; obtain ⟨g0, g1, g2, g3, g4, g5, g6⟩ := A4.e.cells; simp only at g0 g1 g2 g3 g4 g5 g6; have f1 := A4.e.frozen 1; have f2 := A4.e.frozen 2; have f3 := A4.e.frozen 3; have f4 := A4.e.frozen 4; have f5 := A4.e.frozen 5; have f6 := A4.e.frozen 6; replace P4 := Lib.hid P4; replace A4 := Lib.hid A4))
  go_ret2
  exact hno.out _ P4.out
set_option maxHeartbeats 4000000 in
theorem radd_ref2 {rb : Nat} {s : St} {L : List Et} {vl : Value} (nd x y k : Int) (v : ByteArray) (w : World) (h : Rx w rb s L vl) (hv : isVote s.n nd x y) (hc : ckV s.b k v = 0) (ho : ¬ ordV x y (at' s k).r (at' s k).m < 0) (he : eqB x y (at' s k).r (at' s k).m = false) (hr : refV (at' s k) v = true) :
    Calls Try.prog 15 #[.pointer (some ⟨rb, 0, none⟩), .int .i64 nd, .agg #[.int .i64 x, .int .i64 y], .int .i64 k, .string v] w (RAdd w rb s nd x y k v) := by
  have P0 := prt_new h x y
  have HV := Lib.hid (fun W => rvalid_any x y s.n W)
  have b1 : decide (nd < 0) = false := by have := hv.1; simp; omega
  have b2 : decide (s.n ≤ nd) = false := by have := hv.1; simp; omega
  have b3 : decide (Gd s.n x y) = true := decide_eq_true hv.2
  have HC : Hid (∀ W, Rx W rb s L vl → Calls Try.prog 38 #[.pointer (some ⟨rb, 0, none⟩), .int .i64 k, .string v] W fun e w' => e = .returned (.int .i64 0) ∧ W = w') := Lib.hid fun W hW => by have := rchk_any k v W hW; rw [hc] at this; exact this
  have HG := Lib.hid (fun W (hW : Rx W rb s L vl) => rget_any k W hW)
  have HB := Lib.hid (fun W => rbelow_any x y (at' s k).r (at' s k).m W)
  have hbad : addBad (at' s k) x y v = true := by unfold addBad; rw [hr, Bool.or_true]
  have hno : Hid (∀ W, PRt w rb s L vl x y W → RAdd w rb s nd x y k v (.returned (.tuple #[.bool false, .int .i64 9])) W) := Lib.hid fun W hW =>
    radd_off (fun h0 => by have := h0.2.2.2; rw [hbad] at this; cases this) (by unfold addE; rw [if_pos hv, if_pos hc, if_neg ho, if_pos hbad]) hW.rx hW.bel
  clear hbad
  generalize decide (Gd s.n x y) = g at *
  subst b3
  have HR := Lib.hid (fun w1 (hb : Below w.heap.size w w1) (q : Et) => rat_new h hb q)
  obtain ⟨q, hqq⟩ : ∃ q, at' s k = q := ⟨_, rfl⟩
  rw [hqq] at HG HB ho he hr
  obtain ⟨c, qv, qr, qm, t, u⟩ := q
  replace hqq := Lib.hid hqq
  simp only at ho he hr HB
  have bo : decide (ordV x y qr qm < 0) = false := decide_eq_false ho
  have hq := fun W => (eq_b x y qr qm W).trans (by rw [he])
  obtain ⟨rfl, htl2⟩ := ref_t hr
  clear hv hc h  ho he hr
  generalize ordV x y qr qm = oo at *
  have HK : Hid (∀ W, PRt w rb s L vl x y W → W.cell? ⟨w.heap.size, 0, none⟩ = some (.int .i64 x) ∧ W.cell? ⟨w.heap.size, 1, none⟩ = some (.int .i64 y) ∧ W.cell? ⟨rb, 0, none⟩ = some (.int .i64 s.n) ∧ PRt w rb s L vl x y W) := Lib.hid fun W h => ⟨h.cells.1, h.cells.2.1, h.cells.2.2, h⟩
  have P0d := Lib.hid P0.drew
  clear P0
  go_enter Try.func15, Try.ntmps15
  go_wp2_with fail
  generalize w.alloc (.cells #[.int .i64 x, .int .i64 y] TB) = W0 at *
  go_region_held3 (fun W => W.cell? ⟨w.heap.size, 0, none⟩ = some (.int .i64 x) ∧ W.cell? ⟨w.heap.size, 1, none⟩ = some (.int .i64 y) ∧ W.cell? ⟨rb, 0, none⟩ = some (.int .i64 s.n) ∧ PRt w rb s L vl x y W)
    ((first | exact HK.out _ P0d.out | exact HK.out _ (by assumption) | assumption))
    ((go_at_call 37; refine (HV.out _).mono ?_; rintro e2 w1 ⟨rfl, hb1⟩; have P1 := P0d.out.later hb1))
  replace P1 := Lib.hid P1
  go_wp2_with (first
    | (go_at_call 38; refine (HC.out _ P1.out.rx).mono ?_; rintro e w' ⟨rfl, rfl⟩)
    | (go_at_call 39; refine (HG.out _ P1.out.rx).mono ?_; rintro e w2 ⟨rfl, hb2⟩; have P2 := P1.out.later hb2; have P3 := P2.later (alloc_b w2 (.cells (eA ⟨k, ⟨true, qv, qr, qm, t, u⟩⟩) TRK)); obtain ⟨p0, p1, p2⟩ := P3.cells; have A3 := HR.out w2 P2.bel ⟨k, ⟨true, qv, qr, qm, t, u⟩⟩; obtain ⟨d0, d1, d2, d3, d4, d5, d6⟩ := A3.e.cells; simp only at d0 d1 d2 d3 d4 d5 d6; replace P3 := Lib.hid P3; replace A3 := Lib.hid A3)
    | (go_at_call 40; refine (HB.out _).mono ?_; rintro e w4 ⟨rfl, hb4⟩; have P4 := P3.out.later hb4; have A4 := A3.out.later hb4; obtain ⟨p0, p1, p2⟩ := P4.cells; obtain ⟨g0, g1, g2, g3, g4, g5, g6⟩ := A4.e.cells; simp only at g0 g1 g2 g3 g4 g5 g6; have f1 := A4.e.frozen 1; have f2 := A4.e.frozen 2; have f3 := A4.e.frozen 3; have f4 := A4.e.frozen 4; have f5 := A4.e.frozen 5; have f6 := A4.e.frozen 6; replace P4 := Lib.hid P4; replace A4 := Lib.hid A4))
  go_ret2
  exact hno.out _ P4.out
set_option maxHeartbeats 4000000 in
theorem radd_on1 {rb : Nat} {s : St} {L : List Et} {vl : Value} (nd x y k : Int) (v : ByteArray) (w : World) (h : Rx w rb s L vl) (hv : isVote s.n nd x y) (hc : ckV s.b k v = 0) (ho : ¬ ordV x y (at' s k).r (at' s k).m < 0) (he : eqB x y (at' s k).r (at' s k).m = true) (ht : eqT v (at' s k).t = true) (hr : refV (at' s k) v = false) :
    Calls Try.prog 15 #[.pointer (some ⟨rb, 0, none⟩), .int .i64 nd, .agg #[.int .i64 x, .int .i64 y], .int .i64 k, .string v] w (RAdd w rb s nd x y k v) := by
  have P0 := prt_new h x y
  have HV := Lib.hid (fun W => rvalid_any x y s.n W)
  have b1 : decide (nd < 0) = false := by have := hv.1; simp; omega
  have b2 : decide (s.n ≤ nd) = false := by have := hv.1; simp; omega
  have b3 : decide (Gd s.n x y) = true := decide_eq_true hv.2
  have HC : Hid (∀ W, Rx W rb s L vl → Calls Try.prog 38 #[.pointer (some ⟨rb, 0, none⟩), .int .i64 k, .string v] W fun e w' => e = .returned (.int .i64 0) ∧ W = w') := Lib.hid fun W hW => by have := rchk_any k v W hW; rw [hc] at this; exact this
  have HG := Lib.hid (fun W (hW : Rx W rb s L vl) => rget_any k W hW)
  have HB := Lib.hid (fun W => rbelow_any x y (at' s k).r (at' s k).m W)
  have hon : addOn s nd x y k v := ⟨hv, hc, ho, by unfold addBad; rw [hr, he, ht]; rfl⟩
  have hok := ok_add h.ok nd x y k v
  unfold addS at hok
  rw [if_pos hon] at hok
  have hfin : Hid (∀ B, addN (withK (at' s k) nd x y v s.n) s.n = B → ∀ W W' L' v', Rx W' rb ⟨s.n, s.b, putM s.M ⟨k, addW (at' s k) nd x y v s.n⟩⟩ L' v' → Below w.heap.size w W → Keeps (fun i => i = rb) W W' → RAdd w rb s nd x y k v (.returned (.tuple #[.bool B, .int .i64 0])) W') := Lib.hid fun B hB W W' L' v' hA hb hg => radd_on hon hB hA hb hg
  have HS := Lib.hid (fun W (hW : Rx W rb s L vl) => rset_any ⟨k, addW (at' s k) nd x y v s.n⟩ W hW hok)
  obtain ⟨d, rfl⟩ : ∃ d : Nat, nd = d := ⟨nd.toNat, by have := hv.1.1; omega⟩
  have hd7 : d < 7 := by have := hv.1.2; have := h.ok.hn; omega
  obtain ⟨hw1, hw2, hw3⟩ := with_num (r := x) (m := y) (v := v) h.ok.hn hv.1.2 (h.ok.get k)
  have hN : addN (withK (at' s k) d x y v s.n) s.n = (Quo.isV s.n (withK (at' s k) d x y v s.n).x && !(withK (at' s k) d x y v s.n).c) := rfl
  have hA : addW (at' s k) d x y v s.n = if addN (withK (at' s k) d x y v s.n) s.n then ⟨true, v, (withK (at' s k) d x y v s.n).r, (withK (at' s k) d x y v s.n).m, (withK (at' s k) d x y v s.n).t, (withK (at' s k) d x y v s.n).x⟩ else withK (at' s k) d x y v s.n := rfl
  generalize addW (at' s k) d x y v s.n = aw at *
  generalize addN (withK (at' s k) d x y v s.n) s.n = an at *
  rw [hw1] at hN hA
  have hhn := h.ok.hn
  have h127 := all1_in hhn
  clear hw1 hon hok
  generalize decide (Gd s.n x y) = g at *
  subst b3
  have HR := Lib.hid (fun w1 (hb : Below w.heap.size w w1) (q : Et) => rat_new h hb q)
  have hgk : (gK (getM s.M k)) = at' s k := rfl
  rw [hgk] at hw2 hw3 hN hA
  obtain ⟨q, hqq⟩ : ∃ q, at' s k = q := ⟨_, rfl⟩
  rw [hqq] at HG HB ho he hr hw2 hw3 hN hA ht
  obtain ⟨c, qv, qr, qm, t, u⟩ := q
  replace hqq := Lib.hid hqq
  simp only at ho he hr HB ht
  have bo : decide (ordV x y qr qm < 0) = false := decide_eq_false ho
  have hq := fun W => (eq_b x y qr qm W).trans (by rw [he])
  have htl := (tl_eq v t).trans ht
  obtain ⟨e1, e2⟩ := of_decide_eq_true he
  have hwp : withP ⟨c, qv, qr, qm, t, u⟩ x y v = ⟨c, qv, qr, qm, t, u⟩ := if_pos ⟨e1, e2⟩
  clear e1 e2
  rw [hwp] at hw2 hw3 hN hA
  simp only at hw2 hw3 hN hA
  have hcs := ref_f hr
  have hsh := Quo.pow_in d (by omega)
  have hor : bits .or .u64 ((u : Int)) ((2 ^ d : Nat) : Int) = ((u ||| 2 ^ d : Nat) : Int) := bits_or_u64_nat u (2 ^ d) (by omega) (Quo.pow_lt d (by omega))
  have n0 : 0 ≤ (d : Int) := by omega
  have n1 : (d : Int) < 64 := by omega
  have hpz := isv_num hhn hw2
  have hple := Quo.pc_le (u ||| 2 ^ d)
  have HZ := Lib.hid (fun W => rsize_any (u ||| 2 ^ d) (by omega) W)
  rw [hpz] at hN
  generalize hyy : u ||| 2 ^ d = z at *
  generalize 2 ^ d = p2 at *
  generalize Quo.pc z = pz at *
  have l1 : IntKind.i64.wrap (2 * (pz : Int)) = 2 * (pz : Int) := by rw [IntKind.wrap_i64]; omega
  have hsg : IntKind.u64.signed = false := rfl
  clear hyy hpz hwp hr he hw2 hw3 hv hc h hgk ht ho h127 hple hd7
  generalize ordV x y qr qm = oo at *
  rcases hcs with rfl | ⟨rfl, htl2⟩
  · have HK : Hid (∀ W, PRt w rb s L vl x y W → W.cell? ⟨w.heap.size, 0, none⟩ = some (.int .i64 x) ∧ W.cell? ⟨w.heap.size, 1, none⟩ = some (.int .i64 y) ∧ W.cell? ⟨rb, 0, none⟩ = some (.int .i64 s.n) ∧ PRt w rb s L vl x y W) := Lib.hid fun W h => ⟨h.cells.1, h.cells.2.1, h.cells.2.2, h⟩
    have P0d := Lib.hid P0.drew
    clear P0
    go_enter Try.func15, Try.ntmps15
    go_wp2_with fail
    generalize w.alloc (.cells #[.int .i64 x, .int .i64 y] TB) = W0 at *
    go_region_held3 (fun W => W.cell? ⟨w.heap.size, 0, none⟩ = some (.int .i64 x) ∧ W.cell? ⟨w.heap.size, 1, none⟩ = some (.int .i64 y) ∧ W.cell? ⟨rb, 0, none⟩ = some (.int .i64 s.n) ∧ PRt w rb s L vl x y W)
      ((first | exact HK.out _ P0d.out | exact HK.out _ (by assumption) | assumption))
      ((go_at_call 37; refine (HV.out _).mono ?_; rintro e2 w1 ⟨rfl, hb1⟩; have P1 := P0d.out.later hb1))
    replace P1 := Lib.hid P1
    go_wp2_with (first
      | (go_at_call 38; refine (HC.out _ P1.out.rx).mono ?_; rintro e w' ⟨rfl, rfl⟩)
      | (go_at_call 39; refine (HG.out _ P1.out.rx).mono ?_; rintro e w2 ⟨rfl, hb2⟩; have P2 := P1.out.later hb2; have P3 := P2.later (alloc_b w2 (.cells (eA ⟨k, ⟨false, qv, qr, qm, t, u⟩⟩) TRK)); obtain ⟨p0, p1, p2⟩ := P3.cells; have A3 := HR.out w2 P2.bel ⟨k, ⟨false, qv, qr, qm, t, u⟩⟩; obtain ⟨d0, d1, d2, d3, d4, d5, d6⟩ := A3.e.cells; simp only at d0 d1 d2 d3 d4 d5 d6; replace P3 := Lib.hid P3; replace A3 := Lib.hid A3)
      | (go_at_call 40; refine (HB.out _).mono ?_; rintro e w4 ⟨rfl, hb4⟩; have P4 := P3.out.later hb4; have A4 := A3.out.later hb4; obtain ⟨p0, p1, p2⟩ := P4.cells; obtain ⟨g0, g1, g2, g3, g4, g5, g6⟩ := A4.e.cells; simp only at g0 g1 g2 g3 g4 g5 g6; have f1 := A4.e.frozen 1; have f2 := A4.e.frozen 2; have f3 := A4.e.frozen 3; have f4 := A4.e.frozen 4; have f5 := A4.e.frozen 5; have f6 := A4.e.frozen 6; replace P4 := Lib.hid P4; replace A4 := Lib.hid A4))
    have A5 := A4
    clear A4 P4 A3 P3 P1 p0 p1 p2 g0 g1 g2 g3 g4 g5 g6 f1 f2 f3 f4 f5 f6
    obtain ⟨W5, hW5⟩ : ∃ W, W = w4 := ⟨_, rfl⟩
    rw [← hW5] at A5 ⊢
    clear hW5
    obtain ⟨g0, g1, g2, g3, g4, g5, g6⟩ := A5.out.drew.e.cells
    simp only at g0 g1 g2 g3 g4 g5 g6
    have f6 := A5.out.drew.e.frozen 6
    go_still_tail 6, (by kernel_rfl)
    change wpList _ _ _ _ _ W5.drew
    go_wp2_with fail
    have A6 := Lib.hid (A5.out.set1 z)
    generalize W5.setCell ⟨w2.heap.size, 6, none⟩ (.int .u64 z) = W6 at *
    replace A6 := Lib.hid A6.out.drew
    generalize W6.drew = W6 at *
    obtain ⟨h0, h1, h2, h3, h4, h5, h6⟩ := A6.out.e.cells
    simp only at h0 h1 h2 h3 h4 h5 h6
    have r0 := A6.out.rx.cells.1
    clear g0 g1 g2 g3 g4 g5 g6 f6 A5
    by_cases hmj : s.n < 2 * (pz : Int)
    · have m1 : decide (s.n < 2 * (pz : Int)) = true := decide_eq_true hmj
      rw [m1] at hN
      obtain rfl : an = true := by rw [hN]; rfl
      obtain rfl : aw = ⟨true, v, qr, qm, t, z⟩ := by rw [hA, if_pos rfl]
      clear hN hA hmj
      go_quiet ((go_at_call 41; exact q_left (HZ.out _)))
      have A7 := Lib.hid (A6.out.drewN nq)
      generalize W6.drewN nq = W7 at *
      have A8 := Lib.hid (A7.out.set2 v)
      have f1 := A7.out.e.frozen 1
      have f2 := A7.out.e.frozen 2
      obtain ⟨k0, k1, k2, k3, k4, k5, k6⟩ := A7.out.e.cells
      simp only at k0 k1 k2 k3 k4 k5 k6
      obtain ⟨j0, j1, j2, j3, j4, j5, j6⟩ := A8.out.e.cells
      simp only at j0 j1 j2 j3 j4 j5 j6
      clear h0 h1 h2 h3 h4 h5 h6 r0
      go_wp2_with (go_at_call 42; refine (HS.out _ A8.out.rx).mono ?_; rintro e w8 ⟨rfl, v8, hx8, hk8⟩; have hF := Lib.hid (hfin.out _ rfl _ _ _ _ hx8 A8.out.bel hk8))
      go_ret2
      exact hF.out
    · have m1 : decide (s.n < 2 * (pz : Int)) = false := decide_eq_false hmj
      rw [m1] at hN
      obtain rfl : an = false := by rw [hN]; rfl
      obtain rfl : aw = ⟨false, qv, qr, qm, t, z⟩ := by rw [hA, if_neg (by decide)]
      clear hN hA hmj
      go_quiet ((go_at_call 41; exact q_left (HZ.out _)))
      have A7 := Lib.hid (A6.out.drewN nq)
      generalize W6.drewN nq = W7 at *
      obtain ⟨k0, k1, k2, k3, k4, k5, k6⟩ := A7.out.e.cells
      simp only at k0 k1 k2 k3 k4 k5 k6
      clear h0 h1 h2 h3 h4 h5 h6 r0
      go_wp2_with (go_at_call 42; refine (HS.out _ A7.out.rx).mono ?_; rintro e w8 ⟨rfl, v8, hx8, hk8⟩; have hF := Lib.hid (hfin.out _ rfl _ _ _ _ hx8 A7.out.bel hk8))
      go_ret2
      exact hF.out
  · have HK : Hid (∀ W, PRt w rb s L vl x y W → W.cell? ⟨w.heap.size, 0, none⟩ = some (.int .i64 x) ∧ W.cell? ⟨w.heap.size, 1, none⟩ = some (.int .i64 y) ∧ W.cell? ⟨rb, 0, none⟩ = some (.int .i64 s.n) ∧ PRt w rb s L vl x y W) := Lib.hid fun W h => ⟨h.cells.1, h.cells.2.1, h.cells.2.2, h⟩
    have P0d := Lib.hid P0.drew
    clear P0
    go_enter Try.func15, Try.ntmps15
    go_wp2_with fail
    generalize w.alloc (.cells #[.int .i64 x, .int .i64 y] TB) = W0 at *
    go_region_held3 (fun W => W.cell? ⟨w.heap.size, 0, none⟩ = some (.int .i64 x) ∧ W.cell? ⟨w.heap.size, 1, none⟩ = some (.int .i64 y) ∧ W.cell? ⟨rb, 0, none⟩ = some (.int .i64 s.n) ∧ PRt w rb s L vl x y W)
      ((first | exact HK.out _ P0d.out | exact HK.out _ (by assumption) | assumption))
      ((go_at_call 37; refine (HV.out _).mono ?_; rintro e2 w1 ⟨rfl, hb1⟩; have P1 := P0d.out.later hb1))
    replace P1 := Lib.hid P1
    go_wp2_with (first
      | (go_at_call 38; refine (HC.out _ P1.out.rx).mono ?_; rintro e w' ⟨rfl, rfl⟩)
      | (go_at_call 39; refine (HG.out _ P1.out.rx).mono ?_; rintro e w2 ⟨rfl, hb2⟩; have P2 := P1.out.later hb2; have P3 := P2.later (alloc_b w2 (.cells (eA ⟨k, ⟨true, qv, qr, qm, t, u⟩⟩) TRK)); obtain ⟨p0, p1, p2⟩ := P3.cells; have A3 := HR.out w2 P2.bel ⟨k, ⟨true, qv, qr, qm, t, u⟩⟩; obtain ⟨d0, d1, d2, d3, d4, d5, d6⟩ := A3.e.cells; simp only at d0 d1 d2 d3 d4 d5 d6; replace P3 := Lib.hid P3; replace A3 := Lib.hid A3)
      | (go_at_call 40; refine (HB.out _).mono ?_; rintro e w4 ⟨rfl, hb4⟩; have P4 := P3.out.later hb4; have A4 := A3.out.later hb4; obtain ⟨p0, p1, p2⟩ := P4.cells; obtain ⟨g0, g1, g2, g3, g4, g5, g6⟩ := A4.e.cells; simp only at g0 g1 g2 g3 g4 g5 g6; have f1 := A4.e.frozen 1; have f2 := A4.e.frozen 2; have f3 := A4.e.frozen 3; have f4 := A4.e.frozen 4; have f5 := A4.e.frozen 5; have f6 := A4.e.frozen 6; replace P4 := Lib.hid P4; replace A4 := Lib.hid A4))
    have A5 := A4
    clear A4 P4 A3 P3 P1 p0 p1 p2 g0 g1 g2 g3 g4 g5 g6 f1 f2 f3 f4 f5 f6
    obtain ⟨W5, hW5⟩ : ∃ W, W = w4 := ⟨_, rfl⟩
    rw [← hW5] at A5 ⊢
    clear hW5
    obtain ⟨g0, g1, g2, g3, g4, g5, g6⟩ := A5.out.drew.e.cells
    simp only at g0 g1 g2 g3 g4 g5 g6
    have f6 := A5.out.drew.e.frozen 6
    go_still_tail 6, (by kernel_rfl)
    change wpList _ _ _ _ _ W5.drew
    go_wp2_with fail
    have A6 := Lib.hid (A5.out.set1 z)
    generalize W5.setCell ⟨w2.heap.size, 6, none⟩ (.int .u64 z) = W6 at *
    replace A6 := Lib.hid A6.out.drew
    generalize W6.drew = W6 at *
    obtain ⟨h0, h1, h2, h3, h4, h5, h6⟩ := A6.out.e.cells
    simp only at h0 h1 h2 h3 h4 h5 h6
    have r0 := A6.out.rx.cells.1
    clear g0 g1 g2 g3 g4 g5 g6 f6 A5
    obtain rfl : an = false := by rw [hN, Bool.not_true, Bool.and_false]
    obtain rfl : aw = ⟨true, qv, qr, qm, t, z⟩ := by rw [hA, if_neg (by decide)]
    clear hN hA
    go_quiet (fail)
    have A7 := Lib.hid (A6.out.drewN nq)
    generalize W6.drewN nq = W7 at *
    obtain ⟨k0, k1, k2, k3, k4, k5, k6⟩ := A7.out.e.cells
    simp only at k0 k1 k2 k3 k4 k5 k6
    clear h0 h1 h2 h3 h4 h5 h6 r0
    go_wp2_with (go_at_call 42; refine (HS.out _ A7.out.rx).mono ?_; rintro e w8 ⟨rfl, v8, hx8, hk8⟩; have hF := Lib.hid (hfin.out _ rfl _ _ _ _ hx8 A7.out.bel hk8))
    go_ret2
    exact hF.out
set_option maxHeartbeats 4000000 in
theorem radd_on2 {rb : Nat} {s : St} {L : List Et} {vl : Value} (nd x y k : Int) (v : ByteArray) (w : World) (h : Rx w rb s L vl) (hv : isVote s.n nd x y) (hc : ckV s.b k v = 0) (ho : ¬ ordV x y (at' s k).r (at' s k).m < 0) (he : eqB x y (at' s k).r (at' s k).m = false) (hr : refV (at' s k) v = false) :
    Calls Try.prog 15 #[.pointer (some ⟨rb, 0, none⟩), .int .i64 nd, .agg #[.int .i64 x, .int .i64 y], .int .i64 k, .string v] w (RAdd w rb s nd x y k v) := by
  have P0 := prt_new h x y
  have HV := Lib.hid (fun W => rvalid_any x y s.n W)
  have b1 : decide (nd < 0) = false := by have := hv.1; simp; omega
  have b2 : decide (s.n ≤ nd) = false := by have := hv.1; simp; omega
  have b3 : decide (Gd s.n x y) = true := decide_eq_true hv.2
  have HC : Hid (∀ W, Rx W rb s L vl → Calls Try.prog 38 #[.pointer (some ⟨rb, 0, none⟩), .int .i64 k, .string v] W fun e w' => e = .returned (.int .i64 0) ∧ W = w') := Lib.hid fun W hW => by have := rchk_any k v W hW; rw [hc] at this; exact this
  have HG := Lib.hid (fun W (hW : Rx W rb s L vl) => rget_any k W hW)
  have HB := Lib.hid (fun W => rbelow_any x y (at' s k).r (at' s k).m W)
  have hon : addOn s nd x y k v := ⟨hv, hc, ho, by unfold addBad; rw [hr, he]; rfl⟩
  have hok := ok_add h.ok nd x y k v
  unfold addS at hok
  rw [if_pos hon] at hok
  have hfin : Hid (∀ B, addN (withK (at' s k) nd x y v s.n) s.n = B → ∀ W W' L' v', Rx W' rb ⟨s.n, s.b, putM s.M ⟨k, addW (at' s k) nd x y v s.n⟩⟩ L' v' → Below w.heap.size w W → Keeps (fun i => i = rb) W W' → RAdd w rb s nd x y k v (.returned (.tuple #[.bool B, .int .i64 0])) W') := Lib.hid fun B hB W W' L' v' hA hb hg => radd_on hon hB hA hb hg
  have HS := Lib.hid (fun W (hW : Rx W rb s L vl) => rset_any ⟨k, addW (at' s k) nd x y v s.n⟩ W hW hok)
  obtain ⟨d, rfl⟩ : ∃ d : Nat, nd = d := ⟨nd.toNat, by have := hv.1.1; omega⟩
  have hd7 : d < 7 := by have := hv.1.2; have := h.ok.hn; omega
  obtain ⟨hw1, hw2, hw3⟩ := with_num (r := x) (m := y) (v := v) h.ok.hn hv.1.2 (h.ok.get k)
  have hN : addN (withK (at' s k) d x y v s.n) s.n = (Quo.isV s.n (withK (at' s k) d x y v s.n).x && !(withK (at' s k) d x y v s.n).c) := rfl
  have hA : addW (at' s k) d x y v s.n = if addN (withK (at' s k) d x y v s.n) s.n then ⟨true, v, (withK (at' s k) d x y v s.n).r, (withK (at' s k) d x y v s.n).m, (withK (at' s k) d x y v s.n).t, (withK (at' s k) d x y v s.n).x⟩ else withK (at' s k) d x y v s.n := rfl
  generalize addW (at' s k) d x y v s.n = aw at *
  generalize addN (withK (at' s k) d x y v s.n) s.n = an at *
  rw [hw1] at hN hA
  have hhn := h.ok.hn
  have h127 := all1_in hhn
  clear hw1 hon hok
  generalize decide (Gd s.n x y) = g at *
  subst b3
  have HR := Lib.hid (fun w1 (hb : Below w.heap.size w w1) (q : Et) => rat_new h hb q)
  have hgk : (gK (getM s.M k)) = at' s k := rfl
  rw [hgk] at hw2 hw3 hN hA
  obtain ⟨q, hqq⟩ : ∃ q, at' s k = q := ⟨_, rfl⟩
  rw [hqq] at HG HB ho he hr hw2 hw3 hN hA
  obtain ⟨c, qv, qr, qm, t, u⟩ := q
  replace hqq := Lib.hid hqq
  simp only at ho he hr HB
  have bo : decide (ordV x y qr qm < 0) = false := decide_eq_false ho
  have hq := fun W => (eq_b x y qr qm W).trans (by rw [he])
  have hwp : withP ⟨c, qv, qr, qm, t, u⟩ x y v = ⟨c, qv, x, y, v, 0⟩ := if_neg (of_decide_eq_false he)
  rw [hwp] at hw2 hw3 hN hA
  simp only at hw2 hw3 hN hA
  have hcs := ref_f hr
  have hsh := Quo.pow_in d (by omega)
  have hor : bits .or .u64 (0) ((2 ^ d : Nat) : Int) = ((0 ||| 2 ^ d : Nat) : Int) := bits_or_u64_nat 0 (2 ^ d) (by omega) (Quo.pow_lt d (by omega))
  have n0 : 0 ≤ (d : Int) := by omega
  have n1 : (d : Int) < 64 := by omega
  have hpz := isv_num hhn hw2
  have hple := Quo.pc_le (0 ||| 2 ^ d)
  have HZ := Lib.hid (fun W => rsize_any (0 ||| 2 ^ d) (by omega) W)
  rw [hpz] at hN
  generalize hyy : 0 ||| 2 ^ d = z at *
  generalize 2 ^ d = p2 at *
  generalize Quo.pc z = pz at *
  have l1 : IntKind.i64.wrap (2 * (pz : Int)) = 2 * (pz : Int) := by rw [IntKind.wrap_i64]; omega
  have hsg : IntKind.u64.signed = false := rfl
  clear hyy hpz hwp hr he hw2 hw3 hv hc h hgk ho h127 hple hd7
  generalize ordV x y qr qm = oo at *
  rcases hcs with rfl | ⟨rfl, htl2⟩
  · have HK : Hid (∀ W, PRt w rb s L vl x y W → W.cell? ⟨w.heap.size, 0, none⟩ = some (.int .i64 x) ∧ W.cell? ⟨w.heap.size, 1, none⟩ = some (.int .i64 y) ∧ W.cell? ⟨rb, 0, none⟩ = some (.int .i64 s.n) ∧ PRt w rb s L vl x y W) := Lib.hid fun W h => ⟨h.cells.1, h.cells.2.1, h.cells.2.2, h⟩
    have P0d := Lib.hid P0.drew
    clear P0
    go_enter Try.func15, Try.ntmps15
    go_wp2_with fail
    generalize w.alloc (.cells #[.int .i64 x, .int .i64 y] TB) = W0 at *
    go_region_held3 (fun W => W.cell? ⟨w.heap.size, 0, none⟩ = some (.int .i64 x) ∧ W.cell? ⟨w.heap.size, 1, none⟩ = some (.int .i64 y) ∧ W.cell? ⟨rb, 0, none⟩ = some (.int .i64 s.n) ∧ PRt w rb s L vl x y W)
      ((first | exact HK.out _ P0d.out | exact HK.out _ (by assumption) | assumption))
      ((go_at_call 37; refine (HV.out _).mono ?_; rintro e2 w1 ⟨rfl, hb1⟩; have P1 := P0d.out.later hb1))
    replace P1 := Lib.hid P1
    go_wp2_with (first
      | (go_at_call 38; refine (HC.out _ P1.out.rx).mono ?_; rintro e w' ⟨rfl, rfl⟩)
      | (go_at_call 39; refine (HG.out _ P1.out.rx).mono ?_; rintro e w2 ⟨rfl, hb2⟩; have P2 := P1.out.later hb2; have P3 := P2.later (alloc_b w2 (.cells (eA ⟨k, ⟨false, qv, qr, qm, t, u⟩⟩) TRK)); obtain ⟨p0, p1, p2⟩ := P3.cells; have A3 := HR.out w2 P2.bel ⟨k, ⟨false, qv, qr, qm, t, u⟩⟩; obtain ⟨d0, d1, d2, d3, d4, d5, d6⟩ := A3.e.cells; simp only at d0 d1 d2 d3 d4 d5 d6; replace P3 := Lib.hid P3; replace A3 := Lib.hid A3)
      | (go_at_call 40; refine (HB.out _).mono ?_; rintro e w4 ⟨rfl, hb4⟩; have P4 := P3.out.later hb4; have A4 := A3.out.later hb4; obtain ⟨p0, p1, p2⟩ := P4.cells; obtain ⟨g0, g1, g2, g3, g4, g5, g6⟩ := A4.e.cells; simp only at g0 g1 g2 g3 g4 g5 g6; have f1 := A4.e.frozen 1; have f2 := A4.e.frozen 2; have f3 := A4.e.frozen 3; have f4 := A4.e.frozen 4; have f5 := A4.e.frozen 5; have f6 := A4.e.frozen 6; replace P4 := Lib.hid P4; replace A4 := Lib.hid A4))
    have A5 := Lib.hid (A4.out.set4 x y v)
    clear A4 P4 A3 P3 P1 p0 p1 p2 g0 g1 g2 g3 g4 g5 g6 f1 f2 f3 f4 f5 f6
    generalize (((w4.setCell ⟨w2.heap.size, 3, none⟩ (.int .i64 x)).setCell ⟨w2.heap.size, 4, none⟩ (.int .i64 y)).setCell ⟨w2.heap.size, 5, none⟩ (.string v)).setCell ⟨w2.heap.size, 6, none⟩ (.int .u64 0) = W5 at *
    obtain ⟨g0, g1, g2, g3, g4, g5, g6⟩ := A5.out.drew.e.cells
    simp only at g0 g1 g2 g3 g4 g5 g6
    have f6 := A5.out.drew.e.frozen 6
    go_still_tail 6, (by kernel_rfl)
    change wpList _ _ _ _ _ W5.drew
    go_wp2_with fail
    have A6 := Lib.hid (A5.out.set1 z)
    generalize W5.setCell ⟨w2.heap.size, 6, none⟩ (.int .u64 z) = W6 at *
    replace A6 := Lib.hid A6.out.drew
    generalize W6.drew = W6 at *
    obtain ⟨h0, h1, h2, h3, h4, h5, h6⟩ := A6.out.e.cells
    simp only at h0 h1 h2 h3 h4 h5 h6
    have r0 := A6.out.rx.cells.1
    clear g0 g1 g2 g3 g4 g5 g6 f6 A5
    by_cases hmj : s.n < 2 * (pz : Int)
    · have m1 : decide (s.n < 2 * (pz : Int)) = true := decide_eq_true hmj
      rw [m1] at hN
      obtain rfl : an = true := by rw [hN]; rfl
      obtain rfl : aw = ⟨true, v, x, y, v, z⟩ := by rw [hA, if_pos rfl]
      clear hN hA hmj
      go_quiet ((go_at_call 41; exact q_left (HZ.out _)))
      have A7 := Lib.hid (A6.out.drewN nq)
      generalize W6.drewN nq = W7 at *
      have A8 := Lib.hid (A7.out.set2 v)
      have f1 := A7.out.e.frozen 1
      have f2 := A7.out.e.frozen 2
      obtain ⟨k0, k1, k2, k3, k4, k5, k6⟩ := A7.out.e.cells
      simp only at k0 k1 k2 k3 k4 k5 k6
      obtain ⟨j0, j1, j2, j3, j4, j5, j6⟩ := A8.out.e.cells
      simp only at j0 j1 j2 j3 j4 j5 j6
      clear h0 h1 h2 h3 h4 h5 h6 r0
      go_wp2_with (go_at_call 42; refine (HS.out _ A8.out.rx).mono ?_; rintro e w8 ⟨rfl, v8, hx8, hk8⟩; have hF := Lib.hid (hfin.out _ rfl _ _ _ _ hx8 A8.out.bel hk8))
      go_ret2
      exact hF.out
    · have m1 : decide (s.n < 2 * (pz : Int)) = false := decide_eq_false hmj
      rw [m1] at hN
      obtain rfl : an = false := by rw [hN]; rfl
      obtain rfl : aw = ⟨false, qv, x, y, v, z⟩ := by rw [hA, if_neg (by decide)]
      clear hN hA hmj
      go_quiet ((go_at_call 41; exact q_left (HZ.out _)))
      have A7 := Lib.hid (A6.out.drewN nq)
      generalize W6.drewN nq = W7 at *
      obtain ⟨k0, k1, k2, k3, k4, k5, k6⟩ := A7.out.e.cells
      simp only at k0 k1 k2 k3 k4 k5 k6
      clear h0 h1 h2 h3 h4 h5 h6 r0
      go_wp2_with (go_at_call 42; refine (HS.out _ A7.out.rx).mono ?_; rintro e w8 ⟨rfl, v8, hx8, hk8⟩; have hF := Lib.hid (hfin.out _ rfl _ _ _ _ hx8 A7.out.bel hk8))
      go_ret2
      exact hF.out
  · have HK : Hid (∀ W, PRt w rb s L vl x y W → W.cell? ⟨w.heap.size, 0, none⟩ = some (.int .i64 x) ∧ W.cell? ⟨w.heap.size, 1, none⟩ = some (.int .i64 y) ∧ W.cell? ⟨rb, 0, none⟩ = some (.int .i64 s.n) ∧ PRt w rb s L vl x y W) := Lib.hid fun W h => ⟨h.cells.1, h.cells.2.1, h.cells.2.2, h⟩
    have P0d := Lib.hid P0.drew
    clear P0
    go_enter Try.func15, Try.ntmps15
    go_wp2_with fail
    generalize w.alloc (.cells #[.int .i64 x, .int .i64 y] TB) = W0 at *
    go_region_held3 (fun W => W.cell? ⟨w.heap.size, 0, none⟩ = some (.int .i64 x) ∧ W.cell? ⟨w.heap.size, 1, none⟩ = some (.int .i64 y) ∧ W.cell? ⟨rb, 0, none⟩ = some (.int .i64 s.n) ∧ PRt w rb s L vl x y W)
      ((first | exact HK.out _ P0d.out | exact HK.out _ (by assumption) | assumption))
      ((go_at_call 37; refine (HV.out _).mono ?_; rintro e2 w1 ⟨rfl, hb1⟩; have P1 := P0d.out.later hb1))
    replace P1 := Lib.hid P1
    go_wp2_with (first
      | (go_at_call 38; refine (HC.out _ P1.out.rx).mono ?_; rintro e w' ⟨rfl, rfl⟩)
      | (go_at_call 39; refine (HG.out _ P1.out.rx).mono ?_; rintro e w2 ⟨rfl, hb2⟩; have P2 := P1.out.later hb2; have P3 := P2.later (alloc_b w2 (.cells (eA ⟨k, ⟨true, qv, qr, qm, t, u⟩⟩) TRK)); obtain ⟨p0, p1, p2⟩ := P3.cells; have A3 := HR.out w2 P2.bel ⟨k, ⟨true, qv, qr, qm, t, u⟩⟩; obtain ⟨d0, d1, d2, d3, d4, d5, d6⟩ := A3.e.cells; simp only at d0 d1 d2 d3 d4 d5 d6; replace P3 := Lib.hid P3; replace A3 := Lib.hid A3)
      | (go_at_call 40; refine (HB.out _).mono ?_; rintro e w4 ⟨rfl, hb4⟩; have P4 := P3.out.later hb4; have A4 := A3.out.later hb4; obtain ⟨p0, p1, p2⟩ := P4.cells; obtain ⟨g0, g1, g2, g3, g4, g5, g6⟩ := A4.e.cells; simp only at g0 g1 g2 g3 g4 g5 g6; have f1 := A4.e.frozen 1; have f2 := A4.e.frozen 2; have f3 := A4.e.frozen 3; have f4 := A4.e.frozen 4; have f5 := A4.e.frozen 5; have f6 := A4.e.frozen 6; replace P4 := Lib.hid P4; replace A4 := Lib.hid A4))
    have A5 := Lib.hid (A4.out.set4 x y v)
    clear A4 P4 A3 P3 P1 p0 p1 p2 g0 g1 g2 g3 g4 g5 g6 f1 f2 f3 f4 f5 f6
    generalize (((w4.setCell ⟨w2.heap.size, 3, none⟩ (.int .i64 x)).setCell ⟨w2.heap.size, 4, none⟩ (.int .i64 y)).setCell ⟨w2.heap.size, 5, none⟩ (.string v)).setCell ⟨w2.heap.size, 6, none⟩ (.int .u64 0) = W5 at *
    obtain ⟨g0, g1, g2, g3, g4, g5, g6⟩ := A5.out.drew.e.cells
    simp only at g0 g1 g2 g3 g4 g5 g6
    have f6 := A5.out.drew.e.frozen 6
    go_still_tail 6, (by kernel_rfl)
    change wpList _ _ _ _ _ W5.drew
    go_wp2_with fail
    have A6 := Lib.hid (A5.out.set1 z)
    generalize W5.setCell ⟨w2.heap.size, 6, none⟩ (.int .u64 z) = W6 at *
    replace A6 := Lib.hid A6.out.drew
    generalize W6.drew = W6 at *
    obtain ⟨h0, h1, h2, h3, h4, h5, h6⟩ := A6.out.e.cells
    simp only at h0 h1 h2 h3 h4 h5 h6
    have r0 := A6.out.rx.cells.1
    clear g0 g1 g2 g3 g4 g5 g6 f6 A5
    obtain rfl : an = false := by rw [hN, Bool.not_true, Bool.and_false]
    obtain rfl : aw = ⟨true, qv, x, y, v, z⟩ := by rw [hA, if_neg (by decide)]
    clear hN hA
    go_quiet (fail)
    have A7 := Lib.hid (A6.out.drewN nq)
    generalize W6.drewN nq = W7 at *
    obtain ⟨k0, k1, k2, k3, k4, k5, k6⟩ := A7.out.e.cells
    simp only at k0 k1 k2 k3 k4 k5 k6
    clear h0 h1 h2 h3 h4 h5 h6 r0
    go_wp2_with (go_at_call 42; refine (HS.out _ A7.out.rx).mono ?_; rintro e w8 ⟨rfl, v8, hx8, hk8⟩; have hF := Lib.hid (hfin.out _ rfl _ _ _ _ hx8 A7.out.bel hk8))
    go_ret2
    exact hF.out
theorem radd_any {rb : Nat} {s : St} {L : List Et} {vl : Value} (nd x y k : Int) (v : ByteArray) (w : World) (h : Rx w rb s L vl) :
    Calls Try.prog 15 #[.pointer (some ⟨rb, 0, none⟩), .int .i64 nd, .agg #[.int .i64 x, .int .i64 y], .int .i64 k, .string v] w (RAdd w rb s nd x y k v) := by
  by_cases h0 : nd < 0
  · exact radd_low nd x y k v w h h0
  by_cases h1 : s.n ≤ nd
  · exact radd_high nd x y k v w h h0 h1
  have hn : 0 ≤ nd ∧ nd < s.n := by omega
  by_cases h2 : Gd s.n x y
  · have hv : isVote s.n nd x y := ⟨hn, h2⟩
    by_cases hc : ckV s.b k v = 0
    · by_cases ho : ordV x y (at' s k).r (at' s k).m < 0
      · exact radd_late nd x y k v w h hv hc ho
      cases he : eqB x y (at' s k).r (at' s k).m with
      | true =>
        cases ht : eqT v (at' s k).t with
        | false => exact radd_other nd x y k v w h hv hc ho he ht
        | true =>
          cases hr : refV (at' s k) v with
          | true => exact radd_ref1 nd x y k v w h hv hc ho he ht hr
          | false => exact radd_on1 nd x y k v w h hv hc ho he ht hr
      | false =>
        cases hr : refV (at' s k) v with
        | true => exact radd_ref2 nd x y k v w h hv hc ho he hr
        | false => exact radd_on2 nd x y k v w h hv hc ho he hr
    · exact radd_ck nd x y k v w h hv hc
  · exact radd_gd nd x y k v w h hn h2
end Go.Proofs.Ytaacnhhinhdinaa.Lrn
