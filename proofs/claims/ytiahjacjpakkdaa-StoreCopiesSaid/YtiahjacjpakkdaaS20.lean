/- The function that yields the entries in order. -/
import Derived.Test.YtiahjacjpakkdaaS19
import Derived.Test.YtiahjacjpakkdaaS15
import Derived.RangeFuncNested
import Derived.RangeFuncBox
import Derived.RangeFuncCalls
import Derived.RangeFuncLeaves
import Derived.Shelf.Abstract
import Derived.OwnWalkIn
import Derived.TacticsInMore
import Derived.LoopNIn
import Derived.LoopIn
import Derived.Deep.RegionHeld
import Derived.StillTail
namespace Go.Proofs.Ytiahjacjpakkdaa.Sto
open Go.RowKit Go.Maps Go.Lib Go.Shelf
open Cnt (Ct cA OkC)
open Rng (tx nameOk bl bl_eq bl_irrefl bl_trans)
set_option linter.unusedVariables false
set_option linter.unusedSimpArgs false
set_option maxRecDepth 20000
attribute [local go_sem] Oper.semAt_some

/-- The block that the slice in the box q0 has. -/
def ownAt (q0 : Nat) (W : World) (k : Nat) : Prop := ∃ v, W.cell? ⟨q0, 0, none⟩ = some v ∧ v.ownBlock = some k
/-- What a round may write: the box q0, the block of the slice in it, and what is no cells from n0 on. -/
structure Kq (q0 n0 : Nat) (A B : World) : Prop where
  size : A.heap.size ≤ B.heap.size
  same : ∀ (k : Nat) (o : Obj), A.heap[k]? = some o → (k < n0 ∨ o.isCells = true) → k ≠ q0 → ¬ ownAt q0 A k → B.heap[k]? = some o
  own : ∀ k, k < A.heap.size → ownAt q0 B k → ownAt q0 A k
theorem Kq.trans {q0 n0 : Nat} {A B C : World} (h : Kq q0 n0 A B) (g : Kq q0 n0 B C) : Kq q0 n0 A C :=
  ⟨Nat.le_trans h.size g.size, fun k o ho hk hq hn => g.same k o (h.same k o ho hk hq hn) hk hq (fun e => hn (h.own k (Array.getElem?_eq_some_iff.1 ho).1 e)),
   fun k hk ho => h.own k hk (g.own k (Nat.lt_of_lt_of_le hk h.size) ho)⟩
theorem Kq.refl (q0 n0 : Nat) (A : World) : Kq q0 n0 A A := ⟨Nat.le_refl _, fun _ _ h _ _ _ => h, fun _ _ h => h⟩
theorem cell_same {W W' : World} {p : Addr} (h : W'.heap[p.block]? = W.heap[p.block]?) : W'.cell? p = W.cell? p := by
  unfold World.cell?
  rw [h]
theorem own_same {q0 : Nat} {W W' : World} (h : W'.heap[q0]? = W.heap[q0]?) (k : Nat) : ownAt q0 W' k ↔ ownAt q0 W k := by
  unfold ownAt
  rw [cell_same (p := ⟨q0, 0, none⟩) h]
theorem Kq.of_below {q0 n0 : Nat} {A B : World} (h : Below A.heap.size A B) (hq : q0 < A.heap.size) : Kq q0 n0 A B :=
  ⟨h.size, fun k o ho _ _ _ => (h.block k (Array.getElem?_eq_some_iff.1 ho).1).trans ho, fun k _ ho => (own_same (h.block q0 hq) k).1 ho⟩
theorem Kq.put {q0 n0 n : Nat} (hn : n0 ≤ n) (hq : q0 < n0) (W : World) (l : Nat) (o o' : Obj) (hl : n ≤ l) (h : W.heap[l]? = some o) (hc : o.isCells = false) (_ : o.isWalk = false) : Kq q0 n0 W (W.putObj l o') := by
  have hg := grownBy_putObj' W l o'
  have hlt := (Array.getElem?_eq_some_iff.1 h).1
  refine ⟨hg.size, fun k ob ho hk hq' _ => ?_, fun k _ ho => (own_same (hg.block q0 (by omega) (by intro e; injection e with e; omega)) k).1 ho⟩
  refine (hg.block k (Array.getElem?_eq_some_iff.1 ho).1 ?_).trans ho
  intro e
  injection e with e
  subst e
  rw [h] at ho
  injection ho with ho
  subst ho
  rcases hk with hk | hk
  · omega
  · rw [hc] at hk; cases hk

theorem Sx.kq {q0 n0 sb b : Nat} {M : List En} {A B : World} (x : Sx A sb b M) (h : Kq q0 n0 A B) (h1 : sb < n0 ∧ b < n0) (h2 : q0 ≠ sb ∧ q0 ≠ b) (hn : ∀ k, ¬ ownAt q0 A k) : Sx B sb b M := by
  refine ⟨h.same sb _ x.box (.inl h1.1) (Ne.symm h2.1) (hn sb), ?_, x.len, x.ok⟩
  obtain ⟨es, clock, hb, F, hs, hD⟩ := x.own
  exact ⟨es, clock, h.same b _ hb (.inl h1.2) (Ne.symm h2.2) (hn b), F, hs, hD⟩
theorem Kq.cell {q0 n0 : Nat} {A B : World} (h : Kq q0 n0 A B) (hn : ∀ k, ¬ ownAt q0 A k) {p : Addr} {o : Obj} (ho : A.heap[p.block]? = some o) (hk : p.block < n0 ∨ o.isCells = true) (hq : p.block ≠ q0) : B.cell? p = A.cell? p :=
  cell_same ((h.same p.block o ho hk hq (hn _)).trans ho.symm)
abbrev encE (x : En) : Array Value := #[.string (tx x.1), vC x.2]
theorem row_at {W : World} {base n : Nat} {v : Value} {xs : List Value} (h : W.ownsRow base TS 1 v n xs) (hn : 0 < n) : ∃ g cap, v = .slice (some ⟨g, 0, none⟩) n cap ∧ base ≤ g ∧ n ≤ cap ∧ cap ≤ maxLen ∧ (∃ o : Obj, W.heap[g]? = some o ∧ o.isCells = true) ∧
    ∀ (i : Nat) (u : Value), xs[i]? = some u → W.cell? ⟨g, i, none⟩ = some u := by
  rcases h.2 with ⟨_, hz⟩ | ⟨g, cap, cur, rfl, hb, hg, h1, h2, h3, h4⟩
  · omega
  · refine ⟨g, cap, rfl, hb, h1, h2, ⟨_, hg, rfl⟩, fun i u hu => ?_⟩
    rw [← h4] at hu
    have hi : i < n * 1 := by
      rcases Nat.lt_or_ge i (n * 1) with hh | hh
      · exact hh
      · rw [List.getElem?_take, if_neg (by omega)] at hu; cases hu
    rw [List.getElem?_take, if_pos hi] at hu
    have hc : cur[i]? = some u := by rw [← Array.getElem?_toList]; exact hu
    simp [World.cell?, hg, hc]
set_option maxRecDepth 100000 in
set_option maxHeartbeats 2000000 in
theorem ordered_in (q0 : Nat) (v0 : Value) {sb b : Nat} {M : List En} (w : World) (x : Sx w sb b M) (Bn : Nat) (hBn : Bn < w.heap.size) (hBox : w.cell? ⟨Bn, 0, none⟩ = some (.pointer (some ⟨sb, 0, none⟩)))
    (hq : w.cell? ⟨q0, 0, none⟩ = some v0) (hv0 : v0.ownBlock = none) (hq0 : q0 < w.heap.size) (hne : q0 ≠ Bn ∧ q0 ≠ sb ∧ q0 ≠ b)
    (l : Nat) (J Jx : List En → World → Prop) (W : World) (hW : Below w.heap.size w W) (hJa : AbidesFrom W.heap.size J) (hJx : AbidesFrom W.heap.size Jx)
    (hY : ∀ pre x W1, J pre W1 → pre.length < M.length → YieldAt Fence.wide 5 Try.prog l (encE x) W1 fun e W' =>
      (e = .returned (.bool true) ∧ J (pre ++ [x]) W' ∧ Kq q0 w.heap.size W1 W') ∨ (e = .returned (.bool false) ∧ Jx (pre ++ [x]) W'))
    (h0 : J [] W) :
    CallsIn Fence.wide 6 Try.prog 48 #[.func (.yield l) #[] #[], .pointer (some ⟨Bn, 0, none⟩)] W fun e W' => (∃ v, e = .returned v) ∧
      ((∃ xs : List En, xs = M ∧ J xs W') ∨ (∃ pre : List En, (∃ k, pre = M.take k) ∧ Jx pre W')) := by
  have hxW := x.kept (⟨hW.os, hW.tape, hW.output, hW.size, fun k hk _ => hW.block k hk⟩ : w.grownBy W none) (by simp) (by simp)
  have c0 := (cell_same (p := ⟨Bn, 0, none⟩) (hW.block Bn hBn)).trans hBox
  have c1 := hxW.cell
  have hform : ∀ (V : World) (v : Value), V.ownsRow (W.heap.size + 1) TS 1 v M.length ((keysM M).map fun k => .string (tx k)) → ∃ a cap, v = .slice a M.length cap := fun V v h => by
    rcases h.2 with ⟨rfl, hz⟩ | ⟨g, cap, cur, rfl, _⟩
    · exact ⟨none, 0, by rw [hz]⟩
    · exact ⟨_, cap, rfl⟩
  have hS := Lib.hid (fun (V : World) (B : Nat) (h1 : V.cell? ⟨B, 0, none⟩ = some (.map (some b))) (h2 : B < V.heap.size) (h3 : Sx V sb b M) => sorted_any B V h1 h2 h3.own h3.len)
  refine callsIn_of_wp Try.func48 rfl trivial ?_ rfl
  simp only [Try.ntmps48, List.size_toArray, List.length_cons, List.length_nil, Nat.reduceAdd, Nat.reduceSub, Array.replicate_succ, Array.replicate_zero, List.push_toArray, List.append_toArray, List.nil_append, List.cons_append]
  gi_wp2_with (first
    | (refine ⟨trivial, ?_⟩; gi_at_call 50; refine (callsIn_wide.2 (mkeys_any _ _)).mono ?_; rintro e w1 ⟨rfl, rfl⟩; have hx1 := hxW.alloc (.cells #[.map (some b)] TM); have cB := (heap_alloc_new W (.cells #[.map (some b)] TM)))
    | (refine ⟨trivial, ?_⟩; gi_at_call 49; refine (callsIn_wide.2 (hS.out _ W.heap.size (cell_of_row _ _ 0 _ _ _ cB) (by simp) hx1)).mono ?_; rintro e w2 ⟨vs, rfl, hrow, hb2⟩; rw [World.size_alloc] at hrow; obtain ⟨a, cap, rfl⟩ := hform _ _ hrow))
  have hw2 : Below W.heap.size W w2 := ((Below.refl _ W).alloc (Nat.le_refl _) _).trans (hb2.mono (by simp))
  have hJ2 : J [] w2 := hJa _ _ _ none h0 (grown_b hw2) (fun r e => by cases e)
  have hx2 := hx1.later hb2
  have hqW : q0 < W.heap.size := Nat.lt_of_lt_of_le hq0 hW.size
  have hc2 : w2.cell? ⟨q0, 0, none⟩ = some v0 := ((cell_same (p := ⟨q0, 0, none⟩) (hw2.block q0 hqW)).trans (cell_same (p := ⟨q0, 0, none⟩) (hW.block q0 hq0))).trans hq
  have hn2 : ∀ k, ¬ ownAt q0 w2 k := by
    rintro k ⟨v, h1, h2⟩
    rw [hc2] at h1
    injection h1 with h1
    rw [← h1, hv0] at h2
    cases h2
  have hlt := x.lt
  have hB2 : w2.cell? ⟨Bn, 0, none⟩ = some (.pointer (some ⟨sb, 0, none⟩)) := (cell_same (p := ⟨Bn, 0, none⟩) (hw2.block Bn (Nat.lt_of_lt_of_le hBn hW.size))).trans c0
  have hob : ∃ o, w2.heap[Bn]? = some o := ⟨_, Array.getElem?_eq_getElem (Nat.lt_of_lt_of_le hBn (Nat.le_trans hW.size hw2.size))⟩
  have H := Lib.hid (fun (wr : World) (hK : Kq q0 w.heap.size w2 wr) => (show wr.cell? ⟨Bn, 0, none⟩ = some (.pointer (some ⟨sb, 0, none⟩)) ∧ Sx wr sb b M from ⟨by
    obtain ⟨o, ho⟩ := hob
    exact (hK.cell hn2 (p := ⟨Bn, 0, none⟩) ho (.inl hBn) (Ne.symm hne.1)).trans hB2, hx2.kq hK hlt hne.2 hn2⟩))
  have G := Lib.hid (fun (wr : World) (hK : Kq q0 w.heap.size w2 wr) (hp : 0 < M.length) => (show ∃ g, a = some ⟨g, 0, none⟩ ∧ M.length ≤ cap ∧ cap ≤ maxLen ∧ ∀ (i : Nat) (h : i < M.length), wr.cell? ⟨g, i, none⟩ = some (.string (tx M[i].1)) by
    obtain ⟨g, cap', he, hbase, h1, h2, ⟨o, ho, hoc⟩, hcells⟩ := row_at hrow hp
    injection he with e1 _ e2
    subst e1 e2
    refine ⟨g, rfl, h1, h2, fun i hi => ?_⟩
    refine (hK.cell hn2 (p := ⟨g, i, none⟩) ho (.inr hoc) (by have := hW.size; show g ≠ q0; omega)).trans (hcells i _ ?_)
    unfold keysM
    rw [List.getElem?_map, List.getElem?_map, List.getElem?_eq_getElem hi]
    rfl))
  have hlen := x.len
  clear hS hform cB c0 c1 hxW hx1 hb2 hrow hob hB2 hx2 h0 hc2 hq hv0
  gi_loopw [12] (fun i wr => ∃ k : Nat, k ≤ M.length ∧ i = .int .i64 k ∧ J (M.take k) wr ∧ Kq q0 w.heap.size w2 wr) (fun i _ => M.length - (intOf i).toNat)
  case atStart => exact ⟨0, Nat.zero_le _, rfl, hJ2, Kq.refl _ _ _⟩
  case round =>
    obtain ⟨k, hk, rfl, hJ, hK⟩ := hrel
    by_cases hlt2 : k < M.length
    · obtain ⟨c0, hxr⟩ := H.out wr hK
      obtain ⟨g, rfl, hcap, hcm, hcells⟩ := G.out wr hK (by omega)
      have cg := hcells k hlt2
      have c1 := hxr.cell
      have hlk := look_plain hxr (name_len (hxr.ok _ (List.getElem_mem hlt2)).1) (get_at hxr.srt hlt2)
      have hYk := hY (M.take k) M[k] wr hJ (by rw [List.length_take]; omega)
      have hsn : M.take k ++ [M[k]] = M.take (k + 1) := by rw [List.take_succ_eq_append_getElem hlt2]
      rw [hsn] at hYk
      have hlk : (Instr.lookup TM (.map (some b)) (.string (tx M[k].1)) false).run Try.prog wr = .ok (vC M[k].2) wr := hlk
      generalize M[k] = p at *
      obtain ⟨key, v, u, d, ll, h⟩ := p
      dsimp only [encE] at *
      generalize tx key = s at *
      obtain ⟨fn, tmps, assign, body, hy, hR⟩ := hYk
      have hml : (k : Int) < (M.length : Int) := by omega
      clear hcells hsn H G hJ hY
      gi_wp2
      refine hR.mono ?_
      rintro e W3 (⟨rfl, hJ3, hK3⟩ | ⟨rfl, hJx3⟩)
      · gi_wp2
        go_roundw
        case rel => exact ⟨k + 1, by omega, by go_num, hJ3, hK.trans hK3⟩
        case measure => simp [intOf]; omega
      · gi_wp2
        refine bodyPost_ret (results_none rfl _ _ _) rfl ?_
        exact ⟨⟨_, rfl⟩, .inr ⟨_, ⟨_, rfl⟩, hJx3⟩⟩
    · obtain rfl : k = M.length := by omega
      rw [List.take_length] at hJ
      clear H G hY
      gi_wp2
      go_end0
      exact ⟨⟨_, rfl⟩, .inl ⟨M, rfl, hJ⟩⟩
end Go.Proofs.Ytiahjacjpakkdaa.Sto
