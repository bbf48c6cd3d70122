/- slices.Values at a slice of ranges: what its function yields. -/
import Derived.Test.YtocencmdfppkaaaR09
import Derived.RangeFuncNested
import Derived.RangeFuncBox
import Derived.RangeFuncCalls
import Derived.RangeFuncLeaves
import Derived.Shelf.Abstract
import Derived.OwnWalkIn
import Derived.TacticsInMore
import Derived.LoopNIn
import Derived.LoopIn
namespace Go.Proofs.Ytocencmdfppkaaa.Rng
open Go.RowKit Go.Lib
set_option linter.unusedVariables false
set_option linter.unusedSimpArgs false
set_option maxRecDepth 100000
attribute [local go_sem] Oper.semAt_some

/-- Blocks that are as they were. -/
def Same (F : Nat → Prop) (w w' : World) : Prop := ∀ k, F k → w'.heap[k]? = w.heap[k]?
theorem same_cell {F : Nat → Prop} {w w' : World} (h : Same F w w') {b o : Nat} (hp : F b) : w'.cell? ⟨b, o, none⟩ = w.cell? ⟨b, o, none⟩ := by
  simp only [World.cell?]
  rw [h b hp]
def Held (G : Nat → Prop) (A B : World) : Prop := A.heap.size ≤ B.heap.size ∧ Same G A B
theorem Held.trans {G : Nat → Prop} {A B C : World} (h : Held G A B) (k : Held G B C) : Held G A C := ⟨Nat.le_trans h.1 k.1, fun i hi => (k.2 i hi).trans (h.2 i hi)⟩
theorem Held.of_below {G : Nat → Prop} {A B : World} (h : Below A.heap.size A B) (hG : ∀ k, G k → k < A.heap.size) : Held G A B := ⟨h.size, fun k hk => h.block k (hG k hk)⟩
theorem below_grown {W W' : World} (h : Below W.heap.size W W') : W.grownBy W' none := ⟨h.os, h.tape, h.output, h.size, fun k hk _ => h.block k hk⟩
/-- The blocks that the function reads: the box with the slice, and the slice's own. -/
def Gv (v : Value) (Bn : Nat) (k : Nat) : Prop := v.ownBlock = some k ∨ k = Bn
theorem Rs.held {w w' : World} {v : Value} {l : List Rg} {Bn : Nat} (h : Rs w v l) (hs : Same (Gv v Bn) w w') : Rs w' v l := by
  obtain ⟨a, cap, rfl, hc⟩ := h
  refine ⟨a, cap, rfl, fun hp => ?_⟩
  obtain ⟨b, off, rfl, hd⟩ := hc hp
  refine ⟨b, off, rfl, fun i r hr => ?_⟩
  obtain ⟨h1, h2⟩ := hd i r hr
  have hg : Gv (.slice (some ⟨b, off, none⟩) l.length cap) Bn b := .inl rfl
  exact ⟨(same_cell hs hg).trans h1, (same_cell hs hg).trans h2⟩
abbrev encR (r : Rg) : Array Value := #[.agg #[.string (tx r.f), .string (tx r.t)]]
set_option maxHeartbeats 2000000 in
theorem values_in (v : Value) (L : List Rg) (w : World) (hv : Rs w v L) (hlen : L.length ≤ 1000) (Bn : Nat) (hG : ∀ k, Gv v Bn k → k < w.heap.size) (hBox : w.cell? ⟨Bn, 0, none⟩ = some v)
    (l : Nat) (J Jx : List Rg → World → Prop) (W : World) (hW : Below w.heap.size w W) (hJa : AbidesFrom W.heap.size J) (hJx : AbidesFrom W.heap.size Jx)
    (hY : ∀ pre x W1, J pre W1 → pre.length < L.length → YieldAt Fence.wide 2 Try.prog l (encR x) W1 fun e W' =>
      (e = .returned (.bool true) ∧ J (pre ++ [x]) W' ∧ Held (Gv v Bn) W1 W') ∨ (e = .returned (.bool false) ∧ Jx (pre ++ [x]) W'))
    (h0 : J [] W) :
    CallsIn Fence.wide 3 Try.prog 59 #[.func (.yield l) #[] #[], .pointer (some ⟨Bn, 0, none⟩)] W fun e W' => (∃ v, e = .returned v) ∧
      ((∃ ys : List Rg, ys = L ∧ J ys W') ∨ (∃ pre : List Rg, True ∧ Jx pre W')) := by
  have hHeld := Held.of_below hW hG
  have hbx := (same_cell hHeld.2 (.inr rfl)).trans hBox
  obtain ⟨a, cap, hva, _⟩ := id hv
  refine callsIn_of_wp Try.func59 rfl trivial ?_ rfl
  simp only [Try.ntmps59, List.size_toArray, List.length_cons, List.length_nil, Nat.reduceAdd, Nat.reduceSub, Array.replicate_succ, Array.replicate_zero, List.push_toArray, List.append_toArray, List.nil_append, List.cons_append]
  rw [hva] at hbx
  gi_wp2
  gi_loopw [7] (fun p wr => ∃ (k : Nat), p = .int .i64 k ∧ k ≤ L.length ∧ J (L.take k) wr ∧ Held (Gv v Bn) w wr) (fun p _ => L.length - (intOf p).toNat)
  case atStart => exact ⟨0, rfl, Nat.zero_le _, h0, hHeld⟩
  case round =>
    obtain ⟨k, rfl, hk, hJ, hh⟩ := hrel
    have HJ := Lib.hid (fun (w' : World) (hb : Below wr.heap.size wr w') => hJa _ _ _ none hJ (below_grown hb) (fun r e => by cases e))
    have hGr : ∀ k, Gv v Bn k → k < wr.heap.size := fun k hk => Nat.lt_of_lt_of_le (hG k hk) hh.1
    by_cases hlt : k < L.length
    · obtain ⟨a', cap', hva', hd⟩ := hv.held hh.2
      obtain ⟨b, off, hab, hd⟩ := hd (by omega)
      have haa : a = some ⟨b, off, none⟩ := by rw [hva] at hva'; injection hva' with h1; rw [h1, hab]
      subst haa
      obtain ⟨x, hx⟩ : ∃ x, L[k] = x := ⟨_, rfl⟩
      obtain ⟨c0, c1⟩ := hd k x (by rw [List.getElem?_eq_getElem hlt, hx])
      have hJ2 := HJ.out _ ((Below.refl wr.heap.size wr).alloc (Nat.le_refl _) (.cells #[.string (tx x.f), .string (tx x.t)] TR))
      have hbb : Below wr.heap.size wr (wr.alloc (.cells #[.string (tx x.f), .string (tx x.t)] TR)) := (Below.refl wr.heap.size wr).alloc (Nat.le_refl _) _
      obtain ⟨fn, tmps, assign, body, hy, hR⟩ := hY (L.take k) x _ hJ2 (by rw [List.length_take]; omega)
      have hs : L.take k ++ [x] = L.take (k + 1) := by rw [List.take_succ_eq_append_getElem hlt, hx]
      rw [hs] at hR
      have hh2 := Lib.hid (hh.trans (Held.of_below hbb hGr))
      replace hy := Lib.hid (show (Instr.yield l #[.agg #[.string (tx x.f), .string (tx x.t)]]).run Try.prog _ = _ from hy)
      clear hd hx hs hJ2 hbb hJ hh HJ hGr hva' hab hbx
      generalize tx x.f = s at *
      generalize tx x.t = t at *
      gi_wp2
      rw [hy.out]
      gi_wp2
      refine hR.mono ?_
      rintro e W3 (⟨rfl, hJ3, hK3⟩ | ⟨rfl, hJx3⟩)
      · gi_wp2
        go_roundw
        case rel => exact ⟨k + 1, by go_num, by omega, hJ3, hh2.out.trans hK3⟩
        case measure => simp [intOf]; omega
      · gi_wp2
        refine bodyPost_ret (results_none rfl _ _ _) rfl ?_
        exact ⟨⟨_, rfl⟩, .inr ⟨_, trivial, hJx3⟩⟩
    · obtain rfl : k = L.length := by omega
      rw [List.take_length] at hJ
      clear hlt
      gi_wp2
      go_end0
      exact ⟨⟨_, rfl⟩, .inl ⟨L, rfl, hJ⟩⟩
theorem values_any (a : Option Addr) (n cap : Nat) (w : World) : Calls Try.prog 44 #[.slice a n cap] w fun e w' => e = .returned (.func (.func 59) #[] #[.pointer (some ⟨w.heap.size, 0, none⟩)]) ∧ w' = w.alloc (.cells #[.slice a n cap] 36) := by
  go_enter Try.func44, Try.ntmps44
  go_wp2
  go_ret
  exact ⟨rfl, rfl⟩
theorem values_stops (v : Value) (L : List Rg) (w : World) (hv : Rs w v L) (hlen : L.length ≤ 1000) (Bn : Nat) (hG : ∀ k, Gv v Bn k → k < w.heap.size) (hBox : w.cell? ⟨Bn, 0, none⟩ = some v) :
    SeqStopsK Fence.wide 3 Try.prog 59 #[.pointer (some ⟨Bn, 0, none⟩)] encR (Held (Gv v Bn)) (fun ys => ys = L) (fun _ => True) L.length w :=
  fun l J Jx W hW hJ hJx hY h0 => values_in v L w hv hlen Bn hG hBox l J Jx W hW hJ hJx hY h0
end Go.Proofs.Ytocencmdfppkaaa.Rng
