/- The nodes of a set as an iterator yields them; Collect; Nodes. -/
import Derived.Test.YtmbkopeikldonaaDoorU07
import Derived.RangeFuncNested
import Derived.RangeFuncBox
import Derived.RangeFuncCalls
import Derived.RangeFuncLeaves
import Derived.OwnWalkIn
import Derived.TacticsInMore
import Derived.LoopNIn
import Derived.LoopIn
import Derived.Outline
namespace Go.Proofs.YtmbkopeikldonaaDoor.Quo
open Go.RowKit Go.Lib
set_option linter.unusedVariables false
set_option linter.unusedSimpArgs false
set_option maxRecDepth 100000
attribute [local go_sem] Oper.semAt_some

/-- The library's table is as it was. -/
def Held (A B : World) : Prop := A.heap.size ≤ B.heap.size ∧ B.heap[0]? = A.heap[0]?
theorem Held.trans {A B C : World} (h : Held A B) (k : Held B C) : Held A C := ⟨Nat.le_trans h.1 k.1, k.2.trans h.2⟩
theorem Hv.lt {w : World} (h : Hv w) : 0 < w.heap.size := World.block_lt_of_cell? w _ (h 0 (by omega))
theorem Held.of_below {A B : World} (h : Below A.heap.size A B) (hA : Hv A) : Held A B := ⟨h.size, h.block _ hA.lt⟩
theorem Hv.held {A B : World} (h : Hv A) (k : Held A B) : Hv B := fun i hi => by
  have := h i hi
  simp only [World.cell?] at this ⊢
  rw [k.2]
  exact this
theorem below_grown {W W' : World} (h : Below W.heap.size W W') : W.grownBy W' none := ⟨h.os, h.tape, h.output, h.size, fun k hk _ => h.block k hk⟩
theorem bits_lt (x : Nat) : (bitsOf x).length ≤ 64 := pc_le x
def encN (k : Fin 64) : Array Value := #[.int .i64 (k.val : Nat)]
set_option maxHeartbeats 2000000 in
theorem members_in (x : Nat) (hx : x < 18446744073709551616) (w : World) (hH : Hv w) (Bn : Nat) (hBox : w.cell? ⟨Bn, 0, none⟩ = some (.int .u64 x))
    (l : Nat) (J Jx : List (Fin 64) → World → Prop) (W : World) (hW : Below w.heap.size w W) (hJa : AbidesFrom W.heap.size J) (hJx : AbidesFrom W.heap.size Jx)
    (hY : ∀ pre y W1, J pre W1 → pre.length < (bitsOf x).length → YieldAt Fence.wide 2 Tryd.prog l (encN y) W1 fun e W' =>
      (e = .returned (.bool true) ∧ J (pre ++ [y]) W' ∧ Held W1 W') ∨ (e = .returned (.bool false) ∧ Jx (pre ++ [y]) W'))
    (h0 : J [] W) :
    CallsIn Fence.wide 3 Tryd.prog 41 #[.func (.yield l) #[] #[], .pointer (some ⟨Bn, 0, none⟩)] W fun e W' => (∃ v, e = .returned v) ∧
      ((∃ ys : List (Fin 64), ys.map Fin.val = bitsOf x ∧ J ys W') ∨ (∃ pre : List (Fin 64), (∃ r, bitsOf x = pre.map Fin.val ++ r) ∧ Jx pre W')) := by
  have hHeld := Held.of_below hW hH
  have hbx : W.cell? ⟨Bn, 0, none⟩ = some (.int .u64 x) := (hW.cell (p := ⟨Bn, 0, none⟩) (World.block_lt_of_cell? w _ hBox)).trans hBox
  refine callsIn_of_wp Tryd.func41 rfl trivial ?_ rfl
  simp only [Tryd.ntmps41, List.size_toArray, List.length_cons, List.length_nil, Nat.reduceAdd, Nat.reduceSub, Array.replicate_succ, Array.replicate_zero, List.push_toArray, List.append_toArray, List.nil_append, List.cons_append]
  gi_wp2
  gi_loopw [3] (fun p wr => ∃ (pre : List (Fin 64)) (y : Nat), p = .int .u64 y ∧ y < 18446744073709551616 ∧ bitsOf x = pre.map Fin.val ++ bitsOf y ∧ J pre wr ∧ Held w wr) (fun p _ => (intOf p).toNat)
  case atStart => exact ⟨[], x, rfl, hx, rfl, h0, hHeld⟩
  case round =>
    obtain ⟨pre, y, rfl, hy, hch, hJ, hh⟩ := hrel
    have hHr := hH.held hh
    by_cases hy0 : y = 0
    · subst hy0
      rw [bits_zero, List.append_nil] at hch
      replace hch := Lib.hid hch
      gi_wp2
      go_end0
      exact ⟨⟨_, rfl⟩, .inl ⟨pre, hch.out.symm, hJ⟩⟩
    · have hc := bits_cons y hy0 hy
      have hT := Lib.hid (tz_any y hy0 hy wr hHr)
      have hlt := and_pred_lt y hy0
      have e2 := bits_and_u64_nat y (y - 1) hy (by omega)
      have e1 : IntKind.u64.wrap ((y : Int) - 1) = ((y - 1 : Nat) : Int) := by
        rw [show (y : Int) - 1 = ((y - 1 : Nat) : Int) by omega]; exact wu (by omega)
      have b1 : ((y : Int) != 0) = true := by simp; omega
      have b2 : ((y : Int) == 0) = false := by simp; omega
      rw [hc] at hch
      have hk1 : ∃ k, k < 64 ∧ ctz 64 y = k := ⟨ctz 64 y, by obtain ⟨_, _, h⟩ := ctz_form y hy0 hy; exact h, rfl⟩
      obtain ⟨k, hk64, hk2⟩ := hk1
      rw [hk2] at hch hT
      generalize y &&& (y - 1) = z at *
      generalize y - 1 = p at *
      have hlen : pre.length < (bitsOf x).length := by rw [hch, List.length_append, List.length_cons, List.length_map]; omega
      obtain ⟨fn, tmps, assign, body, hyy, hR⟩ := hY pre ⟨k, hk64⟩ wr hJ hlen
      have X := Lib.hid (show bitsOf x = (pre ++ [(⟨k, hk64⟩ : Fin 64)]).map Fin.val ++ bitsOf z by rw [hch, List.map_append, List.append_assoc]; rfl)
      replace hyy := Lib.hid (show (Instr.yield l #[.int .i64 (k : Nat)]).run Tryd.prog _ = _ from hyy)
      clear hc hch hlen hJ hk2
      gi_wp2_with (first
        | (refine ⟨trivial, ?_⟩; gi_at_call 42; refine (callsIn_wide.2 hT.out).mono ?_; rintro e w' ⟨rfl, rfl⟩))
      rw [hyy.out]
      gi_wp2
      refine hR.mono ?_
      rintro e W3 (⟨rfl, hJ3, hK3⟩ | ⟨rfl, hJx3⟩)
      · gi_wp2
        go_roundw
        case rel => exact ⟨pre ++ [⟨k, hk64⟩], z, rfl, by omega, X.out, hJ3, hh.trans hK3⟩
        case measure => simp [intOf]; omega
      · gi_wp2
        refine bodyPost_ret (results_none rfl _ _ _) rfl ?_
        exact ⟨⟨_, rfl⟩, .inr ⟨_, ⟨_, X.out⟩, hJx3⟩⟩
theorem members_any (x : Nat) (w : World) : Calls Tryd.prog 38 #[.int .u64 x] w fun e w' => e = .returned (.func (.func 41) #[] #[.pointer (some ⟨w.heap.size, 0, none⟩)]) ∧ w' = w.alloc (.cells #[.int .u64 x] TU) := by
  go_enter Tryd.func38, Tryd.ntmps38
  go_wp2
  go_ret
  exact ⟨rfl, rfl⟩
theorem members_stops (x : Nat) (hx : x < 18446744073709551616) (w : World) (hH : Hv w) (Bn : Nat) (hBox : w.cell? ⟨Bn, 0, none⟩ = some (.int .u64 x)) :
    SeqStopsK Fence.wide 3 Tryd.prog 41 #[.pointer (some ⟨Bn, 0, none⟩)] encN Held (fun ys => ys.map Fin.val = bitsOf x) (fun pre => ∃ r, bitsOf x = pre.map Fin.val ++ r) (bitsOf x).length w :=
  fun l J Jx W hW hJ hJx hY h0 => members_in x hx w hH Bn hBox l J Jx W hW hJ hJx hY h0
end Go.Proofs.YtmbkopeikldonaaDoor.Quo
