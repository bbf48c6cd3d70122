/- The records one by one: the function that yields them. -/
import Derived.Test.YtojeccmnhgcmcaaDoorG08
import Derived.RangeFuncNested
import Derived.RangeFuncBox
import Derived.RangeFuncCalls
import Derived.RangeFuncLeaves
import Derived.Shelf.Abstract
import Derived.OwnWalkIn
import Derived.TacticsInMore
import Derived.LoopNIn
import Derived.LoopIn
import Derived.Deep.RegionHeld
import Derived.StillTail
namespace Go.Proofs.YtojeccmnhgcmcaaDoor.Frame
open Go.RowKit Go.ChangeShapes
open Crc (Hv more more_lt ret_u32)
set_option linter.unusedVariables false
set_option linter.unusedSimpArgs false
attribute [local go_sem] Oper.semAt_some

/-- A record that is yielded: where it begins, the slice of its content, and this content, as they lie in w. -/
structure Item (w : World) (F : Nat → Prop) (b : List Nat) where
  k : Nat
  v : Value
  c : List Nat
  bs : Bs w F v c
  le : k + (8 + c.length) ≤ b.length
/-- Records one behind the other, from the place k on. -/
def Row {w : World} {F : Nat → Prop} {b : List Nat} : Nat → List (Item w F b) → Prop
  | _, [] => True
  | k, y :: ys => y.k = k ∧ Row (k + (8 + y.c.length)) ys
abbrev conts {w : World} {F : Nat → Prop} {b : List Nat} (ys : List (Item w F b)) : List (List Nat) := ys.map (·.c)
theorem Row.snoc {w : World} {F : Nat → Prop} {b : List Nat} (x : Item w F b) : ∀ (k : Nat) (ys : List (Item w F b)), Row k ys → x.k = k + tot (conts ys) → Row k (ys ++ [x])
  | k, [], _, hx => ⟨by rw [hx]; rfl, trivial⟩
  | k, y :: ys, h, hx => ⟨h.1, Row.snoc x _ ys h.2 (by rw [hx]; show k + (8 + y.c.length + tot (conts ys)) = _; omega)⟩
theorem Row.at_ {w : World} {F : Nat → Prop} {b : List Nat} : ∀ (k : Nat) (ys : List (Item w F b)), Row k ys → ∀ (i : Nat) (h : i < ys.length), (ys[i]).k = k + tot ((conts ys).take i)
  | k, y :: ys, h, 0, _ => h.1
  | k, y :: ys, h, i + 1, hi => by
    have hi' : i < ys.length := by simpa using hi
    have := Row.at_ _ ys h.2 i hi'
    show (ys[i]).k = _
    rw [this]
    show _ = k + (8 + y.c.length + tot ((conts ys).take i))
    omega

theorem tot_one (c : List Nat) : tot [c] = 8 + c.length := by simp [tot]
/-- What the iterator needs across a round: the blocks of G are as they were. -/
def Held (G : Nat → Prop) (A B : World) : Prop := A.heap.size ≤ B.heap.size ∧ Same G A B
theorem Held.trans {G : Nat → Prop} {A B C : World} (h : Held G A B) (k : Held G B C) : Held G A C := ⟨Nat.le_trans h.1 k.1, fun i hi => (k.2 i hi).trans (h.2 i hi)⟩
theorem Held.of_below {G : Nat → Prop} {A B : World} (h : Below A.heap.size A B) (hG : ∀ k, G k → k < A.heap.size) : Held G A B := ⟨h.size, Same.of_below h hG⟩
/-- The blocks that the iterator reads. -/
def Gs (F : Nat → Prop) (Bn : Nat) (k : Nat) : Prop := F k ∨ k = Bn ∨ k = 0
theorem hv_same {w w' : World} {F : Nat → Prop} (h : Hv w) (hs : Same F w w') (hF : F 0) : Hv w' := fun i hi => (same_cell hs (p := ⟨0, i, none⟩) hF).trans (h i hi)
theorem Same.symm {F : Nat → Prop} {w w' : World} (h : Same F w w') : Same F w' w := fun k hk => (h k hk).symm
theorem Same.sub {F G : Nat → Prop} {w w' : World} (h : Same G w w') (hF : ∀ k, F k → G k) : Same F w w' := fun k hk => h k (hF k hk)
theorem below_grown {W W' : World} (h : Below W.heap.size W W') : W.grownBy W' none := ⟨h.os, h.tape, h.output, h.size, fun k hk _ => h.block k hk⟩
theorem lkX_ok (k : Nat) : lkX 0 k = (k : Nat) := rfl
abbrev encI {w : World} {F : Nat → Prop} {b : List Nat} (x : Item w F b) : Array Value := #[.agg #[.int .i64 (x.k : Nat), x.v], .int .i64 ((x.k + (8 + x.c.length) : Nat) : Int)]

set_option maxRecDepth 100000 in
set_option maxHeartbeats 2000000 in
theorem records_in (F : Nat → Prop) (v : Value) (b : List Nat) (w : World) (hv : Bs w F v b) (hF : ∀ k, F k → k < w.heap.size) (hH : Hv w) (hlen : b.length ≤ 100000000) (Bn : Nat) (hBn : Bn < w.heap.size) (hBox : w.cell? ⟨Bn, 0, none⟩ = some v)
    (l : Nat) (J Jx : List (Item w F b) → World → Prop) (W : World) (hW : Below w.heap.size w W) (hJa : AbidesFrom W.heap.size J) (hJx : AbidesFrom W.heap.size Jx)
    (hY : ∀ pre x W1, J pre W1 → pre.length < (chain b).length → YieldAt Fence.wide 2 Tryd.prog l (encI x) W1 fun e W' =>
      (e = .returned (.bool true) ∧ J (pre ++ [x]) W' ∧ Held (Gs F Bn) W1 W') ∨ (e = .returned (.bool false) ∧ Jx (pre ++ [x]) W'))
    (h0 : J [] W) :
    CallsIn Fence.wide 3 Tryd.prog 62 #[.func (.yield l) #[] #[], .pointer (some ⟨Bn, 0, none⟩)] W fun e W' => (∃ v, e = .returned v) ∧
      ((∃ ys : List (Item w F b), (conts ys = chain b ∧ Row 0 ys) ∧ J ys W') ∨ (∃ pre : List (Item w F b), True ∧ Jx pre W')) := by
  have hG : ∀ k, Gs F Bn k → k < w.heap.size := fun k hk => by
    rcases hk with hk | rfl | rfl
    · exact hF k hk
    · exact hBn
    · exact hv_lt hH
  have hHeld := Held.of_below hW hG
  have h8 := hv.1
  refine callsIn_of_wp Tryd.func62 rfl trivial ?_ rfl
  simp only [Tryd.ntmps62, List.size_toArray, List.length_cons, List.length_nil, Nat.reduceAdd, Nat.reduceSub, Array.replicate_succ, Array.replicate_zero, List.push_toArray, List.append_toArray, List.nil_append, List.cons_append]
  gi_wp2
  gi_loopw [3] (fun p wr => ∃ (pre : List (Item w F b)) (k : Nat), p = .int .i64 k ∧ k ≤ b.length ∧ chain b = conts pre ++ chain (b.drop k) ∧ Row 0 pre ∧ k = tot (conts pre) ∧ J pre wr ∧ Held (Gs F Bn) w wr) (fun p _ => b.length - (intOf p).toNat)
  case atStart => exact ⟨[], 0, rfl, Nat.zero_le _, rfl, trivial, rfl, h0, hHeld⟩
  case round =>
    obtain ⟨pre, k, rfl, hk, hch, hrow, hkt, hJ, hh⟩ := hrel
    replace hkt := Lib.hid hkt
    have hvr := hv.kept (Same.sub hh.2 fun k hk => Or.inl hk)
    have hFr : ∀ k, F k → k < wr.heap.size := fun k hk => Nat.lt_of_lt_of_le (hF k hk) hh.1
    have hHr := hv_same hH hh.2 (.inr (.inr rfl))
    have hc := (same_cell hh.2 (p := ⟨Bn, 0, none⟩) (.inr (.inl rfl))).trans hBox
    have hL := look_in F v b k wr hvr hFr hHr hlen hk
    unfold LookK at hL
    have hGr : ∀ k, Gs F Bn k → k < wr.heap.size := fun k hk => Nat.lt_of_lt_of_le (hG k hk) hh.1
    have HJ := Lib.hid (fun (w' : World) (hb : Below wr.heap.size wr w') => hJa _ _ _ none hJ (below_grown hb) (fun r e => by cases e))
    by_cases he : restE (b.drop k) = 0
    · have hok := ok_of he
      have hle : k + (8 + (restC (b.drop k)).length) ≤ b.length := by have h1 := hok.len; have h2 := hok.fit; have h3 := hok.ge; rw [List.length_drop] at h2 h3; omega
      have hcc := chain_ok he
      rw [List.drop_drop] at hcc
      rw [hcc] at hch
      rw [he, lookE_ok] at hL
      generalize restC (b.drop k) = c at *
      have HL := Lib.hid hL
      have HCH := Lib.hid hch
      clear hL he hch hcc
      gi_wp2_with (first
        | (refine ⟨trivial, ?_⟩; gi_at_call 63; refine (callsIn_wide.2 HL.out).mono ?_; rintro e w1 ⟨u, rfl, hu, hb1⟩; obtain ⟨_, a', cap', rfl, _⟩ := (show Bs wr F u c from hu)))
      have hbb := hb1.trans (((Below.refl w1.heap.size w1).alloc (Nat.le_refl _) (.cells #[.int .i64 (k : Nat), .slice a' c.length cap'] 81)).mono hb1.size)
      have hJ2 := HJ.out _ hbb
      have hu2 := hu.kept (Same.symm (Same.sub hh.2 fun k hk => Or.inl hk))
      obtain ⟨x, hx⟩ : ∃ x : Item w F b, x = ⟨k, .slice a' c.length cap', c, hu2, hle⟩ := ⟨_, rfl⟩
      have x1 : conts (pre ++ [x]) = conts pre ++ [c] := by rw [hx]; simp
      have x2 : Row 0 (pre ++ [x]) := Row.snoc x 0 pre hrow (by rw [hx]; show k = _; rw [Nat.zero_add]; exact hkt.out)
      have x3 : k + (8 + c.length) = tot (conts (pre ++ [x])) := by
        rw [x1, tot_app, tot_one, ← hkt.out]
      have x4 : pre.length < (chain b).length := by rw [HCH.out, List.length_append, List.length_map, List.length_cons]; omega
      have x5 : chain b = conts (pre ++ [x]) ++ chain (b.drop (k + (8 + c.length))) := by rw [HCH.out, x1, List.append_assoc, List.singleton_append]
      obtain ⟨fn, tmps, assign, body, hy, hR⟩ := hY pre x _ hJ2 x4
      have hxe : encI x = #[.agg #[.int .i64 (k : Nat), .slice a' c.length cap'], .int .i64 ((k : Int) + (8 + (c.length : Int)))] := by rw [hx]; simp [encI]
      rw [hxe] at hy
      have X1 := Lib.hid x1
      have X2 := Lib.hid x2
      have X3 := Lib.hid x3
      have X5 := Lib.hid x5
      clear x1 x2 x3 x5 hx hxe
      rw [hy]
      gi_wp2
      refine hR.mono ?_
      rintro e W3 (⟨rfl, hJ3, hK3⟩ | ⟨rfl, hJx3⟩)
      · gi_wp2
        go_roundw
        case rel => exact ⟨pre ++ [x], k + (8 + c.length), by go_num, hle, X5.out, X2.out, X3.out, hJ3, hh.trans ((Held.of_below hbb hGr).trans hK3)⟩
        case measure => simp [intOf]; omega
      · gi_wp2
        refine bodyPost_ret (results_none rfl _ _ _) rfl ?_
        exact ⟨⟨_, rfl⟩, .inr ⟨_, trivial, hJx3⟩⟩
    · have hne := chain_no he
      rw [hne, List.append_nil] at hch
      rw [lookE_no _ _ _ _ _ he] at hL
      have hE0 : ((restE (b.drop k) : Nat) : Int) ≠ 0 := by omega
      generalize ((restE (b.drop k) : Nat) : Int) = E at *
      have hE1 : (E != 0) = true := by simpa using hE0
      have hE2 : (E == 0) = false := by simpa using hE0
      have HL := Lib.hid hL
      have HCH := Lib.hid hch
      clear hL he hch hne hE0
      gi_wp2_with (first
        | (refine ⟨trivial, ?_⟩; gi_at_call 63; refine (callsIn_wide.2 HL.out).mono ?_; rintro e w1 ⟨u, rfl, hu, hb1⟩; obtain ⟨_, a', cap', rfl, _⟩ := (show Bs wr F u [] from hu)))
      refine ⟨fun f h => by (cases h), ?_⟩
      gi_wp2
      have hbb := hb1.trans (((Below.refl w1.heap.size w1).alloc (Nat.le_refl _) (.cells #[.int .i64 0, .slice a' 0 cap'] 81)).mono hb1.size)
      refine bodyPost_ret (results_none rfl _ _ _) rfl ?_
      exact ⟨⟨_, rfl⟩, .inl ⟨pre, ⟨HCH.out.symm, hrow⟩, HJ.out _ hbb⟩⟩
end Go.Proofs.YtojeccmnhgcmcaaDoor.Frame
