/- slices.Sort of numbers, maps.Clone (the shelf's contracts at this program); Upto, Open, Copy, Forget. -/
import Derived.Test.YtaacnhhinhdinaaE06
import Derived.Shelf.SortM.Plain
import Derived.Shelf.SortM.SortNone
import Derived.Shelf.SlMaps.Clone
import Derived.Sort.OwnSortedInts
import Derived.Maps.RangeWalk
import Derived.LoopTactic
namespace Go.Proofs.Ytaacnhhinhdinaa.Lrn
open Go.RowKit Go.Maps Go.Sort Go.Lib Go.Shelf
open Bal (TB bOk ckB ordV alloc_b)
set_option linter.unusedVariables false
set_option linter.unusedSimpArgs false
set_option maxRecDepth 20000

def sortI_ren : Go.Shelf.Ren := ⟨fun | 5 => 48 | 8 => 63 | 7 => 62 | 19 => 85 | 20 => 86 | 10 => 76 | 11 => 77 | 12 => 78 | 13 => 79 | 14 => 80 | 15 => 81 | 16 => 82 | 17 => 83 | 18 => 84 | 30 => 89 | 31 => 90 | 32 => 91 | 33 => 92 | 34 => 93 | 35 => 72 | 40 => 94 | n => n, fun | 23 => 52 | 25 => 3 | 3 => 3 | 32 => 92 | 22 => 52 | 0 => 0 | 44 => 46 | 46 => 47 | 4 => 4 | 36 => 125 | 35 => 124 | 41 => 129 | 5 => 5 | 9 => 9 | 53 => 135 | 57 => 139 | 63 => 141 | 64 => 142 | n => n, fun | n => n⟩
theorem sortI : Go.Proofs.SlLaysM.n5 Try.prog sortI_ren := {
  mixed := by kernel_rfl
  f5 := ⟨"slices.Sort[[]int,int]", by decide, Try.func48.trans (congrArg some (by kernel_rfl))⟩
  f7 := ⟨"slices.pdqsortOrdered[int]", by decide, Try.func62.trans (congrArg some (by kernel_rfl))⟩
  f8 := Try.func63.trans (congrArg some (by kernel_rfl))
  f10 := ⟨"slices.insertionSortOrdered[int]", by decide, Try.func76.trans (congrArg some (by kernel_rfl))⟩
  f11 := ⟨"slices.heapSortOrdered[int]", by decide, Try.func77.trans (congrArg some (by kernel_rfl))⟩
  f12 := ⟨"slices.breakPatternsOrdered[int]", by decide, Try.func78.trans (congrArg some (by kernel_rfl))⟩
  f13 := ⟨"slices.choosePivotOrdered[int]", by decide, Try.func79.trans (congrArg some (by kernel_rfl))⟩
  f14 := ⟨"slices.reverseRangeOrdered[int]", by decide, Try.func80.trans (congrArg some (by kernel_rfl))⟩
  f15 := ⟨"slices.partialInsertionSortOrdered[int]", by decide, Try.func81.trans (congrArg some (by kernel_rfl))⟩
  f16 := ⟨"cmp.Less[int]", by decide, Try.func82.trans (congrArg some (by kernel_rfl))⟩
  f17 := ⟨"slices.partitionEqualOrdered[int]", by decide, Try.func83.trans (congrArg some (by kernel_rfl))⟩
  f18 := ⟨"slices.partitionOrdered[int]", by decide, Try.func84.trans (congrArg some (by kernel_rfl))⟩
  f19 := Try.func85.trans (congrArg some (by kernel_rfl))
  f20 := Try.func86.trans (congrArg some (by kernel_rfl))
  f30 := ⟨"slices.siftDownOrdered[int]", by decide, Try.func89.trans (congrArg some (by kernel_rfl))⟩
  f31 := Try.func90.trans (congrArg some (by kernel_rfl))
  f32 := Try.func91.trans (congrArg some (by kernel_rfl))
  f33 := ⟨"slices.medianAdjacentOrdered[int]", by decide, Try.func92.trans (congrArg some (by kernel_rfl))⟩
  f34 := ⟨"slices.medianOrdered[int]", by decide, Try.func93.trans (congrArg some (by kernel_rfl))⟩
  f35 := ⟨"cmp.isNaN[int]", by decide, Try.func72.trans (congrArg some (by kernel_rfl))⟩
  f40 := ⟨"slices.order2Ordered[int]", by decide, Try.func94.trans (congrArg some (by kernel_rfl))⟩
  t0 := Try.underlying0
  a0 := Try.isAgg0
  z0 := Try.sizeOf0
  v0 := Try.zeroValue0
  t3 := Try.underlying3
  a3 := Try.isAgg3
  z3 := Try.sizeOf3
  v3 := Try.zeroValue3
  t4 := Try.underlying4
  a4 := Try.isAgg4
  z4 := Try.sizeOf4
  v4 := Try.zeroValue4
  t5 := Try.underlying5
  a5 := Try.isAgg5
  z5 := Try.sizeOf5
  v5 := Try.zeroValue5
  t9 := Try.underlying9
  a9 := Try.isAgg9
  z9 := Try.sizeOf9
  v9 := Try.zeroValue9
  t22 := Try.underlying52
  a22 := Try.isAgg52
  z22 := Try.sizeOf52
  v22 := Try.zeroValue52
  t23 := Try.underlying52
  a23 := Try.isAgg52
  z23 := Try.sizeOf52
  v23 := Try.zeroValue52
  t25 := Try.underlying3
  a25 := Try.isAgg3
  z25 := Try.sizeOf3
  v25 := Try.zeroValue3
  t32 := Try.underlying92
  a32 := Try.isAgg92
  z32 := Try.sizeOf92
  v32 := Try.zeroValue92
  t35 := Try.underlying124
  a35 := Try.isAgg124
  z35 := Try.sizeOf124
  v35 := Try.zeroValue124
  t36 := Try.underlying125
  a36 := Try.isAgg125
  z36 := Try.sizeOf125
  v36 := Try.zeroValue125
  t41 := Try.underlying129
  a41 := Try.isAgg129
  z41 := Try.sizeOf129
  v41 := Try.zeroValue129
  t44 := Try.underlying46
  a44 := Try.isAgg46
  z44 := Try.sizeOf46
  v44 := Try.zeroValue46
  t46 := Try.underlying47
  a46 := Try.isAgg47
  z46 := Try.sizeOf47
  v46 := Try.zeroValue47
  t53 := Try.underlying135
  a53 := Try.isAgg135
  z53 := Try.sizeOf135
  v53 := Try.zeroValue135
  t57 := Try.underlying139
  a57 := Try.isAgg139
  z57 := Try.sizeOf139
  v57 := Try.zeroValue139
  t63 := Try.underlying141
  a63 := Try.isAgg141
  z63 := Try.sizeOf141
  v63 := Try.zeroValue141
  t64 := Try.underlying142
  a64 := Try.isAgg142
  z64 := Try.sizeOf142
  v64 := Try.zeroValue142 }

def cloneI_ren : Go.Shelf.Ren := ⟨fun | 5 => 43 | 7 => 61 | n => n, fun | 23 => 67 | 25 => 3 | 3 => 78 | 4 => 4 | 20 => 20 | n => n, fun | n => n⟩
theorem cloneI : Go.Proofs.SlLaysW.n5 Try.prog cloneI_ren := {
  mixed := by kernel_rfl
  f5 := ⟨"maps.Clone[map[int]skald/learn.known,int,skald/learn.known]", by decide, Try.func43.trans (congrArg some (by kernel_rfl))⟩
  f7 := Try.func61.trans (congrArg some (by kernel_rfl))
  t4 := Try.underlying4
  a4 := Try.isAgg4
  z4 := Try.sizeOf4
  v4 := Try.zeroValue4
  t20 := Try.underlying20
  a20 := Try.isAgg20
  z20 := Try.sizeOf20
  v20 := Try.zeroValue20
  t23 := Try.underlying67
  a23 := Try.isAgg67
  z23 := Try.sizeOf67
  v23 := Try.zeroValue67 }
/-! Sorting. -/
theorem sort_any (base : Nat) (l : List Int) (v : Value) (w : World) (h : OwI base l v w) (hn : l.length ≤ 100000) :
    Calls Try.prog 48 #[v] w fun e w' => e = .returned (.tuple #[]) ∧ OwI base (l.mergeSort leI) v w' ∧ w.grownBy w' v.ownBlock := by
  have hl : (l.mergeSort leI).length = l.length := List.length_mergeSort l
  rcases h.2 with ⟨rfl, h0⟩ | ⟨g, cap, cur, rfl, hbg, hg, h1, h2, h3, h4⟩
  · have e0 : l = [] := List.eq_nil_of_length_eq_zero h0
    subst e0
    refine (AnyM.slices_Sort_int_none sortI none 0 w).mono ?_
    rintro e w' ⟨rfl, rfl⟩
    refine ⟨rfl, ?_, World.grownBy.refl w' _⟩
    rw [List.mergeSort_nil]
    exact h
  · have hH := holds_of_blockI (ss := l) hg (by rw [Nat.mul_one] at h4; exact h4)
    refine (AnyM.slices_Sort_int sortI g 0 cap l w hH (Array.getElem?_eq_some_iff.1 hg).1 (by omega)).mono ?_
    rintro e w' ⟨rfl, n, os, rfl⟩
    refine ⟨rfl, ?_, grownBy_sortedI _⟩
    have := ownsRow_sortedI (n := n) (os := os) (e := TI) hl hbg hg h1 h2 h3
    unfold OwI
    rw [hl]
    exact this
theorem clone_any {b n : Nat} {M : List Et} (w : World) (hown : w.ownsMap Try.prog TI rdK b n (DM M)) :
    Calls Try.prog 43 #[.map (some b)] w fun e w' => e = .returned (.map (some w.heap.size)) ∧ w'.ownsMap Try.prog TI rdK w.heap.size n (DM M) ∧ w'.ownsMap Try.prog TI rdK b n (DM M) ∧ Below w.heap.size w w' :=
  AnyW.maps_Clone_owns cloneI TI rdK b n (DM M) w hown

/-! Upto. -/
theorem upTo_chosen (M : List Et) (i : Int) (j : Nat) (h : (gK (getM M i)).c = true) : upTo M i (j + 1) = upTo M (i + 1) j := by
  show (if _ then _ else _) = _
  rw [if_pos h]
theorem upTo_open (M : List Et) (i : Int) (j : Nat) (h : (gK (getM M i)).c = false) : upTo M i j = i := by
  cases j with
  | zero => rfl
  | succ j =>
    show (if _ then _ else _) = _
    rw [if_neg (by rw [h]; decide)]
set_option maxHeartbeats 1000000 in
theorem upto_any {sb mb : Nat} {s : St} (w : World) (x : Ax w sb mb s) :
    Calls Try.prog 27 #[.pointer (some ⟨sb, 0, none⟩)] w fun e w' => e = .returned (.int .i64 (uptoV s)) ∧ w = w' := by
  have hV := Lib.hid x.valid
  have hb := x.ok.hb
  have hlt : Hid (∀ k, (at' s k).c = true → k < 4096) := Lib.hid fun k hk => by
    cases hg : getM s.M k with
    | none => unfold at' at hk; rw [hg] at hk; cases hk
    | some e =>
      obtain ⟨h1, h2⟩ := (get_iff x.ok.srt _ _).1 hg
      have := (x.ok.ent e h1).2.1
      omega
  have hlook := Lib.hid (fun (k : Int) (hk : (Lit.int .i64 k).wf = true) => look_s x hk)
  have hu : Hid (uptoV s = upTo s.M s.b (4096 - s.b).toNat) := Lib.hid rfl
  obtain ⟨_, c1, c2⟩ := x.cells
  clear x
  generalize s.b = b at *
  generalize uptoV s = U at *
  go_enter Try.func27, Try.ntmps27
  go_wp2_with (go_at_call 29; refine hV.out.mono ?_; rintro e w' ⟨rfl, rfl⟩)
  go_loop [3] (fun i => ∃ k : Int, b ≤ k ∧ k ≤ 4096 ∧ i = .int .i64 k ∧ U = upTo s.M k (4096 - k).toNat) (fun i => 4096 - (intOf i).toNat)
  case atStart => exact ⟨b, Int.le_refl _, hb.2, rfl, hu.out⟩
  case round =>
    obtain ⟨k, hk0, hk1, rfl, hU⟩ := hrel
    have hl := hlook.out k (wf64 (by omega) (by omega))
    have hck := hlt.out k
    have htrue := fun (j : Nat) (h : (at' s k).c = true) => upTo_chosen s.M k j h
    have hfalse := fun (j : Nat) (h : (at' s k).c = false) => upTo_open s.M k j h
    generalize at' s k = q at *
    obtain ⟨c, qv, qr, qm, t, u⟩ := q
    have hw : IntKind.i64.wrap (k + 1) = k + 1 := by rw [IntKind.wrap_i64]; omega
    cases c with
    | true =>
      change _ = Result.ok (Value.agg #[.bool true, .string qv, .int .i64 qr, .int .i64 qm, .string t, .int .u64 u]) w at hl
      have hk2 : k < 4096 := hck rfl
      have hU2 : U = upTo s.M (k + 1) (4096 - (k + 1)).toNat := by
        rw [hU, show (4096 - k).toNat = (4096 - (k + 1)).toNat + 1 by omega]
        exact htrue _ rfl
      replace hU2 := Lib.hid hU2
      clear hU hck htrue hfalse
      have hfd : ∀ W : World, (Instr.field TK (.agg #[.bool true, .string qv, .int .i64 qr, .int .i64 qm, .string t, .int .u64 u]) 0).run Try.prog W = .ok (.bool true) W := fun _ => by kernel_rfl
      go_wp2
      go_round
      case rel => exact ⟨k + 1, by omega, by omega, rfl, hU2.out⟩
      case measure => simp [intOf]; omega
    | false =>
      change _ = Result.ok (Value.agg #[.bool false, .string qv, .int .i64 qr, .int .i64 qm, .string t, .int .u64 u]) w at hl
      have hU2 : U = k := by rw [hU]; exact hfalse _ rfl
      replace hU2 := Lib.hid hU2
      clear hU hck htrue hfalse
      have hfd : ∀ W : World, (Instr.field TK (.agg #[.bool false, .string qv, .int .i64 qr, .int .i64 qm, .string t, .int .u64 u]) 0).run Try.prog W = .ok (.bool false) W := fun _ => by kernel_rfl
      go_wp2
      go_ret
      exact ⟨by rw [hU2.out]; rfl, rfl⟩

/-! Open. -/
theorem at_kD {M : List Et} {x : Int} {c : Kn} (h : ∀ zd, (DM M).atKey (.int .i64 x) zd = kD c) : gK (getM M x) = c := by
  have h1 := h (kD zK)
  rw [at_DM] at h1
  cases hg : getM M x with
  | none => rw [hg] at h1; exact kD_inj h1
  | some e => rw [hg] at h1; exact kD_inj h1
theorem opn_filter {M : List Et} (h : Srt M) : (M.filter fun e => !(gK (getM M e.s)).c) = M.filter fun e => !e.k.c := by
  refine List.filter_congr fun e he => ?_
  rw [(get_iff h e.s e).2 ⟨he, rfl⟩]
set_option maxHeartbeats 2000000 in
theorem open_any {sb mb : Nat} {s : St} (w : World) (x : Ax w sb mb s) :
    Calls Try.prog 25 #[.pointer (some ⟨sb, 0, none⟩)] w fun e w' =>
      ∃ v, e = .returned v ∧ OwI w.heap.size (opnL s) v w' ∧ Below w.heap.size w w' := by
  have hV := Lib.hid x.valid
  have hsrt := Lib.hid x.ok.srt
  have hown := x.own
  have hlt := hown.lt
  have hlen := x.ok.len
  have hO1 : Hid (opnL s = keysM (s.M.filter fun e => !(gK (getM s.M e.s)).c)) := Lib.hid (by rw [opn_filter x.ok.srt]; rfl)
  obtain ⟨_, _, c2⟩ := x.cells
  generalize s.M = M at *
  generalize opnL s = OL at *
  have hS := Lib.hid (fun (l : List Int) (v : Value) (W : World) (h : OwI (w.heap.size + 1) l v W) (hn : l.length ≤ 100000) => sort_any (w.heap.size + 1) l v W h hn)
  clear x
  go_enter Try.func25, Try.ntmps25
  go_wp2_with (first
    | (go_at_call 29; refine hV.out.mono ?_; rintro e w' ⟨rfl, rfl⟩)
    | (at_range; refine wpList_range_own _ rfl _ TM rfl TI TK keyI Try.underlying67 _ mb M.length _ rfl hown ?_; intro w0 hrg0 hg0 hs0)
    | go_in)
  (try go_frame)
  have hb0 : Below w.heap.size w w0 := ⟨hg0.os, hg0.tape, hg0.output, hg0.size, fun k hk => hg0.block k hk (by simp)⟩
  clear c2
  go_loopw [3] (fun l wr => ∃ (left : Lit → Bool) (cnt : Nat) (ss : List Int), wr.ranges Try.prog TI rdK mb w.heap.size M.length (DM M) left cnt ∧ CollectedI (DM M) left ss ∧
      OwI (w.heap.size + 1) (ss.filter fun x => !(gK (getM M x)).c) l wr ∧ Below w.heap.size w wr ∧ w.heap.size + 1 ≤ wr.heap.size ∧ ss.length + cnt ≤ M.length)
    (fun _ wr => wr.rangeLeft mb w.heap.size)
  case atStart =>
    exact ⟨_, _, [], hrg0, CollectedI.start _, OwI.nil _ _, hb0, by omega, by rw [size_DM]; exact Nat.le_of_eq (Nat.zero_add _)⟩
  case round =>
    obtain ⟨left, cnt, ss, hrg, hC, hO, hB, hsz, hcn⟩ := hrel
    obtain ⟨la, lc, rfl⟩ := rows_form hO
    generalize hfl : (ss.filter fun x => !(gK (getM M x)).c).length = fl at *
    have hfl1 : fl ≤ 100000 := by
      have h2 := List.length_filter_le (fun x => !(gK (getM M x)).c) ss
      omega
    replace hfl := Lib.hid hfl
    have hO' := Lib.hid hO
    clear hO
    have HC := Lib.hid hC
    replace hcn := Lib.hid hcn
    go_wp2_with (first
      | (at_next; refine wpList_next_ranges _ rfl _ rfl TI keyI rdK encZ vK (fun key kl hk => by obtain ⟨x, hx, _⟩ := Maps.keyOf_i64 Try.underlying3 hk; exact ⟨x, hx⟩) (fun v y hy => by obtain ⟨c, hc, _⟩ := rdK_form (d := y.1) (ps := y.2) hy; exact ⟨c, hc⟩) mb w.heap.size M.length _ _ _ rfl hrg ?_ ?_)
      | go_in)
    · intro hc0 hl0
      have hp := Lib.hid (hC.perm hown keyI Try.underlying3 hl0)
      go_wp2_with (go_at_call 48; refine (hS.out _ _ _ hO'.out (by have := hfl.out; omega)).mono ?_; rintro e w3 ⟨rfl, hO3, hg3⟩)
      go_ret
      rw [keys_sorted (p := fun x => !(gK (getM M x)).c) hsrt.out hp.out] at hO3
      have hlen3 : (keysM (M.filter fun e => !(gK (getM M e.s)).c)).length = fl := by
        rw [← keys_sorted (p := fun x => !(gK (getM M x)).c) hsrt.out hp.out, List.length_mergeSort, hfl.out]
      exact ⟨_, rfl, by rw [hO1.out]; exact rows_base hO3 (by omega), own_below hO'.out hg3 hB (by omega)⟩
    · intro k c kl yd yp w2 cnt2 hkey hlk hv hat hrg2 hlt2 hg2 hs2 hen
      obtain ⟨k', ek, rfl, _⟩ := Maps.keyOf_i64 Try.underlying3 hkey
      obtain rfl : k = k' := encZ_inj ek
      obtain ⟨c', ec, ey⟩ := rdK_form hv
      obtain rfl := vK_inj ec
      have hat' : gK (getM M k) = c := at_kD fun zd => by rw [hat zd]; exact ey
      have hB2 : Below w.heap.size w w2 := hB.grown hg2 hB.size (fun k e => by cases e; exact Nat.le_refl _)
      have hO2 : OwI (w.heap.size + 1) (ss.filter fun x => !(gK (getM M x)).c) _ w2 := rows_kept hO'.out fun g hg => hg2.block g (World.ownsRow.lt hO'.out g hg).2 (fun e => by cases e; have := (World.ownsRow.lt hO'.out _ hg).1; omega)
      have hst := Lib.hid (hC.step hlk hat)
      have hsz2 : w.heap.size + 1 ≤ w2.heap.size := by omega
      have hff : ∀ b, c.c = b → (ss ++ [k]).filter (fun x => !(gK (getM M x)).c) = (ss.filter fun x => !(gK (getM M x)).c) ++ (if b then [] else [k]) := fun b hb => by
        rw [List.filter_append]
        congr 1
        rw [List.filter_cons, hat', hb]
        cases b <;> rfl
      replace hff := Lib.hid hff
      have hcn2 := Lib.hid (show (ss ++ [k]).length + cnt2 ≤ M.length by have := hcn.out; rw [List.length_append]; simp only [List.length_cons, List.length_nil]; omega)
      have hmeas := Lib.hid (show w2.rangeLeft mb w.heap.size < wr.rangeLeft mb w.heap.size by rw [hrg2.left_eq, hrg.left_eq]; exact hlt2)
      clear hs2 hlt2 hkey hv hat hg2 ey ec
      obtain ⟨cc, qv, qr, qm, t, u⟩ := c
      have hrg3 := hrg2.alloc (.cells (kC ⟨cc, qv, qr, qm, t, u⟩) TK)
      have hB3 := hB2.alloc hB2.size (.cells (kC ⟨cc, qv, qr, qm, t, u⟩) TK)
      have hO3 : OwI (w.heap.size + 1) (ss.filter fun x => !(gK (getM M x)).c) _ (w2.alloc (.cells (kC ⟨cc, qv, qr, qm, t, u⟩) TK)) := rows_later hO2 (alloc_b _ _)
      have hk3 := (kbx_new w2 ⟨cc, qv, qr, qm, t, u⟩).cells.1
      have hsz3 : (w2.alloc (.cells (kC ⟨cc, qv, qr, qm, t, u⟩) TK)).heap.size = w2.heap.size + 1 := by show (w2.heap.push _).size = _; rw [Array.size_push]
      clear hO2 hat'
      cases cc with
      | true =>
        have ef := Lib.hid (hff.out _ rfl)
        replace hO3 := Lib.hid hO3
        replace hB3 := Lib.hid hB3
        replace hsz3 := Lib.hid hsz3
        go_wp2
        go_roundw
        case rel => exact ⟨_, cnt2, ss ++ [k], hrg3, hst.out, by rw [ef.out, if_pos rfl, List.append_nil]; exact hO3.out, hB3.out, by rw [hsz3.out]; omega, hcn2.out⟩
        case measure => rw [hrg3.left_eq, ← hrg2.left_eq]; exact hmeas.out
      | false =>
        have ef := Lib.hid (hff.out _ rfl)
        have hrg4 := hrg3.alloc (.cells #[.int .i64 k] TI)
        have hB4 := hB3.alloc hB3.size (.cells #[.int .i64 k] TI)
        have hO4 : OwI (w.heap.size + 1) (ss.filter fun x => !(gK (getM M x)).c) _ ((w2.alloc (.cells (kC ⟨false, qv, qr, qm, t, u⟩) TK)).alloc (.cells #[.int .i64 k] TI)) := rows_later hO3 (alloc_b _ _)
        have hk4 := cell_of_row ((w2.alloc (.cells (kC ⟨false, qv, qr, qm, t, u⟩) TK)).alloc (.cells #[.int .i64 k] TI)) _ 0 _ TI _ (heap_alloc_new (w2.alloc (.cells (kC ⟨false, qv, qr, qm, t, u⟩) TK)) (.cells #[.int .i64 k] TI))
        have hsz4 : ((w2.alloc (.cells (kC ⟨false, qv, qr, qm, t, u⟩) TK)).alloc (.cells #[.int .i64 k] TI)).heap.size = w2.heap.size + 1 + 1 := by rw [World.size_alloc, World.size_alloc]
        rw [hsz3] at hk4
        replace hO4 := Lib.hid hO4
        have hk4' := Lib.hid hk4
        have hsz4' := Lib.hid hsz4
        clear hk4 hsz4 hO3
        replace hsz3 := Lib.hid hsz3
        go_wp2_with (at_builtin; refine wpList_append_i rfl _ _ rfl (w.heap.size + 1) _ _ rfl hO4.out (w2.heap.size + 1) _ k rfl hk4'.out (by have := hfl.out; omega) (by rw [hsz4'.out]; omega) ?_; intro v5 w5 hO5 hg5)
        have hrg5 := hrg4.kept hg5 (by intro e; have := (World.ownsRow.lt hO4.out _ e.symm).1; omega) (by intro e; have := (World.ownsRow.lt hO4.out _ e.symm).1; omega)
        have hB5 : Below w.heap.size w w5 := own_below hO4.out hg5 hB4 (by omega)
        have hsz5 := hg5.size
        go_roundw
        case rel => exact ⟨_, cnt2, ss ++ [k], hrg5, hst.out, by rw [ef.out]; exact hO5, hB5, by rw [hsz4'.out] at hsz5; omega, hcn2.out⟩
        case measure => rw [hrg5.left_eq, ← hrg2.left_eq]; exact hmeas.out
end Go.Proofs.Ytaacnhhinhdinaa.Lrn
