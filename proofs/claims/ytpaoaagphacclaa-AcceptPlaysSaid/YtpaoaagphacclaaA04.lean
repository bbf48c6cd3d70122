/- slices.Sort of numbers, maps.Clone of entries (the shelf's contracts at this program); the closures of List and Forget; slots. -/
import Derived.Test.YtpaoaagphacclaaA03
import Derived.Shelf.SortM.Plain
import Derived.Shelf.SortM.SortNone
import Derived.Shelf.SlMaps.Clone
import Derived.Sort.OwnSortedInts
import Derived.Maps.RangeWalk
import Derived.LoopTactic
namespace Go.Proofs.Ytpaoaagphacclaa.Acc
open Go.RowKit Go.Maps Go.Sort Go.Lib Go.Shelf
open Bal (TB bOk ckB ordV alloc_b)
set_option linter.unusedVariables false
set_option linter.unusedSimpArgs false
set_option maxRecDepth 20000

def sortI_ren : Go.Shelf.Ren := ⟨fun | 5 => 56 | 8 => 65 | 7 => 64 | 19 => 76 | 20 => 77 | 10 => 67 | 11 => 68 | 12 => 69 | 13 => 70 | 14 => 71 | 15 => 72 | 16 => 73 | 17 => 74 | 18 => 75 | 30 => 78 | 31 => 79 | 32 => 80 | 33 => 81 | 34 => 82 | 35 => 60 | 40 => 83 | n => n, fun | 23 => 81 | 25 => 3 | 3 => 3 | 32 => 97 | 22 => 81 | 0 => 0 | 44 => 107 | 46 => 58 | 4 => 4 | 36 => 100 | 35 => 99 | 41 => 104 | 5 => 5 | 9 => 9 | 53 => 108 | 57 => 112 | 63 => 114 | 64 => 115 | n => n, fun | n => n⟩
theorem sortI : Go.Proofs.SlLaysM.n5 Try.prog sortI_ren := {
  mixed := by kernel_rfl
  f5 := ⟨"slices.Sort[[]int,int]", by decide, Try.func56.trans (congrArg some (by kernel_rfl))⟩
  f7 := ⟨"slices.pdqsortOrdered[int]", by decide, Try.func64.trans (congrArg some (by kernel_rfl))⟩
  f8 := Try.func65.trans (congrArg some (by kernel_rfl))
  f10 := ⟨"slices.insertionSortOrdered[int]", by decide, Try.func67.trans (congrArg some (by kernel_rfl))⟩
  f11 := ⟨"slices.heapSortOrdered[int]", by decide, Try.func68.trans (congrArg some (by kernel_rfl))⟩
  f12 := ⟨"slices.breakPatternsOrdered[int]", by decide, Try.func69.trans (congrArg some (by kernel_rfl))⟩
  f13 := ⟨"slices.choosePivotOrdered[int]", by decide, Try.func70.trans (congrArg some (by kernel_rfl))⟩
  f14 := ⟨"slices.reverseRangeOrdered[int]", by decide, Try.func71.trans (congrArg some (by kernel_rfl))⟩
  f15 := ⟨"slices.partialInsertionSortOrdered[int]", by decide, Try.func72.trans (congrArg some (by kernel_rfl))⟩
  f16 := ⟨"cmp.Less[int]", by decide, Try.func73.trans (congrArg some (by kernel_rfl))⟩
  f17 := ⟨"slices.partitionEqualOrdered[int]", by decide, Try.func74.trans (congrArg some (by kernel_rfl))⟩
  f18 := ⟨"slices.partitionOrdered[int]", by decide, Try.func75.trans (congrArg some (by kernel_rfl))⟩
  f19 := Try.func76.trans (congrArg some (by kernel_rfl))
  f20 := Try.func77.trans (congrArg some (by kernel_rfl))
  f30 := ⟨"slices.siftDownOrdered[int]", by decide, Try.func78.trans (congrArg some (by kernel_rfl))⟩
  f31 := Try.func79.trans (congrArg some (by kernel_rfl))
  f32 := Try.func80.trans (congrArg some (by kernel_rfl))
  f33 := ⟨"slices.medianAdjacentOrdered[int]", by decide, Try.func81.trans (congrArg some (by kernel_rfl))⟩
  f34 := ⟨"slices.medianOrdered[int]", by decide, Try.func82.trans (congrArg some (by kernel_rfl))⟩
  f35 := ⟨"cmp.isNaN[int]", by decide, Try.func60.trans (congrArg some (by kernel_rfl))⟩
  f40 := ⟨"slices.order2Ordered[int]", by decide, Try.func83.trans (congrArg some (by kernel_rfl))⟩
  t0 := Try.underlying0
  a0 := Try.isAgg0
  z0 := Try.sizeOf0
  v0 := Try.zeroValue0
  t3 := Try.underlying3
  a3 := Try.isAgg3
  z3 := Try.sizeOf3
  v3 := Try.zeroValue3
  t4 := Try.underlying4
  a4 := Try.isAgg4
  z4 := Try.sizeOf4
  v4 := Try.zeroValue4
  t5 := Try.underlying5
  a5 := Try.isAgg5
  z5 := Try.sizeOf5
  v5 := Try.zeroValue5
  t9 := Try.underlying9
  a9 := Try.isAgg9
  z9 := Try.sizeOf9
  v9 := Try.zeroValue9
  t22 := Try.underlying81
  a22 := Try.isAgg81
  z22 := Try.sizeOf81
  v22 := Try.zeroValue81
  t23 := Try.underlying81
  a23 := Try.isAgg81
  z23 := Try.sizeOf81
  v23 := Try.zeroValue81
  t25 := Try.underlying3
  a25 := Try.isAgg3
  z25 := Try.sizeOf3
  v25 := Try.zeroValue3
  t32 := Try.underlying97
  a32 := Try.isAgg97
  z32 := Try.sizeOf97
  v32 := Try.zeroValue97
  t35 := Try.underlying99
  a35 := Try.isAgg99
  z35 := Try.sizeOf99
  v35 := Try.zeroValue99
  t36 := Try.underlying100
  a36 := Try.isAgg100
  z36 := Try.sizeOf100
  v36 := Try.zeroValue100
  t41 := Try.underlying104
  a41 := Try.isAgg104
  z41 := Try.sizeOf104
  v41 := Try.zeroValue104
  t44 := Try.underlying107
  a44 := Try.isAgg107
  z44 := Try.sizeOf107
  v44 := Try.zeroValue107
  t46 := Try.underlying58
  a46 := Try.isAgg58
  z46 := Try.sizeOf58
  v46 := Try.zeroValue58
  t53 := Try.underlying108
  a53 := Try.isAgg108
  z53 := Try.sizeOf108
  v53 := Try.zeroValue108
  t57 := Try.underlying112
  a57 := Try.isAgg112
  z57 := Try.sizeOf112
  v57 := Try.zeroValue112
  t63 := Try.underlying114
  a63 := Try.isAgg114
  z63 := Try.sizeOf114
  v63 := Try.zeroValue114
  t64 := Try.underlying115
  a64 := Try.isAgg115
  z64 := Try.sizeOf115
  v64 := Try.zeroValue115 }

def cloneI_ren : Go.Shelf.Ren := ⟨fun | 5 => 48 | 7 => 57 | n => n, fun | 23 => 52 | 25 => 3 | 3 => 45 | 4 => 4 | 20 => 20 | n => n, fun | n => n⟩
theorem cloneI : Go.Proofs.SlLaysW.n5 Try.prog cloneI_ren := {
  mixed := by kernel_rfl
  f5 := ⟨"maps.Clone[map[int]skald/api.Entry,int,skald/api.Entry]", by decide, Try.func48.trans (congrArg some (by kernel_rfl))⟩
  f7 := Try.func57.trans (congrArg some (by kernel_rfl))
  t4 := Try.underlying4
  a4 := Try.isAgg4
  z4 := Try.sizeOf4
  v4 := Try.zeroValue4
  t20 := Try.underlying20
  a20 := Try.isAgg20
  z20 := Try.sizeOf20
  v20 := Try.zeroValue20
  t23 := Try.underlying52
  a23 := Try.isAgg52
  z23 := Try.sizeOf52
  v23 := Try.zeroValue52 }
/-! Sorting. -/
theorem sort_any (base : Nat) (l : List Int) (v : Value) (w : World) (h : OwI base l v w) (hn : l.length ≤ 100000) :
    Calls Try.prog 56 #[v] w fun e w' => e = .returned (.tuple #[]) ∧ OwI base (l.mergeSort leI) v w' ∧ w.grownBy w' v.ownBlock := by
  have hl : (l.mergeSort leI).length = l.length := List.length_mergeSort l
  rcases h.2 with ⟨rfl, h0⟩ | ⟨g, cap, cur, rfl, hbg, hg, h1, h2, h3, h4⟩
  · have e0 : l = [] := List.eq_nil_of_length_eq_zero h0
    subst e0
    refine (AnyM.slices_Sort_int_none sortI none 0 w).mono ?_
    rintro e w' ⟨rfl, rfl⟩
    refine ⟨rfl, ?_, World.grownBy.refl w' _⟩
    rw [List.mergeSort_nil]
    exact h
  · have hH := holds_of_blockI (ss := l) hg (by rw [Nat.mul_one] at h4; exact h4)
    refine (AnyM.slices_Sort_int sortI g 0 cap l w hH (Array.getElem?_eq_some_iff.1 hg).1 (by omega)).mono ?_
    rintro e w' ⟨rfl, n, os, rfl⟩
    refine ⟨rfl, ?_, grownBy_sortedI _⟩
    have := ownsRow_sortedI (n := n) (os := os) (e := TI) hl hbg hg h1 h2 h3
    unfold OwI
    rw [hl]
    exact this
theorem clone_any {b n : Nat} {M : List Et} (w : World) (hown : w.ownsMap Try.prog TI rdE b n (DM M)) :
    Calls Try.prog 48 #[.map (some b)] w fun e w' => e = .returned (.map (some w.heap.size)) ∧ w'.ownsMap Try.prog TI rdE w.heap.size n (DM M) ∧ w'.ownsMap Try.prog TI rdE b n (DM M) ∧ Below w.heap.size w w' :=
  AnyW.maps_Clone_owns cloneI TI rdE b n (DM M) w hown
/-! The closures, and the slots that they want. -/
theorem wantL_any (c : Nat) (q x : Int) (w : World) (hc : w.cell? ⟨c, 0, none⟩ = some (.int .i64 q)) :
    Calls Try.prog 49 #[.int .i64 x, .pointer (some ⟨c, 0, none⟩)] w fun e w' => e = .returned (.bool (decide (q ≤ x))) ∧ w = w' := by
  go_enter Try.func49, Try.ntmps49
  go_wp2
  go_ret
  exact ⟨rfl, rfl⟩
set_option maxHeartbeats 2000000 in
theorem slotsL_any {sb mb : Nat} {M : List Et} (c : Nat) (q : Int) (w : World) (c4 : w.cell? ⟨sb, 4, none⟩ = some (.map (some mb))) (hown : w.ownsMap Try.prog TI rdE mb M.length (DM M)) (hlen : M.length ≤ 4096) (hsrt0 : Srt M) (hc : w.cell? ⟨c, 0, none⟩ = some (.int .i64 q)) :
    Calls Try.prog 46 #[.pointer (some ⟨sb, 0, none⟩), .func (.func 49) #[] #[.pointer (some ⟨c, 0, none⟩)]] w fun e w' =>
      ∃ v, e = .returned v ∧ OwI w.heap.size (keysM (M.filter fun e => decide (q ≤ e.s))) v w' ∧ Below w.heap.size w w' := by
  have hcl := World.block_lt_of_cell? w _ hc
  have hsrt := Lib.hid hsrt0
  have hlt := hown.lt
  have hW := Lib.hid (fun (k : Int) (W : World) (h : W.cell? ⟨c, 0, none⟩ = some (.int .i64 q)) => wantL_any c q k W h)
  have hS := Lib.hid (fun (l : List Int) (v : Value) (W : World) (h : OwI (w.heap.size + 1) l v W) (hn : l.length ≤ 100000) => sort_any (w.heap.size + 1) l v W h hn)
  clear hsrt0
  go_enter Try.func46, Try.ntmps46
  go_wp2_with (first
    | (at_range; refine wpList_range_own _ rfl _ TM rfl TI TE keyI Try.underlying52 _ mb M.length _ rfl hown ?_; intro w0 hrg0 hg0 hs0)
    | go_in)
  (try go_frame)
  have hb0 : Below w.heap.size w w0 := ⟨hg0.os, hg0.tape, hg0.output, hg0.size, fun k hk => hg0.block k hk (by simp)⟩
  clear c4
  go_loopw [5] (fun l wr => ∃ (left : Lit → Bool) (cnt : Nat) (ss : List Int), wr.ranges Try.prog TI rdE mb w.heap.size M.length (DM M) left cnt ∧ CollectedI (DM M) left ss ∧
      OwI (w.heap.size + 1) (ss.filter fun x => decide (q ≤ x)) l wr ∧ Below w.heap.size w wr ∧ w.heap.size + 1 ≤ wr.heap.size ∧ ss.length + cnt ≤ M.length)
    (fun _ wr => wr.rangeLeft mb w.heap.size)
  case atStart =>
    exact ⟨_, _, [], hrg0, CollectedI.start _, OwI.nil _ _, hb0, by omega, by rw [size_DM]; exact Nat.le_of_eq (Nat.zero_add _)⟩
  case round =>
    obtain ⟨left, cnt, ss, hrg, hC, hO, hB, hsz, hcn⟩ := hrel
    obtain ⟨la, lc, rfl⟩ := rows_form hO
    generalize hfl : (ss.filter fun x => decide (q ≤ x)).length = fl at *
    have hfl1 : fl ≤ 100000 := by
      have h2 := List.length_filter_le (fun x => decide (q ≤ x)) ss
      omega
    replace hfl := Lib.hid hfl
    have hO' := Lib.hid hO
    clear hO
    have HC := Lib.hid hC
    replace hcn := Lib.hid hcn
    go_wp2_with (first
      | (at_next; refine wpList_next_ranges _ rfl _ rfl TI keyI rdE encZ id (fun key kl hk => by obtain ⟨x, hx, _⟩ := Maps.keyOf_i64 Try.underlying3 hk; exact ⟨x, hx⟩) (fun v _ _ => ⟨v, rfl⟩) mb w.heap.size M.length _ _ _ rfl hrg ?_ ?_)
      | go_in)
    · intro hc0 hl0
      have hp := Lib.hid (hC.perm hown keyI Try.underlying3 hl0)
      go_wp2_with (go_at_call 56; refine (hS.out _ _ _ hO'.out (by have := hfl.out; omega)).mono ?_; rintro e w3 ⟨rfl, hO3, hg3⟩)
      go_ret
      rw [keys_sorted (p := fun x => decide (q ≤ x)) hsrt.out hp.out] at hO3
      have hlen3 : (keysM (M.filter fun e => decide (q ≤ e.s))).length = fl := by
        rw [← keys_sorted (p := fun x => decide (q ≤ x)) hsrt.out hp.out, List.length_mergeSort, hfl.out]
      exact ⟨_, rfl, rows_base hO3 (by omega), own_below hO'.out hg3 hB (by omega)⟩
    · intro k vv kl yd yp w2 cnt2 hkey hlk hv hat hrg2 hlt2 hg2 hs2 hen
      obtain ⟨k', ek, rfl, _⟩ := Maps.keyOf_i64 Try.underlying3 hkey
      obtain rfl : k = k' := encZ_inj ek
      have hB2 : Below w.heap.size w w2 := hB.grown hg2 hB.size (fun k e => by cases e; exact Nat.le_refl _)
      have hO2 : OwI (w.heap.size + 1) (ss.filter fun x => decide (q ≤ x)) _ w2 := rows_kept hO'.out fun g hg => hg2.block g (World.ownsRow.lt hO'.out g hg).2 (fun e => by cases e; have := (World.ownsRow.lt hO'.out _ hg).1; omega)
      have hc2 : w2.cell? ⟨c, 0, none⟩ = some (.int .i64 q) := (hB2.cell (p := ⟨c, 0, none⟩) hcl).trans hc
      have hst := Lib.hid (hC.step hlk hat)
      have hsz2 : w.heap.size + 1 ≤ w2.heap.size := by omega
      have hff : ∀ b, decide (q ≤ k) = b → (ss ++ [k]).filter (fun x => decide (q ≤ x)) = (ss.filter fun x => decide (q ≤ x)) ++ (if b then [k] else []) := fun b hb => by
        rw [List.filter_append]
        congr 1
        rw [List.filter_cons, hb]
        cases b <;> rfl
      replace hff := Lib.hid hff
      replace hO2 := Lib.hid hO2
      have hcn2 := Lib.hid (show (ss ++ [k]).length + cnt2 ≤ M.length by have := hcn.out; rw [List.length_append]; simp only [List.length_cons, List.length_nil]; omega)
      have hmeas := Lib.hid (show w2.rangeLeft mb w.heap.size < wr.rangeLeft mb w.heap.size by rw [hrg2.left_eq, hrg.left_eq]; exact hlt2)
      clear hs2 hlt2 hkey hv hat hg2
      cases hd : decide (q ≤ k) with
      | false =>
        have ef := Lib.hid (hff.out _ hd)
        have HD := Lib.hid hd
        clear hd
        go_wp2_with (go_at_call 49; refine (hW.out _ _ hc2).mono ?_; rintro e w3 ⟨rfl, rfl⟩; rw [HD.out])
        go_roundw
        case rel => exact ⟨_, cnt2, ss ++ [k], hrg2, hst.out, by rw [ef.out]; simpa using hO2.out, hB2, hsz2, hcn2.out⟩
        case measure => exact hmeas.out
      | true =>
        have ef := Lib.hid (hff.out _ hd)
        have HD := Lib.hid hd
        clear hd
        have hrg3 := hrg2.alloc (.cells #[.int .i64 k] TI)
        have hB3 := hB2.alloc hB2.size (.cells #[.int .i64 k] TI)
        have hO3 : OwI (w.heap.size + 1) (ss.filter fun x => decide (q ≤ x)) _ (w2.alloc (.cells #[.int .i64 k] TI)) := rows_later hO2.out (alloc_b _ _)
        have hk3 := cell_of_row (w2.alloc (.cells #[.int .i64 k] TI)) _ 0 _ TI _ (heap_alloc_new w2 (.cells #[.int .i64 k] TI))
        have hsz3 : (w2.alloc (.cells #[.int .i64 k] TI)).heap.size = w2.heap.size + 1 := by show (w2.heap.push _).size = _; rw [Array.size_push]
        replace hO3 := Lib.hid hO3
        have hk3' := Lib.hid hk3
        have hsz3' := Lib.hid hsz3
        clear hk3 hsz3
        go_wp2_with (first
          | (go_at_call 49; refine (hW.out _ _ hc2).mono ?_; rintro e w3 ⟨rfl, rfl⟩; rw [HD.out])
          | (at_builtin; refine wpList_append_i rfl _ _ rfl (w.heap.size + 1) _ _ rfl hO3.out w2.heap.size _ k rfl hk3'.out (by have := hfl.out; omega) (by rw [hsz3'.out]; omega) ?_; intro v4 w4 hO4 hg4))
        have hrg4 := hrg3.kept hg4 (by intro e; have := (World.ownsRow.lt hO3.out _ e.symm).1; omega) (by intro e; have := (World.ownsRow.lt hO3.out _ e.symm).1; omega)
        have hB4 : Below w.heap.size w w4 := own_below hO3.out hg4 hB3 (by omega)
        have hsz4 := hg4.size
        go_roundw
        case rel => exact ⟨_, cnt2, ss ++ [k], hrg4, hst.out, by rw [ef.out]; simpa using hO4, hB4, by rw [hsz3'.out] at hsz4; omega, hcn2.out⟩
        case measure => rw [hrg4.left_eq, ← hrg2.left_eq]; exact hmeas.out
theorem wantF_any (c : Nat) (q x : Int) (w : World) (hc : w.cell? ⟨c, 0, none⟩ = some (.int .i64 q)) :
    Calls Try.prog 47 #[.int .i64 x, .pointer (some ⟨c, 0, none⟩)] w fun e w' => e = .returned (.bool (decide (x < q))) ∧ w = w' := by
  go_enter Try.func47, Try.ntmps47
  go_wp2
  go_ret
  exact ⟨rfl, rfl⟩
set_option maxHeartbeats 2000000 in
theorem slotsF_any {sb mb : Nat} {M : List Et} (c : Nat) (q : Int) (w : World) (c4 : w.cell? ⟨sb, 4, none⟩ = some (.map (some mb))) (hown : w.ownsMap Try.prog TI rdE mb M.length (DM M)) (hlen : M.length ≤ 4096) (hsrt0 : Srt M) (hc : w.cell? ⟨c, 0, none⟩ = some (.int .i64 q)) :
    Calls Try.prog 46 #[.pointer (some ⟨sb, 0, none⟩), .func (.func 47) #[] #[.pointer (some ⟨c, 0, none⟩)]] w fun e w' =>
      ∃ v, e = .returned v ∧ OwI w.heap.size (keysM (M.filter fun e => decide (e.s < q))) v w' ∧ Below w.heap.size w w' := by
  have hcl := World.block_lt_of_cell? w _ hc
  have hsrt := Lib.hid hsrt0
  have hlt := hown.lt
  have hW := Lib.hid (fun (k : Int) (W : World) (h : W.cell? ⟨c, 0, none⟩ = some (.int .i64 q)) => wantF_any c q k W h)
  have hS := Lib.hid (fun (l : List Int) (v : Value) (W : World) (h : OwI (w.heap.size + 1) l v W) (hn : l.length ≤ 100000) => sort_any (w.heap.size + 1) l v W h hn)
  clear hsrt0
  go_enter Try.func46, Try.ntmps46
  go_wp2_with (first
    | (at_range; refine wpList_range_own _ rfl _ TM rfl TI TE keyI Try.underlying52 _ mb M.length _ rfl hown ?_; intro w0 hrg0 hg0 hs0)
    | go_in)
  (try go_frame)
  have hb0 : Below w.heap.size w w0 := ⟨hg0.os, hg0.tape, hg0.output, hg0.size, fun k hk => hg0.block k hk (by simp)⟩
  clear c4
  go_loopw [5] (fun l wr => ∃ (left : Lit → Bool) (cnt : Nat) (ss : List Int), wr.ranges Try.prog TI rdE mb w.heap.size M.length (DM M) left cnt ∧ CollectedI (DM M) left ss ∧
      OwI (w.heap.size + 1) (ss.filter fun x => decide (x < q)) l wr ∧ Below w.heap.size w wr ∧ w.heap.size + 1 ≤ wr.heap.size ∧ ss.length + cnt ≤ M.length)
    (fun _ wr => wr.rangeLeft mb w.heap.size)
  case atStart =>
    exact ⟨_, _, [], hrg0, CollectedI.start _, OwI.nil _ _, hb0, by omega, by rw [size_DM]; exact Nat.le_of_eq (Nat.zero_add _)⟩
  case round =>
    obtain ⟨left, cnt, ss, hrg, hC, hO, hB, hsz, hcn⟩ := hrel
    obtain ⟨la, lc, rfl⟩ := rows_form hO
    generalize hfl : (ss.filter fun x => decide (x < q)).length = fl at *
    have hfl1 : fl ≤ 100000 := by
      have h2 := List.length_filter_le (fun x => decide (x < q)) ss
      omega
    replace hfl := Lib.hid hfl
    have hO' := Lib.hid hO
    clear hO
    have HC := Lib.hid hC
    replace hcn := Lib.hid hcn
    go_wp2_with (first
      | (at_next; refine wpList_next_ranges _ rfl _ rfl TI keyI rdE encZ id (fun key kl hk => by obtain ⟨x, hx, _⟩ := Maps.keyOf_i64 Try.underlying3 hk; exact ⟨x, hx⟩) (fun v _ _ => ⟨v, rfl⟩) mb w.heap.size M.length _ _ _ rfl hrg ?_ ?_)
      | go_in)
    · intro hc0 hl0
      have hp := Lib.hid (hC.perm hown keyI Try.underlying3 hl0)
      go_wp2_with (go_at_call 56; refine (hS.out _ _ _ hO'.out (by have := hfl.out; omega)).mono ?_; rintro e w3 ⟨rfl, hO3, hg3⟩)
      go_ret
      rw [keys_sorted (p := fun x => decide (x < q)) hsrt.out hp.out] at hO3
      have hlen3 : (keysM (M.filter fun e => decide (e.s < q))).length = fl := by
        rw [← keys_sorted (p := fun x => decide (x < q)) hsrt.out hp.out, List.length_mergeSort, hfl.out]
      exact ⟨_, rfl, rows_base hO3 (by omega), own_below hO'.out hg3 hB (by omega)⟩
    · intro k vv kl yd yp w2 cnt2 hkey hlk hv hat hrg2 hlt2 hg2 hs2 hen
      obtain ⟨k', ek, rfl, _⟩ := Maps.keyOf_i64 Try.underlying3 hkey
      obtain rfl : k = k' := encZ_inj ek
      have hB2 : Below w.heap.size w w2 := hB.grown hg2 hB.size (fun k e => by cases e; exact Nat.le_refl _)
      have hO2 : OwI (w.heap.size + 1) (ss.filter fun x => decide (x < q)) _ w2 := rows_kept hO'.out fun g hg => hg2.block g (World.ownsRow.lt hO'.out g hg).2 (fun e => by cases e; have := (World.ownsRow.lt hO'.out _ hg).1; omega)
      have hc2 : w2.cell? ⟨c, 0, none⟩ = some (.int .i64 q) := (hB2.cell (p := ⟨c, 0, none⟩) hcl).trans hc
      have hst := Lib.hid (hC.step hlk hat)
      have hsz2 : w.heap.size + 1 ≤ w2.heap.size := by omega
      have hff : ∀ b, decide (k < q) = b → (ss ++ [k]).filter (fun x => decide (x < q)) = (ss.filter fun x => decide (x < q)) ++ (if b then [k] else []) := fun b hb => by
        rw [List.filter_append]
        congr 1
        rw [List.filter_cons, hb]
        cases b <;> rfl
      replace hff := Lib.hid hff
      replace hO2 := Lib.hid hO2
      have hcn2 := Lib.hid (show (ss ++ [k]).length + cnt2 ≤ M.length by have := hcn.out; rw [List.length_append]; simp only [List.length_cons, List.length_nil]; omega)
      have hmeas := Lib.hid (show w2.rangeLeft mb w.heap.size < wr.rangeLeft mb w.heap.size by rw [hrg2.left_eq, hrg.left_eq]; exact hlt2)
      clear hs2 hlt2 hkey hv hat hg2
      cases hd : decide (k < q) with
      | false =>
        have ef := Lib.hid (hff.out _ hd)
        have HD := Lib.hid hd
        clear hd
        go_wp2_with (go_at_call 47; refine (hW.out _ _ hc2).mono ?_; rintro e w3 ⟨rfl, rfl⟩; rw [HD.out])
        go_roundw
        case rel => exact ⟨_, cnt2, ss ++ [k], hrg2, hst.out, by rw [ef.out]; simpa using hO2.out, hB2, hsz2, hcn2.out⟩
        case measure => exact hmeas.out
      | true =>
        have ef := Lib.hid (hff.out _ hd)
        have HD := Lib.hid hd
        clear hd
        have hrg3 := hrg2.alloc (.cells #[.int .i64 k] TI)
        have hB3 := hB2.alloc hB2.size (.cells #[.int .i64 k] TI)
        have hO3 : OwI (w.heap.size + 1) (ss.filter fun x => decide (x < q)) _ (w2.alloc (.cells #[.int .i64 k] TI)) := rows_later hO2.out (alloc_b _ _)
        have hk3 := cell_of_row (w2.alloc (.cells #[.int .i64 k] TI)) _ 0 _ TI _ (heap_alloc_new w2 (.cells #[.int .i64 k] TI))
        have hsz3 : (w2.alloc (.cells #[.int .i64 k] TI)).heap.size = w2.heap.size + 1 := by show (w2.heap.push _).size = _; rw [Array.size_push]
        replace hO3 := Lib.hid hO3
        have hk3' := Lib.hid hk3
        have hsz3' := Lib.hid hsz3
        clear hk3 hsz3
        go_wp2_with (first
          | (go_at_call 47; refine (hW.out _ _ hc2).mono ?_; rintro e w3 ⟨rfl, rfl⟩; rw [HD.out])
          | (at_builtin; refine wpList_append_i rfl _ _ rfl (w.heap.size + 1) _ _ rfl hO3.out w2.heap.size _ k rfl hk3'.out (by have := hfl.out; omega) (by rw [hsz3'.out]; omega) ?_; intro v4 w4 hO4 hg4))
        have hrg4 := hrg3.kept hg4 (by intro e; have := (World.ownsRow.lt hO3.out _ e.symm).1; omega) (by intro e; have := (World.ownsRow.lt hO3.out _ e.symm).1; omega)
        have hB4 : Below w.heap.size w w4 := own_below hO3.out hg4 hB3 (by omega)
        have hsz4 := hg4.size
        go_roundw
        case rel => exact ⟨_, cnt2, ss ++ [k], hrg4, hst.out, by rw [ef.out]; simpa using hO4, hB4, by rw [hsz3'.out] at hsz4; omega, hcn2.out⟩
        case measure => rw [hrg4.left_eq, ← hrg2.left_eq]; exact hmeas.out
end Go.Proofs.Ytpaoaagphacclaa.Acc
