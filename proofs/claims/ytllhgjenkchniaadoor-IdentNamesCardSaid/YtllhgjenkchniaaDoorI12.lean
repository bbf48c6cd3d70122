/- The reader: an item. -/
import Derived.Test.YtllhgjenkchniaaDoorI11
namespace Go.Proofs.YtllhgjenkchniaaDoor.Ident
open Go.RowKit Go.Lib
set_option linter.unusedVariables false
set_option linter.unusedSimpArgs false
set_option maxRecDepth 20000

def it0 : It := ⟨0, 0, 0, 0, false, 0⟩
/-- Where the reader reads an item: the reader, the result's box and the variable's. -/
structure IAt (w : World) (b : Nat) (r : Rd) (x : It) (W : World) : Prop where
  rd : RdAt W b r
  rb : W.heap[w.heap.size]? = some (itB it0)
  eb : W.heap[w.heap.size + 1]? = some (itB x)
  but : But b w W
  hv : Hv W
  lt : b < w.heap.size
theorem IAt.call {w W W' : World} {b : Nat} {r r' : Rd} {x : It} (h : IAt w b r x W) (hf : Far b) (hr : RdAt W' b r') (hb : But b W W') : IAt w b r' x W' := by
  have h1 := (Array.getElem?_eq_some_iff.1 h.rb).1
  have h2 := (Array.getElem?_eq_some_iff.1 h.eb).1
  have := h.lt
  exact ⟨hr, (hb.block _ h1 (by omega)).trans h.rb, (hb.block _ h2 (by omega)).trans h.eb, h.but.trans hb, h.hv.but hb hf, h.lt⟩
theorem IAt.set {w W : World} {b : Nat} {r : Rd} {x y : It} (h : IAt w b r x W) (hH : Hv w) (k : Nat) (v : Value)
    (he : (W.setCell ⟨w.heap.size + 1, k, none⟩ v).heap[w.heap.size + 1]? = some (itB y)) : IAt w b r y (W.setCell ⟨w.heap.size + 1, k, none⟩ v) := by
  have := h.lt
  exact ⟨(Below.heap_setCell _ _ _ _ (by show b ≠ w.heap.size + 1; omega)).trans h.rd, (Below.heap_setCell _ _ _ _ (by show w.heap.size ≠ w.heap.size + 1; omega)).trans h.rb, he, far_set h.but (by omega), hv_set h.hv (hH.far (by omega)), h.lt⟩
theorem IAt.setM {w W : World} {b : Nat} {r : Rd} {x : It} (h : IAt w b r x W) (hH : Hv w) (v : Int) : IAt w b r { x with m := v } (W.setCell ⟨w.heap.size + 1, 3, none⟩ (.int .i64 v)) := h.set hH 3 _ (heap_setCell_same W _ 3 _ _ _ h.eb)
theorem IAt.setI {w W : World} {b : Nat} {r : Rd} {x : It} (h : IAt w b r x W) (hH : Hv w) (v : Bool) : IAt w b r { x with i := v } (W.setCell ⟨w.heap.size + 1, 4, none⟩ (.bool v)) := h.set hH 4 _ (heap_setCell_same W _ 4 _ _ _ h.eb)
theorem IAt.setG {w W : World} {b : Nat} {r : Rd} {x : It} (h : IAt w b r x W) (hH : Hv w) (v : Int) : IAt w b r { x with g := v } (W.setCell ⟨w.heap.size + 1, 5, none⟩ (.int .i64 v)) := h.set hH 5 _ (heap_setCell_same W _ 5 _ _ _ h.eb)
theorem IAt.setA {w W : World} {b : Nat} {r : Rd} {x : It} (h : IAt w b r x W) (hH : Hv w) (v : Int) : IAt w b r { x with a := v } (W.setCell ⟨w.heap.size + 1, 0, none⟩ (.int .i64 v)) := h.set hH 0 _ (heap_setCell_same W _ 0 _ _ _ h.eb)
theorem IAt.setB {w W : World} {b : Nat} {r : Rd} {x : It} (h : IAt w b r x W) (hH : Hv w) (v : Int) : IAt w b r { x with b := v } (W.setCell ⟨w.heap.size + 1, 1, none⟩ (.int .i64 v)) := h.set hH 1 _ (heap_setCell_same W _ 1 _ _ _ h.eb)
theorem IAt.setP {w W : World} {b : Nat} {r : Rd} {x : It} (h : IAt w b r x W) (hH : Hv w) (v : Int) : IAt w b r { x with p := v } (W.setCell ⟨w.heap.size + 1, 2, none⟩ (.int .i64 v)) := h.set hH 2 _ (heap_setCell_same W _ 2 _ _ _ h.eb)
theorem ib_cells {W : World} {q : Nat} {x : It} (h : W.heap[q]? = some (itB x)) : W.cell? ⟨q, 0, none⟩ = some (.int .i64 x.a) ∧ W.cell? ⟨q, 1, none⟩ = some (.int .i64 x.b) ∧ W.cell? ⟨q, 2, none⟩ = some (.int .i64 x.p) ∧ W.cell? ⟨q, 3, none⟩ = some (.int .i64 x.m) ∧ W.cell? ⟨q, 4, none⟩ = some (.bool x.i) ∧ W.cell? ⟨q, 5, none⟩ = some (.int .i64 x.g) ∧ (∀ i, W.frozen? ⟨q, i, none⟩ = false) :=
  ⟨cell_of_row W _ 0 _ TI _ h, cell_of_row W _ 1 _ TI _ h, cell_of_row W _ 2 _ TI _ h, cell_of_row W _ 3 _ TI _ h, cell_of_row W _ 4 _ TI _ h, cell_of_row W _ 5 _ TI _ h, fun i => frozen_of_row W _ i _ TI h⟩
/-- Six stores into a box. -/
def set6 (W : World) (q : Nat) (x : It) : World := (((((W.setCell ⟨q, 0, none⟩ (.int .i64 x.a)).setCell ⟨q, 1, none⟩ (.int .i64 x.b)).setCell ⟨q, 2, none⟩ (.int .i64 x.p)).setCell ⟨q, 3, none⟩ (.int .i64 x.m)).setCell ⟨q, 4, none⟩ (.bool x.i)).setCell ⟨q, 5, none⟩ (.int .i64 x.g)
theorem set6_blk {W : World} {q : Nat} {y : It} (h : W.heap[q]? = some (itB y)) (x : It) : (set6 W q x).heap[q]? = some (itB x) := by
  have h1 := heap_setCell_same W q 0 _ _ (.int .i64 x.a) h
  have h2 := heap_setCell_same _ q 1 _ _ (.int .i64 x.b) h1
  have h3 := heap_setCell_same _ q 2 _ _ (.int .i64 x.p) h2
  have h4 := heap_setCell_same _ q 3 _ _ (.int .i64 x.m) h3
  have h5 := heap_setCell_same _ q 4 _ _ (.bool x.i) h4
  exact heap_setCell_same _ q 5 _ _ (.int .i64 x.g) h5
theorem set6_but {b : Nat} {w W : World} {q : Nat} (h : But b w W) (hq : w.heap.size ≤ q) (x : It) : But b w (set6 W q x) := far_set (far_set (far_set (far_set (far_set (far_set h hq) hq) hq) hq) hq) hq
theorem set6_other (W : World) (q k : Nat) (x : It) (h : k ≠ q) : (set6 W q x).heap[k]? = W.heap[k]? := by
  unfold set6
  rw [Below.heap_setCell _ _ _ _ h, Below.heap_setCell _ _ _ _ h, Below.heap_setCell _ _ _ _ h, Below.heap_setCell _ _ _ _ h, Below.heap_setCell _ _ _ _ h, Below.heap_setCell _ _ _ _ h]
theorem set6_below {B : Nat} {w W : World} {q : Nat} (h : Below B w W) (hq : B ≤ q) (x : It) : Below B w (set6 W q x) := (((((h.setCell (p := ⟨q, 0, none⟩) hq _).setCell (p := ⟨q, 1, none⟩) hq _).setCell (p := ⟨q, 2, none⟩) hq _).setCell (p := ⟨q, 3, none⟩) hq _).setCell (p := ⟨q, 4, none⟩) hq _).setCell (p := ⟨q, 5, none⟩) hq _
theorem res6 {fn : Func} {t : Tmp} (hfn : fn.results = #[.cell t TI]) (tmps : Array Value) (W : World) (q : Nat) (h : tmps[t]?.getD undef = .pointer (some ⟨q, 0, none⟩)) {x : It} (hb : W.heap[q]? = some (itB x)) : (results fn tmps).run Tryd.prog W = .ok (itV x) W := by
  obtain ⟨z0, z1, z2, z3, z4, z5, _⟩ := ib_cells hb
  simp [results, hfn, h, go_sem, z0, z1, z2, z3, z4, z5, itV]
theorem res6e {fn : Func} {t u : Tmp} (hfn : fn.results = #[.cell t TI, .tmp u]) (tmps : Array Value) (W : World) (q : Nat) (h : tmps[t]?.getD undef = .pointer (some ⟨q, 0, none⟩)) {x : It} (hb : W.heap[q]? = some (itB x)) : (results fn tmps).run Tryd.prog W = .ok (.tuple #[itV x, tmps.getD u undef]) W := by
  obtain ⟨z0, z1, z2, z3, z4, z5, _⟩ := ib_cells hb
  simp [results, hfn, h, go_sem, z0, z1, z2, z3, z4, z5, itV]
theorem iat_new {w : World} {b : Nat} {r : Rd} (hr : RdAt w b r) (hH : Hv w) :
    IAt w b r it0 ((w.alloc (.cells #[.int .i64 0, .int .i64 0, .int .i64 0, .int .i64 0, .bool false, .int .i64 0] TI)).alloc (.cells #[.int .i64 0, .int .i64 0, .int .i64 0, .int .i64 0, .bool false, .int .i64 0] TI)) := by
  have hb : Below w.heap.size w (w.alloc (.cells #[.int .i64 0, .int .i64 0, .int .i64 0, .int .i64 0, .bool false, .int .i64 0] TI)) := (Below.refl _ _).alloc (Nat.le_refl _) _
  have hs : (w.alloc (.cells #[.int .i64 0, .int .i64 0, .int .i64 0, .int .i64 0, .bool false, .int .i64 0] TI)).heap.size = w.heap.size + 1 := by show (w.heap.push _).size = _; rw [Array.size_push]
  have hb2 : Below w.heap.size w ((w.alloc (.cells #[.int .i64 0, .int .i64 0, .int .i64 0, .int .i64 0, .bool false, .int .i64 0] TI)).alloc (.cells #[.int .i64 0, .int .i64 0, .int .i64 0, .int .i64 0, .bool false, .int .i64 0] TI)) := hb.alloc (by omega) _
  refine ⟨hr.later hb2, ?_, ?_, But.of_below hb2, hH.later hb2, hr.lt⟩
  · rw [Below.heap_alloc _ _ _ (by omega)]; exact heap_alloc_new _ _
  · rw [← hs]; exact heap_alloc_new _ _
theorem phR_len (r : Rd) : (phR r).rest.length ≤ r.rest.length := by
  unfold phR
  split
  · exact Nat.le_refl _
  · show (r.rest.drop 1).length ≤ _
    rw [List.length_drop]; omega
theorem effR_len (r : Rd) : (effR r).rest.length ≤ r.rest.length :=
  Nat.le_trans (phR_len _) (Nat.le_trans (need_len _ _) (Nat.le_trans (num_len _).2 (eff1_len r)))
theorem trim_len (l p : List UInt8) : (trimPrefix l p).length ≤ l.length := by
  unfold trimPrefix
  split
  · rw [List.length_drop]; omega
  · exact Nat.le_refl _
theorem itG_len (r : Rd) : (itG r).rest.length ≤ r.rest.length := by
  refine Nat.le_trans (need_len _ _) ?_
  unfold itH
  split
  · have h1 : (way1 r).rest.length ≤ r.rest.length := Nat.le_trans (need_len _ _) (Nat.le_trans (num_len _).2 (trim_len _ _))
    have h2 : (way2 r).rest.length ≤ (way1 r).rest.length := trim_len _ _
    unfold way3
    split
    · omega
    · have := need_len [111, 117, 116] (way2 r); omega
  · exact effR_len r

theorem rd_item (b : Nat) (r : Rd) (w : World) (hr : RdAt w b r) (hH : Hv w) (hf : Far b) (hl : r.rest.length ≤ 100000000) :
    Calls Tryd.prog 45 #[.pointer (some ⟨b, 0, none⟩)] w fun e w' => e = .returned (itV (itX r)) ∧ RdAt w' b (itR r) ∧ But b w w' := by
  have I0 := Lib.hid (iat_new hr hH)
  have hfb := Lib.hid hf
  have lG := Lib.hid (Nat.le_trans (itG_len r) hl)
  have hN := Lib.hid (fun W (h : RdAt W b (itG r)) (hH : Hv W) => number_any b (itG r) W h hH hfb.out lG.out)
  cases hp : hasPrefix r.rest [109] with
  | false =>
    have hsk := fun W hr => skip_any b r [109] W hr
    rw [hp, trim_no hp] at hsk
    replace hsk := Lib.hid hsk
    have hE := Lib.hid (fun W h hH => rd_effect b r W h hH hf hl)
    have hG := Lib.hid (show need [64] (effR r) = itG r by unfold itG itH; rw [if_neg (by simp [hp])])
    have hX := Lib.hid (show itX r = ⟨effA r, effB r, (effP r : Nat), 0, false, numV (itG r).rest⟩ by unfold itX; rw [if_neg (by simp [hp])])
    clear hp hl
    go_enter Tryd.func45, Tryd.ntmps45
    go_wp2_with fail
    refine (hsk.out _ I0.out.rd).mono ?_
    rintro e w1 ⟨rfl, hr1, hb1⟩
    have I1 := Lib.hid (I0.out.call hfb.out hr1 hb1)
    clear I0 hr1 hb1 hsk
    go_wp2_with fail
    refine (hE.out _ I1.out.rd I1.out.hv).mono ?_
    rintro e w2 ⟨rfl, hr2, hb2⟩
    have I2 := Lib.hid (I1.out.call hfb.out hr2 hb2)
    obtain ⟨x0, x1, x2, x3, x4, x5, fz⟩ := ib_cells I2.out.eb
    have I3 := Lib.hid (((I2.out.setA hH (effA r)).setB hH (effB r)).setP hH (effP r : Nat))
    clear I1 hr2 hb2 I2 hE
    unfold effV
    go_wp2_with fail
    refine (need_any b _ [64] _ I3.out.rd).mono ?_
    rintro e w7 ⟨rfl, hr7, hb7⟩
    rw [hG.out] at hr7
    have I7 := Lib.hid (I3.out.call hfb.out hr7 hb7)
    clear I3 hr7 hb7 x0 x1 x2 x3 x4 x5 fz
    go_wp2_with fail
    refine (hN.out _ I7.out.rd I7.out.hv).mono ?_
    rintro e w8 ⟨rfl, hr8, hb8⟩
    have I8 := Lib.hid (I7.out.call hfb.out hr8 hb8)
    clear I7 hr8 hb8
    obtain ⟨x0, x1, x2, x3, x4, x5, fz⟩ := ib_cells I8.out.eb
    obtain ⟨y0, y1, y2, y3, y4, y5, fzr⟩ := ib_cells I8.out.rb
    have I9 := Lib.hid (I8.out.setG hH (numV (itG r).rest))
    clear I8
    go_wp2
    have hbx := set6_blk I9.out.rb (itX r)
    have hbt := set6_but I9.out.but (Nat.le_refl _) (itX r)
    have hrd : RdAt (set6 _ w.heap.size (itX r)) b (itR r) := (set6_other _ w.heap.size b (itX r) (by have := I9.out.lt; omega)).trans I9.out.rd
    rw [hX.out] at hbx hbt hrd ⊢
    exact bodyPost_ret (res6 Tryd.results45 _ _ w.heap.size rfl hbx) rfl ⟨rfl, hrd, hbt⟩
  | true =>
    have hsk := fun W hr => skip_any b r [109] W hr
    rw [hp] at hsk
    replace hsk := Lib.hid hsk
    have hX := Lib.hid (show itX r = ⟨0, 0, 0, wayM r, wayI r, numV (itG r).rest⟩ by unfold itX; rw [if_pos hp])
    have hG := Lib.hid (show need [64] (way3 r) = itG r by unfold itG itH; rw [if_pos hp])
    have hM := Lib.hid (fun W h hH => number_any b ⟨trimPrefix r.rest [109], r.wrong⟩ W h hH hf (Nat.le_trans (trim_len r.rest [109]) hl))
    have hS := fun W hr => skip_any b (way1 r) [105, 110] W hr
    have hw3 : way3 r = if wayI r then way2 r else need [111, 117, 116] (way2 r) := rfl
    have hWI : hasPrefix (way1 r).rest [105, 110] = wayI r := rfl
    rw [hWI] at hS
    replace hw3 := Lib.hid hw3
    clear hp hl hWI
    cases hwi : wayI r with
    | true =>
      rw [hwi] at hS hX hw3
      have hw3 := Lib.hid (show way3 r = way2 r from hw3.out)
      rw [hw3.out] at hG
      replace hS := Lib.hid hS
      clear hwi
      go_enter Tryd.func45, Tryd.ntmps45
      go_wp2_with fail
      refine (hsk.out _ I0.out.rd).mono ?_
      rintro e w1 ⟨rfl, hr1, hb1⟩
      have I1 := Lib.hid (I0.out.call hfb.out hr1 hb1)
      clear I0 hr1 hb1 hsk
      go_wp2_with fail
      refine (hM.out _ I1.out.rd I1.out.hv).mono ?_
      rintro e w2 ⟨rfl, hr2, hb2⟩
      have I2 := Lib.hid (I1.out.call hfb.out hr2 hb2)
      obtain ⟨x0, x1, x2, x3, x4, x5, fz⟩ := ib_cells I2.out.eb
      have I3 := Lib.hid (I2.out.setM hH (wayM r))
      clear I1 hr2 hb2 I2 hM
      go_wp2_with fail
      refine (need_any b _ [47] _ I3.out.rd).mono ?_
      rintro e w3 ⟨rfl, hr3, hb3⟩
      have I4 := Lib.hid (I3.out.call (r' := way1 r) hfb.out hr3 hb3)
      clear I3 hr3 hb3 x0 x1 x2 x3 x4 x5 fz
      go_wp2_with fail
      refine (hS.out _ I4.out.rd).mono ?_
      rintro e w4 ⟨rfl, hr4, hb4⟩
      have I5 := Lib.hid (I4.out.call (r' := way2 r) hfb.out hr4 hb4)
      obtain ⟨x0, x1, x2, x3, x4, x5, fz⟩ := ib_cells I5.out.eb
      have I6 := Lib.hid (I5.out.setI hH true)
      clear I4 hr4 hb4 I5
      go_wp2_with fail
      refine (need_any b _ [64] _ I6.out.rd).mono ?_
      rintro e w7 ⟨rfl, hr7, hb7⟩
      rw [hG.out] at hr7
      have I7 := Lib.hid (I6.out.call hfb.out hr7 hb7)
      clear I6 hr7 hb7 x0 x1 x2 x3 x4 x5 fz
      go_wp2_with fail
      refine (hN.out _ I7.out.rd I7.out.hv).mono ?_
      rintro e w8 ⟨rfl, hr8, hb8⟩
      have I8 := Lib.hid (I7.out.call hfb.out hr8 hb8)
      clear I7 hr8 hb8
      obtain ⟨x0, x1, x2, x3, x4, x5, fz⟩ := ib_cells I8.out.eb
      obtain ⟨y0, y1, y2, y3, y4, y5, fzr⟩ := ib_cells I8.out.rb
      have I9 := Lib.hid (I8.out.setG hH (numV (itG r).rest))
      clear I8
      go_wp2
      have hbx := set6_blk I9.out.rb (itX r)
      have hbt := set6_but I9.out.but (Nat.le_refl _) (itX r)
      have hrd : RdAt (set6 _ w.heap.size (itX r)) b (itR r) := (set6_other _ w.heap.size b (itX r) (by have := I9.out.lt; omega)).trans I9.out.rd
      rw [hX.out] at hbx hbt hrd ⊢
      exact bodyPost_ret (res6 Tryd.results45 _ _ w.heap.size rfl hbx) rfl ⟨rfl, hrd, hbt⟩
    | false =>
      rw [hwi] at hS hX hw3
      have hw3 := Lib.hid (show way3 r = need [111, 117, 116] (way2 r) from hw3.out)
      replace hS := Lib.hid hS
      clear hwi
      go_enter Tryd.func45, Tryd.ntmps45
      go_wp2_with fail
      refine (hsk.out _ I0.out.rd).mono ?_
      rintro e w1 ⟨rfl, hr1, hb1⟩
      have I1 := Lib.hid (I0.out.call hfb.out hr1 hb1)
      clear I0 hr1 hb1 hsk
      go_wp2_with fail
      refine (hM.out _ I1.out.rd I1.out.hv).mono ?_
      rintro e w2 ⟨rfl, hr2, hb2⟩
      have I2 := Lib.hid (I1.out.call hfb.out hr2 hb2)
      obtain ⟨x0, x1, x2, x3, x4, x5, fz⟩ := ib_cells I2.out.eb
      have I3 := Lib.hid (I2.out.setM hH (wayM r))
      clear I1 hr2 hb2 I2 hM
      go_wp2_with fail
      refine (need_any b _ [47] _ I3.out.rd).mono ?_
      rintro e w3 ⟨rfl, hr3, hb3⟩
      have I4 := Lib.hid (I3.out.call (r' := way1 r) hfb.out hr3 hb3)
      clear I3 hr3 hb3 x0 x1 x2 x3 x4 x5 fz
      go_wp2_with fail
      refine (hS.out _ I4.out.rd).mono ?_
      rintro e w4 ⟨rfl, hr4, hb4⟩
      have I5 := Lib.hid (I4.out.call (r' := way2 r) hfb.out hr4 hb4)
      obtain ⟨x0, x1, x2, x3, x4, x5, fz⟩ := ib_cells I5.out.eb
      have I6 := Lib.hid (I5.out.setI hH false)
      clear I4 hr4 hb4 I5
      go_wp2_with fail
      refine (need_any b _ [111, 117, 116] _ I6.out.rd).mono ?_
      rintro e w5 ⟨rfl, hr5, hb5⟩
      rw [← hw3.out] at hr5
      have I65 := Lib.hid (I6.out.call hfb.out hr5 hb5)
      clear I6 hr5 hb5 x0 x1 x2 x3 x4 x5 fz
      go_wp2_with fail
      refine (need_any b _ [64] _ I65.out.rd).mono ?_
      rintro e w7 ⟨rfl, hr7, hb7⟩
      rw [hG.out] at hr7
      have I7 := Lib.hid (I65.out.call hfb.out hr7 hb7)
      clear I65 hr7 hb7 
      go_wp2_with fail
      refine (hN.out _ I7.out.rd I7.out.hv).mono ?_
      rintro e w8 ⟨rfl, hr8, hb8⟩
      have I8 := Lib.hid (I7.out.call hfb.out hr8 hb8)
      clear I7 hr8 hb8
      obtain ⟨x0, x1, x2, x3, x4, x5, fz⟩ := ib_cells I8.out.eb
      obtain ⟨y0, y1, y2, y3, y4, y5, fzr⟩ := ib_cells I8.out.rb
      have I9 := Lib.hid (I8.out.setG hH (numV (itG r).rest))
      clear I8
      go_wp2
      have hbx := set6_blk I9.out.rb (itX r)
      have hbt := set6_but I9.out.but (Nat.le_refl _) (itX r)
      have hrd : RdAt (set6 _ w.heap.size (itX r)) b (itR r) := (set6_other _ w.heap.size b (itX r) (by have := I9.out.lt; omega)).trans I9.out.rd
      rw [hX.out] at hbx hbt hrd ⊢
      exact bodyPost_ret (res6 Tryd.results45 _ _ w.heap.size rfl hbx) rfl ⟨rfl, hrd, hbt⟩
end Go.Proofs.YtllhgjenkchniaaDoor.Ident
