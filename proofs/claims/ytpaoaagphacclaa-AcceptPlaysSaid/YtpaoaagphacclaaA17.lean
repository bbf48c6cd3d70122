/- Acceptors that are nil, or were not made by New; the walk of AcceptNil. -/
import Derived.Test.YtpaoaagphacclaaA15
namespace Go.Proofs.Ytpaoaagphacclaa.Acc
open Go.RowKit Go.Maps Go.Lib
open Bal (TB alloc_b)
set_option linter.unusedVariables false
set_option linter.unusedSimpArgs false
set_option maxRecDepth 100000

abbrev TPt : TypeId := 25
/-- An acceptor's pointer that is not valid, in every later world too. -/
def Nv (p : Value) (w : World) : Prop := p = .pointer none ∨ ∃ sb, p = .pointer (some ⟨sb, 0, none⟩) ∧ w.heap[sb]? = some (.cells #[.int .i64 0, .int .i64 0, .int .i64 0, .int .i64 0, .map none] TA (0, 0))
theorem Nv.later {p : Value} {w w' : World} (h : Nv p w) (hb : Below w.heap.size w w') : Nv p w' := by
  rcases h with h | ⟨sb, h, hc⟩
  · exact .inl h
  · exact .inr ⟨sb, h, (hb.block sb (Array.getElem?_eq_some_iff.1 hc).1).trans hc⟩
theorem Nv.alloc {p : Value} {w : World} (h : Nv p w) (o : Obj) : Nv p (w.alloc o) := h.later (alloc_b w o)
theorem Nv.valid {p : Value} {w : World} (h : Nv p w) : Calls Try.prog 38 #[p] w fun e w' => e = .returned (.bool false) ∧ w = w' := by
  rcases h with rfl | ⟨sb, rfl, hc⟩
  · exact valid_nil w
  · exact valid_zero sb w (cell_of_row w sb 4 _ TA _ hc)
theorem promise_nv (p : Value) (x y f : Int) (w : World) (h : Nv p w) : Calls Try.prog 16 #[p, .agg #[.int .i64 x, .int .i64 y], .int .i64 f] w fun e w' => e = .returned (.tuple #[.slice none 0 0, .int .i64 1]) ∧ Below w.heap.size w w' := by
  have hb := alloc_b w (.cells #[.int .i64 x, .int .i64 y] TB)
  have hV := Lib.hid (h.alloc (.cells #[.int .i64 x, .int .i64 y] TB)).valid
  clear h
  go_enter Try.func16, Try.ntmps16
  go_wp2_with (go_at_call 38; refine hV.out.mono ?_; rintro e w' ⟨rfl, rfl⟩)
  go_ret2
  exact ⟨rfl, hb⟩
theorem accept_nv (p : Value) (x y k : Int) (v : ByteArray) (w : World) (h : Nv p w) : Calls Try.prog 19 #[p, .agg #[.int .i64 x, .int .i64 y], .int .i64 k, .string v] w fun e w' => e = .returned (.int .i64 1) ∧ Below w.heap.size w w' := by
  have hb := alloc_b w (.cells #[.int .i64 x, .int .i64 y] TB)
  have hV := Lib.hid (h.alloc (.cells #[.int .i64 x, .int .i64 y] TB)).valid
  clear h
  go_enter Try.func19, Try.ntmps19
  go_wp2_with (go_at_call 38; refine hV.out.mono ?_; rintro e w' ⟨rfl, rfl⟩)
  go_ret
  exact ⟨rfl, hb⟩
theorem promised_nv (p : Value) (w : World) (h : Nv p w) : Calls Try.prog 27 #[p] w fun e w' => e = .returned (.agg #[.int .i64 0, .int .i64 0]) ∧ Below w.heap.size w w' := by
  have hb := alloc_b w (.cells #[.int .i64 0, .int .i64 0] TB)
  have hV := Lib.hid (h.alloc (.cells #[.int .i64 0, .int .i64 0] TB)).valid
  clear h
  go_enter Try.func27, Try.ntmps27
  go_wp2_with (go_at_call 38; refine hV.out.mono ?_; rintro e w' ⟨rfl, rfl⟩)
  have hx := Bal.bx_new w 0 0
  obtain ⟨d0, d1, _⟩ := hx.cells
  exact bodyPost_ret (v := .agg #[.int .i64 0, .int .i64 0]) (by simp [results, Try.results27, go_sem, d0, d1]) rfl ⟨rfl, hb⟩
theorem accepted_nv (p : Value) (k : Int) (w : World) (h : Nv p w) : Calls Try.prog 25 #[p, .int .i64 k] w fun e w' => e = .returned (.tuple #[vE zE, .bool false]) ∧ Below w.heap.size w w' := by
  have hb := alloc_b w (.cells #[.int .i64 0, .int .i64 0, .int .i64 0, .string ⟨#[]⟩] TE)
  have hV := Lib.hid (h.alloc (.cells #[.int .i64 0, .int .i64 0, .int .i64 0, .string ⟨#[]⟩] TE)).valid
  clear h
  go_enter Try.func25, Try.ntmps25
  go_wp2_with (go_at_call 38; refine hV.out.mono ?_; rintro e w' ⟨rfl, rfl⟩)
  have h1 := heap_alloc_new w (.cells #[.int .i64 0, .int .i64 0, .int .i64 0, .string ⟨#[]⟩] TE)
  have d0 := cell_of_row _ _ 0 _ TE _ h1
  have d1 := cell_of_row _ _ 1 _ TE _ h1
  have d2 := cell_of_row _ _ 2 _ TE _ h1
  have d3 := cell_of_row _ _ 3 _ TE _ h1
  exact bodyPost_ret (v := .tuple #[vE zE, .bool false]) (by simp [results, Try.results25, go_sem, d0, d1, d2, d3]) rfl ⟨rfl, hb⟩
theorem list_nv (p : Value) (k : Int) (w : World) (h : Nv p w) : Calls Try.prog 31 #[p, .int .i64 k] w fun e w' => e = .returned (.slice none 0 0) ∧ Below w.heap.size w w' := by
  have hb := alloc_b w (.cells #[.int .i64 k] TI)
  have hV := Lib.hid (h.alloc (.cells #[.int .i64 k] TI)).valid
  clear h
  go_enter Try.func31, Try.ntmps31
  go_wp2_with (go_at_call 38; refine hV.out.mono ?_; rintro e w' ⟨rfl, rfl⟩)
  go_ret
  exact ⟨rfl, hb⟩
theorem forget_nv (p : Value) (k : Int) (w : World) (h : Nv p w) : Calls Try.prog 21 #[p, .int .i64 k] w fun e w' => e = .returned (.int .i64 1) ∧ Below w.heap.size w w' := by
  have hb := alloc_b w (.cells #[.int .i64 k] TI)
  have hV := Lib.hid (h.alloc (.cells #[.int .i64 k] TI)).valid
  clear h
  go_enter Try.func21, Try.ntmps21
  go_wp2_with (go_at_call 38; refine hV.out.mono ?_; rintro e w' ⟨rfl, rfl⟩)
  go_ret
  exact ⟨rfl, hb⟩
theorem base_nv (p : Value) (w : World) (h : Nv p w) : Calls Try.prog 29 #[p] w fun e w' => e = .returned (.int .i64 0) ∧ w = w' := by
  have hV := Lib.hid h.valid
  clear h
  go_enter Try.func29, Try.ntmps29
  go_wp2_with (go_at_call 38; refine hV.out.mono ?_; rintro e w' ⟨rfl, rfl⟩)
  go_ret
  exact ⟨rfl, rfl⟩
theorem copy_nv (p : Value) (w : World) (h : Nv p w) : Calls Try.prog 23 #[p] w fun e w' => e = .returned (.pointer none) ∧ w = w' := by
  have hV := Lib.hid h.valid
  clear h
  go_enter Try.func23, Try.ntmps23
  go_wp2_with (go_at_call 38; refine hV.out.mono ?_; rintro e w' ⟨rfl, rfl⟩)
  go_ret
  exact ⟨rfl, rfl⟩
structure SN (q : Nat) (x : Sp) (p : Value) (W : World) : Prop where
  box : W.heap[q]? = some (.cells #[.int .i64 x.d, .int .i64 x.r, .int .i64 x.m, .int .i64 x.k, .string x.v] TP (0, 0))
  nv : Nv p W
theorem SN.later {q : Nat} {x : Sp} {p : Value} {W W' : World} (h : SN q x p W) (hb : Below W.heap.size W W') : SN q x p W' := ⟨(hb.block _ (Array.getElem?_eq_some_iff.1 h.box).1).trans h.box, h.nv.later hb⟩
theorem SN.cells {q : Nat} {x : Sp} {p : Value} {W : World} (h : SN q x p W) : W.cell? ⟨q, 1, none⟩ = some (.int .i64 x.r) ∧ W.cell? ⟨q, 2, none⟩ = some (.int .i64 x.m) ∧ W.cell? ⟨q, 3, none⟩ = some (.int .i64 x.k) ∧ W.cell? ⟨q, 4, none⟩ = some (.string x.v) :=
  ⟨cell_of_row W q 1 _ TP _ h.box, cell_of_row W q 2 _ TP _ h.box, cell_of_row W q 3 _ TP _ h.box, cell_of_row W q 4 _ TP _ h.box⟩
set_option maxHeartbeats 4000000 in
theorem nil_any (x : Sp) (w : World) (hx : x.wf) : Calls Try.prog 4 #[sA x] w (Yes w) := by
  obtain ⟨xd, xr, xm, xk, xv⟩ := x
  have HW := Lib.hid (fun W => works_any W)
  have b1 := alloc_b w (.cells #[.int .i64 xd, .int .i64 xr, .int .i64 xm, .int .i64 xk, .string xv] TP)
  have b2 := b1.alloc b1.size (.cells #[.int .i64 xd, .int .i64 xr, .int .i64 xm, .int .i64 xk, .string xv] TP)
  have hl2 := heap_alloc_new (w.alloc (.cells #[.int .i64 xd, .int .i64 xr, .int .i64 xm, .int .i64 xk, .string xv] TP)) (.cells #[.int .i64 xd, .int .i64 xr, .int .i64 xm, .int .i64 xk, .string xv] TP)
  have hl1 := (Below.heap_alloc (w.alloc (.cells #[.int .i64 xd, .int .i64 xr, .int .i64 xm, .int .i64 xk, .string xv] TP)) (.cells #[.int .i64 xd, .int .i64 xr, .int .i64 xm, .int .i64 xk, .string xv] TP) w.heap.size (by rw [World.size_alloc]; omega)).trans (heap_alloc_new w (.cells #[.int .i64 xd, .int .i64 xr, .int .i64 xm, .int .i64 xk, .string xv] TP))
  rw [World.size_alloc] at hl2
  have hIs : IsSt ((w.alloc (.cells #[.int .i64 xd, .int .i64 xr, .int .i64 xm, .int .i64 xk, .string xv] TP)).alloc (.cells #[.int .i64 xd, .int .i64 xr, .int .i64 xm, .int .i64 xk, .string xv] TP)) (some ⟨w.heap.size + 1, 0, none⟩) 1 1 (fun _ => ⟨xd, xr, xm, xk, xv⟩) :=
    ⟨⟨Nat.le_refl _, by omega⟩, fun h => (by cases h), fun _ => ⟨w.heap.size + 1, 0, rfl, (Array.getElem?_eq_some_iff.1 hl2).1, fun i hi => by
      have : i = 0 := by omega
      subst this
      exact ⟨cell_of_row _ _ 0 _ TP _ hl2, cell_of_row _ _ 1 _ TP _ hl2, cell_of_row _ _ 2 _ TP _ hl2, cell_of_row _ _ 3 _ TP _ hl2, cell_of_row _ _ 4 _ TP _ hl2⟩⟩, fun _ => hx⟩
  have HS := Lib.hid (short_any _ _ _ _ _ hIs)
  have hbox := Lib.hid hl1
  have hbel := Lib.hid b2
  clear hIs b1 b2 hl2 hl1 hx
  go_enter Try.func4, Try.ntmps4
  cases hsh : shortB (fun _ => (⟨xd, xr, xm, xk, xv⟩ : Sp)) 1 with
  | false =>
    rw [hsh] at HS
    go_wp2_with (first
      | (go_at_call 12; refine HS.out.mono ?_; rintro e w1 ⟨rfl, rfl⟩)
      | (go_at_call 13; refine (HW.out _).mono ?_; rintro e w1 ⟨rfl, hb⟩))
    go_ret
    exact ⟨rfl, below2 hbel.out hb⟩
  | true =>
    rw [hsh] at HS
    clear hsh
    go_wp2_with (go_at_call 12; refine HS.out.mono ?_; rintro e w1 ⟨rfl, rfl⟩)
    have hzb := heap_alloc_new ((w.alloc (.cells #[.int .i64 xd, .int .i64 xr, .int .i64 xm, .int .i64 xk, .string xv] TP)).alloc (.cells #[.int .i64 xd, .int .i64 xr, .int .i64 xm, .int .i64 xk, .string xv] TP)) (.cells #[.int .i64 0, .int .i64 0, .int .i64 0, .int .i64 0, .map none] TA)
    have hb2 := hbel.out
    have hbx := hbox.out
    have hs2 : ((w.alloc (.cells #[.int .i64 xd, .int .i64 xr, .int .i64 xm, .int .i64 xk, .string xv] TP)).alloc (.cells #[.int .i64 xd, .int .i64 xr, .int .i64 xm, .int .i64 xk, .string xv] TP)).heap.size = w.heap.size + 1 + 1 := by rw [World.size_alloc, World.size_alloc]
    rw [hs2] at hzb
    generalize (w.alloc (.cells #[.int .i64 xd, .int .i64 xr, .int .i64 xm, .int .i64 xk, .string xv] TP)).alloc (.cells #[.int .i64 xd, .int .i64 xr, .int .i64 xm, .int .i64 xk, .string xv] TP) = V2 at *
    have b3 := alloc_b V2 (.cells #[.int .i64 0, .int .i64 0, .int .i64 0, .int .i64 0, .map none] TA)
    have b4 := b3.alloc b3.size (.cells #[.pointer none, .pointer (some ⟨w.heap.size + 1 + 1, 0, none⟩)] TPt)
    have hg := heap_alloc_new (V2.alloc (.cells #[.int .i64 0, .int .i64 0, .int .i64 0, .int .i64 0, .map none] TA)) (.cells #[.pointer none, .pointer (some ⟨w.heap.size + 1 + 1, 0, none⟩)] TPt)
    rw [World.size_alloc, hs2] at hg
    have hzb4 := ((alloc_b (V2.alloc (.cells #[.int .i64 0, .int .i64 0, .int .i64 0, .int .i64 0, .map none] TA)) (.cells #[.pointer none, .pointer (some ⟨w.heap.size + 1 + 1, 0, none⟩)] TPt)).block _ (Array.getElem?_eq_some_iff.1 hzb).1).trans hzb
    have hbx4 := (b4.block _ (Array.getElem?_eq_some_iff.1 hbx).1).trans hbx
    have hb4 := below2 hb2 b4
    generalize (V2.alloc (.cells #[.int .i64 0, .int .i64 0, .int .i64 0, .int .i64 0, .map none] TA)).alloc (.cells #[.pointer none, .pointer (some ⟨w.heap.size + 1 + 1, 0, none⟩)] TPt) = V4 at *
    generalize w.heap.size + 1 + 1 + 1 = g at *
    generalize w.heap.size + 1 + 1 = zb at *
    have HP : Hid (∀ (k : Nat) (W : World), k < 2 → Below V4.heap.size V4 W → ∃ p, W.cell? ⟨g, k, none⟩ = some p ∧ SN w.heap.size ⟨xd, xr, xm, xk, xv⟩ p W) := Lib.hid fun k W hk hb => by
      have hbW := (hb.block _ (Array.getElem?_eq_some_iff.1 hbx4).1).trans hbx4
      have hgW := (hb.block _ (Array.getElem?_eq_some_iff.1 hg).1).trans hg
      rcases (show k = 0 ∨ k = 1 by omega) with rfl | rfl
      · exact ⟨_, cell_of_row W g 0 _ TPt _ hgW, hbW, .inl rfl⟩
      · exact ⟨_, cell_of_row W g 1 _ TPt _ hgW, hbW, .inr ⟨zb, rfl, (hb.block _ (Array.getElem?_eq_some_iff.1 hzb4).1).trans hzb4⟩⟩
    have hb4' := Lib.hid hb4
    have hqe := fun W => (eq_e zE zE W).trans (by rw [eqE_t])
    have hqb := fun W => (Bal.eq_b 0 0 0 0 W).trans (by rw [Bal.eqB_t ⟨rfl, rfl⟩])
    clear hzb hb2 hbx hs2 b3 b4 hg hzb4 hbx4 hb4 hbox hbel
    generalize w.heap.size = q at HP ⊢
    go_loopw [5] (fun i wr => ∃ k : Nat, k ≤ 2 ∧ i = .int .i64 k ∧ Below V4.heap.size V4 wr) (fun i _ => 2 - nOf i)
    case atStart => exact ⟨0, by omega, rfl, Below.refl _ _⟩
    case round =>
      obtain ⟨k, hk, rfl, hB⟩ := hrel
      by_cases hlt : k < 2
      · obtain ⟨p, hp, hN⟩ := HP.out k wr hlt hB
        have i1 : 0 ≤ (k : Int) := by omega
        have i2 : (k : Int) < 2 := by omega
        have i3 : decide ((k : Int) < 2) = true := by simpa using i2
        have i4 : decide (k < 2) = true := by simpa using hlt
        have hBB := hB
        replace hB := Lib.hid hB
        obtain ⟨c1, c2, c3, c4⟩ := hN.cells
        go_wp2_with (first
          | (go_at_call 16; refine (promise_nv _ _ _ _ _ hN.nv).mono ?_; rintro e w1 ⟨rfl, hb⟩; have hN := hN.later hb; have hBB := below2 hBB hb; obtain ⟨c1, c2, c3, c4⟩ := hN.cells)
          | (go_at_call 25; refine (accepted_nv _ _ _ hN.nv).mono ?_; rintro e w1 ⟨rfl, hb⟩; have hN := (hN.later hb).later (alloc_b w1 (.cells #[.int .i64 0, .int .i64 0, .int .i64 0, .string ⟨#[]⟩] TE)); have hBB := below2 (below2 hBB hb) (alloc_b w1 (.cells #[.int .i64 0, .int .i64 0, .int .i64 0, .string ⟨#[]⟩] TE)); have hxe := heap_alloc_new w1 (.cells #[.int .i64 0, .int .i64 0, .int .i64 0, .string ⟨#[]⟩] TE); obtain ⟨c1, c2, c3, c4⟩ := hN.cells)
          | (go_at_call 19; refine (accept_nv _ _ _ _ _ _ hN.nv).mono ?_; rintro e w1 ⟨rfl, hb⟩; have hN := hN.later hb; have hBB := below2 hBB hb; have hxe := (hb.block _ (Array.getElem?_eq_some_iff.1 hxe).1).trans hxe; obtain ⟨c1, c2, c3, c4⟩ := hN.cells)
          | (go_at_call 27; refine (promised_nv _ _ hN.nv).mono ?_; rintro e w1 ⟨rfl, hb⟩; have hN := hN.later hb; have hBB := below2 hBB hb; have hxe := (hb.block _ (Array.getElem?_eq_some_iff.1 hxe).1).trans hxe; obtain ⟨c1, c2, c3, c4⟩ := hN.cells; have x0 := cell_of_row _ _ 0 _ TE _ hxe; have x1 := cell_of_row _ _ 1 _ TE _ hxe; have x2 := cell_of_row _ _ 2 _ TE _ hxe; have x3 := cell_of_row _ _ 3 _ TE _ hxe)
          | (go_at_call 31; refine (list_nv _ _ _ hN.nv).mono ?_; rintro e w1 ⟨rfl, hb⟩; have hN := hN.later hb; have hBB := below2 hBB hb; obtain ⟨c1, c2, c3, c4⟩ := hN.cells)
          | (go_at_call 21; refine (forget_nv _ _ _ hN.nv).mono ?_; rintro e w1 ⟨rfl, hb⟩; have hN := hN.later hb; have hBB := below2 hBB hb; obtain ⟨c1, c2, c3, c4⟩ := hN.cells)
          | (go_at_call 29; refine (base_nv _ _ hN.nv).mono ?_; rintro e w1 ⟨rfl, rfl⟩)
          | (go_at_call 23; refine (copy_nv _ _ hN.nv).mono ?_; rintro e w1 ⟨rfl, rfl⟩))
        go_roundw
        case rel => exact ⟨k + 1, by omega, by go_num, hBB⟩
        case measure => simp [nOf]; omega
      · have hk2 : k = 2 := by omega
        subst hk2
        replace hB := Lib.hid hB
        go_wp2_with (go_at_call 13; refine (HW.out _).mono ?_; rintro e w1 ⟨rfl, hb⟩)
        go_ret
        exact ⟨rfl, below2 (below2 hb4'.out hB.out) hb⟩
end Go.Proofs.Ytpaoaagphacclaa.Acc
