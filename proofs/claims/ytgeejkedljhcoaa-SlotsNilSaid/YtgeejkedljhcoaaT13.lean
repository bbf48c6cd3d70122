/- Logs that are nil, or were not made by New; SlotsNil. -/
import Derived.Test.YtgeejkedljhcoaaT11
namespace Go.Proofs.Ytgeejkedljhcoaa.Slt
open Go.RowKit Go.Maps Go.Lib
set_option linter.unusedVariables false
set_option linter.unusedSimpArgs false
set_option maxRecDepth 100000

abbrev TPt : TypeId := 25
/-- A log's pointer that is not valid, in every later world too. -/
def Zp (p : Value) (w : World) : Prop := p = .pointer none ∨ ∃ sb, p = .pointer (some ⟨sb, 0, none⟩) ∧ w.heap[sb]? = some (.cells #[.int .i64 0, .map none] TA (0, 0))
theorem Zp.later {p : Value} {w w' : World} (h : Zp p w) (hb : Below w.heap.size w w') : Zp p w' := by
  rcases h with h | ⟨sb, h, hc⟩
  · exact .inl h
  · exact .inr ⟨sb, h, (hb.block sb (Array.getElem?_eq_some_iff.1 hc).1).trans hc⟩
theorem Zp.alloc {p : Value} {w : World} (h : Zp p w) (o : Obj) : Zp p (w.alloc o) := h.later (alloc_b w o)
theorem Zp.valid {p : Value} {w : World} (h : Zp p w) : Calls Try.prog 41 #[p] w fun e w' => e = .returned (.bool false) ∧ w = w' := by
  rcases h with rfl | ⟨sb, rfl, hc⟩
  · exact valid_nil w
  · exact valid_zero sb w (cell_of_row w sb 1 _ TA _ hc)
theorem put_nv (p : Value) (k : Int) (v : ByteArray) (w : World) (h : Zp p w) : Calls Try.prog 16 #[p, .int .i64 k, .string v] w fun e w' => e = .returned (.int .i64 1) ∧ w = w' := by
  have hV := Lib.hid h.valid
  clear h
  go_enter Try.func16, Try.ntmps16
  go_wp2_with (go_at_call 41; refine hV.out.mono ?_; rintro e w' ⟨rfl, rfl⟩)
  go_ret
  exact ⟨rfl, rfl⟩
theorem get_nv (p : Value) (k : Int) (w : World) (h : Zp p w) : Calls Try.prog 24 #[p, .int .i64 k] w fun e w' => e = .returned (.tuple #[.string ⟨#[]⟩, .bool false]) ∧ w = w' := by
  have hV := Lib.hid h.valid
  clear h
  go_enter Try.func24, Try.ntmps24
  go_wp2_with (go_at_call 41; refine hV.out.mono ?_; rintro e w' ⟨rfl, rfl⟩)
  go_ret2
  exact ⟨rfl, rfl⟩
theorem upto_nv (p : Value) (w : World) (h : Zp p w) : Calls Try.prog 25 #[p] w fun e w' => e = .returned (.int .i64 0) ∧ w = w' := by
  have hV := Lib.hid h.valid
  clear h
  go_enter Try.func25, Try.ntmps25
  go_wp2_with (go_at_call 41; refine hV.out.mono ?_; rintro e w' ⟨rfl, rfl⟩)
  go_ret
  exact ⟨rfl, rfl⟩
theorem base_nv (p : Value) (w : World) (h : Zp p w) : Calls Try.prog 26 #[p] w fun e w' => e = .returned (.int .i64 0) ∧ w = w' := by
  have hV := Lib.hid h.valid
  clear h
  go_enter Try.func26, Try.ntmps26
  go_wp2_with (go_at_call 41; refine hV.out.mono ?_; rintro e w' ⟨rfl, rfl⟩)
  go_ret
  exact ⟨rfl, rfl⟩
theorem forget_nv (p : Value) (k : Int) (w : World) (h : Zp p w) : Calls Try.prog 18 #[p, .int .i64 k] w fun e w' => e = .returned (.int .i64 1) ∧ w = w' := by
  have hV := Lib.hid h.valid
  clear h
  go_enter Try.func18, Try.ntmps18
  go_wp2_with (go_at_call 41; refine hV.out.mono ?_; rintro e w' ⟨rfl, rfl⟩)
  go_ret
  exact ⟨rfl, rfl⟩
theorem jump_nv (p : Value) (k : Int) (w : World) (h : Zp p w) : Calls Try.prog 20 #[p, .int .i64 k] w fun e w' => e = .returned (.int .i64 1) ∧ w = w' := by
  have hV := Lib.hid h.valid
  clear h
  go_enter Try.func20, Try.ntmps20
  go_wp2_with (go_at_call 41; refine hV.out.mono ?_; rintro e w' ⟨rfl, rfl⟩)
  go_ret
  exact ⟨rfl, rfl⟩
theorem prefix_nv (a : Option Addr) (w : World) (h : Zp (.pointer a) w) : Calls Try.prog 27 #[.pointer a] w fun e w' => e = .returned (.slice none 0 0) ∧ Below w.heap.size w w' := by
  have hb := Lib.hid (alloc_b w (.cells #[.pointer a] TPt))
  have hV := Lib.hid (h.alloc (.cells #[.pointer a] TPt)).valid
  clear h
  go_enter Try.func27, Try.ntmps27
  go_wp2_with (go_at_call 41; refine hV.out.mono ?_; rintro e w' ⟨rfl, rfl⟩)
  go_ret
  exact ⟨rfl, hb.out⟩
theorem gaps_nv (p : Value) (w : World) (h : Zp p w) : Calls Try.prog 28 #[p] w fun e w' => e = .returned (.slice none 0 0) ∧ w = w' := by
  have hV := Lib.hid h.valid
  clear h
  go_enter Try.func28, Try.ntmps28
  go_wp2_with (go_at_call 41; refine hV.out.mono ?_; rintro e w' ⟨rfl, rfl⟩)
  go_ret
  exact ⟨rfl, rfl⟩
theorem copy_nv (p : Value) (w : World) (h : Zp p w) : Calls Try.prog 22 #[p] w fun e w' => e = .returned (.pointer none) ∧ w = w' := by
  have hV := Lib.hid h.valid
  clear h
  go_enter Try.func22, Try.ntmps22
  go_wp2_with (go_at_call 41; refine hV.out.mono ?_; rintro e w' ⟨rfl, rfl⟩)
  go_ret
  exact ⟨rfl, rfl⟩

/-- The boxes of SlotsNil: the zero log, the two pointers. -/
structure ZB (w W : World) : Prop where
  z : W.heap[w.heap.size]? = some (.cells #[.int .i64 0, .map none] TA (0, 0))
  s : W.heap[w.heap.size + 1]? = some (.cells #[.pointer none, .pointer (some ⟨w.heap.size, 0, none⟩)] TPt (0, 0))
  bel : Below w.heap.size w W
theorem ZB.later {w W W' : World} (h : ZB w W) (hb : Below W.heap.size W W') : ZB w W' :=
  ⟨(hb.block _ (Array.getElem?_eq_some_iff.1 h.z).1).trans h.z, (hb.block _ (Array.getElem?_eq_some_iff.1 h.s).1).trans h.s, h.bel.trans (hb.mono h.bel.size)⟩
theorem zb_new (w : World) : ZB w ((w.alloc (.cells #[.int .i64 0, .map none] TA)).alloc (.cells #[.pointer none, .pointer (some ⟨w.heap.size, 0, none⟩)] TPt)) := by
  have h1 := heap_alloc_new w (.cells #[.int .i64 0, .map none] TA)
  have b1 := alloc_b w (.cells #[.int .i64 0, .map none] TA)
  have h2 := heap_alloc_new (w.alloc (.cells #[.int .i64 0, .map none] TA)) (.cells #[.pointer none, .pointer (some ⟨w.heap.size, 0, none⟩)] TPt)
  have b2 := alloc_b (w.alloc (.cells #[.int .i64 0, .map none] TA)) (.cells #[.pointer none, .pointer (some ⟨w.heap.size, 0, none⟩)] TPt)
  have h1' := (b2.block _ (Array.getElem?_eq_some_iff.1 h1).1).trans h1
  rw [World.size_alloc] at h2
  exact ⟨h1', h2, b1.trans (b2.mono b1.size)⟩
theorem ZB.at {w W : World} (h : ZB w W) {j : Nat} (hj : j < 2) : ∃ p, W.cell? ⟨w.heap.size + 1, j, none⟩ = some p ∧ Zp p W ∧ (∃ a, p = .pointer a) := by
  have hc : j = 0 ∨ j = 1 := by omega
  rcases hc with rfl | rfl
  · exact ⟨_, cell_of_row W _ 0 _ TPt _ h.s, .inl rfl, _, rfl⟩
  · exact ⟨_, cell_of_row W _ 1 _ TPt _ h.s, .inr ⟨_, rfl, h.z⟩, _, rfl⟩
set_option maxHeartbeats 8000000 in
theorem nil_law (k : Int) (v : ByteArray) (w : World) (w0 : (Lit.int .i64 k).wf = true) (w1 : v.size ≤ maxLen) :
    Calls Try.prog 4 #[.int .i64 k, .string v] w (Yes w) := by
  have HWk := Lib.hid (fun W => works_any W)
  by_cases hv : 1000 < v.size
  · have b1 : decide (1000 < v.size) = true := decide_eq_true hv
    have b2 : decide ((1000 : Int) < (v.size : Int)) = true := decide_eq_true (by omega)
    clear hv w0 w1
    go_enter Try.func4, Try.ntmps4
    go_wp2_with (go_at_call 12; refine (HWk.out _).mono ?_; rintro e W9 ⟨rfl, hb9⟩)
    go_ret
    exact ⟨rfl, hb9⟩
  · have b1 : decide (1000 < v.size) = false := decide_eq_false hv
    have b2 : decide ((1000 : Int) < (v.size : Int)) = false := decide_eq_false (by omega)
    have HB := Lib.hid (zb_new w)
    clear hv w0 w1
    go_enter Try.func4, Try.ntmps4
    go_wp2
    go_loopw [19] (fun i wr => ∃ j : Nat, j ≤ 2 ∧ i = .int .i64 j ∧ ZB w wr) (fun i _ => 2 - nOf i)
    case atStart => exact ⟨0, Nat.zero_le _, rfl, HB.out⟩
    case round =>
      clear HB
      obtain ⟨j, hj, rfl, hA⟩ := hrel
      by_cases hlt : j < 2
      · have i1 : 0 ≤ (j : Int) := by omega
        have i2 : (j : Int) < 2 := by omega
        have i3 : decide (j < 2) = true := by simp; omega
        have i4 : decide ((j : Int) < 2) = true := by simp; omega
        obtain ⟨p, hp, hz, a, rfl⟩ := hA.at hlt
        replace hA := Lib.hid hA
        replace hz := Lib.hid hz
        go_wp2_with (first
          | (go_at_call 24; refine (get_nv _ k _ hz.out).mono ?_; rintro e v1 ⟨rfl, rfl⟩)
          | (go_at_call 16; refine (put_nv _ k v _ hz.out).mono ?_; rintro e v1 ⟨rfl, rfl⟩)
          | (go_at_call 25; refine (upto_nv _ _ hz.out).mono ?_; rintro e v1 ⟨rfl, rfl⟩)
          | (go_at_call 26; refine (base_nv _ _ hz.out).mono ?_; rintro e v1 ⟨rfl, rfl⟩)
          | (go_at_call 18; refine (forget_nv _ k _ hz.out).mono ?_; rintro e v1 ⟨rfl, rfl⟩)
          | (go_at_call 20; refine (jump_nv _ k _ hz.out).mono ?_; rintro e v1 ⟨rfl, rfl⟩)
          | (go_at_call 27; refine (prefix_nv _ _ hz.out).mono ?_; rintro e v1 ⟨rfl, hbp⟩; have hzp := Lib.hid (hz.out.later hbp); have hAp := Lib.hid (hA.out.later hbp))
          | (go_at_call 28; refine (gaps_nv _ _ hzp.out).mono ?_; rintro e v1 ⟨rfl, rfl⟩)
          | (go_at_call 22; refine (copy_nv _ _ hzp.out).mono ?_; rintro e v1 ⟨rfl, rfl⟩))
        go_roundw
        case rel => exact ⟨j + 1, by omega, by go_num, hAp.out⟩
        case measure => simp [nOf]; omega
      · have hj2 : j = 2 := by omega
        subst hj2
        have i4 : decide (((2 : Nat) : Int) < 2) = false := by decide
        have hb := Lib.hid hA.bel
        clear hA
        go_wp2_with (go_at_call 12; refine (HWk.out _).mono ?_; rintro e W9 ⟨rfl, hb9⟩)
        go_ret
        exact ⟨rfl, hb.out.trans (hb9.mono hb.out.size)⟩
end Go.Proofs.Ytgeejkedljhcoaa.Slt
