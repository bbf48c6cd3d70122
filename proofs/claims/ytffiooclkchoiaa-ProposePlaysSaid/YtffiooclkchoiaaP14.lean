/- Calls of proposers that are not valid; ProposeNil. -/
import Derived.Test.YtffiooclkchoiaaP13
namespace Go.Proofs.Ytffiooclkchoiaa.Prp
open Go.RowKit Go.Lib
open Bal (TB bOk ckB ordV eqB eqB_t eqB_f eq_b alloc_b check_any order_any)
set_option linter.unusedVariables false
set_option linter.unusedSimpArgs false
set_option maxRecDepth 20000

def Nv (p : Value) (w : World) : Prop := p = .pointer none ∨ ∃ b, p = .pointer (some ⟨b, 0, none⟩) ∧ w.cell? ⟨b, 0, none⟩ = some (.int .i64 0)
theorem Nv.valid {p : Value} {w : World} (h : Nv p w) : Calls Try.prog 33 #[p] w fun e w' => e = .returned (.bool false) ∧ w = w' := by
  rcases h with rfl | ⟨b, rfl, hc⟩
  · exact valid_nil w
  · exact valid_zero b w hc
theorem Nv.later {p : Value} {w w' : World} (h : Nv p w) (hb : Below w.heap.size w w') : Nv p w' := by
  rcases h with h | ⟨b, h, hc⟩
  · exact .inl h
  · exact .inr ⟨b, h, (hb.cell (p := ⟨b, 0, none⟩) (World.block_lt_of_cell? w _ hc)).trans hc⟩
theorem add_nv (p : Value) (w : World) (h : Nv p w) (k : Int) (v : Value) (u : Int) : Calls Try.prog 27 #[p, .int .i64 k, v, .int .i64 u] w fun e w' => e = .returned (.tuple #[.bool false, .int .i64 1]) ∧ w = w' := by
  have hV := Lib.hid h.valid
  clear h
  go_enter Try.func27, Try.ntmps27
  go_wp2_with (go_at_call 33; refine hV.out.mono ?_; rintro e w' ⟨rfl, rfl⟩)
  go_ret2
  exact ⟨rfl, rfl⟩
theorem values_nv (p : Value) (w : World) (h : Nv p w) : Calls Try.prog 16 #[p] w fun e w' => e = .returned (.tuple #[.slice none 0 0, .int .i64 1]) ∧ w = w' := by
  have hV := Lib.hid h.valid
  clear h
  go_enter Try.func16, Try.ntmps16
  go_wp2_with (go_at_call 33; refine hV.out.mono ?_; rintro e w' ⟨rfl, rfl⟩)
  go_ret2
  exact ⟨rfl, rfl⟩
theorem ready_nv (p : Value) (w : World) (h : Nv p w) : Calls Try.prog 19 #[p] w fun e w' => e = .returned (.bool false) ∧ w = w' := by
  have hV := Lib.hid h.valid
  clear h
  go_enter Try.func19, Try.ntmps19
  go_wp2_with (go_at_call 33; refine hV.out.mono ?_; rintro e w' ⟨rfl, rfl⟩)
  go_ret
  exact ⟨rfl, rfl⟩
theorem upto_nv (p : Value) (w : World) (h : Nv p w) : Calls Try.prog 21 #[p] w fun e w' => e = .returned (.int .i64 0) ∧ w = w' := by
  have hV := Lib.hid h.valid
  clear h
  go_enter Try.func21, Try.ntmps21
  go_wp2_with (go_at_call 33; refine hV.out.mono ?_; rintro e w' ⟨rfl, rfl⟩)
  go_ret
  exact ⟨rfl, rfl⟩
theorem nodes_nv (p : Value) (w : World) (h : Nv p w) : Calls Try.prog 25 #[p] w fun e w' => e = .returned (.int .u64 0) ∧ w = w' := by
  have hV := Lib.hid h.valid
  clear h
  go_enter Try.func25, Try.ntmps25
  go_wp2_with (go_at_call 33; refine hV.out.mono ?_; rintro e w' ⟨rfl, rfl⟩)
  go_ret
  exact ⟨rfl, rfl⟩
theorem copy_nv (p : Value) (w : World) (h : Nv p w) : Calls Try.prog 14 #[p] w fun e w' => e = .returned (.pointer none) ∧ w = w' := by
  have hV := Lib.hid h.valid
  clear h
  go_enter Try.func14, Try.ntmps14
  go_wp2_with (go_at_call 33; refine hV.out.mono ?_; rintro e w' ⟨rfl, rfl⟩)
  go_ret
  exact ⟨rfl, rfl⟩
theorem ballot_nv (p : Value) (w : World) (h : Nv p w) : Calls Try.prog 23 #[p] w fun e w' => e = .returned (.agg #[.int .i64 0, .int .i64 0]) ∧ Below w.heap.size w w' := by
  have hV := Lib.hid (h.later (alloc_b w (.cells #[.int .i64 0, .int .i64 0] TB))).valid
  have hB := Lib.hid (Bal.bx_new w 0 0)
  clear h
  go_enter Try.func23, Try.ntmps23
  go_wp2_with (go_at_call 33; refine hV.out.mono ?_; rintro e w' ⟨rfl, rfl⟩)
  obtain ⟨d0, d1, _⟩ := hB.out.cells
  refine bodyPost_ret (v := .agg #[.int .i64 0, .int .i64 0]) ?_ rfl ⟨rfl, hB.out.bel⟩
  simp [results, Try.results23, go_sem, d0, d1]
abbrev TPt : TypeId := 27
set_option maxRecDepth 100000 in
set_option maxHeartbeats 4000000 in
theorem nil_any (k0 u0 : Int) (w : World) : Calls Try.prog 4 #[.int .i64 k0, .int .i64 u0] w (Yes w) := by
  have HW := Lib.hid (fun W => works_any W)
  have hz := heap_alloc_new w (.cells #[.int .i64 0, .int .i64 0, .int .i64 0, .int .i64 0, .bool false, .slice none 0 0, .int .i64 0, .bool false, .slice none 0 0, .int .i64 0, .bool false, .slice none 0 0, .int .i64 0, .bool false, .slice none 0 0, .int .i64 0, .bool false, .slice none 0 0, .int .i64 0, .bool false, .slice none 0 0, .int .i64 0, .bool false, .slice none 0 0, .int .i64 0] TP)
  have b1 := alloc_b w (.cells #[.int .i64 0, .int .i64 0, .int .i64 0, .int .i64 0, .bool false, .slice none 0 0, .int .i64 0, .bool false, .slice none 0 0, .int .i64 0, .bool false, .slice none 0 0, .int .i64 0, .bool false, .slice none 0 0, .int .i64 0, .bool false, .slice none 0 0, .int .i64 0, .bool false, .slice none 0 0, .int .i64 0, .bool false, .slice none 0 0, .int .i64 0] TP)
  have b2 := b1.alloc b1.size (.cells #[.pointer none, .pointer (some ⟨w.heap.size, 0, none⟩)] TPt)
  have hg := heap_alloc_new (w.alloc (.cells #[.int .i64 0, .int .i64 0, .int .i64 0, .int .i64 0, .bool false, .slice none 0 0, .int .i64 0, .bool false, .slice none 0 0, .int .i64 0, .bool false, .slice none 0 0, .int .i64 0, .bool false, .slice none 0 0, .int .i64 0, .bool false, .slice none 0 0, .int .i64 0, .bool false, .slice none 0 0, .int .i64 0, .bool false, .slice none 0 0, .int .i64 0] TP)) (.cells #[.pointer none, .pointer (some ⟨w.heap.size, 0, none⟩)] TPt)
  have hz2 := ((alloc_b (w.alloc (.cells #[.int .i64 0, .int .i64 0, .int .i64 0, .int .i64 0, .bool false, .slice none 0 0, .int .i64 0, .bool false, .slice none 0 0, .int .i64 0, .bool false, .slice none 0 0, .int .i64 0, .bool false, .slice none 0 0, .int .i64 0, .bool false, .slice none 0 0, .int .i64 0, .bool false, .slice none 0 0, .int .i64 0, .bool false, .slice none 0 0, .int .i64 0] TP)) (.cells #[.pointer none, .pointer (some ⟨w.heap.size, 0, none⟩)] TPt)).block _ (Array.getElem?_eq_some_iff.1 hz).1).trans hz
  rw [World.size_alloc] at hg
  have HP : Hid (∀ V, V = (w.alloc (.cells #[.int .i64 0, .int .i64 0, .int .i64 0, .int .i64 0, .bool false, .slice none 0 0, .int .i64 0, .bool false, .slice none 0 0, .int .i64 0, .bool false, .slice none 0 0, .int .i64 0, .bool false, .slice none 0 0, .int .i64 0, .bool false, .slice none 0 0, .int .i64 0, .bool false, .slice none 0 0, .int .i64 0, .bool false, .slice none 0 0, .int .i64 0] TP)).alloc (.cells #[.pointer none, .pointer (some ⟨w.heap.size, 0, none⟩)] TPt) → Below w.heap.size w V ∧ ∀ (k : Nat) (W : World), k < 2 → Below V.heap.size V W → ∃ p, W.cell? ⟨w.heap.size + 1, k, none⟩ = some p ∧ Nv p W) := Lib.hid fun V hV => by
    subst hV
    refine ⟨b2, fun k W hk hb => ?_⟩
    have hgW := (hb.block _ (Array.getElem?_eq_some_iff.1 hg).1).trans hg
    have hzW := (hb.block _ (Array.getElem?_eq_some_iff.1 hz2).1).trans hz2
    rcases (show k = 0 ∨ k = 1 by omega) with rfl | rfl
    · exact ⟨_, cell_of_row W _ 0 _ TPt _ hgW, .inl rfl⟩
    · exact ⟨_, cell_of_row W _ 1 _ TPt _ hgW, .inr ⟨_, rfl, cell_of_row W _ 0 _ TP _ hzW⟩⟩
  have hqb := fun W => (Bal.eq_b 0 0 0 0 W).trans (by rw [Bal.eqB_t ⟨rfl, rfl⟩])
  clear hz b1 b2 hg hz2
  go_enter Try.func4, Try.ntmps4
  go_wp2
  obtain ⟨hbel, HP2⟩ := HP.out _ rfl
  replace HP2 := Lib.hid HP2
  replace hbel := Lib.hid hbel
  clear HP
  generalize (w.alloc (.cells #[.int .i64 0, .int .i64 0, .int .i64 0, .int .i64 0, .bool false, .slice none 0 0, .int .i64 0, .bool false, .slice none 0 0, .int .i64 0, .bool false, .slice none 0 0, .int .i64 0, .bool false, .slice none 0 0, .int .i64 0, .bool false, .slice none 0 0, .int .i64 0, .bool false, .slice none 0 0, .int .i64 0, .bool false, .slice none 0 0, .int .i64 0] TP)).alloc (.cells #[.pointer none, .pointer (some ⟨w.heap.size, 0, none⟩)] TPt) = V at *
  go_loopw [17] (fun i wr => ∃ k : Nat, k ≤ 2 ∧ i = .int .i64 k ∧ Below V.heap.size V wr) (fun i _ => 2 - nOf i)
  case atStart => exact ⟨0, by omega, rfl, Below.refl _ _⟩
  case round =>
    obtain ⟨k, hk, rfl, hB⟩ := hrel
    by_cases hlt : k < 2
    · obtain ⟨p, hp, hN⟩ := HP2.out k wr hlt hB
      have i1 : (0 : Int) ≤ (k : Int) := by omega
      have i2 : (k : Int) < 2 := by omega
      have i3 : decide ((k : Int) < 2) = true := by simpa using i2
      have i4 : decide (k < 2) = true := by simpa using hlt
      go_wp2_with (first
        | (go_at_call 27; refine (add_nv _ _ hN _ _ _).mono ?_; rintro e w1 ⟨rfl, rfl⟩)
        | (go_at_call 16; refine (values_nv _ _ hN).mono ?_; rintro e w1 ⟨rfl, rfl⟩)
        | (go_at_call 19; refine (ready_nv _ _ hN).mono ?_; rintro e w1 ⟨rfl, rfl⟩)
        | (go_at_call 21; refine (upto_nv _ _ hN).mono ?_; rintro e w1 ⟨rfl, rfl⟩)
        | (go_at_call 23; refine (ballot_nv _ _ hN).mono ?_; rintro e w1 ⟨rfl, hb⟩; have hN2 := hN.later hb; have hB2 := below2 hB hb)
        | (go_at_call 25; refine (nodes_nv _ _ hN2).mono ?_; rintro e w1 ⟨rfl, rfl⟩)
        | (go_at_call 14; refine (copy_nv _ _ hN2).mono ?_; rintro e w1 ⟨rfl, rfl⟩))
      go_roundw
      case rel => exact ⟨k + 1, by omega, by go_num, hB2⟩
      case measure => simp [nOf]; omega
    · have hk2 : k = 2 := by omega
      subst hk2
      replace hB := Lib.hid hB
      go_wp2_with (go_at_call 11; refine (HW.out _).mono ?_; rintro e w1 ⟨rfl, hb⟩)
      go_ret
      exact ⟨rfl, below2 (below2 hbel.out hB.out) hb⟩
theorem nil_law (k0 u0 : Int) (w : World) (h0 : (Lit.int .i64 k0).wf = true) (h1 : (Lit.int .i64 u0).wf = true) : Calls Try.prog 4 #[.int .i64 k0, .int .i64 u0] w (Yes w) := nil_any k0 u0 w
end Go.Proofs.Ytffiooclkchoiaa.Prp
