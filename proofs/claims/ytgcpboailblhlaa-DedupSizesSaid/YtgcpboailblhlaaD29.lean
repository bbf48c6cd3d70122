/- The walk of DedupSizes. -/
import Derived.Test.YtgcpboailblhlaaD28
import Derived.Test.YtgcpboailblhlaaD17
namespace Go.Proofs.Ytgcpboailblhlaa.Ded
open Go.RowKit Go.Lib Go.Shelf
open Rng (tx nameOk hasR okR tx_of)
open Eff (TE effOk)
set_option linter.unusedVariables false
set_option linter.unusedSimpArgs false
set_option maxRecDepth 100000

theorem eq_rz (w : World) : (Op.equalIn 10000 TRp (.agg #[.int .i64 0, .int .i64 0, .string ⟨#[]⟩]) (.agg #[.int .i64 0, .int .i64 0, .string ⟨#[]⟩])).run Try.prog w = .ok true w := by
  simp [go_sem]
theorem rroom_any (b : Nat) (n : Int) (h0 : 0 ≤ n) (h1 : n ≤ 2048) (w : World) (h : Rd w b n) :
    Calls Try.prog 49 #[.pointer (some ⟨b, 0, none⟩)] w fun r w' => r = .returned (.int .i64 n) ∧ Below w.heap.size w w' := by
  obtain ⟨c0, c1⟩ := h.cells
  have e1 : IntKind.i64.wrap (n - 0) = n := by rw [IntKind.wrap_i64]; omega
  have e2 : IntKind.i64.wrap n = n := by rw [IntKind.wrap_i64]; omega
  clear h
  go_enter Try.func49, Try.ntmps49
  go_wp2
  go_quiet (fail)
  go_wp2
  go_ret
  exact ⟨by simp [e1, e2], ⟨rfl, rfl, rfl, Nat.le_refl _, fun _ _ => rfl⟩⟩
theorem rget_any (b : Nat) (n : Int) (e : Ef) (w : World) (h : Rd w b n) :
    Calls Try.prog 45 #[.pointer (some ⟨b, 0, none⟩), efA e] w fun r w' => r = .returned (.tuple #[.agg #[.int .i64 0, .int .i64 0, .string ⟨#[]⟩], .bool false]) ∧ Below w.heap.size w w' := by
  have G0 := GAt.new w e
  have H0 := Lib.hid (rfind_any b n e _ (h.later G0.bel))
  replace G0 := Lib.hid G0
  clear h
  go_enter Try.func45, Try.ntmps45
  go_wp2_with (first
    | (go_at_call 58; refine H0.out.mono ?_; rintro r w2 ⟨rfl, hbel⟩; have G2 := Lib.hid (G0.out.later hbel); clear hbel)
    | (refine store_bx rfl TRp _ _ rfl (w.heap.size + 1) #[.int .i64 0, .int .i64 0, .string ⟨#[]⟩] _ rfl rfl G2.out.res size_TRp rfl (by simp [Value.oneCell']) ?_; intro w3 hs3; have hB := hs3.below G2.out.bel (by omega)))
  have d0 := cell_of_row w3 _ 0 _ TRp _ hs3.blk
  have d1 := cell_of_row w3 _ 1 _ TRp _ hs3.blk
  have d2 := cell_of_row w3 _ 2 _ TRp _ hs3.blk
  simp only [List.getElem?_toArray, List.getElem?_cons_zero, List.getElem?_cons_succ] at d0 d1 d2
  exact bodyPost_ret (v := .tuple #[.agg #[.int .i64 0, .int .i64 0, .string ⟨#[]⟩], .bool false]) (by simp [results, Try.results45, go_sem, d0, d1, d2]) rfl ⟨rfl, hB⟩
theorem rtake_no (b : Nat) (n : Int) (r : Rng.Rg) (h1 : r.f.length ≤ 9223372036854775807) (h2 : r.t.length ≤ 9223372036854775807) (hr : okR r = false) (w : World) :
    Calls Try.prog 15 #[.pointer (some ⟨b, 0, none⟩), rgA r] w fun e w' => e = .returned (.tuple #[.slice none 0 0, .int .i64 2]) ∧ Below w.heap.size w w' := by
  have hx := Rng.bx_new w (tx r.f) (tx r.t)
  obtain ⟨c0, c1⟩ := hx.cells
  have hV := Lib.hid (fun W => rvalid_any r h1 h2 W)
  rw [hr] at hV
  have hB := Lib.hid hx.bel
  clear hx hr
  go_enter Try.func15, Try.ntmps15
  go_wp2_with (go_at_call 43; refine (hV.out _).mono ?_; rintro e w1 ⟨rfl, hb⟩)
  go_ret2
  exact ⟨rfl, hB.out.trans (hb.mono hB.out.size)⟩
theorem same_store {w : World} {b : Nat} {n : Int} (h : Rd w b n) : Below w.heap.size w (w.setCell ⟨b, 1, none⟩ (.slice none 0 0)) := by
  have hs : (w.setCell ⟨b, 1, none⟩ (.slice none 0 0)).heap.size = w.heap.size := by simp [World.setCell]
  refine ⟨rfl, rfl, rfl, by rw [hs]; exact Nat.le_refl _, fun k hk => ?_⟩
  by_cases e : k = b
  · subst e
    have := heap_setCell_same w k 1 _ _ (.slice none 0 0) h
    rw [this, h]
    rfl
  · exact Below.heap_setCell _ _ _ k e
theorem rtake_ok (b : Nat) (n : Int) (r : Rng.Rg) (h1 : r.f.length ≤ 9223372036854775807) (h2 : r.t.length ≤ 9223372036854775807) (hr : okR r = true) (w : World) (h : Rd w b n) :
    Calls Try.prog 15 #[.pointer (some ⟨b, 0, none⟩), rgA r] w fun e w' => e = .returned (.tuple #[.slice none 0 0, .int .i64 0]) ∧ Below w.heap.size w w' := by
  have hx := Rng.bx_new w (tx r.f) (tx r.t)
  obtain ⟨c0, c1⟩ := hx.cells
  have hV := Lib.hid (fun W => rvalid_any r h1 h2 W)
  rw [hr] at hV
  have hR := Lib.hid (h.later hx.bel)
  have hB := Lib.hid hx.bel
  clear hx hr h
  go_enter Try.func15, Try.ntmps15
  go_wp2_with fail
  refine (hV.out _).mono ?_
  rintro e w1 ⟨rfl, hb⟩
  have hR1 := hR.out.later hb
  obtain ⟨d0, d1⟩ := hR1.cells
  obtain ⟨f0, f1⟩ := hR1.froz
  have hS := Lib.hid (same_store hR1)
  have hB1 := Lib.hid (hB.out.trans (hb.mono hB.out.size))
  clear hb hR1
  go_wp2
  refine wp_loop_rounds 1 ?_
  rw [rounds_succ]
  go_wp2_with (go_at_call 44; refine (rsorted_nil _).mono ?_; rintro e w' ⟨rfl, rfl⟩)
  go_ret2
  exact ⟨rfl, hB1.out.trans (hS.out.mono hB1.out.size)⟩
/-- An effect in a box. -/
theorem ef_cells {W : World} {q : Nat} {e : Ef} (h : W.heap[q]? = some (eBx e)) : W.cell? ⟨q, 0, none⟩ = some (.int .i64 e.s) ∧ W.cell? ⟨q, 1, none⟩ = some (.int .i64 e.t) ∧ W.cell? ⟨q, 2, none⟩ = some (.int .i64 e.p) :=
  ⟨cell_of_row _ _ 0 _ _ _ h, cell_of_row _ _ 1 _ _ _ h, cell_of_row _ _ 2 _ _ _ h⟩
theorem blk_later {W W' : World} {q : Nat} {o : Obj} (h : W.heap[q]? = some o) (hb : Below W.heap.size W W') : W'.heap[q]? = some o := (hb.block _ (Array.getElem?_eq_some_iff.1 h).1).trans h
abbrev zRp : Obj := .cells #[.int .i64 0, .int .i64 0, .string ⟨#[]⟩] TRp (0, 0)
set_option maxHeartbeats 1000000 in
theorem shows_any {B b rb : Nat} {n : Int} {w W : World} (e : Ef) (h0 : 0 ≤ n) (h1 : n ≤ 2048) (h : Wk B w b n [] W) (hr : Rd W rb n) :
    Calls Try.prog 16 #[.pointer (some ⟨b, 0, none⟩), .pointer (some ⟨rb, 0, none⟩), efA e] W fun r w' => r = .returned (.bool true) ∧ Below W.heap.size W w' := by
  have hb0 := alloc_b W (.cells #[.int .i64 e.s, .int .i64 e.t, .int .i64 e.p] TE)
  have E0 := heap_alloc_new W (.cells #[.int .i64 e.s, .int .i64 e.t, .int .i64 e.p] TE)
  obtain ⟨c0, c1, c2⟩ := ef_cells E0
  have K0 := Lib.hid (h.later hb0)
  have R0 := Lib.hid (hr.later hb0)
  replace E0 := Lib.hid E0
  replace hb0 := Lib.hid hb0
  have hq := eq_rz
  clear h hr
  go_enter Try.func16, Try.ntmps16
  go_wp2_with fail
  refine (K0.out.get e).mono ?_
  rintro r W1 ⟨rfl, hb, _⟩
  rw [show orZ [] e = zEn from rfl, show hasB [] e = false from rfl]
  have ha := alloc_b W1 (.cells #[.int .i64 0, .int .i64 0, .string ⟨#[]⟩] TRp)
  have hb1 := hb.trans (ha.mono hb.size)
  have K1 := Lib.hid (K0.out.later hb1)
  have R1 := Lib.hid (R0.out.later hb1)
  have E1' := blk_later E0.out hb1
  have A1 := Lib.hid (heap_alloc_new W1 (.cells #[.int .i64 0, .int .i64 0, .string ⟨#[]⟩] TRp))
  clear c0 c1 c2
  obtain ⟨c0, c1, c2⟩ := ef_cells (blk_later E0.out hb)
  have hsz : W.heap.size < W1.heap.size := (Array.getElem?_eq_some_iff.1 (blk_later E0.out hb)).1
  have E1 := Lib.hid E1'
  have B1 := Lib.hid (hb0.out.trans (hb1.mono hb0.out.size))
  clear hb ha hb1 K0 R0 E0 E1'
  go_wp2_with fail
  refine (rget_any rb n e _ R1.out).mono ?_
  rintro r W2 ⟨rfl, hb⟩
  have ha := alloc_b W2 (.cells #[.int .i64 0, .int .i64 0, .string ⟨#[]⟩] TRp)
  have hb2 := hb.trans (ha.mono hb.size)
  have K2 := Lib.hid (K1.out.later hb2)
  have R2 := Lib.hid (R1.out.later hb2)
  have E2' := blk_later E1.out hb2
  have A2 := Lib.hid (blk_later A1.out hb2)
  have C2 := Lib.hid (heap_alloc_new W2 (.cells #[.int .i64 0, .int .i64 0, .string ⟨#[]⟩] TRp))
  clear c0 c1 c2 hsz
  obtain ⟨c0, c1, c2⟩ := ef_cells (blk_later E1.out hb)
  have hsz : W.heap.size < W2.heap.size := (Array.getElem?_eq_some_iff.1 (blk_later E1.out hb)).1
  have E2 := Lib.hid E2'
  have B2 := Lib.hid (B1.out.trans (hb2.mono B1.out.size))
  clear hb ha hb2 K1 R1 E1 E2' A1 B1
  go_wp2_with fail
  refine (K2.out.key e).mono ?_
  rintro r W3 ⟨rfl, hb, _⟩
  rw [show orZ [] e = zEn from rfl, show hasB [] e = false from rfl, show tx zEn.ky = ⟨#[]⟩ from rfl]
  have K3 := Lib.hid (K2.out.later hb)
  have R3 := Lib.hid (R2.out.later hb)
  have E3' := blk_later E2.out hb
  have A3 := Lib.hid (blk_later A2.out hb)
  have C3 := Lib.hid (blk_later C2.out hb)
  clear c0 c1 c2 hsz
  obtain ⟨c0, c1, c2⟩ := ef_cells E3'
  have E3 := Lib.hid E3'
  have B3 := Lib.hid (B2.out.trans (hb.mono B2.out.size))
  clear hb K2 R2 E2 E3' A2 C2 B2
  go_wp2_with fail
  refine (rkey_any rb n e _ R3.out).mono ?_
  rintro r W4 ⟨rfl, hb⟩
  have K4 := Lib.hid (K3.out.later hb)
  have R4 := Lib.hid (R3.out.later hb)
  have a4 := blk_later A3.out hb
  have c4 := blk_later C3.out hb
  have p0 := cell_of_row _ _ 0 _ TRp _ a4
  have p1 := cell_of_row _ _ 1 _ TRp _ a4
  have p2 := cell_of_row _ _ 2 _ TRp _ a4
  have s0 := cell_of_row _ _ 0 _ TRp _ c4
  have s1 := cell_of_row _ _ 1 _ TRp _ c4
  have s2 := cell_of_row _ _ 2 _ TRp _ c4
  simp only [List.getElem?_toArray, List.getElem?_cons_zero, List.getElem?_cons_succ] at p0 p1 p2 s0 s1 s2
  have B4 := Lib.hid (B3.out.trans (hb.mono B3.out.size))
  clear hb K3 R3 E3 A3 C3 a4 c4 B3 c0 c1 c2
  go_wp2_with fail
  refine K4.out.all.mono ?_
  rintro r W5 ⟨v5, rfl, hF, hb, _⟩
  have K5 := Lib.hid (K4.out.later hb)
  have R5 := Lib.hid (R4.out.later hb)
  obtain ⟨a5, cap5, rfl⟩ := hF.form
  have F5 := Lib.hid hF.fs
  have B5 := Lib.hid (B4.out.trans (hb.mono B4.out.size))
  clear hb K4 R4 hF B4 p0 p1 p2 s0 s1 s2
  go_wp2_with fail
  refine (rall_any rb n _ R5.out).mono ?_
  rintro r W6 ⟨rfl, rfl⟩
  go_wp2_with fail
  refine (equal_any _ _ (effs []) [] _ F5.out (Fw.nil 0 _).fs (by simp) (by simp)).mono ?_
  rintro r W7 ⟨rfl, hb⟩
  rw [show eqF (effs []) [] = true from decide_eq_true rfl]
  have K7 := Lib.hid (K5.out.later hb)
  have R7 := Lib.hid (R5.out.later hb)
  have B7 := Lib.hid (B5.out.trans (hb.mono B5.out.size))
  clear hb K5 R5 F5 B5
  go_wp2_with fail
  refine K7.out.len.mono ?_
  rintro r W8 ⟨rfl, hb, _⟩
  have K8 := Lib.hid (K7.out.later hb)
  have R8 := Lib.hid (R7.out.later hb)
  have B8 := Lib.hid (B7.out.trans (hb.mono B7.out.size))
  clear hb K7 R7 B7
  go_wp2_with fail
  refine (rlen_any rb n _ R8.out).mono ?_
  rintro r W9 ⟨rfl, rfl⟩
  go_wp2_with fail
  refine K8.out.room.mono ?_
  rintro r W10 ⟨rfl, hb, _⟩
  rw [show n - (([] : List En).length : Int) = n by simp]
  have R10 := Lib.hid (R8.out.later hb)
  have B10 := Lib.hid (B8.out.trans (hb.mono B8.out.size))
  clear hb K8 R8 B8
  go_wp2_with fail
  refine (rroom_any rb n h0 h1 _ R10.out).mono ?_
  rintro r W11 ⟨rfl, hb⟩
  have B11 := Lib.hid (B10.out.trans (hb.mono B10.out.size))
  clear hb
  go_wp2
  go_ret
  exact ⟨rfl, B11.out⟩
end Go.Proofs.Ytgcpboailblhlaa.Ded
