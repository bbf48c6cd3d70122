/- The document's learner: get, set, size, Chosen, Votes, Upto, Learn. -/
import Derived.Test.YtaacnhhinhdinaaE24
namespace Go.Proofs.Ytaacnhhinhdinaa.Lrn
open Go.RowKit Go.Maps Go.Lib
open Bal (TB bOk ckB ordV eqB eqB_t eqB_f eq_b alloc_b)
set_option linter.unusedVariables false
set_option linter.unusedSimpArgs false
set_option maxRecDepth 20000

/-- An entry in a box. -/
structure EBx (w : World) (b : Nat) (e : Et) (W : World) : Prop where
  blk : W.heap[b]? = some (.cells (eA e) TRK (0, 0))
  bel : Below w.heap.size w W
theorem EBx.later {w W W' : World} {b : Nat} {q : Et} (h : EBx w b q W) (hb : Below W.heap.size W W') : EBx w b q W' := ⟨(hb.block _ (Array.getElem?_eq_some_iff.1 h.blk).1).trans h.blk, h.bel.trans (hb.mono h.bel.size)⟩
theorem EBx.drew {w W : World} {b : Nat} {q : Et} (h : EBx w b q W) : EBx w b q W.drew := h.later (Below.refl _ _).drew
theorem EBx.cells {w W : World} {b : Nat} {q : Et} (h : EBx w b q W) :
    W.cell? ⟨b, 0, none⟩ = some (.int .i64 q.s) ∧ W.cell? ⟨b, 1, none⟩ = some (.bool q.k.c) ∧ W.cell? ⟨b, 2, none⟩ = some (.string q.k.v) ∧ W.cell? ⟨b, 3, none⟩ = some (.int .i64 q.k.r) ∧ W.cell? ⟨b, 4, none⟩ = some (.int .i64 q.k.m) ∧ W.cell? ⟨b, 5, none⟩ = some (.string q.k.t) ∧ W.cell? ⟨b, 6, none⟩ = some (.int .u64 q.k.x) :=
  ⟨cell_of_row W b 0 _ TRK _ h.blk, cell_of_row W b 1 _ TRK _ h.blk, cell_of_row W b 2 _ TRK _ h.blk, cell_of_row W b 3 _ TRK _ h.blk, cell_of_row W b 4 _ TRK _ h.blk, cell_of_row W b 5 _ TRK _ h.blk, cell_of_row W b 6 _ TRK _ h.blk⟩
theorem EBx.frozen {w W : World} {b : Nat} {q : Et} (h : EBx w b q W) (i : Nat) : W.frozen? ⟨b, i, none⟩ = false := frozen_of_row W b i _ TRK h.blk
theorem ebx_new (w : World) (q : Et) : EBx w w.heap.size q (w.alloc (.cells (eA q) TRK)) := ⟨heap_alloc_new _ _, alloc_b _ _⟩
theorem get_res {fn : Func} {t : Tmp} (hfn : fn.results = #[.cell t TRK]) (tmps : Array Value) {w W : World} {b : Nat} {q : Et} (h : tmps[t]?.getD undef = .pointer (some ⟨b, 0, none⟩)) (hb : EBx w b q W) :
    (results fn tmps).run Try.prog W = .ok (vEt q) W := by
  obtain ⟨c0, c1, c2, c3, c4, c5, c6⟩ := hb.cells
  simp [results, hfn, go_sem, h, c0, c1, c2, c3, c4, c5, c6]
abbrev zEt : Et := ⟨0, zK⟩
set_option maxHeartbeats 2000000 in
theorem rget_any {rb : Nat} {s : St} {L : List Et} {vl : Value} (k : Int) (w : World) (x : Rx w rb s L vl) :
    Calls Try.prog 39 #[.pointer (some ⟨rb, 0, none⟩), .int .i64 k] w fun e w' => e = .returned (vEt ⟨k, at' s k⟩) ∧ Below w.heap.size w w' := by
  have x1 := x.alloc (.cells #[.int .i64 0, .bool false, .string ⟨#[]⟩, .int .i64 0, .int .i64 0, .string ⟨#[]⟩, .int .u64 0] TRK)
  obtain ⟨_, _, c2⟩ := x1.cells
  obtain ⟨a, cap, rfl⟩ := x.form
  have hlen := x.len
  have hD : Hid (∀ i e, L[i]? = some e → ∃ g, a = some ⟨g, 0, none⟩ ∧ g < w.heap.size ∧ (w.alloc (.cells #[.int .i64 0, .bool false, .string ⟨#[]⟩, .int .i64 0, .int .i64 0, .string ⟨#[]⟩, .int .u64 0] TRK)).cell? ⟨g, i * 7, none⟩ = some (.int .i64 e.s) ∧ (w.alloc (.cells #[.int .i64 0, .bool false, .string ⟨#[]⟩, .int .i64 0, .int .i64 0, .string ⟨#[]⟩, .int .u64 0] TRK)).cell? ⟨g, i * 7 + 1, none⟩ = some (.bool e.k.c) ∧ (w.alloc (.cells #[.int .i64 0, .bool false, .string ⟨#[]⟩, .int .i64 0, .int .i64 0, .string ⟨#[]⟩, .int .u64 0] TRK)).cell? ⟨g, i * 7 + 2, none⟩ = some (.string e.k.v) ∧ (w.alloc (.cells #[.int .i64 0, .bool false, .string ⟨#[]⟩, .int .i64 0, .int .i64 0, .string ⟨#[]⟩, .int .u64 0] TRK)).cell? ⟨g, i * 7 + 3, none⟩ = some (.int .i64 e.k.r) ∧
      (w.alloc (.cells #[.int .i64 0, .bool false, .string ⟨#[]⟩, .int .i64 0, .int .i64 0, .string ⟨#[]⟩, .int .u64 0] TRK)).cell? ⟨g, i * 7 + 4, none⟩ = some (.int .i64 e.k.m) ∧ (w.alloc (.cells #[.int .i64 0, .bool false, .string ⟨#[]⟩, .int .i64 0, .int .i64 0, .string ⟨#[]⟩, .int .u64 0] TRK)).cell? ⟨g, i * 7 + 5, none⟩ = some (.string e.k.t) ∧ (w.alloc (.cells #[.int .i64 0, .bool false, .string ⟨#[]⟩, .int .i64 0, .int .i64 0, .string ⟨#[]⟩, .int .u64 0] TRK)).cell? ⟨g, i * 7 + 6, none⟩ = some (.int .u64 e.k.x)) := Lib.hid fun i e he => by
    obtain ⟨g, cap', hv, hg, hc⟩ := x1.row.at he
    obtain ⟨g', cap'', hv', hg', _⟩ := x.row.at he
    injection hv with h1 _ _
    injection hv' with h1' _ _
    rw [h1] at h1'
    injection h1' with h1'
    injection h1' with h1'
    subst h1'
    exact ⟨g, h1, hg', hc⟩
  have hyes : Hid (∀ e ∈ L, e.s = k → (⟨k, at' s k⟩ : Et) = e) := Lib.hid fun e he hk => by
    have := (getN_iff x.rel.nd k e).2 ⟨he, hk⟩
    unfold at'
    rw [← x.rel.eq, this]
    obtain ⟨es, ek⟩ := e
    simp only at hk
    rw [← hk]
  have hnon : Hid ((∀ e ∈ L, e.s ≠ k) → (⟨k, at' s k⟩ : Et) = ⟨k, zK⟩) := Lib.hid fun h => by
    have := get_none.2 h
    unfold at'
    rw [← x.rel.eq, this]
  clear x x1
  generalize (⟨k, at' s k⟩ : Et) = res at *
  go_enter Try.func39, Try.ntmps39
  go_wp2
  go_loop [5] (fun i => ∃ j : Nat, j ≤ L.length ∧ i = .int .i64 j ∧ ∀ i, i < j → ∀ e, L[i]? = some e → e.s ≠ k) (fun i => L.length - (intOf i).toNat)
  case atStart => exact ⟨0, Nat.zero_le _, rfl, fun i h => by omega⟩
  case round =>
    obtain ⟨j, hj, rfl, hall⟩ := hrel
    replace hall := Lib.hid hall
    by_cases hlt : j < L.length
    · obtain ⟨e, he⟩ : ∃ e, L[j]? = some e := ⟨_, List.getElem?_eq_getElem hlt⟩
      obtain ⟨g, rfl, hg, d0, d1, d2, d3, d4, d5, d6⟩ := hD.out j e he
      have hmem := Lib.hid (List.mem_of_getElem? he)
      have he' := Lib.hid he
      obtain ⟨es, ⟨ec, ev, er, em, et, ex⟩⟩ := e
      simp only at d0 d1 d2 d3 d4 d5 d6
      have i1 : 0 ≤ (j : Int) := by omega
      have i2 : (j : Int) < (L.length : Int) := by omega
      have i3 : IntKind.i64.wrap ((j : Int) + 1) = ((j + 1 : Nat) : Int) := by rw [IntKind.wrap_i64]; omega
      clear he
      by_cases hk : es = k
      · have hr := hyes.out _ hmem.out hk
        subst hr
        have q1 : (es == k) = true := by simpa using hk
        have hE := Lib.hid (ebx_new w ⟨es, ⟨ec, ev, er, em, et, ex⟩⟩)
        subst hk
        go_wp2
        refine bodyPost_ret (v := vEt ⟨es, ⟨ec, ev, er, em, et, ex⟩⟩) ?_ rfl ⟨rfl, hE.out.bel⟩
        exact get_res Try.results39 _ rfl hE.out
      · have q1 : (es == k) = false := by simpa using hk
        have q2 : (es = k) = False := by simpa using hk
        have hk' := Lib.hid hk
        clear hk
        go_wp2
        go_round
        case rel => exact ⟨j + 1, by omega, by go_num, fun i hi e he => by
          rcases Nat.lt_or_ge i j with h | h
          · exact hall.out i h e he
          · have : i = j := by omega
            subst this
            rw [he'.out] at he
            injection he with he
            rw [← he]
            exact hk'.out⟩
        case measure => simp [intOf]; omega
    · have hjl : j = L.length := by omega
      have hr := hnon.out fun e he => by
        obtain ⟨i, hi⟩ := List.getElem?_of_mem he
        exact hall.out i (by have := (List.getElem?_eq_some_iff.1 hi).1; omega) e hi
      subst hr
      have i2 : decide ((j : Int) < (L.length : Int)) = false := by simp; omega
      have hE := Lib.hid (ebx_new w ⟨k, zK⟩)
      clear hD hyes hnon
      subst hjl
      go_wp2
      refine bodyPost_ret (v := vEt ⟨k, zK⟩) ?_ rfl ⟨rfl, hE.out.bel⟩
      exact get_res Try.results39 _ rfl hE.out
end Go.Proofs.Ytaacnhhinhdinaa.Lrn
