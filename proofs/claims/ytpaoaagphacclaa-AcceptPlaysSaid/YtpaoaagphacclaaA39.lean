/- The document's acceptor: Accepted. -/
import Derived.Test.YtpaoaagphacclaaA37
namespace Go.Proofs.Ytpaoaagphacclaa.Acc
open Go.RowKit Go.Maps Go.Lib
open Bal (TB bOk ckB ordV eqB eqB_t eqB_f eq_b alloc_b)
set_option linter.unusedVariables false
set_option linter.unusedSimpArgs false
set_option maxRecDepth 20000

theorem acc_key (w : World) (es er em : Int) (ev : ByteArray) : (w.alloc (.cells #[.int .i64 es, .int .i64 er, .int .i64 em, .string ev] TE)).heap[w.heap.size]? = some (.cells #[.int .i64 es, .int .i64 er, .int .i64 em, .string ev] TE (0, 0)) := heap_alloc_new _ _
theorem acc_set (W : World) (b : Nat) (c : Array Value) (es er em : Int) (ev : ByteArray) (h : W.heap[b]? = some (.cells #[.int .i64 0, .int .i64 0, .int .i64 0, .string ⟨#[]⟩] TE (0, 0))) :
    ((((W.setCell ⟨b, 0, none⟩ (.int .i64 es)).setCell ⟨b, 1, none⟩ (.int .i64 er)).setCell ⟨b, 2, none⟩ (.int .i64 em)).setCell ⟨b, 3, none⟩ (.string ev)).heap[b]? = some (.cells #[.int .i64 es, .int .i64 er, .int .i64 em, .string ev] TE (0, 0)) :=
  Go.heap_setCell_same _ b 3 _ TE (.string ev) (Go.heap_setCell_same _ b 2 _ TE (.int .i64 em) (Go.heap_setCell_same _ b 1 _ TE (.int .i64 er) (Go.heap_setCell_same W b 0 _ TE (.int .i64 es) h)))
set_option maxHeartbeats 4000000 in
theorem raccepted_any {rb : Nat} {s : St} {vl : Value} (k : Int) (w : World) (x : Rx w rb s vl) :
    Calls Try.prog 26 #[.pointer (some ⟨rb, 0, none⟩), .int .i64 k] w fun e w' => e = .returned (.tuple #[vE (gE (getM s.M k)), .bool (getM s.M k).isSome]) ∧ Below w.heap.size w w' := by
  have hlen := x.ok.len
  have hsrt := x.ok.srt
  obtain ⟨a, cap, rfl⟩ := x.form
  have hX := Lib.hid (x.alloc (.cells #[.int .i64 0, .int .i64 0, .int .i64 0, .string ⟨#[]⟩] TE))
  have hbx := heap_alloc_new w (.cells #[.int .i64 0, .int .i64 0, .int .i64 0, .string ⟨#[]⟩] TE)
  have hb0 := Lib.hid (alloc_b w (.cells #[.int .i64 0, .int .i64 0, .int .i64 0, .string ⟨#[]⟩] TE))
  generalize hM : s.M = M at *
  replace hM := Lib.hid hM
  have hyes : Hid (∀ e ∈ M, e.s = k → getM M k = some e) := Lib.hid fun e he hk => (get_iff hsrt k e).2 ⟨he, hk⟩
  have hnon : Hid ((∀ e ∈ M, e.s ≠ k) → getM M k = none) := Lib.hid fun h => get_none.2 h
  generalize getM M k = res at *
  clear x hsrt
  go_enter Try.func26, Try.ntmps26
  go_wp2
  generalize w.alloc (.cells #[.int .i64 0, .int .i64 0, .int .i64 0, .string ⟨#[]⟩] TE) = W1 at *
  obtain ⟨z0, z1, z2, z3⟩ : W1.cell? ⟨w.heap.size, 0, none⟩ = some (.int .i64 0) ∧ W1.cell? ⟨w.heap.size, 1, none⟩ = some (.int .i64 0) ∧ W1.cell? ⟨w.heap.size, 2, none⟩ = some (.int .i64 0) ∧ W1.cell? ⟨w.heap.size, 3, none⟩ = some (.string ⟨#[]⟩) :=
    ⟨cell_of_row _ _ 0 _ TE _ hbx, cell_of_row _ _ 1 _ TE _ hbx, cell_of_row _ _ 2 _ TE _ hbx, cell_of_row _ _ 3 _ TE _ hbx⟩
  have f0 := frozen_of_row W1 w.heap.size 0 _ TE hbx
  have f1 := frozen_of_row W1 w.heap.size 1 _ TE hbx
  have f2 := frozen_of_row W1 w.heap.size 2 _ TE hbx
  have f3 := frozen_of_row W1 w.heap.size 3 _ TE hbx
  have hset := Lib.hid (fun es er em ev => acc_set W1 w.heap.size #[] es er em ev hbx)
  have hbs : Hid (∀ es er em ev, Below w.heap.size w ((((W1.setCell ⟨w.heap.size, 0, none⟩ (.int .i64 es)).setCell ⟨w.heap.size, 1, none⟩ (.int .i64 er)).setCell ⟨w.heap.size, 2, none⟩ (.int .i64 em)).setCell ⟨w.heap.size, 3, none⟩ (.string ev))) := Lib.hid fun es er em ev =>
    (((((Keeps.of_below (F := fun _ => False) hb0.out).setCell (p := ⟨w.heap.size, 0, none⟩) (.inr (Nat.le_refl _)) _).setCell (p := ⟨w.heap.size, 1, none⟩) (.inr (Nat.le_refl _)) _).setCell (p := ⟨w.heap.size, 2, none⟩) (.inr (Nat.le_refl _)) _).setCell (p := ⟨w.heap.size, 3, none⟩) (.inr (Nat.le_refl _)) _).below (Nat.le_refl _) fun _ hf => hf.elim
  clear hbx
  have HV := Lib.hid (rvalid_any W1 hX.out)
  obtain ⟨_, _, _, _, c4, _⟩ := hX.out.cells
  go_loopw [6] (fun i wr => ∃ j : Nat, j ≤ M.length ∧ i = .int .i64 j ∧ wr = W1 ∧ ∀ i, i < j → ∀ e, M[i]? = some e → e.s ≠ k) (fun i _ => M.length - (intOf i).toNat)
  case atStart => exact ⟨0, Nat.zero_le _, rfl, rfl, fun i h => by omega⟩
  case round =>
    obtain ⟨j, hj, rfl, rfl, hall⟩ := hrel
    replace hall := Lib.hid hall
    by_cases hlj : j < M.length
    · obtain ⟨y, hy⟩ : ∃ y, M[j]? = some y := ⟨_, List.getElem?_eq_getElem hlj⟩
      have hmem := Lib.hid (List.mem_of_getElem? hy)
      have hy' := Lib.hid hy
      have hrow := hX.out.row
      rw [hM.out] at hrow
      obtain ⟨g, cap', hv, _, hg, hc⟩ := hrow.cells (by omega)
      injection hv with hv1 hv2 hv3
      subst hv1
      obtain ⟨d0, d1, d2, d3⟩ := hc j y hy
      have i1 : 0 ≤ (j : Int) := by omega
      have i2 : (j : Int) < (M.length : Int) := by omega
      have i3 : IntKind.i64.wrap ((j : Int) + 1) = ((j + 1 : Nat) : Int) := by rw [IntKind.wrap_i64]; omega
      obtain ⟨ys, yr, ym, yv⟩ := y
      simp only at d0 d1 d2 d3
      clear hy hlj hv2 hv3 hc hrow
      by_cases hk : ys = k
      · have hr := hyes.out _ hmem.out hk
        subst hr
        have q1 : (ys == k) = true := by simpa using hk
        clear hk
        have hset1 := hset.out ys yr ym yv
        have hbs1 := Lib.hid (hbs.out ys yr ym yv)
        have e0 := cell_of_row _ _ 0 _ TE _ hset1
        have e1 := cell_of_row _ _ 1 _ TE _ hset1
        have e2 := cell_of_row _ _ 2 _ TE _ hset1
        have e3 := cell_of_row _ _ 3 _ TE _ hset1
        clear hset1
        replace e0 := Lib.hid e0
        replace e1 := Lib.hid e1
        replace e2 := Lib.hid e2
        replace e3 := Lib.hid e3
        go_wp2_with (go_at_call 42; refine HV.out.mono ?_; rintro e w' ⟨rfl, rfl⟩)
        refine bodyPost_ret (v := .tuple #[vE ⟨ys, yr, ym, yv⟩, .bool true]) ?_ rfl ⟨rfl, hbs1.out⟩
        simp [results, Try.results26, go_sem, e0.out, e1.out, e2.out, e3.out]
      · have q1 : (ys == k) = false := by simpa using hk
        have q2 : (ys = k) = False := by simpa using hk
        replace hk := Lib.hid hk
        go_wp2_with (go_at_call 42; refine HV.out.mono ?_; rintro e w' ⟨rfl, rfl⟩)
        go_roundw
        case rel => exact ⟨j + 1, by omega, by go_num, trivial, fun i hi e he => by
          by_cases h : i = j
          · subst h; rw [hy'.out] at he; injection he with he; subst he; exact hk.out
          · exact hall.out i (by omega) e he⟩
        case measure => simp [intOf]; omega
    · have hjl : j = M.length := by omega
      subst hjl
      have i2 : decide ((M.length : Int) < (M.length : Int)) = false := by simp
      have hr := hnon.out fun e he hk => by
        obtain ⟨i, hi, he'⟩ := List.mem_iff_getElem.1 he
        exact hall.out i hi e (by rw [List.getElem?_eq_getElem hi, he']) hk
      subst hr
      have hset1 := hset.out 0 0 0 ⟨#[]⟩
      have hbs1 := Lib.hid (hbs.out 0 0 0 ⟨#[]⟩)
      have e0 := Lib.hid (cell_of_row _ _ 0 _ TE _ hset1)
      have e1 := Lib.hid (cell_of_row _ _ 1 _ TE _ hset1)
      have e2 := Lib.hid (cell_of_row _ _ 2 _ TE _ hset1)
      have e3 := Lib.hid (cell_of_row _ _ 3 _ TE _ hset1)
      clear hset1
      go_wp2_with (go_at_call 42; refine HV.out.mono ?_; rintro e w' ⟨rfl, rfl⟩)
      refine bodyPost_ret (v := .tuple #[vE zE, .bool false]) ?_ rfl ⟨rfl, hbs1.out⟩
      simp [results, Try.results26, go_sem, e0.out, e1.out, e2.out, e3.out]
end Go.Proofs.Ytpaoaagphacclaa.Acc
