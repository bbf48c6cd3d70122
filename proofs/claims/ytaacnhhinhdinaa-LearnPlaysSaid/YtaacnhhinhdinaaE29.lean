/- The document's learner: Copy. -/
import Derived.Test.YtaacnhhinhdinaaE28
namespace Go.Proofs.Ytaacnhhinhdinaa.Lrn
open Go.RowKit Go.Maps Go.Lib
open Bal (TB bOk ckB ordV eqB eqB_t eqB_f eq_b alloc_b)
set_option linter.unusedVariables false
set_option linter.unusedSimpArgs false
set_option maxRecDepth 20000

theorem step_append_c {ops : Array Oper} {o : Oper} {a : Act} {w : World} {K : Act → World → Prop} {Q : Exit → Act → World → Prop} {E : Prop} (hgd : o.guard = none) (s x : Operand)
    (ho : o.op = .call { callee := .builtin .append, args := #[s, x], argTypes := #[TRKs, TRKs] })
    (base : Nat) (v : Value) (L : List Et) (hs : a.eval s = v) (hown : OwK base L v w) (ad : Addr) (c : Nat) (N : List Et) (hx : a.eval x = .slice (some ad) N.length c)
    (hc : ∀ j u, (flatK N)[j]? = some u → w.cell? (ad.add j) = some u) (hn : L.length + N.length ≤ 100000) (hbase : base ≤ w.heap.size)
    (h : ∀ v' w', OwK base (L ++ N) v' w' → w.grownBy w' v.ownBlock → K (a.put o.dst v') w') :
    if Region.wanted o (yielded ops a.tmps) = true then Oper.wp Try.prog o a w K Q else E := by
  have hw : Region.wanted o (yielded ops a.tmps) = true := by simp [Region.wanted, hgd]
  rw [if_pos hw]
  obtain ⟨v', w', hrun, h1, h2⟩ := run_append_k base w o.type v L hown ad c N hc hn hbase
  unfold Oper.wp execOp
  simp only [ho, resolve, invoke, builtin, Sem.run_bind, Sem.run_pure, Result.andThen_ok, List.map_toArray, List.map_cons, List.map_nil, hs, hx, hrun]
  exact h v' w' h1 h2
def RCop (w : World) (s : St) (e : Ending) (w' : World) : Prop :=
  ∃ rb' L' v', e = .returned (.pointer (some ⟨rb', 0, none⟩)) ∧ Rx w' rb' s L' v' ∧ w.heap.size ≤ rb' ∧ Below w.heap.size w w'
set_option maxHeartbeats 4000000 in
theorem rcopy_any {rb : Nat} {s : St} {L : List Et} {vl : Value} (w : World) (x : Rx w rb s L vl) :
    Calls Try.prog 21 #[.pointer (some ⟨rb, 0, none⟩)] w (RCop w s) := by
  obtain ⟨a, cap, rfl⟩ := x.form
  have hlen := x.len
  have x1 := (x.alloc (.cells #[] TRK)).drew
  obtain ⟨c0, c1, c2⟩ := x1.cells
  obtain ⟨p0, p1, p2⟩ := x.drew.cells
  have hb1 := (alloc_b w (.cells #[] TRK)).drew
  have hown : OwK w.heap.size [] (.slice (some ⟨w.heap.size, 0, none⟩) 0 0) (w.alloc (.cells #[] TRK)).drew := by
    refine ⟨rfl, .inr ⟨w.heap.size, 0, #[], rfl, Nat.le_refl _, ?_, Nat.le_refl _, Nat.zero_le _, rfl, rfl⟩⟩
    exact heap_alloc_new w (.cells #[] TRK)
  have hsz : w.heap.size ≤ (w.alloc (.cells #[] TRK)).drew.heap.size := hb1.size
  have hfin : Hid (∀ W v', OwK w.heap.size L v' W → Below w.heap.size w W → RCop w s (.returned (.pointer (some ⟨W.heap.size, 0, none⟩))) (W.alloc (.cells #[.int .i64 s.n, .int .i64 s.b, v'] TRL))) := Lib.hid fun W v' hO hB =>
    ⟨W.heap.size, L, v', rfl, ⟨heap_alloc_new _ _, rows_base (rows_later hO (alloc_b _ _)) (Nat.zero_le _), x.rel, x.ok⟩, hB.size, hB.alloc hB.size _⟩
  have hX := Lib.hid x
  have hb1' := Lib.hid hb1
  have hown' := Lib.hid hown
  have hsz' := Lib.hid hsz
  cases a with
  | some ad =>
    have hc : Hid (∀ j u, (flatK L)[j]? = some u → (w.alloc (.cells #[] TRK)).drew.cell? (ad.add j) = some u) := Lib.hid (fun j u hu => by
      have hp : 0 < L.length := by
        cases L with
        | nil => simp [flatK] at hu
        | cons y r => simp
      obtain ⟨g, cap', hv, _, _, hc, _⟩ := x1.row.cells hp
      injection hv with h1 _ _
      injection h1 with h1
      subst h1
      rw [addr_add, Nat.zero_add]
      exact hc j u hu)
    clear hown x1 x hb1 hsz
    go_enter Try.func21, Try.ntmps21
    go_wp2
    go_region_law (refine step_append_c rfl (.tmp 11) (.tmp 15) rfl w.heap.size (.slice (some ⟨w.heap.size, 0, none⟩) 0 0) [] (by simp [Act.eval, Act.put]) hown'.out ad cap L (by simp [Act.eval, Act.put]) hc.out (by show 0 + L.length ≤ 100000; omega) hsz'.out ?_; intro v' w' hO hg; have hB' : Below w.heap.size w w' := own_below hown'.out hg hb1'.out (Nat.le_refl _); have hF := Lib.hid (hfin.out w' v' hO hB'); obtain ⟨a', c', rfl⟩ := rows_form hO; obtain ⟨r0, r1, r2⟩ := (hX.out.later hB').cells; replace hO := Lib.hid hO; replace hB' := Lib.hid hB')
    all_goals
      simp only [List.getElem_toArray, List.getElem_cons_succ, List.getElem_cons_zero]
      go_frame
      go_wp2
      go_ret
      exact hF.out
  | none =>
    have hL : L = [] := by
      cases L with
      | nil => rfl
      | cons y r =>
        obtain ⟨g, cap', hv, _⟩ := x1.row.cells (by simp)
        injection hv with h1 _ _
        cases h1
    subst hL
    have hF := Lib.hid (hfin.out _ _ hown hb1)
    have hsz2 : (w.alloc (.cells #[] TRK)).drew.heap.size = w.heap.size + 1 := World.size_alloc _ _
    rw [hsz2] at hF
    clear hown hfin x1 x hb1
    go_enter Try.func21, Try.ntmps21
    go_wp2
    go_region
    all_goals
      go_wp2
      go_ret
      exact hF.out
end Go.Proofs.Ytaacnhhinhdinaa.Lrn
