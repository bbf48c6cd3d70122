/- The document's learner: set, Chosen, Votes, Upto, Learn. -/
import Derived.Test.YtaacnhhinhdinaaE25
namespace Go.Proofs.Ytaacnhhinhdinaa.Lrn
open Go.RowKit Go.Maps Go.Lib
open Bal (TB bOk ckB ordV eqB eqB_t eqB_f eq_b alloc_b)
set_option linter.unusedVariables false
set_option linter.unusedSimpArgs false
set_option maxRecDepth 20000

theorem OwK.ne {base : Nat} {L : List Et} {v : Value} {w : World} {rb : Nat} {c : Array Value} (h : OwK base L v w) (hb : w.heap[rb]? = some (.cells c TRL (0, 0))) : ∀ k, v.ownBlock = some k → k ≠ rb := by
  rintro k hk rfl
  rcases h.2 with ⟨rfl, _⟩ | ⟨g, cap, cur, rfl, _, hg, _⟩
  · cases hk
  · injection hk with hk
    subst hk
    rw [hb] at hg
    injection hg with hg
    injection hg with _ hg
    exact absurd hg (by decide)
def SetIs (w : World) (rb : Nat) (s : St) (L : List Et) (e : Et) (r : Ending) (w' : World) : Prop :=
  r = .returned (.tuple #[]) ∧ ∃ v', Rx w' rb ⟨s.n, s.b, putM s.M e⟩ (setL L e) v' ∧ Keeps (fun i => i = rb) w w'
set_option maxHeartbeats 4000000 in
theorem rset_any {rb : Nat} {s : St} {L : List Et} {vl : Value} (e : Et) (w : World) (x : Rx w rb s L vl) (hok : OkS ⟨s.n, s.b, putM s.M e⟩) :
    Calls Try.prog 42 #[.pointer (some ⟨rb, 0, none⟩), vEt e] w (SetIs w rb s L e) := by
  have x1 := x.alloc (.cells (eA e) TRK)
  have hE0 := ebx_new w e
  have hb1 := alloc_b w (.cells (eA e) TRK)
  have hlt := x.lt
  obtain ⟨a, cap, rfl⟩ := x.form
  have hlen := x.len
  have hsz1 : (w.alloc (.cells (eA e) TRK)).heap.size = w.heap.size + 1 := World.size_alloc _ _
  clear x
  have x1 := Lib.hid x1
  have hE0 := Lib.hid hE0
  have hb1 := Lib.hid hb1
  have hsz1 := Lib.hid hsz1
  have hRel := Lib.hid (x1.out.rel.put x1.out.ok e)
  have hok := Lib.hid hok
  obtain ⟨es, ⟨ec, ev, er, em, et, ex⟩⟩ := e
  go_enter Try.func42, Try.ntmps42
  go_wp2
  generalize w.alloc (.cells #[.int .i64 es, .bool ec, .string ev, .int .i64 er, .int .i64 em, .string et, .int .u64 ex] TRK) = W1 at *
  have x1' : Hid (Rx W1 rb s L (.slice a L.length cap)) := x1
  have hE1 : Hid (EBx w w.heap.size ⟨es, ⟨ec, ev, er, em, et, ex⟩⟩ W1) := hE0
  have hb1' : Hid (Below w.heap.size w W1) := hb1
  clear x1 hE0 hb1 hsz1
  go_loopw [4, 5] (fun v i wr => ∃ j : Nat, j ≤ L.length ∧ i = .int .i64 j ∧ OwK W1.heap.size (delM (L.take j) es) v wr ∧ Below W1.heap.size W1 wr) (fun _ i _ => L.length - (intOf i).toNat)
  case atStart => exact ⟨0, Nat.zero_le _, rfl, OwK.nil _ _, Below.refl _ _⟩
  case round =>
    obtain ⟨j, hj, rfl, hO, hB⟩ := hrel
    have xr := x1'.out.later hB
    obtain ⟨_, _, c2⟩ := xr.cells
    have hEr := hE1.out.later hB
    have hlt2 : (delM (L.take j) es).length ≤ 10000 := Nat.le_trans (List.length_filter_le _ _) (by rw [List.length_take]; omega)
    obtain ⟨va, vc, rfl⟩ := rows_form hO
    by_cases hlj : j < L.length
    · obtain ⟨y, hy⟩ : ∃ y, L[j]? = some y := ⟨_, List.getElem?_eq_getElem hlj⟩
      obtain ⟨g, cap', hv, hg, d0, d1, d2, d3, d4, d5, d6⟩ := xr.row.at hy
      injection hv with hv1 hv2 hv3
      subst hv1
      have htk : delM (L.take (j + 1)) es = delM (L.take j) es ++ (if y.s = es then [] else [y]) := by
        rw [List.take_add_one, hy]
        unfold delM
        rw [List.filter_append]
        congr 1
        by_cases h : y.s = es <;> simp [h]
      obtain ⟨e0, _⟩ := hEr.cells
      simp only at e0
      have i1 : 0 ≤ (j : Int) := by omega
      have i2 : (j : Int) < (L.length : Int) := by omega
      have i3 : IntKind.i64.wrap ((j : Int) + 1) = ((j + 1 : Nat) : Int) := by rw [IntKind.wrap_i64]; omega
      obtain ⟨ys, ⟨yc, yv, yr, ym, yt, yx⟩⟩ := y
      simp only at d0 d1 d2 d3 d4 d5 d6 htk
      replace hO := Lib.hid hO
      have hB' := Lib.hid (fun n => below_drewN hB n)
      clear hy xr hEr hlj hv2 hv3
      by_cases hk : ys = es
      · have q1 : (ys == es) = true := by simpa using hk
        rw [if_pos hk, List.append_nil] at htk
        replace htk := Lib.hid htk
        subst hk
        go_wp2
        go_quiet (fail)
        go_wp2
        go_roundw
        case rel => exact ⟨j + 1, by omega, by go_num, by rw [htk.out]; exact hO.out.later (below_drewN (Below.refl _ _) _), hB'.out _⟩
        case measure => simp [intOf]; omega
      · have q1 : (ys == es) = false := by simpa using hk
        have q2 : (ys = es) = False := by simpa using hk
        rw [if_neg hk] at htk
        replace htk := Lib.hid htk
        clear hk
        go_wp2
        go_quiet (fail)
        generalize hW2 : wr.drewN nq = W2 at *
        have hO2 : OwK W1.heap.size (delM (L.take j) es) (.slice va (delM (L.take j) es).length vc) (W2.alloc (.cells (eA ⟨ys, ⟨yc, yv, yr, ym, yt, yx⟩⟩) TRK)) := by
          rw [← hW2]
          exact (hO.out.later (below_drewN (Below.refl _ _) _)).later (alloc_b _ _)
        have hB2 : Below W1.heap.size W1 W2 := by rw [← hW2]; exact hB'.out _
        have hc2 := heap_alloc_new W2 (.cells (eA ⟨ys, ⟨yc, yv, yr, ym, yt, yx⟩⟩) TRK)
        have f2 : W2.cell? ⟨rb, 2, none⟩ = some (.slice (some ⟨g, 0, none⟩) L.length cap) := by rw [← hW2]; exact c2
        have f0 : W2.cell? ⟨g, j * 7, none⟩ = some (.int .i64 ys) := by rw [← hW2]; exact d0
        have f1 : W2.cell? ⟨g, j * 7 + 1, none⟩ = some (.bool yc) := by rw [← hW2]; exact d1
        have f2' : W2.cell? ⟨g, j * 7 + 2, none⟩ = some (.string yv) := by rw [← hW2]; exact d2
        have f3 : W2.cell? ⟨g, j * 7 + 3, none⟩ = some (.int .i64 yr) := by rw [← hW2]; exact d3
        have f4 : W2.cell? ⟨g, j * 7 + 4, none⟩ = some (.int .i64 ym) := by rw [← hW2]; exact d4
        have f5 : W2.cell? ⟨g, j * 7 + 5, none⟩ = some (.string yt) := by rw [← hW2]; exact d5
        have f6 : W2.cell? ⟨g, j * 7 + 6, none⟩ = some (.int .u64 yx) := by rw [← hW2]; exact d6
        have hB3 := hB2.alloc hB2.size (.cells (eA ⟨ys, ⟨yc, yv, yr, ym, yt, yx⟩⟩) TRK)
        have hsz3 := Lib.hid hB3.size
        replace hO2 := Lib.hid hO2
        replace hc2 := Lib.hid hc2
        replace hB3 := Lib.hid hB3
        clear hW2 hB2 c2 d0 d1 d2 d3 d4 d5 d6 hB' hO
        go_wp2_with (at_builtin; refine wpList_append_k rfl _ _ rfl W1.heap.size _ _ rfl hO2.out W2.heap.size _ ⟨ys, ⟨yc, yv, yr, ym, yt, yx⟩⟩ rfl hc2.out hlt2 hsz3.out ?_; intro v5 w5 hO5 hg5)
        have hB5 : Below W1.heap.size W1 w5 := own_below hO2.out hg5 hB3.out (Nat.le_refl _)
        go_roundw
        case rel => exact ⟨j + 1, by omega, by go_num, by rw [htk.out]; exact hO5, hB5⟩
        case measure => simp [intOf]; omega
    · have hjl : j = L.length := by omega
      have hO' : OwK W1.heap.size (delM L es) (.slice va (delM (L.take j) es).length vc) wr := by
        have h2 := hO
        rw [hjl, List.take_length] at h2 ⊢
        exact h2
      have hlt3 : (delM L es).length ≤ 10000 := Nat.le_trans (List.length_filter_le _ _) (by omega)
      obtain ⟨e0, e1, e2, e3, e4, e5, e6⟩ := hEr.cells
      simp only at e0 e1 e2 e3 e4 e5 e6
      have i2 : decide ((j : Int) < (L.length : Int)) = false := by simp; omega
      have hfr := xr.frozen 2
      have hOa := Lib.hid (hO'.later (alloc_b wr (.cells (eA ⟨es, ⟨ec, ev, er, em, et, ex⟩⟩) TRK)))
      have hca := Lib.hid (heap_alloc_new wr (.cells (eA ⟨es, ⟨ec, ev, er, em, et, ex⟩⟩) TRK))
      have hBa := Lib.hid (hB.alloc hB.size (.cells (eA ⟨es, ⟨ec, ev, er, em, et, ex⟩⟩) TRK))
      have xa := Lib.hid (xr.alloc (.cells (eA ⟨es, ⟨ec, ev, er, em, et, ex⟩⟩) TRK))
      have hsza := Lib.hid hBa.out.size
      clear hO hO' hB xr hEr hlj hlt2
      subst hjl
      go_wp2_with (at_builtin; refine wpList_append_k rfl _ _ rfl W1.heap.size _ _ rfl hOa.out wr.heap.size _ ⟨es, ⟨ec, ev, er, em, et, ex⟩⟩ rfl hca.out hlt3 hsza.out ?_; intro v5 w5 hO5 hg5; have hB5 : Below W1.heap.size W1 w5 := own_below hOa.out hg5 hBa.out (Nat.le_refl _); have x5 := x1'.out.later hB5; have f5 := x5.frozen 2; have g5 := x5.cells.2.2; obtain ⟨a5, c5, rfl⟩ := rows_form hO5; replace x5 := Lib.hid x5; replace hB5 := Lib.hid hB5; replace hO5 := Lib.hid hO5)
      have hO6 : OwK W1.heap.size (setL L ⟨es, ⟨ec, ev, er, em, et, ex⟩⟩) (.slice a5 ((delM L es).length + 1) c5) w5 := by
        have h6 := hO5.out
        rw [List.length_append, List.length_singleton] at h6
        exact h6
      go_end0
      refine ⟨rfl, _, ⟨Go.heap_setCell_same w5 rb 2 _ TRL _ x5.out.box, ?_, hRel.out, hok.out⟩, ?_⟩
      · refine rows_base (base := W1.heap.size) (base' := 0) ?_ (Nat.zero_le _)
        refine rows_kept hO6 fun k hk => ?_
        exact heap_setCell_other w5 ⟨rb, 2, none⟩ k _ (hO6.ne x5.out.box k hk)
      · exact ((Keeps.of_below (F := fun i => i = rb) hb1'.out).later hB5.out).setCell (p := ⟨rb, 2, none⟩) (.inl rfl) _

/-! Chosen, Votes, Upto. -/
set_option maxHeartbeats 1000000 in
theorem rchosen_any {rb : Nat} {s : St} {L : List Et} {vl : Value} (k : Int) (w : World) (x : Rx w rb s L vl) :
    Calls Try.prog 44 #[.pointer (some ⟨rb, 0, none⟩), .int .i64 k] w fun e w' =>
      e = .returned (.tuple #[.string (at' s k).v, .bool (at' s k).c]) ∧ Below w.heap.size w w' := by
  have HG := Lib.hid (rget_any k w x)
  clear x
  generalize at' s k = q at *
  obtain ⟨c, qv, qr, qm, t, u⟩ := q
  go_enter Try.func44, Try.ntmps44
  go_wp2_with fail
  go_at_call 39
  refine HG.out.mono ?_
  rintro e w1 ⟨rfl, hb1⟩
  have hE := ebx_new w1 ⟨k, ⟨c, qv, qr, qm, t, u⟩⟩
  obtain ⟨_, d1, d2, _⟩ := hE.cells
  have hB := Lib.hid (fun n => below_drewN (hb1.trans (hE.bel.mono hb1.size)) n)
  clear hb1 hE
  go_wp2
  go_quiet (fail)
  go_wp2
  go_ret2
  exact ⟨rfl, hB.out _⟩
set_option maxHeartbeats 1000000 in
theorem rvotes_any {rb : Nat} {s : St} {L : List Et} {vl : Value} (k : Int) (w : World) (x : Rx w rb s L vl) :
    Calls Try.prog 45 #[.pointer (some ⟨rb, 0, none⟩), .int .i64 k] w fun e w' =>
      e = .returned (.tuple #[.agg #[.int .i64 (at' s k).r, .int .i64 (at' s k).m], .int .u64 (at' s k).x]) ∧ Below w.heap.size w w' := by
  have HG := Lib.hid (rget_any k _ (x.alloc (.cells #[.int .i64 0, .int .i64 0] TB)))
  have hx0 := Lib.hid (Bal.bx_new w 0 0)
  clear x
  generalize at' s k = q at *
  obtain ⟨c, qv, qr, qm, t, u⟩ := q
  go_enter Try.func45, Try.ntmps45
  go_wp2_with fail
  go_at_call 39
  refine HG.out.mono ?_
  rintro e w1 ⟨rfl, hb1⟩
  have x1 := hx0.out.later hb1
  have hE := ebx_new w1 ⟨k, ⟨c, qv, qr, qm, t, u⟩⟩
  obtain ⟨_, _, _, d3, d4, _, d6⟩ := hE.cells
  have x2 := x1.alloc (.cells (eA ⟨k, ⟨c, qv, qr, qm, t, u⟩⟩) TRK)
  obtain ⟨p0, p1, p2, p3⟩ := x2.cells
  have x3 := x2.drew.set (Nat.le_refl _) qr qm
  replace x3 := Lib.hid x3
  clear hb1 hE x1 x2 HG hx0
  go_wp2
  go_region
  all_goals
    go_wp2
    refine bodyPost_ret (v := .tuple #[.agg #[.int .i64 qr, .int .i64 qm], .int .u64 u]) ?_ rfl ⟨rfl, x3.out.bel⟩
    exact Bal.res2e Try.results45 _ rfl x3.out
theorem upTo_end (M : List Et) : ∀ (j : Nat) (i : Int), upTo M i (j + 1) = upTo M i j ∨ upTo M i j = i + j
  | 0, i => .inr (by show i = i + ((0 : Nat) : Int); omega)
  | j + 1, i => by
    by_cases h : (gK (getM M i)).c = true
    · rw [upTo_chosen M i (j + 1) h, upTo_chosen M i j h]
      rcases upTo_end M j (i + 1) with h2 | h2
      · exact .inl h2
      · exact .inr (by rw [h2]; omega)
    · have h : (gK (getM M i)).c = false := by simpa using h
      rw [upTo_open M i _ h, upTo_open M i _ h]
      exact .inl rfl
set_option maxHeartbeats 2000000 in
theorem rupto_any {rb : Nat} {s : St} {L : List Et} {vl : Value} (w : World) (x : Rx w rb s L vl) :
    Calls Try.prog 46 #[.pointer (some ⟨rb, 0, none⟩)] w fun e w' => e = .returned (.int .i64 (uptoV s)) ∧ Below w.heap.size w w' := by
  have hb := x.ok.hb
  have hu : Hid (uptoV s = upTo s.M s.b (4096 - s.b).toNat) := Lib.hid rfl
  have HX := Lib.hid (fun W (h : Below w.heap.size w W) (k : Int) => rget_any k W (x.later h))
  obtain ⟨_, c1, _⟩ := x.cells
  clear x
  generalize s.b = b at *
  generalize uptoV s = U at *
  go_enter Try.func46, Try.ntmps46
  go_wp2
  go_loopw [3] (fun i wr => ∃ k : Int, b ≤ k ∧ k ≤ 4096 ∧ i = .int .i64 k ∧ U = upTo s.M k (4096 - k).toNat ∧ Below w.heap.size w wr) (fun i _ => 4096 - (intOf i).toNat)
  case atStart => exact ⟨b, Int.le_refl _, hb.2, rfl, hu.out, Below.refl _ _⟩
  case round =>
    obtain ⟨k, hk0, hk1, rfl, hU, hB⟩ := hrel
    by_cases hk : k < 4096
    · have hg := Lib.hid (HX.out wr hB k)
      have b1 : decide (k < 4096) = true := decide_eq_true hk
      have htrue := fun (j : Nat) (h : (at' s k).c = true) => upTo_chosen s.M k j h
      have hfalse := fun (j : Nat) (h : (at' s k).c = false) => upTo_open s.M k j h
      generalize at' s k = q at *
      obtain ⟨c, qv, qr, qm, t, u⟩ := q
      have hw : IntKind.i64.wrap (k + 1) = k + 1 := by rw [IntKind.wrap_i64]; omega
      cases c with
      | true =>
        have hU2 : U = upTo s.M (k + 1) (4096 - (k + 1)).toNat := by
          rw [hU, show (4096 - k).toNat = (4096 - (k + 1)).toNat + 1 by omega]
          exact htrue _ rfl
        replace hU2 := Lib.hid hU2
        have hfd : ∀ W : World, (Instr.field TRK (.agg #[.int .i64 k, .bool true, .string qv, .int .i64 qr, .int .i64 qm, .string t, .int .u64 u]) 1).run Try.prog W = .ok (.bool true) W := fun _ => by kernel_rfl
        clear hU htrue hfalse
        go_wp2_with (go_at_call 39; refine hg.out.mono ?_; rintro e w1 ⟨rfl, hb1⟩)
        go_roundw
        case rel => exact ⟨k + 1, by omega, by omega, rfl, hU2.out, hB.trans (hb1.mono hB.size)⟩
        case measure => simp [intOf]; omega
      | false =>
        have hU2 : U = k := by rw [hU]; exact hfalse _ rfl
        replace hU2 := Lib.hid hU2
        have hfd : ∀ W : World, (Instr.field TRK (.agg #[.int .i64 k, .bool false, .string qv, .int .i64 qr, .int .i64 qm, .string t, .int .u64 u]) 1).run Try.prog W = .ok (.bool false) W := fun _ => by kernel_rfl
        clear hU htrue hfalse
        go_wp2_with (go_at_call 39; refine hg.out.mono ?_; rintro e w1 ⟨rfl, hb1⟩)
        go_ret
        exact ⟨by rw [hU2.out]; rfl, hB.trans (hb1.mono hB.size)⟩
    · have b1 : decide (k < 4096) = false := decide_eq_false hk
      have hU2 : U = k := by
        have : k = 4096 := by omega
        rw [hU, this]
        rfl
      replace hU2 := Lib.hid hU2
      clear hU hk
      go_wp2
      go_ret
      exact ⟨by rw [hU2.out]; rfl, hB⟩
end Go.Proofs.Ytaacnhhinhdinaa.Lrn
