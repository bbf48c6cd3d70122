/- isList, slices.Clone, isLong, slices.ContainsFunc. -/
import Derived.Test.YtffiooclkchoiaaP05
import Derived.Lib.SliceRun
namespace Go.Proofs.Ytffiooclkchoiaa.Prp
open Go.RowKit Go.Lib
open Bal (TB bOk ckB ordV eqB eqB_t eqB_f eq_b alloc_b check_any order_any)
set_option linter.unusedVariables false
set_option linter.unusedSimpArgs false
set_option maxRecDepth 20000

/-! isList. -/
/-- What isList has in a round: the entry in a box of its own, the proposer's number of nodes. -/
structure LAt (w : World) (b : Nat) (n : Int) (q : Nat) (e : Et) (W : World) : Prop where
  blk : W.heap[q]? = some (.cells #[.int .i64 e.s, .int .i64 e.r, .int .i64 e.m, .string e.v] TE (0, 0))
  c0 : W.cell? ⟨b, 0, none⟩ = some (.int .i64 n)
  bel : Below w.heap.size w W
theorem LAt.later {w : World} {b : Nat} {n : Int} {q : Nat} {e : Et} {W W' : World} (h : LAt w b n q e W) (hb : Below W.heap.size W W') : LAt w b n q e W' :=
  ⟨(hb.block _ (Array.getElem?_eq_some_iff.1 h.blk).1).trans h.blk, (hb.cell (p := ⟨b, 0, none⟩) (World.block_lt_of_cell? W _ h.c0)).trans h.c0, h.bel.trans (hb.mono h.bel.size)⟩
theorem LAt.drew {w : World} {b : Nat} {n : Int} {q : Nat} {e : Et} {W : World} (h : LAt w b n q e W) : LAt w b n q e W.drew := h.later (Below.refl _ _).drew
abbrev SL (w : World) (b : Nat) (n : Int) (q : Nat) (e : Et) (W : World) : Prop :=
  W.cell? ⟨q, 0, none⟩ = some (.int .i64 e.s) ∧ W.cell? ⟨q, 1, none⟩ = some (.int .i64 e.r) ∧ W.cell? ⟨q, 2, none⟩ = some (.int .i64 e.m) ∧ W.cell? ⟨b, 0, none⟩ = some (.int .i64 n) ∧ LAt w b n q e W
theorem LAt.sl {w : World} {b : Nat} {n : Int} {q : Nat} {e : Et} {W : World} (h : LAt w b n q e W) : SL w b n q e W := ⟨cell_of_row W q 0 _ TE _ h.blk, cell_of_row W q 1 _ TE _ h.blk, cell_of_row W q 2 _ TE _ h.blk, h.c0, h⟩
theorem okL_step {n f : Int} {L : List Et} {k : Nat} {e : Et} (h : L[k]? = some e) : okL n f (L.drop k) = (decide (okE n f e) && okL n (e.s + 1) (L.drop (k + 1))) := by
  have hk := (List.getElem?_eq_some_iff.1 h).1
  have he := (List.getElem?_eq_some_iff.1 h).2
  rw [List.drop_eq_getElem_cons hk, he]
  rfl
theorem IsE.at' {w : World} {a : Option Addr} {m cap : Nat} {L : List Et} (h : IsE w (.slice a m cap) L) {k : Nat} {e : Et} (he : L[k]? = some e) : ∃ b off, a = some ⟨b, off, none⟩ ∧ b < w.heap.size ∧
    w.cell? ⟨b, off + k * 4, none⟩ = some (.int .i64 e.s) ∧ w.cell? ⟨b, off + k * 4 + 1, none⟩ = some (.int .i64 e.r) ∧ w.cell? ⟨b, off + k * 4 + 2, none⟩ = some (.int .i64 e.m) ∧ w.cell? ⟨b, off + k * 4 + 3, none⟩ = some (.string e.v) := by
  obtain ⟨a', cap', hv, hc⟩ := h
  injection hv with h1 h2 h3
  subst h1
  obtain ⟨b, off, e1, hb, hd⟩ := hc (by have := (List.getElem?_eq_some_iff.1 he).1; omega)
  exact ⟨b, off, e1, hb, hd k e he⟩
set_option maxHeartbeats 2000000 in
theorem list_any {base : Nat} {w : World} {b : Nat} {vs : Nat → Value} {s : St} (x : Px base w b vs s) (v : Value) (L : List Et) (hl : IsE w v L) (hlen : L.length ≤ 100000) :
    Calls Try.prog 41 #[.pointer (some ⟨b, 0, none⟩), v] w fun e w' => e = .returned (.bool (okL s.n s.f L)) ∧ Below w.heap.size w w' := by
  obtain ⟨c0, _, _, c3⟩ := x.cells
  have hf0 := x.ok.hf.1
  have hn17 : 1 ≤ s.n ∧ s.n ≤ 7 := ⟨x.ok.n1, x.ok.n7⟩
  have hblt := x.lt
  clear x
  generalize s.n = n at *
  generalize s.f = f at *
  obtain ⟨a, cap, rfl, _⟩ := id hl
  have hA := Lib.hid (fun (k : Nat) (e : Et) (he : L[k]? = some e) => hl.at' he)
  have hG := Lib.hid (fun x y W => good_any x y n W)
  have hS := Lib.hid (fun (k : Nat) (e : Et) (f : Int) (he : L[k]? = some e) => okL_step (n := n) (f := f) he)
  have hlt0 : Hid (∀ k : Nat, k < L.length → ∃ e, L[k]? = some e) := Lib.hid (fun k h => ⟨_, List.getElem?_eq_getElem h⟩)
  have hend := Lib.hid (show L.drop L.length = [] from List.drop_length)
  clear hl
  obtain ⟨len, hle⟩ : ∃ len, len = L.length := ⟨_, rfl⟩
  rw [← hle] at hend hlt0 hlen ⊢
  clear hle
  go_enter Try.func41, Try.ntmps41
  go_wp2
  go_loopw [5, 14] (fun a i wr => ∃ (k : Nat) (g : Int), k ≤ len ∧ a = .int .i64 g ∧ 0 ≤ g ∧ i = .int .i64 k ∧ okL n f L = okL n g (L.drop k) ∧ Below w.heap.size w wr) (fun _ i _ => len - nOf i)
  case atStart => exact ⟨0, f, by omega, rfl, hf0, rfl, rfl, Below.refl _ _⟩
  case round =>
    obtain ⟨k, g, hk, rfl, hg0, rfl, hEq, hB⟩ := hrel
    by_cases hlt : k < len
    · obtain ⟨e, hLk⟩ := hlt0.out k hlt
      obtain ⟨p, off, rfl, hp, d0, d1, d2, d3⟩ := hA.out k e hLk
      replace d0 := (hB.cell (p := ⟨p, off + k * 4, none⟩) hp).trans d0
      replace d1 := (hB.cell (p := ⟨p, off + k * 4 + 1, none⟩) hp).trans d1
      replace d2 := (hB.cell (p := ⟨p, off + k * 4 + 2, none⟩) hp).trans d2
      replace d3 := (hB.cell (p := ⟨p, off + k * 4 + 3, none⟩) hp).trans d3
      have hSt := hS.out k e g hLk
      rw [← hEq] at hSt
      obtain ⟨es, er, em, ev⟩ := e
      simp only at d0 d1 d2 d3 hSt
      have hcr := (hB.cell (p := ⟨b, 0, none⟩) hblt).trans c0
      have hx1 : LAt w b n wr.heap.size ⟨es, er, em, ev⟩ (wr.alloc (.cells #[.int .i64 es, .int .i64 er, .int .i64 em, .string ev] TE)) :=
        ⟨heap_alloc_new _ _, ((alloc_b wr _).cell (p := ⟨b, 0, none⟩) (by have := hB.size; show b < _; omega)).trans hcr, hB.alloc hB.size _⟩
      have hdr : Hid (∀ m, Below w.heap.size w ((wr.alloc (.cells #[.int .i64 es, .int .i64 er, .int .i64 em, .string ev] TE)).drewN m)) := Lib.hid fun m => hx1.bel.trans ⟨rfl, rfl, rfl, Nat.le_refl _, fun _ _ => rfl⟩
      have i2 : (k : Int) < (len : Int) := by omega
      have i3 : decide ((k : Int) < (len : Int)) = true := by simpa using i2
      have hSt2 := Lib.hid hSt
      have hGd := Lib.hid (hG.out er em)
      have hn17' := Lib.hid hn17
      have hg0' := Lib.hid hg0
      have H1 := Lib.hid hx1
      clear hSt hLk hA hS hlt0 hend hG hn17
      by_cases h1 : es < g
      · have b1 : decide (es < g) = true := by simpa using h1
        have hres : Hid (okL n f L = false) := Lib.hid (by rw [hSt2.out, decide_eq_false (fun h => by have := h.1; simp only at this; omega)]; rfl)
        obtain ⟨q0, q1, q2, q3, _⟩ := hx1.drew.sl
        clear hEq hx1 h1
        go_wp2
        go_quiet (fail)
        go_wp2
        go_ret
        exact ⟨by rw [hres.out]; rfl, hdr.out _⟩
      · have b1 : decide (es < g) = false := by simpa using h1
        by_cases h2 : es < 4096
        · have b2 : decide (es < 4096) = true := by simpa using h2
          have b3 : decide (4096 ≤ es) = false := by simp; omega
          have hres : okL n f L = (gdB n er em && okL n (es + 1) (L.drop (k + 1))) := by
            rw [hSt2.out]
            congr 1
            exact decide_eq_decide.2 ⟨fun h => ⟨hn17'.out, h.2.2⟩, fun h => ⟨by show g ≤ es; omega, h2, h.2⟩⟩
          obtain ⟨es1, he1⟩ : ∃ es1, es1 = es + 1 := ⟨_, rfl⟩
          have hw : IntKind.i64.wrap (es + 1) = es1 := by rw [IntKind.wrap_i64]; omega
          have hes := Lib.hid (show 0 ≤ es1 by omega)
          generalize gdB n er em = G at *
          rw [← he1] at hres
          clear he1
          replace hres := Lib.hid hres
          clear hEq hx1 h1 h2 hg0
          go_wp2
          go_region_held3 (SL w b n wr.heap.size ⟨es, er, em, ev⟩) (first | exact H1.out.drew.sl | exact LAt.sl (by assumption) | assumption)
            ((go_at_call 30; refine (hGd.out _).mono ?_; rintro e w2 ⟨rfl, hb2⟩; have hx2 := H1.out.drew.later hb2))
          obtain ⟨q0, q1, q2, q3, _⟩ := hx2.sl
          replace hx2 := Lib.hid hx2
          cases G with
          | false =>
            go_wp2
            go_ret
            exact ⟨by rw [hres.out]; rfl, hx2.out.bel⟩
          | true =>
            go_wp2
            go_roundw
            case rel => exact ⟨k + 1, es1, by omega, rfl, hes.out, by go_num, by rw [hres.out]; rfl, hx2.out.bel⟩
            case measure => simp [nOf]; omega
        · have b2 : decide (es < 4096) = false := by simpa using h2
          have b3 : decide (4096 ≤ es) = true := by simp; omega
          have hres : Hid (okL n f L = false) := Lib.hid (by rw [hSt2.out, decide_eq_false (fun h => by have := h.2.1; simp only at this; omega)]; rfl)
          obtain ⟨q0, q1, q2, q3, _⟩ := hx1.drew.sl
          clear hEq hx1 h1 h2
          go_wp2
          go_quiet (fail)
          go_wp2
          go_ret
          exact ⟨by rw [hres.out]; rfl, hdr.out _⟩
    · have hkl : k = len := by omega
      subst hkl
      have i3 : decide ((k : Int) < (k : Int)) = false := by simp
      rw [hend.out] at hEq
      replace hEq := Lib.hid hEq
      clear hA hS hlt0 hend hG
      go_wp2
      go_ret
      exact ⟨by rw [hEq.out]; rfl, hB⟩
/-! isLong, IndexFunc, ContainsFunc. -/
theorem long_any (e : Et) (w : World) :
    Calls Try.prog 43 #[.agg #[.int .i64 e.s, .int .i64 e.r, .int .i64 e.m, .string e.v]] w fun r w' => r = .returned (.bool (decide (65536 < e.v.size))) ∧ Below w.heap.size w w' := by
  have hb := alloc_b w (.cells #[.int .i64 e.s, .int .i64 e.r, .int .i64 e.m, .string e.v] TE)
  have hc := heap_alloc_new w (.cells #[.int .i64 e.s, .int .i64 e.r, .int .i64 e.m, .string e.v] TE)
  have d3 := cell_of_row _ _ 3 _ TE _ hc
  have e1 : decide ((65536 : Int) < (e.v.size : Nat)) = decide (65536 < e.v.size) := decide_eq_decide.2 (by omega)
  obtain ⟨es, er, em, ev⟩ := e
  simp only at *
  generalize hB : decide (65536 < ev.size) = B at *
  clear hc hB
  go_enter Try.func43, Try.ntmps43
  go_wp2
  go_ret
  exact ⟨rfl, hb⟩
theorem fit_at {L : List Et} {k : Nat} {e : Et} (h : L[k]? = some e) : fitL (L.drop k) = (!decide (65536 < e.v.size) && fitL (L.drop (k + 1))) := by
  have hk := (List.getElem?_eq_some_iff.1 h).1
  have he := (List.getElem?_eq_some_iff.1 h).2
  rw [List.drop_eq_getElem_cons hk, he]
  unfold fitL
  rw [List.all_cons]
  congr 1
  rw [← decide_not]
  exact decide_eq_decide.2 (by omega)
set_option maxHeartbeats 1000000 in
theorem index_func (v : Value) (L : List Et) (w : World) (hl : IsE w v L) (hlen : L.length ≤ 100000) :
    Calls Try.prog 54 #[v, .func (.func 43) #[] #[]] w fun e w' => ∃ i : Int, e = .returned (.int .i64 i) ∧ decide (0 ≤ i) = !fitL L ∧ Below w.heap.size w w' := by
  obtain ⟨a, cap, rfl, _⟩ := id hl
  have hA := Lib.hid (fun (k : Nat) (e : Et) (he : L[k]? = some e) => hl.at' he)
  have hF := Lib.hid (fun (k : Nat) (e : Et) (he : L[k]? = some e) => fit_at he)
  have hlt0 : Hid (∀ k : Nat, k < L.length → ∃ e, L[k]? = some e) := Lib.hid (fun k h => ⟨_, List.getElem?_eq_getElem h⟩)
  have hend := Lib.hid (show fitL (L.drop L.length) = true by rw [List.drop_length]; rfl)
  have hst := Lib.hid (show fitL (L.drop 0) = fitL L from rfl)
  clear hl
  obtain ⟨len, hle⟩ : ∃ len, len = L.length := ⟨_, rfl⟩
  rw [← hle] at hend hlt0 hlen ⊢
  clear hle
  go_enter Try.func54, Try.ntmps54
  go_wp2
  go_loopw [8] (fun i wr => ∃ (k : Nat), k ≤ len ∧ i = .int .i64 k ∧ fitL L = fitL (L.drop k) ∧ Below w.heap.size w wr) (fun i _ => len - nOf i)
  case atStart => exact ⟨0, by omega, rfl, rfl, Below.refl _ _⟩
  case round =>
    obtain ⟨k, hk, rfl, hEq, hB⟩ := hrel
    by_cases hlt : k < len
    · obtain ⟨e, hLk⟩ := hlt0.out k hlt
      obtain ⟨p, off, rfl, hp, d0, d1, d2, d3⟩ := hA.out k e hLk
      replace d0 := (hB.cell (p := ⟨p, off + k * 4, none⟩) hp).trans d0
      replace d1 := (hB.cell (p := ⟨p, off + k * 4 + 1, none⟩) hp).trans d1
      replace d2 := (hB.cell (p := ⟨p, off + k * 4 + 2, none⟩) hp).trans d2
      replace d3 := (hB.cell (p := ⟨p, off + k * 4 + 3, none⟩) hp).trans d3
      have hSt := hF.out k e hLk
      rw [← hEq] at hSt
      have hLg := Lib.hid (fun W => long_any e W)
      obtain ⟨es, er, em, ev⟩ := e
      simp only at d0 d1 d2 d3 hSt hLg
      generalize decide (65536 < ev.size) = G at *
      have i2 : (k : Int) < (len : Int) := by omega
      have i3 : decide ((k : Int) < (len : Int)) = true := by simpa using i2
      replace hSt := Lib.hid hSt
      replace hB := Lib.hid hB
      clear hLk hA hF hlt0 hend hEq hst
      cases G with
      | false =>
        go_wp2_with (go_at_call 43; refine (hLg.out _).mono ?_; rintro e w2 ⟨rfl, hb2⟩)
        go_roundw
        case rel => exact ⟨k + 1, by omega, by go_num, by rw [hSt.out]; rfl, hB.out.trans (hb2.mono hB.out.size)⟩
        case measure => simp [nOf]; omega
      | true =>
        go_wp2_with (go_at_call 43; refine (hLg.out _).mono ?_; rintro e w2 ⟨rfl, hb2⟩)
        go_ret
        exact ⟨_, rfl, by rw [hSt.out]; simp, hB.out.trans (hb2.mono hB.out.size)⟩
    · have hkl : k = len := by omega
      subst hkl
      have i3 : decide ((k : Int) < (k : Int)) = false := by simp
      rw [hend.out] at hEq
      replace hEq := Lib.hid hEq
      clear hA hF hlt0 hend hst
      go_wp2
      go_ret
      exact ⟨_, rfl, by rw [hEq.out]; rfl, hB⟩
theorem contains_any (v : Value) (L : List Et) (w : World) (hl : IsE w v L) (hlen : L.length ≤ 100000) :
    Calls Try.prog 42 #[v, .func (.func 43) #[] #[]] w fun e w' => e = .returned (.bool (!fitL L)) ∧ Below w.heap.size w w' := by
  have h := Lib.hid (index_func v L w hl hlen)
  clear hl
  generalize (!fitL L) = B at *
  go_enter Try.func42, Try.ntmps42
  go_wp2_with (go_at_call 54; refine h.out.mono ?_; rintro e w2 ⟨i, rfl, hi, hb2⟩)
  go_ret
  exact ⟨rfl, hb2⟩
/-! slices.Clone. -/
theorem append_run (w : World) {ops : Array Oper} {rest : List Oper} {o : Oper} {a : Act} {Q : Exit → Act → World → Prop} (hgd : o.guard = none) (s x : Operand) (t : TypeId)
    (ho : o.op = .call { callee := .builtin .append, args := #[s, x], argTypes := #[t, t] }) (v u : Value) (hs : a.eval s = v) (hx : a.eval x = u) {v' : Value} {w' : World}
    (hr : (Builtin.append_ #[t, t] o.type #[v, u]).run Try.prog w = .ok v' w') (h : wpList Try.prog ops Q rest (a.put o.dst v') w') : wpList Try.prog ops Q (o :: rest) a w := by
  refine wpList_plain hgd fun K hK => ?_
  unfold Oper.wp execOp
  simp only [ho, resolve, invoke, builtin, Sem.run_bind, Sem.run_pure, Result.andThen_ok, List.map_toArray, List.map_cons, List.map_nil, hs, hx, hr]
  exact hK _ _ h
theorem clone_any (v : Value) (L : List Et) (w : World) (hl : IsE w v L) (hn : L.length ≤ 100000) :
    Calls Try.prog 34 #[v] w fun e w' => ∃ v', e = .returned v' ∧ OwE w.heap.size L v' w' ∧ Below w.heap.size w w' := by
  obtain ⟨a, cap, rfl, hc⟩ := hl
  cases a with
  | none =>
    have h0 : L = [] := by
      cases L with
      | nil => rfl
      | cons x r =>
        obtain ⟨b, off, h, _⟩ := hc (by simp)
        cases h
    subst h0
    have hI := Lib.hid (OwE.nil w.heap.size w)
    have hnil := fun w' => Lib.run_eql_slice_nil (P := Try.prog) w' TEs TE none 0 cap 0 0 Try.underlying36
    clear hc
    go_enter Try.func34, Try.ntmps34
    go_wp2
    go_ret
    exact ⟨_, rfl, hI.out, Below.refl _ _⟩
  | some p =>
    have hW : Below w.heap.size w (w.alloc (.cells #[] TE)) := alloc_b _ _
    have hown' : OwE w.heap.size [] (.slice (some ⟨w.heap.size, 0, none⟩) 0 0) (w.alloc (.cells #[] TE)) := ⟨rfl, .inr ⟨w.heap.size, 0, #[], rfl, Nat.le_refl _, heap_alloc_new _ _, Nat.le_refl _, by unfold maxLen; omega, rfl, rfl⟩⟩
    obtain ⟨i0, hi, hz0, hz1, hz2⟩ := info_p info_e
    obtain ⟨v', w', hr, h2, h3, _, h5⟩ := run_append_own_at (P := Try.prog) (w.alloc (.cells #[] TE)) w.heap.size TEs TEs TE i0 _ 4 40 Try.underlying36 hi hz0 hz1 hz2 rfl (by decide) (.slice (some ⟨w.heap.size, 0, none⟩) 0 0) 0 [] hown' p L.length cap (flat L) (flat_len L)
      (fun j u hu => by
        have hj : j < (flat L).length := (List.getElem?_eq_some_iff.1 hu).1
        rw [flat_len] at hj
        obtain ⟨b, off, hp, hb, hd⟩ := hc (by omega)
        injection hp with hp
        subst hp
        have hq : j / 4 < L.length := by omega
        obtain ⟨d0, d1, d2, d3⟩ := hd (j / 4) _ (List.getElem?_eq_getElem hq)
        have hf := flat_at L (j / 4) (j % 4) _ (List.getElem?_eq_getElem hq) (Nat.mod_lt _ (by omega))
        rw [show j / 4 * 4 + j % 4 = j by omega, hu] at hf
        rw [addr_add, (hW.cell (p := ⟨b, off + j, none⟩) hb)]
        have h4 : j % 4 < 4 := Nat.mod_lt _ (by omega)
        rcases (show j % 4 = 0 ∨ j % 4 = 1 ∨ j % 4 = 2 ∨ j % 4 = 3 by omega) with e | e | e | e
        · rw [e] at hf; rw [show off + j = off + j / 4 * 4 by omega, d0, hf]; rfl
        · rw [e] at hf; rw [show off + j = off + j / 4 * 4 + 1 by omega, d1, hf]; rfl
        · rw [e] at hf; rw [show off + j = off + j / 4 * 4 + 2 by omega, d2, hf]; rfl
        · rw [e] at hf; rw [show off + j = off + j / 4 * 4 + 3 by omega, d3, hf]; rfl)
      (fun u hu => by
        unfold flat at hu
        obtain ⟨e, _, he⟩ := List.mem_flatMap.1 hu
        simp [ec] at he
        rcases he with rfl | rfl | rfl | rfl <;> rfl)
      (by unfold maxLen; omega) (by omega) (by have := hW.size; omega)
    have hI : Hid (OwE w.heap.size L v' w' ∧ Below w.heap.size w w') := Lib.hid ⟨by unfold OwE; simpa using h2, hW.grown h3 hW.size (fun k e => by have := (World.ownsRow.lt hown' k e).1; omega)⟩
    replace hr := Lib.hid hr
    clear h2 h3 h5 hown' hW hc
    have hnil := fun w' => Lib.run_eql_slice_nil (P := Try.prog) w' TEs TE (some p) L.length cap 0 0 Try.underlying36
    go_enter Try.func34, Try.ntmps34
    go_wp2_with (at_builtin; refine append_run _ rfl _ _ _ rfl _ _ rfl rfl hr.out ?_)
    go_ret
    exact ⟨_, rfl, hI.out.1, hI.out.2⟩
end Go.Proofs.Ytffiooclkchoiaa.Prp
