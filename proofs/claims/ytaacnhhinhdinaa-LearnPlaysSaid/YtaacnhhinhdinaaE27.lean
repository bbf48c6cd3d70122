/- The document's learner: Learn, Forget, Open, Copy. -/
import Derived.Test.YtaacnhhinhdinaaE26
namespace Go.Proofs.Ytaacnhhinhdinaa.Lrn
open Go.RowKit Go.Maps Go.Lib
open Bal (TB bOk ckB ordV eqB eqB_t eqB_f eq_b alloc_b)
set_option linter.unusedVariables false
set_option linter.unusedSimpArgs false
set_option maxRecDepth 20000

/-! Learn. -/
/-- The known entry in a box of the call's own, beside the learner. -/
structure RAt (w : World) (rb : Nat) (s : St) (L : List Et) (vl : Value) (b : Nat) (q : Et) (W : World) : Prop where
  blk : W.heap[b]? = some (.cells (eA q) TRK (0, 0))
  rx : Rx W rb s L vl
  own : w.heap.size ≤ b
  bel : Below w.heap.size w W
  lt : rb < w.heap.size
  row : ∀ i, vl.ownBlock = some i → i < w.heap.size
section
variable {w W W' : World} {rb b : Nat} {s : St} {L : List Et} {vl : Value} {q : Et}
theorem RAt.later (h : RAt w rb s L vl b q W) (hb : Below W.heap.size W W') : RAt w rb s L vl b q W' :=
  ⟨(hb.block _ (Array.getElem?_eq_some_iff.1 h.blk).1).trans h.blk, h.rx.later hb, h.own, h.bel.trans (hb.mono h.bel.size), h.lt, h.row⟩
theorem RAt.e (h : RAt w rb s L vl b q W) : EBx w b q W := ⟨h.blk, h.bel⟩
theorem rat_new {w1 : World} (x : Rx w rb s L vl) (hb : Below w.heap.size w w1) (q : Et) : RAt w rb s L vl w1.heap.size q (w1.alloc (.cells (eA q) TRK)) :=
  ⟨heap_alloc_new _ _, (x.later hb).alloc _, hb.size, hb.alloc hb.size _, x.lt, fun i hi => (World.ownsRow.lt x.row i hi).2⟩
theorem RAt.put (h : RAt w rb s L vl b q W) (k : Keeps (fun i => i = b) W W') {p : Et} (hp : W'.heap[b]? = some (.cells (eA p) TRK (0, 0))) : RAt w rb s L vl b p W' := by
  have o := h.own
  exact ⟨hp, h.rx.kept k (by have := h.lt; omega) (fun i hi => by have := h.row i hi; omega), o, k.below h.bel.size (fun i hi => by omega) |> fun hk => h.bel.trans hk, h.lt, h.row⟩
theorem RAt.set2 (h : RAt w rb s L vl b q W) (v : ByteArray) : RAt w rb s L vl b ⟨q.s, ⟨true, v, q.k.r, q.k.m, q.k.t, q.k.x⟩⟩ ((W.setCell ⟨b, 1, none⟩ (.bool true)).setCell ⟨b, 2, none⟩ (.string v)) :=
  h.put (((Keeps.refl (fun i => i = b) W).setCell (p := ⟨b, 1, none⟩) (.inl rfl) _).setCell (p := ⟨b, 2, none⟩) (.inl rfl) _)
    (Go.heap_setCell_same _ b 2 _ TRK (.string v) (Go.heap_setCell_same W b 1 _ TRK (.bool true) h.blk))
end
def RLrn (w : World) (rb : Nat) (s : St) (k : Int) (v : ByteArray) (e : Ending) (w' : World) : Prop :=
  e = .returned (.int .i64 (lrnE s k v)) ∧ ∃ L' v', Rx w' rb (lrnS s k v) L' v' ∧ Keeps (fun i => i = rb) w w'
theorem keeps_set {w W W' : World} {rb : Nat} (h1 : Below w.heap.size w W) (h2 : Keeps (fun i => i = rb) W W') : Keeps (fun i => i = rb) w W' :=
  (Keeps.of_below (F := fun i => i = rb) h1).trans h2 fun i hi _ => hi
set_option maxHeartbeats 2000000 in
theorem rlearn_any {rb : Nat} {s : St} {L : List Et} {vl : Value} (k : Int) (v : ByteArray) (w : World) (x : Rx w rb s L vl) :
    Calls Try.prog 17 #[.pointer (some ⟨rb, 0, none⟩), .int .i64 k, .string v] w (RLrn w rb s k v) := by
  have HC := Lib.hid (rchk_any k v w x)
  have hno : Hid (lrnE s k v ≠ 0 → ∀ W, Below w.heap.size w W → RLrn w rb s k v (.returned (.int .i64 (lrnE s k v))) W) := Lib.hid fun h0 W hW =>
    ⟨rfl, L, vl, by unfold lrnS; rw [if_neg h0]; exact x.later hW, Keeps.of_below hW⟩
  have hok := ok_lrn x.ok k v
  by_cases hc : ckV s.b k v = 0
  · rw [hc] at HC
    have HG := Lib.hid (rget_any k w x)
    cases hr : refV (at' s k) v with
    | true =>
      have he : lrnE s k v = 9 := by unfold lrnE; rw [if_pos hc, if_pos hr]
      rw [he] at hno
      clear hc he hok x
      generalize at' s k = q at *
      obtain ⟨c, qv, qr, qm, t, u⟩ := q
      have hc1 : c = true := by unfold refV at hr; simp at hr; exact hr.1
      subst hc1
      have hs : eqT qv v = false := by unfold refV at hr; simpa using hr
      have htl := tl_eq v qv
      rw [show eqT v qv = false by unfold eqT at hs ⊢; have := of_decide_eq_false hs; exact decide_eq_false fun h => this h.symm] at htl
      clear hr hs
      go_enter Try.func17, Try.ntmps17
      go_wp2_with (first
        | (go_at_call 38; refine HC.out.mono ?_; rintro e w' ⟨rfl, rfl⟩)
        | (go_at_call 39; refine HG.out.mono ?_; rintro e w1 ⟨rfl, hb1⟩; have hE := ebx_new w1 ⟨k, ⟨true, qv, qr, qm, t, u⟩⟩; obtain ⟨_, d1, d2, _⟩ := hE.cells))
      go_ret
      exact hno.out (by decide) _ (hb1.trans (hE.bel.mono hb1.size))
    | false =>
      have he : lrnE s k v = 0 := by unfold lrnE; rw [if_pos hc, if_neg (by rw [hr]; decide)]
      have hs : lrnS s k v = ⟨s.n, s.b, putM s.M ⟨k, lrnK (at' s k) v⟩⟩ := by unfold lrnS; rw [if_pos he]
      rw [hs] at hok
      have hfin : Hid (∀ W W' L' v', Below w.heap.size w W → Keeps (fun i => i = rb) W W' → Rx W' rb ⟨s.n, s.b, putM s.M ⟨k, lrnK (at' s k) v⟩⟩ L' v' → RLrn w rb s k v (.returned (.int .i64 0)) W') := Lib.hid fun W W' L' v' h1 h2 h3 =>
        ⟨by rw [he], L', v', by rw [hs]; exact h3, keeps_set h1 h2⟩
      have HS := Lib.hid (fun W (hW : Rx W rb s L vl) => rset_any ⟨k, lrnK (at' s k) v⟩ W hW hok)
      have HR := Lib.hid (fun w1 (hb : Below w.heap.size w w1) (q : Et) => rat_new x hb q)
      clear hc he hok x hs hno
      generalize at' s k = q at *
      obtain ⟨c, qv, qr, qm, t, u⟩ := q
      have hlk : Hid (lrnK ⟨c, qv, qr, qm, t, u⟩ v = ⟨true, v, qr, qm, t, u⟩) := Lib.hid rfl
      rw [hlk.out] at HS hfin
      have hcs : c = false ∨ (c = true ∧ (v.toList == qv.toList) = true) := by
        cases c with
        | false => exact .inl rfl
        | true =>
          refine .inr ⟨rfl, ?_⟩
          rw [tl_eq]
          unfold refV at hr
          simp only [Bool.true_and, Bool.not_eq_false'] at hr
          unfold eqT at hr ⊢
          have := of_decide_eq_true hr
          exact decide_eq_true this.symm
      clear hr hlk
      rcases hcs with rfl | ⟨rfl, htl⟩
      · go_enter Try.func17, Try.ntmps17
        go_wp2_with (first
          | (go_at_call 38; refine HC.out.mono ?_; rintro e w' ⟨rfl, rfl⟩)
          | (go_at_call 39; refine HG.out.mono ?_; rintro e w1 ⟨rfl, hb1⟩; have hA := HR.out w1 hb1 ⟨k, ⟨false, qv, qr, qm, t, u⟩⟩; obtain ⟨d0, d1, d2, d3, d4, d5, d6⟩ := hA.e.cells; have f1 := hA.e.frozen 1; have f2 := hA.e.frozen 2; have hA2 := HR.out w1 hb1 ⟨k, ⟨true, v, qr, qm, t, u⟩⟩; obtain ⟨g0, g1, g2, g3, g4, g5, g6⟩ := hA2.e.cells; replace hA2 := Lib.hid hA2; replace hA := Lib.hid hA)
          | (go_at_call 42; refine (HS.out _ hA2.out.rx).mono ?_; rintro e w2 ⟨rfl, v', hx', hk'⟩; have hF := Lib.hid (hfin.out _ _ _ _ hA2.out.bel hk' hx')))
        go_ret
        exact hF.out
      · go_enter Try.func17, Try.ntmps17
        go_wp2_with (first
          | (go_at_call 38; refine HC.out.mono ?_; rintro e w' ⟨rfl, rfl⟩)
          | (go_at_call 39; refine HG.out.mono ?_; rintro e w1 ⟨rfl, hb1⟩; have hA := HR.out w1 hb1 ⟨k, ⟨true, qv, qr, qm, t, u⟩⟩; obtain ⟨d0, d1, d2, d3, d4, d5, d6⟩ := hA.e.cells; have f1 := hA.e.frozen 1; have f2 := hA.e.frozen 2; have hA2 := HR.out w1 hb1 ⟨k, ⟨true, v, qr, qm, t, u⟩⟩; obtain ⟨g0, g1, g2, g3, g4, g5, g6⟩ := hA2.e.cells; replace hA2 := Lib.hid hA2; replace hA := Lib.hid hA)
          | (go_at_call 42; refine (HS.out _ hA2.out.rx).mono ?_; rintro e w2 ⟨rfl, v', hx', hk'⟩; have hF := Lib.hid (hfin.out _ _ _ _ hA2.out.bel hk' hx')))
        go_ret
        exact hF.out
  · have he : lrnE s k v = ckV s.b k v := by unfold lrnE; rw [if_neg hc]
    rw [he] at hno
    generalize hz : ckV s.b k v = z at *
    have hz1 : (z == 0) = false := by simpa using hc
    have hz2 : (z = 0) = False := by simpa using hc
    have hc' := Lib.hid hc
    clear hz he hok x hc
    go_enter Try.func17, Try.ntmps17
    go_wp2_with (go_at_call 38; refine HC.out.mono ?_; rintro e w' ⟨rfl, rfl⟩)
    go_ret
    exact hno.out hc'.out _ (Below.refl _ _)
end Go.Proofs.Ytaacnhhinhdinaa.Lrn
