/- shows: a learner beside the document's. -/
import Derived.Test.YtaacnhhinhdinaaE31
import Derived.Test.YtaacnhhinhdinaaE29
namespace Go.Proofs.Ytaacnhhinhdinaa.Lrn
open Go.RowKit Go.Maps Go.Lib
open Bal (TB bOk ckB ordV eqB eqB_t eqB_f eq_b alloc_b)
set_option linter.unusedVariables false
set_option linter.unusedSimpArgs false
set_option maxRecDepth 20000

structure Bo (w : World) (sb mb rb : Nat) (s : St) (L : List Et) (vl : Value) (W : World) : Prop where
  ax : Ax W sb mb s
  rx : Rx W rb s L vl
  bel : Below w.heap.size w W
theorem Bo.later {w W W' : World} {sb mb rb : Nat} {s : St} {L : List Et} {vl : Value} (h : Bo w sb mb rb s L vl W) (hb : Below W.heap.size W W') : Bo w sb mb rb s L vl W' :=
  ⟨h.ax.later hb, h.rx.later hb, h.bel.trans (hb.mono h.bel.size)⟩
theorem opn_len {s : St} (h : OkS s) : (opnL s).length ≤ 4096 := by
  unfold opnL keysM
  rw [List.length_map]
  exact Nat.le_trans (List.length_filter_le _ _) h.len
set_option maxHeartbeats 4000000 in
theorem shows_any {sb mb rb : Nat} {s : St} {L : List Et} {vl : Value} (k : Int) (w : World) (x : Ax w sb mb s) (y : Rx w rb s L vl) (hk : (Lit.int .i64 k).wf = true) :
    Calls Try.prog 22 #[.pointer (some ⟨sb, 0, none⟩), .pointer (some ⟨rb, 0, none⟩), .int .i64 k] w (Yes w) := by
  have B0 : Bo w sb mb rb s L vl w := ⟨x, y, Below.refl _ _⟩
  have hlen := opn_len x.ok
  have H1 := Lib.hid (fun W (h : Ax W sb mb s) => chosen_any k W h hk)
  have H2 := Lib.hid (fun W (h : Rx W rb s L vl) => rchosen_any k W h)
  have H3 := Lib.hid (fun W (h : Ax W sb mb s) => votes_any k W h hk)
  have H4 := Lib.hid (fun W (h : Rx W rb s L vl) => rvotes_any k W h)
  have H5 := Lib.hid (fun W (h : Ax W sb mb s) => upto_any W h)
  have H6 := Lib.hid (fun W (h : Rx W rb s L vl) => rupto_any W h)
  have H7 := Lib.hid (fun W (h : Ax W sb mb s) => open_any W h)
  have H8 := Lib.hid (fun W (h : Rx W rb s L vl) => ropen_any W h)
  generalize at' s k = q at *
  generalize uptoV s = up at *
  generalize opnL s = ol at *
  have H9 := Lib.hid (fun v1 v2 W (h1 : IsI W v1 ol) (h2 : IsI W v2 ol) => by have := equal_any v1 v2 ol ol W h1 h2 (by omega) (by omega); rw [eqLs_t] at this; exact this)
  obtain ⟨c, qv, qr, qm, t, u⟩ := q
  have htl : (qv.toList == qv.toList) = true := by rw [tl_eq]; exact eqT_t _
  have hbb : (c == c) = true := by simp
  have hui : ((u : Int) == (u : Int)) = true := by simp
  have hup : (up == up) = true := by simp
  have hq := fun W => (eq_b qr qm qr qm W).trans (by rw [eqB_t ⟨rfl, rfl⟩])
  clear x y hk hlen
  replace B0 := Lib.hid B0
  go_enter Try.func22, Try.ntmps22
  go_wp2_with (first
    | (go_at_call 23; refine (H1.out _ B0.out.ax).mono ?_; rintro e w1 ⟨rfl, hb1⟩; have B1 := Lib.hid (B0.out.later hb1))
    | (go_at_call 44; refine (H2.out _ B1.out.rx).mono ?_; rintro e w2 ⟨rfl, hb2⟩; have B2 := Lib.hid (B1.out.later hb2))
    | (go_at_call 24; refine (H3.out _ B2.out.ax).mono ?_; rintro e w3 ⟨rfl, hb3⟩; have B3 := Lib.hid ((B2.out.later hb3).later (alloc_b w3 (.cells #[.int .i64 qr, .int .i64 qm] TB))); have X3 := Lib.hid (Bal.bx_new w3 qr qm))
    | (go_at_call 45; refine (H4.out _ B3.out.rx).mono ?_; rintro e w4 ⟨rfl, hb4⟩; have B4 := Lib.hid ((B3.out.later hb4).later (alloc_b w4 (.cells #[.int .i64 qr, .int .i64 qm] TB))); have X4 := Lib.hid ((X3.out.later hb4).later (alloc_b w4 (.cells #[.int .i64 qr, .int .i64 qm] TB))); obtain ⟨c0, c1, _, _⟩ := X4.out.cells; have Y4 := Lib.hid (Bal.bx_new w4 qr qm); obtain ⟨d0, d1, _, _⟩ := Y4.out.cells)
    | (go_at_call 27; refine (H5.out _ B4.out.ax).mono ?_; rintro e w5 ⟨rfl, rfl⟩)
    | (go_at_call 46; refine (H6.out _ B4.out.rx).mono ?_; rintro e w6 ⟨rfl, hb6⟩; have B6 := Lib.hid (B4.out.later hb6))
    | (go_at_call 25; refine (H7.out _ B6.out.ax).mono ?_; rintro e w7 ⟨v7, rfl, hO7, hb7⟩; have B7 := Lib.hid (B6.out.later hb7); have O7 := Lib.hid hO7)
    | (go_at_call 47; refine (H8.out _ B7.out.rx).mono ?_; rintro e w8 ⟨v8, rfl, hO8, hb8⟩; have B8 := Lib.hid (B7.out.later hb8); have I7 := Lib.hid (O7.out.later hb8).is; have I8 := Lib.hid hO8.is)
    | (go_at_call 26; refine (H9.out _ _ _ I7.out I8.out).mono ?_; rintro e w9 ⟨rfl, hb9⟩; have B9 := Lib.hid (B8.out.later hb9)))
  go_ret
  exact ⟨rfl, B9.out.bel⟩

/-! The pair that goes on, the pair that was copied, and the step. -/
theorem ap_rb {W : World} {rb g : Nat} {s : St} {L : List Et} {vl : Value} {c : Array Value} {t : TypeId} (x : Rx W rb s L vl) (hg : W.heap[g]? = some (.cells c t (0, 0))) (ht : t ≠ TRL) : g ≠ rb := by
  rintro rfl
  rw [x.box] at hg
  injection hg with hg
  injection hg with _ hg
  exact ht hg.symm
theorem row_ax {W : World} {sb mb rb : Nat} {s s' : St} {L : List Et} {vl : Value} (a : Ax W sb mb s) (x : Rx W rb s' L vl) : ∀ i, vl.ownBlock = some i → ¬ (i = sb ∨ i = mb) := by
  intro i hi
  rcases x.row.2 with ⟨rfl, _⟩ | ⟨g, cap, cur, rfl, _, hg, _⟩
  · cases hi
  · injection hi with hi
    subst hi
    exact a.apart hg (by decide)
structure OldP (base sb mb rb : Nat) (s : St) (L : List Et) (vl : Value) (W : World) : Prop where
  ax : Ax W sb mb s
  rx : Rx W rb s L vl
  l1 : sb < base
  l2 : mb < base
  l3 : rb < base
  l4 : ∀ i, vl.ownBlock = some i → i < base
theorem OldP.kept {F : Nat → Prop} {base sb mb rb : Nat} {s : St} {L : List Et} {vl : Value} {W W' : World} (h : OldP base sb mb rb s L vl W) (k : Keeps F W W') (hF : ∀ i, F i → base ≤ i) : OldP base sb mb rb s L vl W' := by
  have q : ∀ i, i < base → ¬ F i := fun i hi hf => by have := hF i hf; omega
  exact ⟨h.ax.kept k (q _ h.l1) (q _ h.l2), h.rx.kept k (q _ h.l3) fun i hi => q _ (h.l4 i hi), h.l1, h.l2, h.l3, h.l4⟩
def Past (base : Nat) (old was : Value) (W : World) : Prop :=
  (old = .pointer none ∧ was = .pointer none) ∨ ∃ sb mb rb s L vl, old = .pointer (some ⟨sb, 0, none⟩) ∧ was = .pointer (some ⟨rb, 0, none⟩) ∧ OldP base sb mb rb s L vl W
theorem Past.kept {F : Nat → Prop} {base : Nat} {old was : Value} {W W' : World} (h : Past base old was W) (k : Keeps F W W') (hF : ∀ i, F i → base ≤ i) : Past base old was W' := by
  rcases h with h | ⟨sb, mb, rb, s, L, vl, h1, h2, h3⟩
  · exact .inl h
  · exact .inr ⟨sb, mb, rb, s, L, vl, h1, h2, h3.kept k hF⟩
structure Duo (w : World) (base sb mb rb : Nat) (old was : Value) (s t : St) (W : World) : Prop where
  ax : Ax W sb mb s
  rx : ∃ L vl, Rx W rb t L vl
  bel : Below w.heap.size w W
  b0 : w.heap.size ≤ base
  b1 : base ≤ sb
  b2 : base ≤ mb
  b3 : base ≤ rb
  past : Past base old was W
structure Two (w : World) (base sb mb rb : Nat) (old was : Value) (bx : Nat) (p : Sp) (s t : St) (W : World) : Prop where
  d : Duo w base sb mb rb old was s t W
  blk : W.heap[bx]? = some (.cells #[.int .i64 p.d, .int .i64 p.n, .int .i64 p.k, .int .i64 p.r, .int .i64 p.m, .string p.v] TP (0, 0))
section
variable {w W W' : World} {base sb mb rb bx : Nat} {old was : Value} {p : Sp} {s t s' t' : St}
theorem Duo.later (h : Duo w base sb mb rb old was s t W) (hb : Below W.heap.size W W') : Duo w base sb mb rb old was s t W' := by
  obtain ⟨L, vl, hx⟩ := h.rx
  exact ⟨h.ax.later hb, ⟨L, vl, hx.later hb⟩, h.bel.trans (hb.mono h.bel.size), h.b0, h.b1, h.b2, h.b3, h.past.kept (F := fun _ => False) (Keeps.of_below hb) fun _ hf => hf.elim⟩
theorem Duo.prog (h : Duo w base sb mb rb old was s t W) (hA : Ax W' sb mb s') (k : Keeps (KL sb mb) W W') : Duo w base sb mb rb old was s' t W' := by
  obtain ⟨L, vl, hx⟩ := h.rx
  have h1 := h.b0
  have h2 := h.b1
  have h3 := h.b2
  exact ⟨hA, ⟨L, vl, hx.kept k (h.ax.apart hx.box (by decide)) (row_ax h.ax hx)⟩, h.bel.trans (k.below h.bel.size fun i hi => by rcases hi with rfl | rfl <;> omega), h.b0, h.b1, h.b2, h.b3, h.past.kept k fun i hi => by rcases hi with rfl | rfl <;> omega⟩
theorem Duo.ref (h : Duo w base sb mb rb old was s t W) (hR : ∃ L' v', Rx W' rb t' L' v' ∧ Keeps (fun i => i = rb) W W') : Duo w base sb mb rb old was s t' W' := by
  obtain ⟨L, vl, hx⟩ := h.rx
  obtain ⟨L', v', hR, k⟩ := hR
  have h1 := h.b0
  have h2 := h.b3
  have hne := h.ax.apart hx.box (by decide)
  exact ⟨h.ax.kept k (fun e => hne (.inl e.symm)) (fun e => hne (.inr e.symm)), ⟨L', v', hR⟩, h.bel.trans (k.below h.bel.size fun i hi => by subst hi; omega), h.b0, h.b1, h.b2, h.b3, h.past.kept k fun i hi => by subst hi; omega⟩
theorem Two.later (h : Two w base sb mb rb old was bx p s t W) (hb : Below W.heap.size W W') : Two w base sb mb rb old was bx p s t W' :=
  ⟨h.d.later hb, (hb.block _ (Array.getElem?_eq_some_iff.1 h.blk).1).trans h.blk⟩
theorem Two.drew (h : Two w base sb mb rb old was bx p s t W) : Two w base sb mb rb old was bx p s t W.drew := h.later (Below.refl _ _).drew
theorem two_new (h : Duo w base sb mb rb old was s t W) (p : Sp) : Two w base sb mb rb old was W.heap.size p s t (W.alloc (.cells #[.int .i64 p.d, .int .i64 p.n, .int .i64 p.k, .int .i64 p.r, .int .i64 p.m, .string p.v] TP)) :=
  ⟨h.later (alloc_b _ _), heap_alloc_new _ _⟩
theorem Two.prog (h : Two w base sb mb rb old was bx p s t W) (hA : Ax W' sb mb s') (k : Keeps (KL sb mb) W W') : Two w base sb mb rb old was bx p s' t W' :=
  ⟨h.d.prog hA k, (k.block _ (Array.getElem?_eq_some_iff.1 h.blk).1 (h.d.ax.apart h.blk (by decide))).trans h.blk⟩
theorem Two.ref (h : Two w base sb mb rb old was bx p s t W) (hR : ∃ L' v', Rx W' rb t' L' v' ∧ Keeps (fun i => i = rb) W W') : Two w base sb mb rb old was bx p s t' W' := by
  obtain ⟨L, vl, hx⟩ := h.d.rx
  obtain ⟨L', v', hR', k⟩ := id hR
  exact ⟨h.d.ref hR, (k.block _ (Array.getElem?_eq_some_iff.1 h.blk).1 (ap_rb hx h.blk (by decide))).trans h.blk⟩
theorem Two.cells (h : Two w base sb mb rb old was bx p s t W) : W.cell? ⟨bx, 0, none⟩ = some (.int .i64 p.d) ∧ W.cell? ⟨bx, 1, none⟩ = some (.int .i64 p.n) ∧ W.cell? ⟨bx, 2, none⟩ = some (.int .i64 p.k) ∧
    W.cell? ⟨bx, 3, none⟩ = some (.int .i64 p.r) ∧ W.cell? ⟨bx, 4, none⟩ = some (.int .i64 p.m) ∧ W.cell? ⟨bx, 5, none⟩ = some (.string p.v) :=
  ⟨cell_of_row _ _ 0 _ TP _ h.blk, cell_of_row _ _ 1 _ TP _ h.blk, cell_of_row _ _ 2 _ TP _ h.blk, cell_of_row _ _ 3 _ TP _ h.blk, cell_of_row _ _ 4 _ TP _ h.blk, cell_of_row _ _ 5 _ TP _ h.blk⟩
theorem Two.padd (h : Two w base sb mb rb old was bx p s t W) (nd x y k : Int) (v : ByteArray) :
    Calls Try.prog 14 #[.pointer (some ⟨sb, 0, none⟩), .int .i64 nd, .agg #[.int .i64 x, .int .i64 y], .int .i64 k, .string v] W fun e W' =>
      e = .returned (.tuple #[.bool (addB s nd x y k v), .int .i64 (addE s nd x y k v)]) ∧ Two w base sb mb rb old was bx p (addS s nd x y k v) t W' :=
  (add_any nd x y k v W h.d.ax).mono fun e W' ⟨he, hA, hK⟩ => ⟨he, h.prog hA (hK.wide fun k h => .inr h)⟩
theorem Two.radd (h : Two w base sb mb rb old was bx p s t W) (nd x y k : Int) (v : ByteArray) :
    Calls Try.prog 15 #[.pointer (some ⟨rb, 0, none⟩), .int .i64 nd, .agg #[.int .i64 x, .int .i64 y], .int .i64 k, .string v] W fun e W' =>
      e = .returned (.tuple #[.bool (addB t nd x y k v), .int .i64 (addE t nd x y k v)]) ∧ Two w base sb mb rb old was bx p s (addS t nd x y k v) W' := by
  obtain ⟨L, vl, hx⟩ := h.d.rx
  exact (radd_any nd x y k v W hx).mono fun e W' ⟨he, hR⟩ => ⟨he, h.ref hR⟩
theorem Two.plrn (h : Two w base sb mb rb old was bx p s t W) (k : Int) (v : ByteArray) :
    Calls Try.prog 16 #[.pointer (some ⟨sb, 0, none⟩), .int .i64 k, .string v] W fun e W' =>
      e = .returned (.int .i64 (lrnE s k v)) ∧ Two w base sb mb rb old was bx p (lrnS s k v) t W' :=
  (learn_any k v W h.d.ax).mono fun e W' ⟨he, hA, hK⟩ => ⟨he, h.prog hA (hK.wide fun k h => .inr h)⟩
theorem Two.rlrn (h : Two w base sb mb rb old was bx p s t W) (k : Int) (v : ByteArray) :
    Calls Try.prog 17 #[.pointer (some ⟨rb, 0, none⟩), .int .i64 k, .string v] W fun e W' =>
      e = .returned (.int .i64 (lrnE t k v)) ∧ Two w base sb mb rb old was bx p s (lrnS t k v) W' := by
  obtain ⟨L, vl, hx⟩ := h.d.rx
  exact (rlearn_any k v W hx).mono fun e W' ⟨he, hR⟩ => ⟨he, h.ref hR⟩
theorem Two.pfor (h : Two w base sb mb rb old was bx p s t W) (u : Int) :
    Calls Try.prog 18 #[.pointer (some ⟨sb, 0, none⟩), .int .i64 u] W fun e W' =>
      e = .returned (.int .i64 (forE u)) ∧ Two w base sb mb rb old was bx p (forS s u) t W' :=
  (forget_any u W h.d.ax).mono fun e W' ⟨he, hA, hK⟩ => ⟨he, h.prog hA hK⟩
theorem Two.rfor (h : Two w base sb mb rb old was bx p s t W) (u : Int) :
    Calls Try.prog 19 #[.pointer (some ⟨rb, 0, none⟩), .int .i64 u] W fun e W' =>
      e = .returned (.int .i64 (forE u)) ∧ Two w base sb mb rb old was bx p s (forS t u) W' := by
  obtain ⟨L, vl, hx⟩ := h.d.rx
  exact (rforget_any u W hx).mono fun e W' ⟨he, hR⟩ => ⟨he, h.ref hR⟩
theorem Two.show (h : Two w base sb mb rb old was bx p s s W) (k : Int) (hk : (Lit.int .i64 k).wf = true) :
    Calls Try.prog 22 #[.pointer (some ⟨sb, 0, none⟩), .pointer (some ⟨rb, 0, none⟩), .int .i64 k] W fun e W' => e = .returned (.bool true) ∧ Two w base sb mb rb old was bx p s s W' := by
  obtain ⟨L, vl, hx⟩ := h.d.rx
  exact (shows_any k W h.d.ax hx hk).mono fun e W' ⟨he, hb⟩ => ⟨he, h.later hb⟩
theorem Two.show0 {sb0 rb0 : Nat} (h : Two w base sb mb rb (.pointer (some ⟨sb0, 0, none⟩)) (.pointer (some ⟨rb0, 0, none⟩)) bx p s t W) (k : Int) (hk : (Lit.int .i64 k).wf = true) :
    Calls Try.prog 22 #[.pointer (some ⟨sb0, 0, none⟩), .pointer (some ⟨rb0, 0, none⟩), .int .i64 k] W fun e W' => e = .returned (.bool true) ∧ Two w base sb mb rb (.pointer (some ⟨sb0, 0, none⟩)) (.pointer (some ⟨rb0, 0, none⟩)) bx p s t W' := by
  rcases h.d.past with ⟨h1, _⟩ | ⟨sb1, mb1, rb1, s1, L1, vl1, h1, h2, h3⟩
  · cases h1
  · injection h1 with h1
    injection h1 with h1
    injection h1 with h1
    injection h2 with h2
    injection h2 with h2
    injection h2 with h2
    subst h1 h2
    exact (shows_any k W h3.ax h3.rx hk).mono fun e W' ⟨he, hb⟩ => ⟨he, h.later hb⟩
/-- After both copies. -/
theorem Two.cp1 (h : Two w base sb mb rb old was bx p s s W) :
    Calls Try.prog 20 #[.pointer (some ⟨sb, 0, none⟩)] W fun e W' => ∃ sb' mb', e = .returned (.pointer (some ⟨sb', 0, none⟩)) ∧ Ax W' sb' mb' s ∧ W.heap.size ≤ sb' ∧ W.heap.size ≤ mb' ∧ Below W.heap.size W W' :=
  (copy_any W h.d.ax).mono fun e W' ⟨sb', mb', he, h1, h2, hA, hb⟩ => ⟨sb', mb', he, hA, h1, h2, hb⟩
theorem Two.cp2 (h : Two w base sb mb rb old was bx p s s W) {sb' mb' : Nat} (hA : Ax W' sb' mb' s) (h1 : W.heap.size ≤ sb') (h2 : W.heap.size ≤ mb') (hb : Below W.heap.size W W') :
    Calls Try.prog 21 #[.pointer (some ⟨rb, 0, none⟩)] W' fun e W2 => ∃ rb', e = .returned (.pointer (some ⟨rb', 0, none⟩)) ∧
      Two w W.heap.size sb' mb' rb' (.pointer (some ⟨sb, 0, none⟩)) (.pointer (some ⟨rb, 0, none⟩)) bx p s s W2 := by
  obtain ⟨L, vl, hx⟩ := h.d.rx
  refine (rcopy_any W' (hx.later hb)).mono ?_
  rintro e W2 ⟨rb', L', v', rfl, hR, h3, hb2⟩
  have hb3 : Below W.heap.size W W2 := hb.trans (hb2.mono hb.size)
  have hs := hb.size
  refine ⟨rb', rfl, ⟨hA.later hb2, ⟨L', v', hR⟩, h.d.bel.trans (hb3.mono h.d.bel.size), h.d.bel.size, h1, h2, by omega, .inr ⟨sb, mb, rb, s, L, vl, rfl, rfl, h.d.ax.later hb3, hx.later hb3, h.d.ax.lt.1, h.d.ax.lt.2, hx.lt, fun i hi => (World.ownsRow.lt hx.row i hi).2⟩⟩, (h.later hb3).blk⟩
end
end Go.Proofs.Ytaacnhhinhdinaa.Lrn
