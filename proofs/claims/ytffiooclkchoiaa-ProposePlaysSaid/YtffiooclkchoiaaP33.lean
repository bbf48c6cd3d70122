/- The document's nil proposer; a proposer beside the document's, made or nil, with all calls. -/
import Derived.Test.YtffiooclkchoiaaP32
import Derived.Test.YtffiooclkchoiaaP14
namespace Go.Proofs.Ytffiooclkchoiaa.Prp
open Go.RowKit Go.Lib
open Bal (TB bOk ckB ordV eqB eqB_t eqB_f eq_b alloc_b check_any order_any rcheck_any rorder_any)
set_option linter.unusedVariables false
set_option linter.unusedSimpArgs false
set_option maxRecDepth 100000

/-! The document's nil. -/
theorem radd_nv (w : World) (k : Int) (v : Value) (u : Int) : Calls Try.prog 28 #[.pointer none, .int .i64 k, v, .int .i64 u] w fun e w' => e = .returned (.tuple #[.bool false, .int .i64 1]) ∧ w = w' := by
  have hV := Lib.hid (rvalid_nil w)
  go_enter Try.func28, Try.ntmps28
  go_wp2_with (go_at_call 35; refine hV.out.mono ?_; rintro e w' ⟨rfl, rfl⟩)
  go_ret2
  exact ⟨rfl, rfl⟩
theorem rvalues_nv (w : World) : Calls Try.prog 17 #[.pointer none] w fun e w' => e = .returned (.tuple #[.slice none 0 0, .int .i64 1]) ∧ w = w' := by
  have hV := Lib.hid (rvalid_nil w)
  go_enter Try.func17, Try.ntmps17
  go_wp2_with (go_at_call 35; refine hV.out.mono ?_; rintro e w' ⟨rfl, rfl⟩)
  go_ret2
  exact ⟨rfl, rfl⟩
theorem rready_nv (w : World) : Calls Try.prog 20 #[.pointer none] w fun e w' => e = .returned (.bool false) ∧ w = w' := by
  have hV := Lib.hid (rvalid_nil w)
  go_enter Try.func20, Try.ntmps20
  go_wp2_with (go_at_call 35; refine hV.out.mono ?_; rintro e w' ⟨rfl, rfl⟩)
  go_ret
  exact ⟨rfl, rfl⟩
theorem rcopy_nv (w : World) : Calls Try.prog 15 #[.pointer none] w fun e w' => e = .returned (.pointer none) ∧ w = w' := by
  have hV := Lib.hid (rvalid_nil w)
  go_enter Try.func15, Try.ntmps15
  go_wp2_with (go_at_call 35; refine hV.out.mono ?_; rintro e w' ⟨rfl, rfl⟩)
  go_ret
  exact ⟨rfl, rfl⟩
theorem rupto_nv (w : World) : Calls Try.prog 22 #[.pointer none] w fun e w' => e = .returned (.int .i64 0) ∧ w = w' := by
  have hV := Lib.hid (rvalid_nil w)
  go_enter Try.func22, Try.ntmps22
  go_wp2
  go_loopw [3, 4] (fun a i wr => a = .int .i64 0 ∧ i = .int .i64 0 ∧ w = wr) (fun _ _ _ => 0)
  case atStart => exact ⟨rfl, rfl, rfl⟩
  case round =>
    obtain ⟨rfl, rfl, rfl⟩ := hrel
    go_wp2_with (go_at_call 35; refine hV.out.mono ?_; rintro e w' ⟨rfl, rfl⟩)
    go_ret
    exact ⟨rfl, rfl⟩
theorem rnodes_nv (w : World) : Calls Try.prog 26 #[.pointer none] w fun e w' => e = .returned (.int .u64 0) ∧ w = w' := by
  have hV := Lib.hid (rvalid_nil w)
  go_enter Try.func26, Try.ntmps26
  go_wp2
  go_loopw [3, 4] (fun a i wr => a = .int .u64 0 ∧ i = .int .i64 0 ∧ w = wr) (fun _ _ _ => 0)
  case atStart => exact ⟨rfl, rfl, rfl⟩
  case round =>
    obtain ⟨rfl, rfl, rfl⟩ := hrel
    go_wp2_with (go_at_call 35; refine hV.out.mono ?_; rintro e w' ⟨rfl, rfl⟩)
    go_ret
    exact ⟨rfl, rfl⟩
theorem rballot_nv (w : World) : Calls Try.prog 24 #[.pointer none] w fun e w' => e = .returned (.agg #[.int .i64 0, .int .i64 0]) ∧ Below w.heap.size w w' := by
  have hV := Lib.hid (fun W => rvalid_nil W)
  have hq := heap_alloc_new w (.cells #[.int .i64 0, .int .i64 0] TB)
  have f0 := frozen_of_row _ w.heap.size 0 _ TB hq
  have f1 := frozen_of_row _ w.heap.size 1 _ TB hq
  have d0 := cell_of_row _ w.heap.size 0 _ TB _ hq
  have d1 := cell_of_row _ w.heap.size 1 _ TB _ hq
  clear hq
  go_enter Try.func24, Try.ntmps24
  go_wp2_with (go_at_call 35; refine (hV.out _).mono ?_; rintro e w' ⟨rfl, rfl⟩)
  refine bodyPost_ret (v := .agg #[.int .i64 0, .int .i64 0]) ?_ rfl ⟨rfl, alloc_b _ _⟩
  simp [results, Try.results24, go_sem, d0, d1]

/-! The two. -/
structure TwoS (w : World) (s t : St) (b c : Nat) (F : Nat → Prop) (W : World) : Prop where
  px : ∃ vs, Px w.heap.size W b vs s ∧ ∀ i, i < 7 → ∀ k, (vs i).ownBlock = some k → ¬ F k
  rx : ∃ vt, Rx w.heap.size W c vt t ∧ ∀ i, i < 7 → ∀ k, (vt i).ownBlock = some k → ¬ F k
  bel : Below w.heap.size w W
  lob : w.heap.size ≤ b
  loc : w.heap.size ≤ c
  nb : ¬ F b
  nc : ¬ F c
def Two (w : World) (o t : Option St) (pa ra : Option Addr) (F : Nat → Prop) (W : World) : Prop := Below w.heap.size w W ∧
  match o, t with
  | some s, some t => ∃ b c, pa = some ⟨b, 0, none⟩ ∧ ra = some ⟨c, 0, none⟩ ∧ TwoS w s t b c F W
  | none, none => pa = none ∧ ra = none
  | _, _ => False
def oVE : Option St → Int | some s => valE s | none => 1
def oVL : Option St → List Et | some s => valL s | none => []
def oR : Option St → Bool | some s => rdy s | none => false
def oU : Option St → Int | some s => upK s.P 7 | none => 0
def oBr : Option St → Int | some s => s.r | none => 0
def oBm : Option St → Int | some s => s.m | none => 0
def oN : Option St → Nat | some s => nodesK s.P 7 | none => 0
def oAE (o : Option St) (k : Int) (L : List Et) (u : Int) : Int := match o with | some s => addE s k L u | none => 1
def oAB (o : Option St) (k : Int) (L : List Et) (u : Int) : Bool := match o with | some s => addB s k L u | none => false
def oAS (o : Option St) (k : Int) (L : List Et) (u : Int) : Option St := match o with | some s => some (addS s k L u) | none => none
section
variable {w W W' : World} {s t : St} {b c : Nat} {F : Nat → Prop} {o q : Option St} {pa ra : Option Addr}
theorem TwoS.kept (h : TwoS w s t b c F W) (hK : Keeps F W W') (hF : ∀ k, F k → w.heap.size ≤ k) : TwoS w s t b c F W' := by
  obtain ⟨vs, hp, np⟩ := h.px
  obtain ⟨vt, hr, nr⟩ := h.rx
  exact ⟨⟨vs, hp.kept hK h.nb np, np⟩, ⟨vt, hr.kept hK h.nc nr, nr⟩, h.bel.trans (hK.below h.bel.size hF), h.lob, h.loc, h.nb, h.nc⟩
theorem TwoS.later (h : TwoS w s t b c F W) (hb : Below W.heap.size W W') : TwoS w s t b c F W' := by
  obtain ⟨vs, hp, np⟩ := h.px
  obtain ⟨vt, hr, nr⟩ := h.rx
  exact ⟨⟨vs, hp.later hb, np⟩, ⟨vt, hr.later hb, nr⟩, h.bel.trans (hb.mono h.bel.size), h.lob, h.loc, h.nb, h.nc⟩
theorem TwoS.forget (h : TwoS w s t b c F W) : TwoS w s t b c (fun _ => False) W := by
  obtain ⟨vs, hp, np⟩ := h.px
  obtain ⟨vt, hr, nr⟩ := h.rx
  exact ⟨⟨vs, hp, fun _ _ _ _ => id⟩, ⟨vt, hr, fun _ _ _ _ => id⟩, h.bel, h.lob, h.loc, id, id⟩
theorem TwoS.fresh (h : TwoS w s t b c (fun _ => False) W) (n : Nat) : TwoS w s t b c (fun k => W.heap.size ≤ k ∧ k < n) W := by
  obtain ⟨vs, hp, np⟩ := h.px
  obtain ⟨vt, hr, nr⟩ := h.rx
  exact ⟨⟨vs, hp, fun i hi k hk f => by have := (World.ownsRow.lt (hp.lst i hi) k hk).2; omega⟩, ⟨vt, hr, fun i hi k hk f => by have := (World.ownsRow.lt (hr.lst i hi) k hk).2; omega⟩, h.bel, h.lob, h.loc,
    fun f => by have := hp.lt; omega, fun f => by have := hr.lt; omega⟩
theorem Two.bel (h : Two w o q pa ra F W) : Below w.heap.size w W := h.1
theorem Two.kept (h : Two w o q pa ra F W) (hK : Keeps F W W') (hF : ∀ k, F k → w.heap.size ≤ k) : Two w o q pa ra F W' := by
  obtain ⟨hb, h⟩ := h
  refine ⟨hb.trans (hK.below hb.size hF), ?_⟩
  match o, q, h with
  | some s, some t, ⟨b, c, e1, e2, h⟩ => exact ⟨b, c, e1, e2, h.kept hK hF⟩
  | none, none, h => exact h
theorem Two.later (h : Two w o q pa ra F W) (hb : Below W.heap.size W W') : Two w o q pa ra F W' := by
  obtain ⟨h0, h⟩ := h
  refine ⟨h0.trans (hb.mono h0.size), ?_⟩
  match o, q, h with
  | some s, some t, ⟨b, c, e1, e2, h⟩ => exact ⟨b, c, e1, e2, h.later hb⟩
  | none, none, h => exact h
theorem Two.drew (h : Two w o q pa ra F W) : Two w o q pa ra F W.drew := h.later (Below.refl _ _).drew
theorem Two.forget (h : Two w o q pa ra F W) : Two w o q pa ra (fun _ => False) W := by
  obtain ⟨h0, h⟩ := h
  refine ⟨h0, ?_⟩
  match o, q, h with
  | some s, some t, ⟨b, c, e1, e2, h⟩ => exact ⟨b, c, e1, e2, h.forget⟩
  | none, none, h => exact h
theorem Two.fresh (h : Two w o q pa ra (fun _ => False) W) (n : Nat) : Two w o q pa ra (fun k => W.heap.size ≤ k ∧ k < n) W := by
  obtain ⟨h0, h⟩ := h
  refine ⟨h0, ?_⟩
  match o, q, h with
  | some s, some t, ⟨b, c, e1, e2, h⟩ => exact ⟨b, c, e1, e2, h.fresh n⟩
  | none, none, h => exact h
theorem TwoS.p (h : TwoS w s t b c F W) : PAt w b s W := by obtain ⟨vs, hp, _⟩ := h.px; exact ⟨⟨vs, hp⟩, h.bel, h.lob⟩
theorem below_eq {W W' : World} (h : W = W') : Below W.heap.size W W' := by subst h; exact Below.refl _ _
abbrev ptr (a : Option Addr) : Value := .pointer a
theorem Two.pvalues (h : Two w o q pa ra F W) : Calls Try.prog 16 #[.pointer pa] W fun e W' => ∃ v, e = .returned (.tuple #[v, .int .i64 (oVE o)]) ∧ IsE W' v (oVL o) ∧ Below W.heap.size W W' := by
  obtain ⟨_, h⟩ := h
  match o, q, h with
  | some s, some t, ⟨b, c, e1, e2, H⟩ =>
    subst e1
    refine H.p.values.mono ?_
    rintro e W' ⟨v, rfl, hO, hb⟩
    exact ⟨v, rfl, hO.is, hb⟩
  | none, none, ⟨e1, _⟩ =>
    subst e1
    refine (values_nv _ W (.inl rfl)).mono ?_
    rintro e W' ⟨rfl, rfl⟩
    exact ⟨_, rfl, is_nil _, Below.refl _ _⟩
theorem Two.rvalues (h : Two w o q pa ra F W) : Calls Try.prog 17 #[.pointer ra] W fun e W' => ∃ v, e = .returned (.tuple #[v, .int .i64 (oVE q)]) ∧ IsE W' v (oVL q) ∧ Below W.heap.size W W' := by
  obtain ⟨_, h⟩ := h
  match o, q, h with
  | some s, some t, ⟨b, c, e1, e2, H⟩ =>
    subst e2
    obtain ⟨vt, hr, _⟩ := H.rx
    refine (rvalues_any hr).mono ?_
    rintro e W' ⟨v, rfl, hO, hb⟩
    exact ⟨v, rfl, hO.is, hb⟩
  | none, none, ⟨_, e1⟩ =>
    subst e1
    refine (rvalues_nv W).mono ?_
    rintro e W' ⟨rfl, rfl⟩
    exact ⟨_, rfl, is_nil _, Below.refl _ _⟩
theorem Two.pready (h : Two w o q pa ra F W) : Calls Try.prog 19 #[.pointer pa] W fun e W' => e = .returned (.bool (oR o)) ∧ Below W.heap.size W W' := by
  obtain ⟨_, h⟩ := h
  match o, q, h with
  | some s, some t, ⟨b, c, e1, e2, H⟩ =>
    subst e1
    exact H.p.ready
  | none, none, ⟨e1, _⟩ =>
    subst e1
    refine (ready_nv _ W (.inl rfl)).mono ?_
    rintro e W' ⟨rfl, hb⟩
    exact ⟨rfl, below_eq hb⟩
theorem Two.rready (h : Two w o q pa ra F W) : Calls Try.prog 20 #[.pointer ra] W fun e W' => e = .returned (.bool (oR q)) ∧ Below W.heap.size W W' := by
  obtain ⟨_, h⟩ := h
  match o, q, h with
  | some s, some t, ⟨b, c, e1, e2, H⟩ =>
    subst e2
    obtain ⟨vt, hr, _⟩ := H.rx
    refine hr.ready.mono ?_
    rintro e W' ⟨rfl, hb⟩
    exact ⟨rfl, hb⟩
  | none, none, ⟨_, e1⟩ =>
    subst e1
    refine (rready_nv W).mono ?_
    rintro e W' ⟨rfl, hb⟩
    exact ⟨rfl, below_eq hb⟩
theorem Two.pupto (h : Two w o q pa ra F W) : Calls Try.prog 21 #[.pointer pa] W fun e W' => e = .returned (.int .i64 (oU o)) ∧ Below W.heap.size W W' := by
  obtain ⟨_, h⟩ := h
  match o, q, h with
  | some s, some t, ⟨b, c, e1, e2, H⟩ =>
    subst e1
    exact H.p.upto
  | none, none, ⟨e1, _⟩ =>
    subst e1
    refine (upto_nv _ W (.inl rfl)).mono ?_
    rintro e W' ⟨rfl, hb⟩
    exact ⟨rfl, below_eq hb⟩
theorem Two.rupto (h : Two w o q pa ra F W) : Calls Try.prog 22 #[.pointer ra] W fun e W' => e = .returned (.int .i64 (oU q)) ∧ Below W.heap.size W W' := by
  obtain ⟨_, h⟩ := h
  match o, q, h with
  | some s, some t, ⟨b, c, e1, e2, H⟩ =>
    subst e2
    obtain ⟨vt, hr, _⟩ := H.rx
    refine hr.upto.mono ?_
    rintro e W' ⟨rfl, hb⟩
    exact ⟨rfl, below_eq hb⟩
  | none, none, ⟨_, e1⟩ =>
    subst e1
    refine (rupto_nv W).mono ?_
    rintro e W' ⟨rfl, hb⟩
    exact ⟨rfl, below_eq hb⟩
theorem Two.pnodes (h : Two w o q pa ra F W) : Calls Try.prog 25 #[.pointer pa] W fun e W' => e = .returned (.int .u64 (oN o : Nat)) ∧ Below W.heap.size W W' := by
  obtain ⟨_, h⟩ := h
  match o, q, h with
  | some s, some t, ⟨b, c, e1, e2, H⟩ =>
    subst e1
    exact H.p.nodes
  | none, none, ⟨e1, _⟩ =>
    subst e1
    refine (nodes_nv _ W (.inl rfl)).mono ?_
    rintro e W' ⟨rfl, hb⟩
    exact ⟨rfl, below_eq hb⟩
theorem Two.rnodes (h : Two w o q pa ra F W) : Calls Try.prog 26 #[.pointer ra] W fun e W' => e = .returned (.int .u64 (oN q : Nat)) ∧ Below W.heap.size W W' := by
  obtain ⟨_, h⟩ := h
  match o, q, h with
  | some s, some t, ⟨b, c, e1, e2, H⟩ =>
    subst e2
    obtain ⟨vt, hr, _⟩ := H.rx
    refine hr.nodes.mono ?_
    rintro e W' ⟨rfl, hb⟩
    exact ⟨rfl, below_eq hb⟩
  | none, none, ⟨_, e1⟩ =>
    subst e1
    refine (rnodes_nv W).mono ?_
    rintro e W' ⟨rfl, hb⟩
    exact ⟨rfl, below_eq hb⟩
theorem Two.pballot (h : Two w o q pa ra F W) : Calls Try.prog 23 #[.pointer pa] W fun e W' => e = .returned (.agg #[.int .i64 (oBr o), .int .i64 (oBm o)]) ∧ Below W.heap.size W W' := by
  obtain ⟨_, h⟩ := h
  match o, q, h with
  | some s, some t, ⟨b, c, e1, e2, H⟩ =>
    subst e1
    exact H.p.ballot
  | none, none, ⟨e1, _⟩ =>
    subst e1
    refine (ballot_nv _ W (.inl rfl)).mono ?_
    rintro e W' ⟨rfl, hb⟩
    exact ⟨rfl, hb⟩
theorem Two.rballot (h : Two w o q pa ra F W) : Calls Try.prog 24 #[.pointer ra] W fun e W' => e = .returned (.agg #[.int .i64 (oBr q), .int .i64 (oBm q)]) ∧ Below W.heap.size W W' := by
  obtain ⟨_, h⟩ := h
  match o, q, h with
  | some s, some t, ⟨b, c, e1, e2, H⟩ =>
    subst e2
    obtain ⟨vt, hr, _⟩ := H.rx
    refine hr.ballot.mono ?_
    rintro e W' ⟨rfl, hb⟩
    exact ⟨rfl, hb⟩
  | none, none, ⟨_, e1⟩ =>
    subst e1
    refine (rballot_nv W).mono ?_
    rintro e W' ⟨rfl, hb⟩
    exact ⟨rfl, hb⟩
theorem Two.pcopy (h : Two w o q pa ra (fun _ => False) W) : Calls Try.prog 14 #[.pointer pa] W fun e W' => ∃ pa', e = .returned (.pointer pa') ∧ Two w o q pa' ra (fun _ => False) W' := by
  obtain ⟨h0, h⟩ := h
  match o, q, h with
  | some s, some t, ⟨b, c, e1, e2, H⟩ =>
    subst e1
    refine H.p.copy.mono ?_
    rintro e W' ⟨d, rfl, hp, _, _, hb⟩
    obtain ⟨vs, hp2⟩ := hp.px
    have h2 := H.later hb
    exact ⟨_, rfl, h0.trans (hb.mono h0.size), d, c, rfl, e2, ⟨vs, hp2, fun _ _ _ _ => id⟩, h2.rx, h2.bel, hp.lo, h2.loc, id, id⟩
  | none, none, ⟨e1, e2⟩ =>
    subst e1
    refine (copy_nv _ W (.inl rfl)).mono ?_
    rintro e W' ⟨rfl, rfl⟩
    exact ⟨none, rfl, h0, rfl, e2⟩
theorem Two.rcopy (h : Two w o q pa ra (fun _ => False) W) : Calls Try.prog 15 #[.pointer ra] W fun e W' => ∃ ra', e = .returned (.pointer ra') ∧ Two w o q pa ra' (fun _ => False) W' := by
  obtain ⟨h0, h⟩ := h
  match o, q, h with
  | some s, some t, ⟨b, c, e1, e2, H⟩ =>
    subst e2
    obtain ⟨vt, hr, _⟩ := H.rx
    refine (hr.copy h0.size).mono ?_
    rintro e W' ⟨d, vs', rfl, hr2, hlo, hb, _⟩
    have h2 := H.later hb
    exact ⟨_, rfl, h0.trans (hb.mono h0.size), b, d, e1, rfl, h2.px, ⟨vs', hr2, fun _ _ _ _ => id⟩, h2.bel, h2.lob, Nat.le_trans h0.size hlo, id, id⟩
  | none, none, ⟨e1, e2⟩ =>
    subst e2
    refine (rcopy_nv W).mono ?_
    rintro e W' ⟨rfl, rfl⟩
    exact ⟨none, rfl, h0, e1, rfl⟩
theorem Two.padd (h : Two w o q pa ra F W) (hF : ∀ k, F k → k < W.heap.size) (k : Int) (v : Value) (u : Int) (L : List Et) (hl : IsE W v L) (hlen : L.length ≤ 100000) :
    Calls Try.prog 27 #[.pointer pa, .int .i64 k, v, .int .i64 u] W fun e W' => e = .returned (.tuple #[.bool (oAB o k L u), .int .i64 (oAE o k L u)]) ∧ Two w (oAS o k L u) q pa ra F W' ∧ Keeps (fun j => pa = some ⟨j, 0, none⟩) W W' := by
  obtain ⟨h0, h⟩ := h
  match o, q, h with
  | some s, some t, ⟨b, c, e1, e2, H⟩ =>
    subst e1
    obtain ⟨vs, hp, np⟩ := H.px
    obtain ⟨vt, hr, nr⟩ := H.rx
    refine (add_any hp k v u L hl hlen h0.size).mono ?_
    rintro e W' ⟨rfl, ⟨vs', hp2, hv⟩, hK⟩
    have hb2 : Below w.heap.size w W' := h0.trans (hK.below h0.size fun j e => by subst e; exact H.lob)
    refine ⟨rfl, ⟨hb2, b, c, rfl, e2, ⟨vs', hp2, fun i hi k hk f => ?_⟩, ⟨vt, hr.kept hK (fun e => ?_) (fun i hi k hk e => by subst e; exact row_te (hr.lst i hi) hp.box hk), nr⟩, hb2, H.lob, H.loc, H.nb, H.nc⟩, hK.wide fun j e => by subst e; rfl⟩
    · rcases hv i hi with hv | hv
      · rw [hv] at hk; exact np i hi k hk f
      · have := hv k hk; have := hF k f; omega
    · subst e
      have h1 := hr.box
      rw [hp.box] at h1
      injection h1 with h1
      injection h1 with _ h1
      exact absurd h1 (by decide)
  | none, none, ⟨e1, e2⟩ =>
    subst e1
    refine (add_nv _ W (.inl rfl) k v u).mono ?_
    rintro e W' ⟨rfl, rfl⟩
    exact ⟨rfl, ⟨h0, rfl, e2⟩, Keeps.refl _ _⟩
theorem Two.radd (h : Two w o q pa ra F W) (hF : ∀ k, F k → k < W.heap.size) (k : Int) (v : Value) (u : Int) (L : List Et) (hl : IsE w v L) (hlen : L.length ≤ 10000) :
    Calls Try.prog 28 #[.pointer ra, .int .i64 k, v, .int .i64 u] W fun e W' => e = .returned (.tuple #[.bool (oAB q k L u), .int .i64 (oAE q k L u)]) ∧ Two w o (oAS q k L u) pa ra F W' ∧ Keeps (fun j => ra = some ⟨j, 0, none⟩) W W' := by
  obtain ⟨h0, h⟩ := h
  match o, q, h with
  | some s, some t, ⟨b, c, e1, e2, H⟩ =>
    subst e2
    obtain ⟨vs, hp, np⟩ := H.px
    obtain ⟨vt, hr, nr⟩ := H.rx
    refine (hr.add k v u L w hl h0 H.loc hlen h0.size).mono ?_
    rintro e W' ⟨rfl, ⟨vt', hr2, hv⟩, hK⟩
    have hb2 : Below w.heap.size w W' := h0.trans (hK.below h0.size fun j e => by subst e; exact H.loc)
    refine ⟨rfl, ⟨hb2, b, c, e1, rfl, ⟨vs, hp.kept hK (fun e => ?_) (fun i hi k hk e => by subst e; exact rrow_te (hp.lst i hi) hr.box hk), np⟩, ⟨vt', hr2, fun i hi k hk f => ?_⟩, hb2, H.lob, H.loc, H.nb, H.nc⟩, hK.wide fun j e => by subst e; rfl⟩
    · subst e
      have h1 := hr.box
      rw [hp.box] at h1
      injection h1 with h1
      injection h1 with _ h1
      exact absurd h1 (by decide)
    · rcases hv i hi with hv | hv
      · rw [hv] at hk; exact nr i hi k hk f
      · have := hv k hk; have := hF k f; omega
  | none, none, ⟨e1, e2⟩ =>
    subst e2
    refine (radd_nv W k v u).mono ?_
    rintro e W' ⟨rfl, rfl⟩
    exact ⟨rfl, ⟨h0, e1, rfl⟩, Keeps.refl _ _⟩
end
end Go.Proofs.Ytffiooclkchoiaa.Prp
