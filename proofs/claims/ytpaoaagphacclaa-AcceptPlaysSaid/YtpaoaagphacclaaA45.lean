/- An acceptor beside the document's, made or nil, with all calls. -/
import Derived.Test.YtpaoaagphacclaaA44
import Derived.Test.YtpaoaagphacclaaA17
import Derived.Test.YtpaoaagphacclaaA16
namespace Go.Proofs.Ytpaoaagphacclaa.Acc
open Go.RowKit Go.Maps Go.Lib
open Bal (TB bOk ckB ordV eqB eqB_t eqB_f eq_b alloc_b)
set_option linter.unusedVariables false
set_option linter.unusedSimpArgs false
set_option maxRecDepth 100000

theorem row_apart {base size n : Nat} {e : TypeId} {xs : List Value} {v : Value} {W : World} {sb mb : Nat} {s : St} (h : W.ownsRow base e size v n xs) (x : Ax W sb mb s) (he : e ≠ TA) : ∀ k, v.ownBlock = some k → k ≠ sb ∧ k ≠ mb := by
  intro k hk
  rcases h.2 with ⟨rfl, _⟩ | ⟨g, cap, cur, rfl, _, hg, _⟩
  · cases hk
  · injection hk with hk
    subst hk
    constructor
    · rintro rfl
      rw [x.box] at hg
      injection hg with hg
      injection hg with _ hg
      exact he hg.symm
    · rintro rfl
      obtain ⟨es, clock, hb, _⟩ := x.own
      rw [hb] at hg
      cases hg
theorem blk_apart {W : World} {sb mb k : Nat} {s : St} {cs : Array Value} {T : TypeId} (x : Ax W sb mb s) (h : W.heap[k]? = some (.cells cs T (0, 0))) (hT : T ≠ TA) : k ≠ sb ∧ k ≠ mb := by
  constructor
  · rintro rfl
    rw [x.box] at h
    injection h with h
    injection h with _ h
    exact hT h.symm
  · rintro rfl
    obtain ⟨es, clock, hb, _⟩ := x.own
    rw [hb] at h
    cases h
/-- Rows that are none of an acceptor's boxes are as they were. -/
def RK (W W' : World) : Prop := ∀ (j : Nat) (cs : Array Value) (T : TypeId), W.heap[j]? = some (.cells cs T (0, 0)) → T ≠ TA → T ≠ TRA → W'.heap[j]? = W.heap[j]?
theorem RK.trans {a b c : World} (h : RK a b) (k : RK b c) : RK a c := fun j cs T e h1 h2 => (k j cs T ((h j cs T e h1 h2).trans e) h1 h2).trans (h j cs T e h1 h2)
theorem RK.below {W W' : World} (h : Below W.heap.size W W') : RK W W' := fun j cs T e _ _ => h.block j (Array.getElem?_eq_some_iff.1 e).1
theorem RK.own {W W' : World} (h : RK W W') {base : Nat} {L : List Et} {v : Value} (hO : OwE base L v W) : OwE base L v W' :=
  rows_kept hO fun k hk => by
    rcases hO.2 with ⟨rfl, _⟩ | ⟨g, cap, cur, rfl, _, hg, _⟩
    · cases hk
    · injection hk with hk
      subst hk
      exact h _ _ _ hg (by decide) (by decide)
structure TwoS (w : World) (s t : St) (sb mb rb : Nat) (W : World) : Prop where
  a : WAt w sb mb s W
  rx : ∃ vl, Rx W rb t vl
  hr : w.heap.size ≤ rb
def Two (w : World) (o q : Option St) (pa ra : Option Addr) (W : World) : Prop := Below w.heap.size w W ∧
  match o, q with
  | some s, some t => ∃ sb mb rb, pa = some ⟨sb, 0, none⟩ ∧ ra = some ⟨rb, 0, none⟩ ∧ TwoS w s t sb mb rb W
  | none, none => pa = none ∧ ra = none
  | _, _ => False
def oPE (o : Option St) (x y f : Int) : Int := match o with | some s => proE s x y f | none => 1
def oPL (o : Option St) (x y f : Int) : List Et := match o with | some s => proL s x y f | none => []
def oPS (o : Option St) (x y f : Int) : Option St := match o with | some s => some (proS s x y f) | none => none
def oAE (o : Option St) (x y k : Int) (v : ByteArray) : Int := match o with | some s => accE s x y k v | none => 1
def oAS (o : Option St) (x y k : Int) (v : ByteArray) : Option St := match o with | some s => some (accS s x y k v) | none => none
def oFE (o : Option St) (u : Int) : Int := match o with | some _ => forE u | none => 1
def oFS (o : Option St) (u : Int) : Option St := match o with | some s => some (forS s u) | none => none
def oG (o : Option St) (k : Int) : Et := match o with | some s => gE (getM s.M k) | none => zE
def oGs (o : Option St) (k : Int) : Bool := match o with | some s => (getM s.M k).isSome | none => false
def oBr (o : Option St) : Int := match o with | some s => s.r | none => 0
def oBm (o : Option St) : Int := match o with | some s => s.m | none => 0
def oBs (o : Option St) : Int := match o with | some s => s.b | none => 0
def oL (o : Option St) (q : Int) : List Et := match o with | some s => frM s.M q | none => []
theorem Rx.row_te {W : World} {rb : Nat} {t : St} {vl : Value} (x : Rx W rb t vl) {j : Nat} {cs : Array Value} {T : TypeId} (h : W.heap[j]? = some (.cells cs T (0, 0))) (hT : T ≠ TRA) : j ≠ rb := by
  rintro rfl
  rw [x.box] at h
  injection h with h
  injection h with _ h
  exact hT h.symm
section
variable {w W W' : World} {s t s' t' : St} {sb mb rb : Nat} {o q : Option St} {pa ra : Option Addr}
theorem TwoS.prog (h : TwoS w s t sb mb rb W) (hA : WAt w sb mb s' W') (hK : Keeps (fun k => k = sb ∨ k = mb) W W') : TwoS w s' t sb mb rb W' ∧ RK W W' := by
  obtain ⟨vl, hx⟩ := h.rx
  have hb := blk_apart h.a.ax hx.box (by decide)
  refine ⟨⟨hA, ⟨vl, hx.kept hK (fun e => e.elim hb.1 hb.2) fun i hi => ?_⟩, h.hr⟩, fun j cs T e h1 _ => hK.block j (Array.getElem?_eq_some_iff.1 e).1 (fun f => by have := blk_apart h.a.ax e h1; exact f.elim this.1 this.2)⟩
  have := row_apart hx.row h.a.ax (by decide) i hi
  exact fun f => f.elim this.1 this.2
theorem TwoS.ref (h : TwoS w s t sb mb rb W) (hR : ∃ vl, Rx W' rb t' vl ∧ Keeps (fun i => i = rb) W W') : TwoS w s t' sb mb rb W' ∧ RK W W' := by
  obtain ⟨vl, hx⟩ := h.rx
  obtain ⟨vl', hR, hK⟩ := hR
  have hb := blk_apart h.a.ax hx.box (by decide)
  refine ⟨⟨⟨h.a.ax.kept hK (fun e => hb.1 e.symm) (fun e => hb.2 e.symm), h.a.bel.trans (hK.below h.a.bel.size fun i e => by subst e; exact h.hr), h.a.hs, h.a.hm⟩, ⟨vl', hR⟩, h.hr⟩, fun j cs T e _ h2 => hK.block j (Array.getElem?_eq_some_iff.1 e).1 (hx.row_te e h2)⟩
theorem Two.bel (h : Two w o q pa ra W) : Below w.heap.size w W := h.1
theorem Two.later (h : Two w o q pa ra W) (hb : Below W.heap.size W W') : Two w o q pa ra W' := by
  obtain ⟨h0, h⟩ := h
  refine ⟨h0.trans (hb.mono h0.size), ?_⟩
  match o, q, h with
  | some s, some t, ⟨sb, mb, rb, e1, e2, H⟩ =>
    obtain ⟨vl, hx⟩ := H.rx
    exact ⟨sb, mb, rb, e1, e2, H.a.later hb, ⟨vl, hx.later hb⟩, H.hr⟩
  | none, none, h => exact h
theorem Two.len (h : Two w o q pa ra W) (k : Int) : (oL o k).length ≤ 4096 := by
  obtain ⟨_, h⟩ := h
  match o, q, h with
  | some s, some t, ⟨sb, mb, rb, _, _, H⟩ => exact Nat.le_trans (fr_len _ _) H.a.ax.ok.len
  | none, none, _ => exact Nat.zero_le _
theorem Two.plen (h : Two w o q pa ra W) (x y f : Int) : (oPL o x y f).length ≤ 4096 := by
  obtain ⟨_, h⟩ := h
  match o, q, h with
  | some s, some t, ⟨sb, mb, rb, _, _, H⟩ =>
    show (proL s x y f).length ≤ 4096
    unfold proL
    split
    · exact Nat.le_trans (fr_len _ _) H.a.ax.ok.len
    · exact Nat.zero_le _
  | none, none, _ => exact Nat.zero_le _
theorem Two.ppro (h : Two w o q pa ra W) (x y f : Int) : Calls Try.prog 16 #[.pointer pa, .agg #[.int .i64 x, .int .i64 y], .int .i64 f] W fun e W' =>
    ∃ v base, e = .returned (.tuple #[v, .int .i64 (oPE o x y f)]) ∧ OwE base (oPL o x y f) v W' ∧ Two w (oPS o x y f) q pa ra W' ∧ RK W W' := by
  obtain ⟨h0, h⟩ := h
  match o, q, h with
  | some s, some t, ⟨sb, mb, rb, e1, e2, H⟩ =>
    subst e1
    refine (H.a.promise x y f rfl rfl rfl).mono ?_
    rintro e W' ⟨v, rfl, hO, hA, hK⟩
    obtain ⟨H2, hk⟩ := H.prog hA hK
    exact ⟨v, _, rfl, hO, ⟨hA.bel, sb, mb, rb, rfl, e2, H2⟩, hk⟩
  | none, none, ⟨e1, e2⟩ =>
    subst e1
    refine (promise_nv _ x y f W (.inl rfl)).mono ?_
    rintro e W' ⟨rfl, hb⟩
    exact ⟨_, 0, rfl, OwE.nil _ _, ⟨h0.trans (hb.mono h0.size), rfl, e2⟩, RK.below hb⟩
theorem Two.rpro (h : Two w o q pa ra W) (x y f : Int) : Calls Try.prog 17 #[.pointer ra, .agg #[.int .i64 x, .int .i64 y], .int .i64 f] W fun e W' =>
    ∃ v base, e = .returned (.tuple #[v, .int .i64 (oPE q x y f)]) ∧ OwE base (oPL q x y f) v W' ∧ Two w o (oPS q x y f) pa ra W' ∧ RK W W' := by
  obtain ⟨h0, h⟩ := h
  match o, q, h with
  | some s, some t, ⟨sb, mb, rb, e1, e2, H⟩ =>
    subst e2
    obtain ⟨vl, hx⟩ := H.rx
    refine (rpromise_any x y f W hx).mono ?_
    rintro e W' ⟨v, vl', rfl, hO, hR, hK⟩
    obtain ⟨H2, hk⟩ := H.ref ⟨vl', hR, hK⟩
    exact ⟨v, _, rfl, hO, ⟨H2.a.bel, sb, mb, rb, e1, rfl, H2⟩, hk⟩
  | none, none, ⟨e1, e2⟩ =>
    subst e2
    refine (rpromise_nv x y f W).mono ?_
    rintro e W' ⟨rfl, hb⟩
    exact ⟨_, 0, rfl, OwE.nil _ _, ⟨h0.trans (hb.mono h0.size), e1, rfl⟩, RK.below hb⟩
theorem Two.pacc (h : Two w o q pa ra W) (x y k : Int) (v : ByteArray) : Calls Try.prog 19 #[.pointer pa, .agg #[.int .i64 x, .int .i64 y], .int .i64 k, .string v] W fun e W' =>
    e = .returned (.int .i64 (oAE o x y k v)) ∧ Two w (oAS o x y k v) q pa ra W' ∧ RK W W' := by
  obtain ⟨h0, h⟩ := h
  match o, q, h with
  | some s, some t, ⟨sb, mb, rb, e1, e2, H⟩ =>
    subst e1
    refine (H.a.accept x y k v rfl rfl).mono ?_
    rintro e W' ⟨rfl, hA, hK⟩
    obtain ⟨H2, hk⟩ := H.prog hA hK
    exact ⟨rfl, ⟨hA.bel, sb, mb, rb, rfl, e2, H2⟩, hk⟩
  | none, none, ⟨e1, e2⟩ =>
    subst e1
    refine (accept_nv _ x y k v W (.inl rfl)).mono ?_
    rintro e W' ⟨rfl, hb⟩
    exact ⟨rfl, ⟨h0.trans (hb.mono h0.size), rfl, e2⟩, RK.below hb⟩
theorem Two.racc (h : Two w o q pa ra W) (x y k : Int) (v : ByteArray) : Calls Try.prog 20 #[.pointer ra, .agg #[.int .i64 x, .int .i64 y], .int .i64 k, .string v] W fun e W' =>
    e = .returned (.int .i64 (oAE q x y k v)) ∧ Two w o (oAS q x y k v) pa ra W' ∧ RK W W' := by
  obtain ⟨h0, h⟩ := h
  match o, q, h with
  | some s, some t, ⟨sb, mb, rb, e1, e2, H⟩ =>
    subst e2
    obtain ⟨vl, hx⟩ := H.rx
    refine (raccept_any x y k v W hx).mono ?_
    rintro e W' ⟨rfl, hR⟩
    obtain ⟨H2, hk⟩ := H.ref hR
    exact ⟨rfl, ⟨H2.a.bel, sb, mb, rb, e1, rfl, H2⟩, hk⟩
  | none, none, ⟨e1, e2⟩ =>
    subst e2
    refine (raccept_nv x y k v W).mono ?_
    rintro e W' ⟨rfl, hb⟩
    exact ⟨rfl, ⟨h0.trans (hb.mono h0.size), e1, rfl⟩, RK.below hb⟩
theorem Two.pfor (h : Two w o q pa ra W) (u : Int) : Calls Try.prog 21 #[.pointer pa, .int .i64 u] W fun e W' =>
    e = .returned (.int .i64 (oFE o u)) ∧ Two w (oFS o u) q pa ra W' ∧ RK W W' := by
  obtain ⟨h0, h⟩ := h
  match o, q, h with
  | some s, some t, ⟨sb, mb, rb, e1, e2, H⟩ =>
    subst e1
    refine (H.a.forget u rfl rfl).mono ?_
    rintro e W' ⟨rfl, hA, hK⟩
    obtain ⟨H2, hk⟩ := H.prog hA hK
    exact ⟨rfl, ⟨hA.bel, sb, mb, rb, rfl, e2, H2⟩, hk⟩
  | none, none, ⟨e1, e2⟩ =>
    subst e1
    refine (forget_nv _ u W (.inl rfl)).mono ?_
    rintro e W' ⟨rfl, hb⟩
    exact ⟨rfl, ⟨h0.trans (hb.mono h0.size), rfl, e2⟩, RK.below hb⟩
theorem Two.rfor (h : Two w o q pa ra W) (u : Int) : Calls Try.prog 22 #[.pointer ra, .int .i64 u] W fun e W' =>
    e = .returned (.int .i64 (oFE q u)) ∧ Two w o (oFS q u) pa ra W' ∧ RK W W' := by
  obtain ⟨h0, h⟩ := h
  match o, q, h with
  | some s, some t, ⟨sb, mb, rb, e1, e2, H⟩ =>
    subst e2
    obtain ⟨vl, hx⟩ := H.rx
    refine (rforget_any u W hx).mono ?_
    rintro e W' ⟨rfl, hR⟩
    obtain ⟨H2, hk⟩ := H.ref hR
    exact ⟨rfl, ⟨H2.a.bel, sb, mb, rb, e1, rfl, H2⟩, hk⟩
  | none, none, ⟨e1, e2⟩ =>
    subst e2
    refine (rforget_nv u W).mono ?_
    rintro e W' ⟨rfl, hb⟩
    exact ⟨rfl, ⟨h0.trans (hb.mono h0.size), e1, rfl⟩, RK.below hb⟩
theorem Two.pcopy (h : Two w o q pa ra W) : Calls Try.prog 23 #[.pointer pa] W fun e W' => ∃ pa', e = .returned (.pointer pa') ∧ Two w o q pa' ra W' ∧ RK W W' := by
  obtain ⟨h0, h⟩ := h
  match o, q, h with
  | some s, some t, ⟨sb, mb, rb, e1, e2, H⟩ =>
    subst e1
    refine H.a.copy.mono ?_
    rintro e W' ⟨sb', mb', rfl, hT, hb, _, _⟩
    obtain ⟨vl, hx⟩ := H.rx
    exact ⟨_, rfl, ⟨h0.trans (hb.mono h0.size), sb', mb', rb, rfl, e2, hT.b, ⟨vl, hx.later hb⟩, H.hr⟩, RK.below hb⟩
  | none, none, ⟨e1, e2⟩ =>
    subst e1
    refine (copy_nv _ W (.inl rfl)).mono ?_
    rintro e W' ⟨rfl, rfl⟩
    exact ⟨none, rfl, ⟨h0, rfl, e2⟩, fun _ _ _ _ _ _ => rfl⟩
theorem Two.rcopy (h : Two w o q pa ra W) : Calls Try.prog 24 #[.pointer ra] W fun e W' => ∃ ra', e = .returned (.pointer ra') ∧ Two w o q pa ra' W' ∧ RK W W' := by
  obtain ⟨h0, h⟩ := h
  match o, q, h with
  | some s, some t, ⟨sb, mb, rb, e1, e2, H⟩ =>
    subst e2
    obtain ⟨vl, hx⟩ := H.rx
    refine (rcopy_any W hx).mono ?_
    rintro e W' ⟨rb', vl', rfl, hx2, hlo, hb⟩
    exact ⟨_, rfl, ⟨h0.trans (hb.mono h0.size), sb, mb, rb', e1, rfl, H.a.later hb, ⟨vl', hx2⟩, Nat.le_trans h0.size hlo⟩, RK.below hb⟩
  | none, none, ⟨e1, e2⟩ =>
    subst e2
    refine (rcopy_nv W).mono ?_
    rintro e W' ⟨rfl, hb⟩
    exact ⟨none, rfl, ⟨h0.trans (hb.mono h0.size), e1, rfl⟩, RK.below hb⟩
theorem Two.pgot (h : Two w o q pa ra W) (k : Int) (hk : (Lit.int .i64 k).wf = true) : Calls Try.prog 25 #[.pointer pa, .int .i64 k] W fun e W' => e = .returned (.tuple #[vE (oG o k), .bool (oGs o k)]) ∧ Below W.heap.size W W' := by
  obtain ⟨h0, h⟩ := h
  match o, q, h with
  | some s, some t, ⟨sb, mb, rb, e1, e2, H⟩ =>
    subst e1
    exact (H.a.accepted k hk rfl).mono fun e W' ⟨he, _, hb⟩ => ⟨he, hb⟩
  | none, none, ⟨e1, e2⟩ =>
    subst e1
    exact accepted_nv _ k W (.inl rfl)
theorem Two.rgot (h : Two w o q pa ra W) (k : Int) : Calls Try.prog 26 #[.pointer ra, .int .i64 k] W fun e W' => e = .returned (.tuple #[vE (oG q k), .bool (oGs q k)]) ∧ Below W.heap.size W W' := by
  obtain ⟨h0, h⟩ := h
  match o, q, h with
  | some s, some t, ⟨sb, mb, rb, e1, e2, H⟩ =>
    subst e2
    obtain ⟨vl, hx⟩ := H.rx
    exact raccepted_any k W hx
  | none, none, ⟨e1, e2⟩ =>
    subst e2
    exact raccepted_nv k W
theorem Two.pbal (h : Two w o q pa ra W) : Calls Try.prog 27 #[.pointer pa] W fun e W' => e = .returned (.agg #[.int .i64 (oBr o), .int .i64 (oBm o)]) ∧ Below W.heap.size W W' := by
  obtain ⟨h0, h⟩ := h
  match o, q, h with
  | some s, some t, ⟨sb, mb, rb, e1, e2, H⟩ =>
    subst e1
    exact H.a.promised.mono fun e W' ⟨he, _, hb⟩ => ⟨he, hb⟩
  | none, none, ⟨e1, e2⟩ =>
    subst e1
    exact promised_nv _ W (.inl rfl)
theorem Two.rbal (h : Two w o q pa ra W) : Calls Try.prog 28 #[.pointer ra] W fun e W' => e = .returned (.agg #[.int .i64 (oBr q), .int .i64 (oBm q)]) ∧ Below W.heap.size W W' := by
  obtain ⟨h0, h⟩ := h
  match o, q, h with
  | some s, some t, ⟨sb, mb, rb, e1, e2, H⟩ =>
    subst e2
    obtain ⟨vl, hx⟩ := H.rx
    exact rpromised_any W hx
  | none, none, ⟨e1, e2⟩ =>
    subst e2
    exact rpromised_nv W
theorem Two.pbase (h : Two w o q pa ra W) : Calls Try.prog 29 #[.pointer pa] W fun e W' => e = .returned (.int .i64 (oBs o)) ∧ W = W' := by
  obtain ⟨h0, h⟩ := h
  match o, q, h with
  | some s, some t, ⟨sb, mb, rb, e1, e2, H⟩ =>
    subst e1
    exact H.a.base
  | none, none, ⟨e1, e2⟩ =>
    subst e1
    exact base_nv _ W (.inl rfl)
theorem Two.rbase (h : Two w o q pa ra W) : Calls Try.prog 30 #[.pointer ra] W fun e W' => e = .returned (.int .i64 (oBs q)) ∧ W = W' := by
  obtain ⟨h0, h⟩ := h
  match o, q, h with
  | some s, some t, ⟨sb, mb, rb, e1, e2, H⟩ =>
    subst e2
    obtain ⟨vl, hx⟩ := H.rx
    exact rbase_any W hx
  | none, none, ⟨e1, e2⟩ =>
    subst e2
    exact rbase_nil W
theorem Two.plist (h : Two w o q pa ra W) (k : Int) : Calls Try.prog 31 #[.pointer pa, .int .i64 k] W fun e W' => ∃ v base, e = .returned v ∧ OwE base (oL o k) v W' ∧ Below W.heap.size W W' := by
  obtain ⟨h0, h⟩ := h
  match o, q, h with
  | some s, some t, ⟨sb, mb, rb, e1, e2, H⟩ =>
    subst e1
    exact (H.a.list k rfl).mono fun e W' ⟨v, he, hO, _, hb⟩ => ⟨v, _, he, hO, hb⟩
  | none, none, ⟨e1, e2⟩ =>
    subst e1
    exact (list_nv _ k W (.inl rfl)).mono fun e W' ⟨he, hb⟩ => ⟨_, 0, he, OwE.nil _ _, hb⟩
theorem Two.rlist (h : Two w o q pa ra W) (k : Int) : Calls Try.prog 32 #[.pointer ra, .int .i64 k] W fun e W' => ∃ v base, e = .returned v ∧ OwE base (oL q k) v W' ∧ Below W.heap.size W W' := by
  obtain ⟨h0, h⟩ := h
  match o, q, h with
  | some s, some t, ⟨sb, mb, rb, e1, e2, H⟩ =>
    subst e2
    obtain ⟨vl, hx⟩ := H.rx
    exact (rlist_any k W hx).mono fun e W' ⟨v, he, hO, hb⟩ => ⟨v, _, he, hO, hb⟩
  | none, none, ⟨e1, e2⟩ =>
    subst e2
    exact (rlist_nv k W).mono fun e W' ⟨he, hb⟩ => ⟨_, 0, he, OwE.nil _ _, hb⟩
end
end Go.Proofs.Ytpaoaagphacclaa.Acc
