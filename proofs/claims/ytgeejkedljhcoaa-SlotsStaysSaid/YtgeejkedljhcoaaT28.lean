/- Two logs in boxes; what is refused; clear; same. -/
import Derived.Test.YtgeejkedljhcoaaT17
import Derived.Lib.SliceRun
namespace Go.Proofs.Ytgeejkedljhcoaa.Slt
open Go.RowKit Go.Maps Go.Lib
set_option linter.unusedVariables false
set_option linter.unusedSimpArgs false
set_option maxRecDepth 20000

abbrev TPL : TypeId := 25
/-- What moves leave: slots below 32, values of two bytes. -/
structure Sv (s : St) : Prop where
  ok : OkS s
  b31 : s.b ≤ 31
  two : ∀ k e, getM s.M k = some e → k ≤ 31 ∧ e.k.size = 2
theorem sv_new : Sv newS := ⟨ok_new, by show (0 : Int) ≤ 31; omega, fun k e h => by cases h⟩
theorem sv_put {s : St} (h : Sv s) {k : Int} {v : ByteArray} (hk : k ≤ 31) (hv : v.size = 2) : Sv (putS s k v) := by
  refine ⟨ok_puts h.ok k v, by rw [put_b]; exact h.b31, fun j e hj => ?_⟩
  by_cases h0 : putE s k v = 0
  · rw [put_get h.ok h0] at hj
    by_cases e1 : j = k
    · rw [if_pos e1] at hj
      cases hj
      exact ⟨by omega, hv⟩
    · rw [if_neg e1] at hj
      exact h.two j e hj
  · rw [put_no h0] at hj
    exact h.two j e hj
theorem sv_rs {s : St} (h : Sv s) {u : Int} (hu : u ≤ 31) : Sv (rsS s u) := by
  refine ⟨ok_rs h.ok (by omega), by have := h.b31; show max s.b u ≤ 31; omega, fun j e hj => ?_⟩
  rw [rs_get h.ok] at hj
  split at hj
  · exact h.two j e hj
  · cases hj
theorem sv_for {s : St} (h : Sv s) {u : Int} (hu : u ≤ 31) : Sv (forS s u) := by
  unfold forS; split
  · exact sv_rs h hu
  · exact h
theorem sv_jmp {s : St} (h : Sv s) {u : Int} (hu : u ≤ 31) : Sv (jmpS s u) := by
  unfold jmpS; split
  · exact sv_rs h hu
  · exact h
theorem sv_upto {s : St} (h : Sv s) : uptoV s ≤ 32 := by
  by_cases hu : uptoV s ≤ 32
  · exact hu
  · have hb := h.b31
    have h1 := upto_has (s := s) (k := 32) (by omega) (by omega)
    cases hg : getM s.M 32 with
    | none => rw [hg] at h1; cases h1
    | some e => have := (h.two 32 e hg).1; omega
theorem ref_put (s : St) {k : Int} (hk : k < 0 ∨ 4096 ≤ k) (v : ByteArray) : putE s k v = 2 := by
  have : ckV s.b k v = 2 := if_neg (by omega)
  unfold putE; rw [this, if_neg (by decide)]
theorem ref_for (s : St) {k : Int} (hk : k < 0 ∨ 4096 < k) : forE s k = 2 := if_neg (by omega)
theorem ref_jmp (s : St) {k : Int} (hk : k < 0 ∨ 4096 < k) : jmpE s k = 2 := if_neg (by omega)
theorem ref_next {s : St} (h : Sv s) : forE s (uptoV s + 1) = 3 := by
  have h1 := sv_upto h
  have h2 := upto_le h.ok
  have h3 := h.ok.hb
  unfold forE; rw [if_pos (by omega), if_pos (by omega)]
theorem ref_back {s : St} (h : Sv s) (h0 : 0 < uptoV s) : jmpE s (uptoV s - 1) = 8 := by
  have h1 := sv_upto h
  unfold jmpE; rw [if_pos (by omega), if_pos (by omega)]
theorem ref_low {s : St} (h : Sv s) (h0 : 0 < s.b) {v : ByteArray} (hv : v.size ≤ 65536) : putE s (s.b - 1) v = 8 := by
  have := h.b31
  rw [put_val (by omega) hv, if_pos (by omega)]
theorem ref_there {s : St} (h : Sv s) (h0 : s.b < uptoV s) {v : ByteArray} (hv : v.size ≤ 65536) (hv2 : v.size ≠ 2) : putE s s.b v = 9 := by
  have h1 := h.b31
  have h2 := h.ok.hb
  rw [put_val (by omega) hv, if_neg (by omega)]
  have h3 := upto_has (s := s) (k := s.b) (Int.le_refl _) h0
  cases hg : getM s.M s.b with
  | none => rw [hg] at h3; cases h3
  | some e =>
    have h4 := (h.two _ e hg).2
    have h5 : eqT e.k v = false := eqT_f fun e1 => by rw [e1] at h4; exact hv2 h4
    show (if (!eqT e.k v) = true then (9 : Int) else 0) = 9
    rw [h5]; rfl
theorem next_ok {s : St} (h : Sv s) {v : ByteArray} (hv : v.size ≤ 65536) : putE s (uptoV s) v = 0 := by
  have h1 := sv_upto h
  have h2 := upto_le h.ok
  have h3 := h.ok.hb
  have h4 := upto_not h.ok
  rw [put_val (by omega) hv, if_neg (by omega)]
  cases hg : getM s.M (uptoV s) with
  | none => rfl
  | some e => rw [hg] at h4; cases h4
theorem next_up {s : St} (h : Sv s) {v : ByteArray} (hv : v.size ≤ 65536) : uptoV s < uptoV (putS s (uptoV s) v) := by
  have h0 := next_ok h hv
  have h1 := ok_puts h.ok (uptoV s) v
  have : uptoV s + 1 ≤ uptoV (putS s (uptoV s) v) := upto_ge h1 fun k hk1 hk2 => by
    rw [put_b] at hk1
    rw [put_get h.ok h0]
    by_cases e : k = uptoV s
    · rw [if_pos e]; rfl
    · rw [if_neg e]
      exact upto_has hk1 (by omega)
  omega

/-! Two logs in boxes, the boxes of the move. -/
structure Sy (w : World) (bx mx cx sb mb sc mc : Nat) (s t : St) (m : Mt) (W : World) : Prop where
  a : WAt w sb mb s W
  c : WAt w sc mc t W
  ne : sb ≠ sc ∧ sb ≠ mc ∧ mb ≠ sc ∧ mb ≠ mc
  bx : W.heap[bx]? = some (.cells #[.pointer (some ⟨sb, 0, none⟩)] TPL (0, 0))
  cx : W.heap[cx]? = some (.cells #[.pointer (some ⟨sc, 0, none⟩)] TPL (0, 0))
  mx : W.heap[mx]? = some (.cells (mA m) TV (0, 0))
abbrev Sc2 (w : World) (bx mx cx sb mb sc mc : Nat) (s t : St) (m : Mt) (W : World) : Prop :=
  W.cell? ⟨bx, 0, none⟩ = some (.pointer (some ⟨sb, 0, none⟩)) ∧ W.cell? ⟨cx, 0, none⟩ = some (.pointer (some ⟨sc, 0, none⟩)) ∧
  W.cell? ⟨mx, 0, none⟩ = some (.int .u8 (m.k : Nat)) ∧ W.cell? ⟨mx, 1, none⟩ = some (.int .u8 (m.s : Nat)) ∧ W.cell? ⟨mx, 2, none⟩ = some (.int .u8 (m.v : Nat)) ∧ Sy w bx mx cx sb mb sc mc s t m W
section
variable {w W W' : World} {bx mx cx sb mb sc mc : Nat} {s t s' : St} {m : Mt}
theorem Sy.scs (h : Sy w bx mx cx sb mb sc mc s t m W) : Sc2 w bx mx cx sb mb sc mc s t m W :=
  ⟨cell_of_row _ _ 0 _ TPL _ h.bx, cell_of_row _ _ 0 _ TPL _ h.cx, cell_of_row _ _ 0 _ TV _ h.mx, cell_of_row _ _ 1 _ TV _ h.mx, cell_of_row _ _ 2 _ TV _ h.mx, h⟩
theorem Sy.later (h : Sy w bx mx cx sb mb sc mc s t m W) (hb : Below W.heap.size W W') : Sy w bx mx cx sb mb sc mc s t m W' :=
  ⟨h.a.later hb, h.c.later hb, h.ne, (hb.block _ (Array.getElem?_eq_some_iff.1 h.bx).1).trans h.bx, (hb.block _ (Array.getElem?_eq_some_iff.1 h.cx).1).trans h.cx, (hb.block _ (Array.getElem?_eq_some_iff.1 h.mx).1).trans h.mx⟩
theorem Sy.stepA (h : Sy w bx mx cx sb mb sc mc s t m W) (hA : WAt w sb mb s' W') (hk : Keeps (KL sb mb) W W') : Sy w bx mx cx sb mb sc mc s' t m W' := by
  have q := h.ne
  exact ⟨hA, h.c.beside hk ⟨fun e => q.1 e.symm, fun e => q.2.2.1 e.symm, fun e => q.2.1 e.symm, fun e => q.2.2.2 e.symm⟩ ⟨h.a.hs, h.a.hm⟩, q, (hk.block _ (Array.getElem?_eq_some_iff.1 h.bx).1 (h.a.ax.apart h.bx (by decide))).trans h.bx,
    (hk.block _ (Array.getElem?_eq_some_iff.1 h.cx).1 (h.a.ax.apart h.cx (by decide))).trans h.cx, (hk.block _ (Array.getElem?_eq_some_iff.1 h.mx).1 (h.a.ax.apart h.mx (by decide))).trans h.mx⟩
theorem Sy.stepC (h : Sy w bx mx cx sb mb sc mc s t m W) (hA : WAt w sc mc s' W') (hk : Keeps (KL sc mc) W W') : Sy w bx mx cx sb mb sc mc s s' m W' := by
  have q := h.ne
  exact ⟨h.a.beside hk q ⟨h.c.hs, h.c.hm⟩, hA, q, (hk.block _ (Array.getElem?_eq_some_iff.1 h.bx).1 (h.c.ax.apart h.bx (by decide))).trans h.bx,
    (hk.block _ (Array.getElem?_eq_some_iff.1 h.cx).1 (h.c.ax.apart h.cx (by decide))).trans h.cx, (hk.block _ (Array.getElem?_eq_some_iff.1 h.mx).1 (h.c.ax.apart h.mx (by decide))).trans h.mx⟩
/-- What is refused changes nothing. -/
theorem Sc2.noput (h : Sc2 w bx mx cx sb mb sc mc s t m W) (k : Int) (v : ByteArray) {c : Int} (hE : putE s k v = c) (hc : c ≠ 0) :
    Calls Try.prog 16 #[.pointer (some ⟨sb, 0, none⟩), .int .i64 k, .string v] W fun e W' => e = .returned (.int .i64 c) ∧ Sc2 w bx mx cx sb mb sc mc s t m W' :=
  (h.2.2.2.2.2.a.put k v hE (put_no (by rw [hE]; exact hc))).mono fun e W' ⟨he, hA, hK⟩ => ⟨he, (h.2.2.2.2.2.stepA hA hK).scs⟩
theorem Sc2.nofor (h : Sc2 w bx mx cx sb mb sc mc s t m W) (k : Int) {c : Int} (hE : forE s k = c) (hc : c ≠ 0) :
    Calls Try.prog 18 #[.pointer (some ⟨sb, 0, none⟩), .int .i64 k] W fun e W' => e = .returned (.int .i64 c) ∧ Sc2 w bx mx cx sb mb sc mc s t m W' :=
  (h.2.2.2.2.2.a.forget k hE (by unfold forS; rw [if_neg (by rw [hE]; exact hc)])).mono fun e W' ⟨he, hA, hK⟩ => ⟨he, (h.2.2.2.2.2.stepA hA hK).scs⟩
theorem Sc2.nojmp (h : Sc2 w bx mx cx sb mb sc mc s t m W) (k : Int) {c : Int} (hE : jmpE s k = c) (hc : c ≠ 0) :
    Calls Try.prog 20 #[.pointer (some ⟨sb, 0, none⟩), .int .i64 k] W fun e W' => e = .returned (.int .i64 c) ∧ Sc2 w bx mx cx sb mb sc mc s t m W' :=
  (h.2.2.2.2.2.a.jump k hE (by unfold jmpS; rw [if_neg (by rw [hE]; exact hc)])).mono fun e W' ⟨he, hA, hK⟩ => ⟨he, (h.2.2.2.2.2.stepA hA hK).scs⟩
theorem Sc2.upto (h : Sc2 w bx mx cx sb mb sc mc s t m W) {u : Int} (hu : uptoV s = u) :
    Calls Try.prog 25 #[.pointer (some ⟨sb, 0, none⟩)] W fun e W' => e = .returned (.int .i64 u) ∧ Sc2 w bx mx cx sb mb sc mc s t m W' :=
  (h.2.2.2.2.2.a.upto hu).mono fun e W' ⟨he, e1⟩ => ⟨he, e1 ▸ h⟩
theorem Sc2.base (h : Sc2 w bx mx cx sb mb sc mc s t m W) {u : Int} (hu : s.b = u) :
    Calls Try.prog 26 #[.pointer (some ⟨sb, 0, none⟩)] W fun e W' => e = .returned (.int .i64 u) ∧ Sc2 w bx mx cx sb mb sc mc s t m W' :=
  (h.2.2.2.2.2.a.base hu).mono fun e W' ⟨he, e1⟩ => ⟨he, e1 ▸ h⟩
/-- Either log, while they are alike. -/
theorem Sc2.base2 (h : Sc2 w bx mx cx sb mb sc mc s s m W) (a : Nat) (ha : a = sb ∨ a = sc) {u : Int} (hu : s.b = u) :
    Calls Try.prog 26 #[.pointer (some ⟨a, 0, none⟩)] W fun e W' => e = .returned (.int .i64 u) ∧ Sc2 w bx mx cx sb mb sc mc s s m W' := by
  rcases ha with rfl | rfl
  · exact (h.2.2.2.2.2.a.base hu).mono fun e W' ⟨he, e1⟩ => ⟨he, e1 ▸ h⟩
  · exact (h.2.2.2.2.2.c.base hu).mono fun e W' ⟨he, e1⟩ => ⟨he, e1 ▸ h⟩
theorem Sc2.upto2 (h : Sc2 w bx mx cx sb mb sc mc s s m W) (a : Nat) (ha : a = sb ∨ a = sc) {u : Int} (hu : uptoV s = u) :
    Calls Try.prog 25 #[.pointer (some ⟨a, 0, none⟩)] W fun e W' => e = .returned (.int .i64 u) ∧ Sc2 w bx mx cx sb mb sc mc s s m W' := by
  rcases ha with rfl | rfl
  · exact (h.2.2.2.2.2.a.upto hu).mono fun e W' ⟨he, e1⟩ => ⟨he, e1 ▸ h⟩
  · exact (h.2.2.2.2.2.c.upto hu).mono fun e W' ⟨he, e1⟩ => ⟨he, e1 ▸ h⟩
theorem Sc2.pre2 (h : Sc2 w bx mx cx sb mb sc mc s s m W) (a : Nat) (ha : a = sb ∨ a = sc) {L : List ByteArray} (hL : preV s = L) :
    Calls Try.prog 27 #[.pointer (some ⟨a, 0, none⟩)] W fun e W' => ∃ v, e = .returned v ∧ OwS W.heap.size L v W' ∧ Below W.heap.size W W' ∧ Sc2 w bx mx cx sb mb sc mc s s m W' := by
  rcases ha with rfl | rfl
  · exact (h.2.2.2.2.2.a.prefixs hL).mono fun e W' ⟨v, he, hO, _, hb⟩ => ⟨v, he, hO, hb, (h.2.2.2.2.2.later hb).scs⟩
  · exact (h.2.2.2.2.2.c.prefixs hL).mono fun e W' ⟨v, he, hO, _, hb⟩ => ⟨v, he, hO, hb, (h.2.2.2.2.2.later hb).scs⟩
theorem Sc2.gap2 (h : Sc2 w bx mx cx sb mb sc mc s s m W) (a : Nat) (ha : a = sb ∨ a = sc) {L : List Int} (hL : gapV s = L) :
    Calls Try.prog 28 #[.pointer (some ⟨a, 0, none⟩)] W fun e W' => ∃ v, e = .returned v ∧ OwI W.heap.size L v W' ∧ Below W.heap.size W W' ∧ Sc2 w bx mx cx sb mb sc mc s s m W' := by
  rcases ha with rfl | rfl
  · exact (h.2.2.2.2.2.a.gaps hL).mono fun e W' ⟨v, he, hO, _, hb⟩ => ⟨v, he, hO, hb, (h.2.2.2.2.2.later hb).scs⟩
  · exact (h.2.2.2.2.2.c.gaps hL).mono fun e W' ⟨v, he, hO, _, hb⟩ => ⟨v, he, hO, hb, (h.2.2.2.2.2.later hb).scs⟩
theorem Sc2.eqS (h : Sc2 w bx mx cx sb mb sc mc s s m W) {L : List ByteArray} (hl : L.length ≤ 4096) (v1 v2 : Value) (h1 : IsS W v1 L) (h2 : IsS W v2 L) :
    Calls Try.prog 34 #[v1, v2] W fun e W' => e = .returned (.bool true) ∧ Sc2 w bx mx cx sb mb sc mc s s m W' := by
  have := equalS_any v1 v2 L L W h1 h2 (by omega) (by omega)
  rw [eqTs_t] at this
  exact this.mono fun e W' ⟨he, hb⟩ => ⟨he, (h.2.2.2.2.2.later hb).scs⟩
theorem Sc2.eqI (h : Sc2 w bx mx cx sb mb sc mc s s m W) {L : List Int} (hl : L.length ≤ 4096) (v1 v2 : Value) (h1 : IsI W v1 L) (h2 : IsI W v2 L) :
    Calls Try.prog 31 #[v1, v2] W fun e W' => e = .returned (.bool true) ∧ Sc2 w bx mx cx sb mb sc mc s s m W' := by
  have := equal_any v1 v2 L L W h1 h2 (by omega) (by omega)
  rw [eqLs_t] at this
  exact this.mono fun e W' ⟨he, hb⟩ => ⟨he, (h.2.2.2.2.2.later hb).scs⟩
/-- A row of one's own is cleared. -/
theorem Keeps.setCells {F : Nat → Prop} {a : World} {b : Nat} (hb : F b) : ∀ (vs : List Value) (o : Nat) (w : World), Keeps F a w → Keeps F a (w.setCells b o vs)
  | [], _, _, h => h
  | v :: vs, o, w, h => Keeps.setCells hb vs (o + 1) _ (h.setCell (p := ⟨b, o, none⟩) (.inl hb) v)
theorem run_clear_row {ts e : TypeId} {z : Value} (hu : Try.prog.underlying ts = some (.slice e)) (hz : ∀ w, (zeroValue e).run Try.prog w = .ok z w) (hzc : z.cells = #[z]) (h1 : z.oneCell' = true) {base n : Nat} {xs : List Value} {v : Value} {w : World} (h : w.ownsRow base e 1 v n xs) (ty : TypeId) :
    ∃ w', (Builtin.clear_ #[ts] ty #[v]).run Try.prog w = .ok (.tuple #[]) w' ∧ Keeps (fun i => v.ownBlock = some i) w w' := by
  obtain ⟨hl, ⟨rfl, rfl⟩ | ⟨g, cap, cur, rfl, hbg, hg, g1, g2, g3, g4⟩⟩ := h
  · refine ⟨w, ?_, Keeps.refl _ w⟩
    simp [Builtin.clear_, run_underlying hu]
  · by_cases h0 : n = 0
    · refine ⟨w, ?_, Keeps.refl _ w⟩
      rw [h0]
      simp [Builtin.clear_, run_underlying hu]
    · refine ⟨_, Lib.run_clear_slice w ts e ty z hu hz hzc h1 g 0 n cap (by omega) (fun j hj => ?_) (fun j hj => ?_), Keeps.setCells (F := fun i => (Value.slice (some ⟨g, 0, none⟩) n cap).ownBlock = some i) rfl _ _ _ (Keeps.refl _ w)⟩
      · rw [Nat.zero_add, cell_of_row w g j cur e _ hg]
        simp; omega
      · rw [Nat.zero_add]; exact frozen_of_row w g j cur e hg
theorem Sy.cleared {e : TypeId} {base n : Nat} {xs : List Value} {v : Value} (h : Sy w bx mx cx sb mb sc mc s t m W) (hO : W.ownsRow base e 1 v n xs) (hB : w.heap.size ≤ base) (h1 : e ≠ TA) (h2 : e ≠ TPL) (h3 : e ≠ TV) (hk : Keeps (fun i => v.ownBlock = some i) W W') : Sy w bx mx cx sb mb sc mc s t m W' := by
  have hr : ∀ i, v.ownBlock = some i → base ≤ i ∧ ∃ c, W.heap[i]? = some (.cells c e (0, 0)) := fun i hi => by
    rcases hO.2 with ⟨rfl, _⟩ | ⟨g, cap, cur, rfl, hbg, hg, _⟩
    · cases hi
    · injection hi with hi
      subst hi
      exact ⟨hbg, cur, hg⟩
  have ap : ∀ (j : Nat) (c : Array Value) (T : TypeId), W.heap[j]? = some (.cells c T (0, 0)) → e ≠ T → ¬ v.ownBlock = some j := fun j c T hj hT hi => by
    obtain ⟨_, c2, hc⟩ := hr j hi
    rw [hj] at hc
    injection hc with hc
    injection hc with _ hc
    exact hT hc.symm
  have ax : ∀ {sb mb : Nat} {s : St}, WAt w sb mb s W → WAt w sb mb s W' := fun {sb mb s} x => by
    have q : ∀ i, v.ownBlock = some i → ¬ (i = sb ∨ i = mb) := fun i hi => by
      obtain ⟨_, c2, hc⟩ := hr i hi
      exact x.ax.apart hc h1
    exact ⟨x.ax.kept hk (fun e => q _ e (.inl rfl)) (fun e => q _ e (.inr rfl)), x.bel.trans (hk.below x.bel.size fun i hi => Nat.le_trans hB (hr i hi).1), x.hs, x.hm⟩
  exact ⟨ax h.a, ax h.c, h.ne, (hk.block _ (Array.getElem?_eq_some_iff.1 h.bx).1 (ap _ _ _ h.bx h2)).trans h.bx, (hk.block _ (Array.getElem?_eq_some_iff.1 h.cx).1 (ap _ _ _ h.cx h2)).trans h.cx, (hk.block _ (Array.getElem?_eq_some_iff.1 h.mx).1 (ap _ _ _ h.mx h3)).trans h.mx⟩
end
theorem zero_txt (w : World) : (zeroValue TK).run Try.prog w = .ok (.string ⟨#[]⟩) w := by kernel_rfl
theorem zero_int (w : World) : (zeroValue TI).run Try.prog w = .ok (.int .i64 0) w := by kernel_rfl
theorem wpList_clear {ops : Array Oper} {rest : List Oper} {o : Oper} {a : Act} {w : World} {Q : Exit → Act → World → Prop} {ts e : TypeId} {z : Value} (hu : Try.prog.underlying ts = some (.slice e)) (hz : ∀ w, (zeroValue e).run Try.prog w = .ok z w) (hzc : z.cells = #[z]) (h1 : z.oneCell' = true)
    (hgd : o.guard = none) (x : Operand) (ho : o.op = .call { callee := .builtin .clear, args := #[x], argTypes := #[ts] }) {base n : Nat} {xs : List Value} (v : Value) (hs : a.eval x = v) (hown : w.ownsRow base e 1 v n xs)
    (h : ∀ w', Keeps (fun i => v.ownBlock = some i) w w' → wpList Try.prog ops Q rest (a.put o.dst (.tuple #[])) w') :
    wpList Try.prog ops Q (o :: rest) a w := by
  refine wpList_plain hgd fun K hK => ?_
  obtain ⟨w', hrun, hk⟩ := run_clear_row hu hz hzc h1 hown o.type
  unfold Oper.wp execOp
  simp only [ho, resolve, invoke, builtin, Sem.run_bind, Sem.run_pure, Result.andThen_ok, List.map_toArray, List.map_cons, List.map_nil, hs, hrun]
  exact hK _ _ (h w' hk)
set_option maxHeartbeats 4000000 in
theorem same_any {w W : World} {bx mx cx sb mb sc mc : Nat} {s : St} {m : Mt} (h : Sc2 w bx mx cx sb mb sc mc s s m W) :
    Calls Try.prog 35 #[.pointer (some ⟨cx, 0, none⟩), .pointer (some ⟨bx, 0, none⟩)] W fun e W' => e = .returned (.bool true) ∧ Sc2 w bx mx cx sb mb sc mc s s m W' := by
  have hok := h.2.2.2.2.2.a.ax.ok
  have hl1 : Hid ((preV s).length ≤ 4096) := Lib.hid (by have := pre_len hok; have := upto_le hok; have := hok.hb; omega)
  have hl2 := Lib.hid (gap_len4 hok)
  have H0 := Lib.hid (h.2.2.2.2.2.later (Below.refl _ _).drew).scs
  obtain ⟨c0, c1, _⟩ := h
  have hup : (uptoV s == uptoV s) = true := by simp
  have hub : (s.b == s.b) = true := by simp
  have HB := Lib.hid (fun a ha W (h : Sc2 w bx mx cx sb mb sc mc s s m W) => h.base2 a ha rfl)
  have HU := Lib.hid (fun a ha W (h : Sc2 w bx mx cx sb mb sc mc s s m W) => h.upto2 a ha rfl)
  have HP := Lib.hid (fun a ha W (h : Sc2 w bx mx cx sb mb sc mc s s m W) => h.pre2 a ha rfl)
  have HG := Lib.hid (fun a ha W (h : Sc2 w bx mx cx sb mb sc mc s s m W) => h.gap2 a ha rfl)
  have HE := Lib.hid (fun v1 v2 W (h : Sc2 w bx mx cx sb mb sc mc s s m W) h1 h2 => h.eqS hl1.out v1 v2 h1 h2)
  have HI := Lib.hid (fun v1 v2 W (h : Sc2 w bx mx cx sb mb sc mc s s m W) h1 h2 => h.eqI hl2.out v1 v2 h1 h2)
  clear hok
  generalize uptoV s = U at *
  generalize preV s = PV at *
  generalize gapV s = GV at *
  go_enter Try.func35, Try.ntmps35
  go_wp2_with fail
  go_region_held3 (Sc2 w bx mx cx sb mb sc mc s s m) (first | assumption | exact H0.out)
    ((first
      | (go_at_call 26; refine (HB.out _ (by first | exact .inl rfl | exact .inr rfl) _ (by assumption)).mono ?_; rintro e W1 ⟨rfl, hs1⟩)
      | (go_at_call 25; refine (HU.out _ (by first | exact .inl rfl | exact .inr rfl) _ (by assumption)).mono ?_; rintro e W1 ⟨rfl, hs1⟩)
      | (go_at_call 27; refine (HP.out _ (by first | exact .inl rfl | exact .inr rfl) _ (by assumption)).mono ?_; rintro e W8 ⟨v8, rfl, hO8, hb8, hs8⟩; have I7 := Lib.hid (O7.out.later hb8).is; have I8 := Lib.hid hO8.is)
      | (go_at_call 27; refine (HP.out _ (by first | exact .inl rfl | exact .inr rfl) _ (by assumption)).mono ?_; rintro e W7 ⟨v7, rfl, hO7, hb7, hs7⟩; have O7 := Lib.hid hO7)
      | (go_at_call 34; refine (HE.out _ _ _ (by assumption) I7.out I8.out).mono ?_; rintro e W9 ⟨rfl, hs9⟩)
      | (go_at_call 28; refine (HG.out _ (by first | exact .inl rfl | exact .inr rfl) _ (by assumption)).mono ?_; rintro e W11 ⟨v11, rfl, hO11, hb11, hs11⟩; have I10 := Lib.hid (O10.out.later hb11).is; have I11 := Lib.hid hO11.is)
      | (go_at_call 28; refine (HG.out _ (by first | exact .inl rfl | exact .inr rfl) _ (by assumption)).mono ?_; rintro e W10 ⟨v10, rfl, hO10, hb10, hs10⟩; have O10 := Lib.hid hO10)
      | (go_at_call 31; refine (HI.out _ _ _ (by assumption) I10.out I11.out).mono ?_; rintro e W12 ⟨rfl, hs12⟩)))
  go_wp2
  go_ret
  exact ⟨rfl, by assumption⟩
end Go.Proofs.Ytgeejkedljhcoaa.Slt
