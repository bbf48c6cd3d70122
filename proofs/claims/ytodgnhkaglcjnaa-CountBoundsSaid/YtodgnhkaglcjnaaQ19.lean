/- The counter's box beside the deltas: appends, an element taken out; what stays between them. -/
import Derived.Test.YtodgnhkaglcjnaaQ18
namespace Go.Proofs.Ytodgnhkaglcjnaa.Cnt
open Go.RowKit
set_option linter.unusedVariables false
set_option linter.unusedSimpArgs false
set_option maxRecDepth 20000

/-- The counter's box and the deltas that are open. -/
structure Kx (w : World) (q : Nat) (c : Ct) (v : Value) (L : List Int) (W : World) : Prop where
  bx : Bxs w [(q, c)] W
  own : Ow w.heap.size v L W
  sep : v.ownBlock ≠ some q
theorem Kx.later {w W W2 : World} {q : Nat} {c : Ct} {v : Value} {L : List Int} (x : Kx w q c v L W) (hb : Below W.heap.size W W2) : Kx w q c v L W2 := ⟨x.bx.later hb, ow_later x.own hb, x.sep⟩
theorem Kx.alloc {w W : World} {q : Nat} {c : Ct} {v : Value} {L : List Int} (x : Kx w q c v L W) (o : Obj) : Kx w q c v L (W.alloc o) := x.later (alloc_b _ _)
theorem Kx.drew {w W : World} {q : Nat} {c : Ct} {v : Value} {L : List Int} (x : Kx w q c v L W) : Kx w q c v L W.drew := x.later (Below.refl _ _).drew
/-- The counter's box is written. -/
theorem Kx.st {w W W2 : World} {q : Nat} {c : Ct} {v : Value} {L : List Int} {a b d l h : Int} (x : Kx w q c v L W) (s : St W W2 q a b d l h) (hq : w.heap.size ≤ q) : Kx w q ⟨a, b, d, l, h⟩ v L W2 :=
  ⟨⟨s.below x.bx.bel hq, fun p hp => by rw [List.mem_singleton.1 hp]; exact s.blk⟩, ow_st x.own s x.sep, x.sep⟩
/-- What holds between the counter and the deltas. -/
structure Iv (lo hi : Int) (c : Ct) (L : List Int) (k : Nat) : Prop where
  ok : OkC c
  u : c.u = upS L
  d : c.d = dnS L
  l : c.l = lo
  h : c.h = hi
  dl : Dl L
  len : L.length ≤ k
theorem info_i64 : (Try.prog.info? TI).map (fun i => (i.zero, i.size, i.bytes)) = some (some (.int .i64 0), 1, 8) := by kernel_rfl
theorem info_parts : ∃ i, Try.prog.info? TI = some i ∧ i.zero = some (.int .i64 0) ∧ i.size = 1 ∧ i.bytes = 8 := by
  have h := info_i64
  cases hi : Try.prog.info? TI with
  | none => rw [hi] at h; cases h
  | some i =>
    rw [hi] at h
    injection h with h
    obtain ⟨h1, h2⟩ := Prod.mk.inj h
    obtain ⟨h2, h3⟩ := Prod.mk.inj h2
    exact ⟨i, rfl, h1, h2, h3⟩
theorem own_ge {w : World} {base n : Nat} {e : TypeId} {v : Value} {xs : List Value} (h : w.ownsRow base e 1 v n xs) : ∀ k, v.ownBlock = some k → base ≤ k := by
  intro k hk
  rcases h.2 with ⟨rfl, h0⟩ | ⟨g, cap, cur, rfl, hb, _⟩
  · cases hk
  · have : g = k := by simpa [Value.ownBlock] using hk
    omega
/-- Behind what an append may have written. -/
theorem Kx.grown {w W W' : World} {q : Nat} {c : Ct} {v v' : Value} {L L' : List Int} (x : Kx w q c v L W) (hg : W.grownBy W' v.ownBlock) (ho : Ow w.heap.size v' L' W') (hv : v'.ownBlock = v.ownBlock ∨ v'.ownBlock = some W.heap.size) : Kx w q c v' L' W' := by
  have hq := (x.bx.cells 0 (v := c.v) (u := c.u) (d := c.d) (l := c.l) (h := c.h) rfl).2.2.2.2.2
  refine ⟨⟨x.bx.bel.grown hg x.bx.bel.size (own_ge x.own), fun p hp => ?_⟩, ho, ?_⟩
  · rw [hg.block p.1 (by rw [List.mem_singleton.1 hp]; exact hq) (by rw [List.mem_singleton.1 hp]; exact fun e => x.sep e.symm)]
    exact x.bx.all p hp
  · rcases hv with hv | hv
    · rw [hv]; exact x.sep
    · rw [hv]
      intro e
      injection e with e
      omega
theorem app_kx {ops : Array Oper} {rest : List Oper} {o : Oper} {a : Act} {Q : Exit → Act → World → Prop} (hgd : o.guard = none) (s x : Operand)
    (ho : o.op = .call { callee := .builtin .append, args := #[s, x], argTypes := #[TD, TD] }) {w W : World} {q : Nat} {c : Ct} {v : Value} {L : List Int} (hK : Kx w q c v L W) (hs : a.eval s = v)
    (qs : Nat) (d : Int) (hx : a.eval x = .slice (some ⟨qs, 0, none⟩) 1 1) (hc : W.cell? ⟨qs, 0, none⟩ = some (.int .i64 d)) (hl : L.length ≤ 100)
    (h : ∀ A cp W', Kx w q c (.slice A (L.length + 1) cp) (L ++ [d]) W' → wpList Try.prog ops Q rest (a.put o.dst (.slice A (L.length + 1) cp)) W') : wpList Try.prog ops Q (o :: rest) a W := by
  obtain ⟨i0, hi, hz0, hz1, hz2⟩ := info_parts
  have happ : ints L ++ ints [d] = ints (L ++ [d]) := by simp [ints]
  have hlen : (L ++ [d]).length = L.length + 1 := by simp
  refine wpList_append_own_at W hgd s x _ ho w.heap.size TI i0 (.int .i64 0) 1 8 Try.underlying45 hi hz0 hz1 hz2 rfl (by decide) v L.length _ hs hK.own ⟨qs, 0, none⟩ 1 1 (ints [d]) hx rfl (fun j u hu => ?_) (ints_one _) (by unfold maxLen; omega) (by omega) hK.bx.bel.size (fun v' W' h1 h2 _ h4 => ?_)
  · have hj : j = 0 := by have := (List.getElem?_eq_some_iff.1 hu).1; simp [ints] at this; exact this
    subst hj
    have : u = .int .i64 d := by simpa [ints] using hu.symm
    rw [this]
    exact hc
  · rw [happ, ← hlen] at h1
    have hK' := hK.grown h2 h1 h4
    rcases ow_form h1 with ⟨rfl, h0⟩ | ⟨g, cp, rfl, _⟩
    · simp at h0
    · rw [hlen] at hK' ⊢
      exact h _ _ _ hK'
theorem out_kx {w W : World} {q : Nat} {c : Ct} {g cp : Nat} {L : List Int} (hK : Kx w q c (.slice (some ⟨g, 0, none⟩) L.length cp) L W) {J : Nat} (hJ : J < L.length) (ty : TypeId) (ad : Addr) (c' : Nat)
    (hc : ∀ j u, (ints (L.drop (J + 1)))[j]? = some u → W.cell? (ad.add j) = some u) :
    ∃ W', (Builtin.append_ #[TD, TD] ty #[.slice (some ⟨g, 0, none⟩) J cp, .slice (some ad) (L.length - (J + 1)) c']).run Try.prog W = .ok (.slice (some ⟨g, 0, none⟩) (outK L J).length cp) W' ∧ Kx w q c (.slice (some ⟨g, 0, none⟩) (outK L J).length cp) (outK L J) W' := by
  obtain ⟨i0, hi, hz0, hz1, hz2⟩ := info_parts
  have hlen := outK_len hJ
  obtain ⟨_, ⟨h0, _⟩ | ⟨g', cap', cur, he, hb, hh, hle, hm, hsz, hx⟩⟩ := hK.own
  · cases h0
  · simp only [Value.slice.injEq, Option.some.injEq, Addr.mk.injEq, and_true, true_and] at he
    obtain ⟨rfl, rfl⟩ := he
    have hpre : W.ownsRow w.heap.size TI 1 (.slice (some ⟨g, 0, none⟩) J cp) J (ints (L.take J)) := by
      refine ⟨by rw [ints_len, List.length_take]; omega, Or.inr ⟨g, cp, cur, rfl, hb, hh, by omega, hm, hsz, ?_⟩⟩
      have h1 := congrArg (List.take (J * 1)) hx
      rw [List.take_take, Nat.min_eq_left (by omega)] at h1
      rw [h1, Nat.mul_one]
      simp [ints, List.map_take]
    obtain ⟨W', hr, ho, hgr⟩ := run_append_fits (P := Try.prog) W w.heap.size TD ty TI i0 1 Try.underlying45 hi hz1 g J cp (ints (L.take J)) hpre ad (L.length - (J + 1)) c' (ints (L.drop (J + 1))) (by rw [ints_len, List.length_drop]; omega) hc (ints_one _) (by omega)
    have e1 : J + (L.length - (J + 1)) = L.length - 1 := by omega
    have e2 : ints (L.take J) ++ ints (L.drop (J + 1)) = ints (outK L J) := by simp [ints, outK]
    rw [e1, ← hlen] at hr
    rw [e1, e2, ← hlen] at ho
    exact ⟨W', hr, hK.grown hgr ho (Or.inl rfl)⟩
/-! ### What a step leads to -/
theorem Iv.bd {lo hi : Int} {c : Ct} {L : List Int} {k : Nat} (h : Iv lo hi c L k) (hlo : -4294967296 ≤ lo ∧ hi ≤ 4294967296) (hk : k ≤ 100) :
    0 ≤ c.u ∧ c.u ≤ 3276800 ∧ 0 ≤ c.d ∧ c.d ≤ 3276800 ∧ lo ≤ c.v - c.u ∧ c.v + c.d ≤ hi ∧ -4294967296 ≤ c.v ∧ c.v ≤ 4294967296 := by
  obtain ⟨h1, h2, h3, h4, h5, h6, h7, h8, h9⟩ := h.ok
  have e1 := upS_le h.dl
  have e2 := dnS_le h.dl
  have e3 := h.u
  have e4 := h.d
  have e5 := h.l
  have e6 := h.h
  have e7 := h.len
  omega
theorem Iv.add {lo hi : Int} {c : Ct} {L : List Int} {k : Nat} {d : Int} (h : Iv lo hi c L k) (hd : -32768 ≤ d ∧ d ≤ 32767) (hn : OkC (nx c d)) : Iv lo hi (nx c d) (L ++ [d]) (k + 1) := by
  refine ⟨hn, ?_, ?_, h.l, h.h, app_dl h.dl hd, ?_⟩
  · rw [upS_app, upS_one]; show c.u + max d 0 = _; rw [h.u]
  · rw [dnS_app, dnS_one]; show c.d + max (-d) 0 = _; rw [h.d]
  · have := h.len; simp; omega
theorem Iv.keep {lo hi : Int} {c : Ct} {L : List Int} {k : Nat} (h : Iv lo hi c L k) : Iv lo hi c L (k + 1) := ⟨h.ok, h.u, h.d, h.l, h.h, h.dl, Nat.le_succ_of_le h.len⟩
theorem Iv.res {lo hi : Int} {c : Ct} {L : List Int} {k : Nat} (h : Iv lo hi c L k) {J : Nat} (hJ : J < L.length) : max L[J] 0 ≤ c.u ∧ max (-L[J]) 0 ≤ c.d := by
  have e1 := upS_out hJ
  have e2 := dnS_out hJ
  have e3 := upS_pos (outK L J)
  have e4 := dnS_pos (outK L J)
  rw [h.u, h.d]
  omega
theorem Iv.less {lo hi : Int} {c : Ct} {L : List Int} {k : Nat} (h : Iv lo hi c L k) {J : Nat} (hJ : J < L.length) : Iv lo hi (lessC c L[J]) (outK L J) (k + 1) := by
  have e1 := upS_out hJ
  have e2 := dnS_out hJ
  have e3 := h.u
  have e4 := h.d
  refine ⟨less_ok h.ok (h.res hJ), ?_, ?_, h.l, h.h, outK_dl h.dl J, ?_⟩
  · show c.u - max L[J] 0 = _; omega
  · show c.d - max (-L[J]) 0 = _; omega
  · rw [outK_len hJ]; have := h.len; omega
theorem Iv.back {lo hi : Int} {c : Ct} {L : List Int} {k : Nat} (h : Iv lo hi c L k) {J : Nat} (hJ : J < L.length) : Iv lo hi (backC c L[J]) (outK L J) (k + 1) := by
  have e1 := upS_out hJ
  have e2 := dnS_out hJ
  have e3 := h.u
  have e4 := h.d
  have hd := h.dl _ (List.getElem_mem hJ)
  refine ⟨back_ok h.ok (by unfold Ok; omega) (h.res hJ), ?_, ?_, h.l, h.h, outK_dl h.dl J, ?_⟩
  · show c.u - max L[J] 0 = _; omega
  · show c.d - max (-L[J]) 0 = _; omega
  · rw [outK_len hJ]; have := h.len; omega
theorem fit_nx {lo hi : Int} {c : Ct} {L : List Int} {k : Nat} {d : Int} (h : Iv lo hi c L k) (hlo : -4294967296 ≤ lo ∧ hi ≤ 4294967296) (hk : k ≤ 100) (hd : -32768 ≤ d ∧ d ≤ 32767) :
    OkC (nx c d) ↔ if d < 0 then c.l ≤ c.v - c.u + d else c.v + c.d + d ≤ c.h := by
  have hb := h.bd hlo hk
  have e5 := h.l
  have e6 := h.h
  obtain ⟨h1, h2, h3, h4, h5, h6, h7, h8, h9⟩ := h.ok
  simp only [OkC, nx, Ok] at *
  split <;> omega
/-- The step of the remainder. -/
theorem mod_at (dl : Int) (hd : -32768 ≤ dl ∧ dl ≤ 32767) (n : Nat) (hn : 0 < n) (hn2 : n ≤ 1000) : ∃ J : Nat, (wrap64 (IntKind.u16.wrap dl)).tmod (n : Int) = (J : Int) ∧ J < n := by
  have h1 : 0 ≤ IntKind.u16.wrap dl ∧ IntKind.u16.wrap dl ≤ 65535 := by rw [IntKind.wrap_u16]; omega
  have h2 : wrap64 (IntKind.u16.wrap dl) = IntKind.u16.wrap dl := by rw [IntWalk.wrap64_in _ (by omega)]
  rw [h2]
  generalize IntKind.u16.wrap dl = x at *
  have h3 : x.tmod (n : Int) = x % (n : Int) := Int.tmod_eq_emod_of_nonneg h1.1
  rw [h3]
  have h4 := Int.emod_nonneg x (show (n : Int) ≠ 0 by omega)
  have h5 := Int.emod_lt_of_pos x (show (0 : Int) < n by omega)
  exact ⟨(x % (n : Int)).toNat, by omega, by omega⟩
end Go.Proofs.Ytodgnhkaglcjnaa.Cnt
