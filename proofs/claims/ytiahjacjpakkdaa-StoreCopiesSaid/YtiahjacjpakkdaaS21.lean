/- The keys of a range, and all keys. -/
import Derived.Test.YtiahjacjpakkdaaS20
import Derived.Maps.OwnIn
import Derived.Test.YtiahjacjpakkdaaS09
namespace Go.Proofs.Ytiahjacjpakkdaa.Sto
open Go.RowKit Go.Maps Go.Lib Go.Shelf
open Cnt (Ct cA OkC)
open Rng (tx nameOk bl bl_eq bl_irrefl bl_trans)
set_option linter.unusedVariables false
set_option linter.unusedSimpArgs false
set_option maxRecDepth 20000
attribute [local go_sem] Oper.semAt_some

theorem ordered_any (p : Option Addr) (w : World) : Calls Try.prog 32 #[.pointer p] w fun e w' => e = .returned (.func (.func 48) #[] #[.pointer (some ⟨w.heap.size, 0, none⟩)]) ∧ w' = w.alloc (.cells #[.pointer p] 31) := by
  go_enter Try.func32, Try.ntmps32
  go_wp2
  go_ret
  exact ⟨rfl, rfl⟩
theorem ordered_stops (q0 : Nat) (v0 : Value) {sb b : Nat} {M : List En} (w : World) (x : Sx w sb b M) (Bn : Nat) (hBn : Bn < w.heap.size) (hBox : w.cell? ⟨Bn, 0, none⟩ = some (.pointer (some ⟨sb, 0, none⟩)))
    (hq : w.cell? ⟨q0, 0, none⟩ = some v0) (hv0 : v0.ownBlock = none) (hq0 : q0 < w.heap.size) (hne : q0 ≠ Bn ∧ q0 ≠ sb ∧ q0 ≠ b) :
    SeqStopsK Fence.wide 6 Try.prog 48 #[.pointer (some ⟨Bn, 0, none⟩)] encE (Kq q0 w.heap.size) (fun xs => xs = M) (fun pre => ∃ k, pre = M.take k) M.length w :=
  fun l J Jx W hW hJ hJx hY h0 => ordered_in q0 v0 w x Bn hBn hBox hq hv0 hq0 hne l J Jx W hW hJ hJx hY h0
abbrev strs (L : List (List UInt8)) : List Value := L.map fun k => .string (tx k)
def inM (M : List En) (r : Rng.Rg) : List (List UInt8) := (keysM M).filter fun k => Rng.hasR r k

theorem others_below {W W' : World} (h : Below W.heap.size W W') : KeepsOthers W W' := ⟨h.size, fun k o hk _ => (h.block k (Array.getElem?_eq_some_iff.1 hk).1).trans hk⟩
theorem rows_cells {w : World} {base size n : Nat} {e : TypeId} {v : Value} {xs : List Value} (h : w.ownsRow base e size v n xs) : ∀ (g : Nat) (o : Obj), v.ownBlock = some g → w.heap[g]? = some o → o.isCells = true := by
  intro g o hg ho
  rcases h.2 with ⟨rfl, _⟩ | ⟨g', cap, cur, rfl, _, hh, _⟩
  · cases hg
  · have : g' = g := by simpa [Value.ownBlock] using hg
    subst this
    rw [hh] at ho
    cases ho
    rfl
theorem rows_keep {w w' : World} {base size n : Nat} {e : TypeId} {v : Value} {xs : List Value} (h : w.ownsRow base e size v n xs) {row : Option Nat} (hg : w.grownBy w' row) (hr : ∀ r, row = some r → ∃ o : Obj, w.heap[r]? = some o ∧ o.isCells = false) : w'.ownsRow base e size v n xs := by
  refine h.kept hg ?_
  rcases h.2 with ⟨rfl, _⟩ | ⟨g, cap, cur, rfl, _, hgb, _⟩
  · exact .inl rfl
  · refine .inr fun e' => ?_
    obtain ⟨o, ho, hc⟩ := hr g (by simpa [Value.ownBlock] using e'.symm)
    rw [hgb] at ho
    cases ho
    cases hc
theorem rows_later {w w' : World} {base size n : Nat} {e : TypeId} {v : Value} {xs : List Value} (h : w.ownsRow base e size v n xs) (hb : Below w.heap.size w w') : w'.ownsRow base e size v n xs := rows_keep h (grown_b hb) (fun r e => by cases e)
theorem rows_form {w : World} {base n size : Nat} {e : TypeId} {v : Value} {xs : List Value} (h : w.ownsRow base e size v n xs) : ∃ a cap, v = .slice a n cap := by
  rcases h.2 with ⟨rfl, rfl⟩ | ⟨g, cap, cur, rfl, _⟩
  · exact ⟨none, 0, rfl⟩
  · exact ⟨_, cap, rfl⟩
theorem rows_base {w : World} {base base' size n : Nat} {e : TypeId} {v : Value} {xs : List Value} (h : w.ownsRow base e size v n xs) (hb : base' ≤ base) : w.ownsRow base' e size v n xs := by
  refine ⟨h.1, ?_⟩
  rcases h.2 with h | ⟨g, cap, cur, rfl, hbg, rest⟩
  · exact .inl h
  · exact .inr ⟨g, cap, cur, rfl, Nat.le_trans hb hbg, rest⟩
theorem Boxed.later' {W W' : World} {B : Nat} {t : TypeId} {v : Value} (h : Boxed W B t v) (hb : Below W.heap.size W W') : Boxed W' B t v := h.kept (grown_b hb) (by simp)
/-- 'x = append(x, ..)' with x in the box q0 is a round's right. -/
theorem kq_append {q0 n0 : Nat} {W w1 : World} {T e : TypeId} {u v' : Value} {tmp : Obj} {base size n : Nat} {xs : List Value} (hbox : Boxed W q0 T u) (hrow : W.ownsRow base e size u n xs) (hg : (W.alloc tmp).grownBy w1 u.ownBlock)
    (hloc : v'.ownBlock = u.ownBlock ∨ v'.ownBlock = some (W.alloc tmp).heap.size) (h1 : Boxed w1 q0 T u) : Kq q0 n0 W (w1.setCell ⟨q0, 0, none⟩ v') := by
  have hs : W.heap.size ≤ w1.heap.size := by have := hg.size; rw [World.size_alloc] at this; omega
  refine ⟨by show _ ≤ (w1.setCell _ _).heap.size; simpa [World.setCell] using hs, fun k o ho _ hk hn => ?_, fun k hk ho => ?_⟩
  · have hlt := (Array.getElem?_eq_some_iff.1 ho).1
    have h2 : (W.alloc tmp).heap[k]? = some o := (Below.heap_alloc _ _ k hlt).trans ho
    have h3 : w1.heap[k]? = some o := (hg.block k (Array.getElem?_eq_some_iff.1 h2).1 (fun e => hn ⟨u, hbox.cell, e.symm⟩)).trans h2
    exact (Below.heap_setCell _ _ _ k (by exact hk)).trans h3
  · obtain ⟨v, hc, hv⟩ := ho
    rw [(h1.set v').cell] at hc
    injection hc with hc
    subst hc
    rcases hloc with hl | hl
    · exact ⟨u, hbox.cell, by rw [← hl, hv]⟩
    · rw [hl, World.size_alloc] at hv
      injection hv with hv
      omega
/-- The state between two rounds of In. -/
structure InAt (w : World) (q0 : Nat) (s t : ByteArray) (L : List (List UInt8)) (W : World) : Prop where
  box : ∃ u, Boxed W q0 41 u ∧ W.ownsRow q0 TS 1 u L.length (strs L)
  rng : Rng.Bx w w.heap.size s t W
  siz : q0 + 2 ≤ W.heap.size
theorem bx_grown {w W W' : World} {s t : ByteArray} {row : Option Nat} (h : Rng.Bx w w.heap.size s t W) (hg : W.grownBy W' row) (hr : ∀ r, row = some r → w.heap.size < r) : Rng.Bx w w.heap.size s t W' :=
  ⟨(hg.block _ h.lt (fun e => by have := hr _ e.symm; omega)).trans h.blk, h.bel.grown hg h.bel.size (fun k e => Nat.le_of_lt (hr k e))⟩
theorem in_from {w : World} {q0 : Nat} {s t : ByteArray} {f : List En → List (List UInt8)} (B : Nat) (hB : w.heap.size < B ∧ q0 < B) : OwnFrom B (fun (pre : List En) W => InAt w q0 s t (f pre) W) := by
  rintro pre W W' row ⟨⟨u, h1, h2⟩, h3, h4⟩ hg hr
  refine ⟨⟨u, h1.kept hg fun e => ?_, rows_keep h2 hg fun r e => (hr r e).2⟩, bx_grown h3 hg fun r e => by have := (hr r e).1; omega, Nat.le_trans h4 hg.size⟩
  have := (hr _ e.symm).1
  omega
theorem InAt.later {w : World} {q0 : Nat} {s t : ByteArray} {L : List (List UInt8)} {W W' : World} (h : InAt w q0 s t L W) (hb : Below W.heap.size W W') : InAt w q0 s t L W' := by
  obtain ⟨⟨u, h1, h2⟩, h3, h4⟩ := h
  exact ⟨⟨u, h1.kept (grown_b hb) (by simp), rows_later h2 hb⟩, h3.later hb, Nat.le_trans h4 hb.size⟩
theorem info_s : (Try.prog.info? TS).map (fun i => (i.zero, i.size, i.bytes)) = some (some (.string ⟨#[]⟩), 1, 16) := by kernel_rfl
set_option maxRecDepth 100000 in
set_option maxHeartbeats 2000000 in
theorem in_go {sb b : Nat} {M : List En} (r : Rng.Rg) (w : World) (x : Sx w sb b M) (hr : Rng.okR r = true) :
    Calls Try.prog 14 #[.pointer (some ⟨sb, 0, none⟩), .agg #[.string (tx r.f), .string (tx r.t)]] w fun e w' => ∃ v, e = .returned (.tuple #[v, .int .i64 0]) ∧ w'.ownsRow w.heap.size TS 1 v (inM M r).length (strs (inM M r)) ∧ Below w.heap.size w w' := by
  have hC := Lib.hid (fun W => Rng.check_any r W)
  have he : Rng.okE r = 0 := by unfold Rng.okE; rw [hr]; rfl
  rw [he] at hC
  have hH := Lib.hid (fun k W => Rng.has_rng r k W)
  obtain ⟨f, t⟩ := r
  obtain ⟨s1, hs1⟩ : ∃ s1, tx f = s1 := ⟨_, rfl⟩
  obtain ⟨s2, hs2⟩ : ∃ s2, tx t = s2 := ⟨_, rfl⟩
  simp only [hs1, hs2] at hC hH ⊢
  have hV := Lib.hid (fun W (h : Sx W sb b M) => valid_any W h)
  have hx1 := x.alloc (.cells #[.string s1, .string s2] 25)
  have hr1 := Rng.bx_new w s1 s2
  obtain ⟨r0, r1⟩ := hr1.cells
  clear he hr
  refine (callsIn_wide (n := 7)).1 ?_
  refine callsIn_of_wp_marks Try.func14 rfl trivial ?_ rfl
  simp only [Try.ntmps14, List.size_toArray, List.length_cons, List.length_nil, Nat.reduceAdd, Nat.reduceSub, Array.replicate_succ, Array.replicate_zero, List.push_toArray, List.append_toArray, List.nil_append, List.cons_append]
  gi_wp2_with (first
    | (refine ⟨trivial, ?_⟩; gi_at_call 31; refine (callsIn_wide.2 (hV.out _ hx1)).mono ?_; rintro e w' ⟨rfl, rfl⟩)
    | (refine ⟨trivial, ?_⟩; gi_at_call 27; refine (callsIn_wide.2 (hC.out _)).mono ?_; rintro e w2 ⟨rfl, hb2⟩; have hx2 := hx1.later hb2; have hr2 := hr1.later hb2)
    | (refine ⟨trivial, ?_⟩; gi_at_call 32; refine (callsIn_wide.2 (ordered_any _ _)).mono ?_; rintro e w' ⟨rfl, rfl⟩))
  obtain ⟨q, hq⟩ : ∃ q, w2.heap.size = q := ⟨_, rfl⟩
  obtain ⟨w0, hw0⟩ : ∃ w0, (w2.alloc (.cells #[.slice none 0 0] 41)).alloc (.cells #[.pointer (some ⟨sb, 0, none⟩)] 31) = w0 := ⟨_, rfl⟩
  have hz0 : w0.heap.size = q + 2 := by rw [← hw0]; simp; omega
  have hx0 : Sx w0 sb b M := by rw [← hw0]; exact (hx2.alloc _).alloc _
  have hr0 : Rng.Bx w w.heap.size s1 s2 w0 := by rw [← hw0]; exact (hr2.later (Cnt.alloc_b _ _)).later (Cnt.alloc_b _ _)
  have hb0 : Boxed w0 q 41 (.slice none 0 0) := by rw [← hw0, ← hq]; exact (Boxed.new w2 _ _).alloc _
  have hB0 : w0.cell? ⟨q + 1, 0, none⟩ = some (.pointer (some ⟨sb, 0, none⟩)) := by
    rw [← hw0, ← hq]
    have := Boxed.new (w2.alloc (.cells #[.slice none 0 0] 41)) 31 (.pointer (some ⟨sb, 0, none⟩))
    rw [World.size_alloc] at this
    exact this.cell
  have hxl := hx2.lt
  have hst := ordered_stops q (.slice none 0 0) w0 hx0 (q + 1) (by omega) hB0 hb0.cell rfl (by omega) ⟨by omega, by omega, by omega⟩
  have hwq : w.heap.size < q := by have := hr2.lt; omega
  have h00 : InAt w q s1 s2 (inM ([] : List En) ⟨f, t⟩) w0 := ⟨⟨_, hb0, ⟨rfl, .inl ⟨rfl, rfl⟩⟩⟩, hr0, by omega⟩
  have hlen := x.len
  rw [hq, hw0]
  refine wpIn_rangeFunc_ownF rfl (by omega) (gf := 48) (lb := #[.pointer (some ⟨q + 1, 0, none⟩)]) rfl trivial (enters_of Try.func48 (by kernel_rfl) rfl)
    hst (fun h k => h.trans k) (fun W l o o' hl => Kq.put (by omega) (by omega) W l o o' hl) (Below.refl _ _) (fun _ => rfl)
    (fun pre W => InAt w q s1 s2 (inM pre ⟨f, t⟩) W) (fun _ _ _ => False) (in_from _ (by omega)) (fun _ _ _ _ _ hs _ _ => hs) h00
    (fun y => { tmps := #[.pointer (some ⟨sb, 0, none⟩), .agg #[.string s1, .string s2], undef, .pointer (some ⟨w.heap.size, 0, none⟩), .slice none 0 0, .int .i64 0, .int .i64 0, .pointer (some ⟨q, 0, none⟩), .string (tx y.1), .pointer (some ⟨sb, 0, none⟩), .bool true, .bool false, .agg #[.string s1, .string s2], .int .i64 0, .int .i64 0, .bool false, undef, .pointer (some ⟨sb, 0, none⟩), .func (.func 48) #[] #[.pointer (some ⟨q + 1, 0, none⟩)], .string (tx y.1), vC y.2, undef, undef, undef, undef, undef, undef, undef, undef], defers := [] })
    ?assign ?body ?done ?stop
  case assign =>
    intro l' y W K hK
    gi_wp2
    simpa using hK
  case body =>
    rintro l' pre y W hM hlt
    obtain ⟨key, cc⟩ := y
    dsimp only
    obtain ⟨v, u, d, ll, h⟩ := cc
    obtain ⟨s, hs⟩ : ∃ s, tx key = s := ⟨_, rfl⟩
    have hK := Lib.hid (hH.out key W)
    rw [hs] at hK ⊢
    obtain ⟨r0, r1⟩ := hM.rng.cells
    cases hh : Rng.hasR ⟨f, t⟩ key with
    | false =>
      rw [hh] at hK
      have hI : inM (pre ++ [(key, ⟨v, u, d, ll, h⟩)]) ⟨f, t⟩ = inM pre ⟨f, t⟩ := by simp [inM, keysM, hh]
      replace hI := Lib.hid hI
      clear hh
      gi_wp2_with (refine ⟨trivial, ?_⟩; gi_at_call 28; refine (((callsIn_wide.2 hK.out)).inRound _).mono ?_; rintro e W3 ⟨rfl, hb3⟩)
      refine ⟨others_below hb3, Kq.of_below hb3 (by have := hM.siz; omega), ?_⟩
      show InAt w q s1 s2 (inM (pre ++ [(key, ⟨v, u, d, ll, h⟩)]) ⟨f, t⟩) W3
      rw [hI.out]
      exact hM.later hb3
    | true =>
      rw [hh] at hK
      have hI : inM (pre ++ [(key, ⟨v, u, d, ll, h⟩)]) ⟨f, t⟩ = inM pre ⟨f, t⟩ ++ [key] := by simp [inM, keysM, hh]
      replace hI := Lib.hid hI
      have hpl : (inM pre ⟨f, t⟩).length ≤ 64 := by
        have h1 : (inM pre ⟨f, t⟩).length ≤ pre.length := Nat.le_trans (List.length_filter_le _ _) (by simp [keysM])
        omega
      generalize inM pre ⟨f, t⟩ = L at *
      obtain ⟨i0, hi, hz1, hz2, hz3⟩ := info_parts info_s
      have hD := Lib.hid (fun (W3 w1 : World) (u v' : Value) (m : Nat) (ys : List Value) (tmp : Obj) (h1 : Boxed W3 q 41 u) (h2 : W3.ownsRow q TS 1 u L.length (strs L)) (h3 : q + 2 ≤ W3.heap.size) (h4 : w1.ownsRow q TS 1 v' m ys) (h5 : (W3.alloc tmp).grownBy w1 u.ownBlock) =>
        Boxed.appended (n₀ := q) h1 (show (41 : TypeId) ≠ TS by decide) h2 (by omega) (Nat.le_refl _) h4 h5)
      clear hh
      gi_wp2_with (first
        | (refine ⟨trivial, ?_⟩; gi_at_call 28; refine (((callsIn_wide.2 hK.out)).inRound _).mono ?_; rintro e W3 ⟨rfl, hb3⟩; have hM3 := hM.later hb3; obtain ⟨⟨uu, hbx, hrow⟩, hrn, hsz⟩ := hM3; have cq := hbx.cell)
        | (gi_at_builtin; refine wpListIn_append_own_at _ rfl _ _ 41 rfl q TS i0 (.string ⟨#[]⟩) 1 16 Try.underlying41 hi hz1 hz2 hz3 rfl (by decide) _ _ _ rfl (hrow.alloc _) ⟨W3.heap.size, 0, none⟩ 1 1 [.string s] rfl rfl (cell_one_new _ _ _) (by simp [Value.oneCell']) (by unfold maxLen; omega) (by omega) (by simp; omega) ?_; intro v' w1 hown' hgrow hnil hloc; obtain ⟨g1, g2, g3, g4, g5⟩ := hD.out _ _ _ _ _ _ _ hbx hrow hsz hown' hgrow; obtain ⟨ga, gcap, rfl⟩ := ownsRow_succ hown'; have c4 := g1.cell; have f4 := g1.frozen))
      refine ⟨(others_below hb3).trans g4, (Kq.of_below hb3 (by have := hM.siz; omega)).trans (kq_append hbx hrow hgrow hloc g1), ?_⟩
      show InAt w q s1 s2 (inM (pre ++ [(key, ⟨v, u, d, ll, h⟩)]) ⟨f, t⟩) _
      rw [hI.out]
      refine ⟨⟨_, g2, ?_⟩, ⟨(g5.block _ hwq).trans hrn.blk, hrn.bel.trans (g5.mono (Nat.le_of_lt hwq))⟩, Nat.le_trans hsz g5.size⟩
      have e1 : strs (L ++ [key]) = strs L ++ [.string s] := by simp [strs, hs]
      have e2 : (L ++ [key]).length = L.length + 1 := by simp
      rw [e1, e2]
      exact g3
  case done =>
    rintro D ys W hD hys hM hK
    subst hys
    have hM2 := in_from (w := w) (q0 := q) (s := s1) (t := s2) (f := fun p => inM p ⟨f, t⟩) (q + 2) (by omega) ys W (W.putObj D (.deferred none)) (some D) hM (grownBy_putObj' W D _) (fun r e => by cases e; exact ⟨by omega, _, hK, rfl⟩)
    obtain ⟨uu, hbx, hrow⟩ := hM.box
    have hrow2 := ownsRow_putObj hrow (.deferred none) hK rfl
    obtain ⟨ua, ucap, rfl⟩ := rows_form hrow
    have c1 := hbx.cell
    have hN := Lib.hid hM2.rng.bel
    clear hM2 hM hH hst
    simp only [Exit.inBlock, Exit.then]
    go_at_K
    gi_wp2
    refine ⟨by simp, .inl ⟨_, _, rfl, run_takeDeferred hK, ?_⟩⟩
    exact ⟨.tuple #[.slice ua (inM ys ⟨f, t⟩).length ucap, .int .i64 0], by simp [results, Try.results14, go_sem], _, rfl, rows_base hrow2 (Nat.le_of_lt hwq), hN.out⟩
  case stop =>
    rintro D c pre W _ _ h _
    exact h.elim
end Go.Proofs.Ytiahjacjpakkdaa.Sto
