/- Lists of slices of bytes that one makes by appends. -/
import Derived.Test.YtojeccmnhgcmcaaDoorG14
namespace Go.Proofs.YtojeccmnhgcmcaaDoor.Frame
open Go.RowKit Go.ChangeShapes
open Crc (Hv more more_lt ret_u32)
set_option linter.unusedVariables false
set_option linter.unusedSimpArgs false

theorem info_sl : (Tryd.prog.info? 29).map (fun i => (i.zero, i.size, i.bytes)) = some (some (.slice none 0 0), 1, 24) := by kernel_rfl
/-- The cells of a list of slices: xs reads as L. -/
structure Sl (w : World) (F : Nat → Prop) (xs : List Value) (L : List (List Nat)) : Prop where
  len : xs.length = L.length
  at_ : ∀ i s, xs[i]? = some s → Bs w F s (L.getD i [])
theorem Sl.nil (w : World) (F : Nat → Prop) : Sl w F [] [] := ⟨rfl, fun i s h => by simp at h⟩
theorem Sl.app {w : World} {F : Nat → Prop} {xs ys : List Value} {L M : List (List Nat)} (h : Sl w F xs L) (k : Sl w F ys M) : Sl w F (xs ++ ys) (L ++ M) := by
  refine ⟨by rw [List.length_append, List.length_append, h.len, k.len], fun i s hs => ?_⟩
  have hl := h.len
  rw [List.getD_eq_getElem?_getD]
  rcases Nat.lt_or_ge i xs.length with hi | hi
  · rw [List.getElem?_append_left hi] at hs
    rw [List.getElem?_append_left (by omega), ← List.getD_eq_getElem?_getD]
    exact h.at_ i s hs
  · rw [List.getElem?_append_right hi] at hs
    rw [List.getElem?_append_right (by omega), ← List.getD_eq_getElem?_getD, ← hl]
    exact k.at_ _ s hs
theorem Sl.kept {w w' : World} {F : Nat → Prop} {xs : List Value} {L : List (List Nat)} (h : Sl w F xs L) (hs : Same F w w') : Sl w' F xs L := ⟨h.len, fun i s h1 => (h.at_ i s h1).kept hs⟩
theorem Sl.wide {w : World} {F G : Nat → Prop} {xs : List Value} {L : List (List Nat)} (h : Sl w F xs L) (hF : ∀ k, F k → G k) : Sl w G xs L := ⟨h.len, fun i s h1 => (h.at_ i s h1).wide hF⟩
theorem Sl.one {w : World} {F : Nat → Prop} {xs : List Value} {L : List (List Nat)} (h : Sl w F xs L) : ∀ u ∈ xs, u.oneCell' = true := by
  intro u hu
  obtain ⟨i, hi, rfl⟩ := List.mem_iff_getElem.1 hu
  obtain ⟨_, a, cap, e, _⟩ := h.at_ i _ (List.getElem?_eq_getElem hi)
  rw [e]; rfl
theorem Bss.cells {w : World} {F : Nat → Prop} {A : Option Addr} {m c : Nat} {L : List (List Nat)} (h : Bss w F (.slice A m c) L) :
    m = L.length ∧ ∃ xs, Sl w F xs L ∧ (0 < L.length → ∃ b off, A = some ⟨b, off, none⟩ ∧ ∀ i u, xs[i]? = some u → w.cell? ⟨b, off + i, none⟩ = some u) := by
  obtain ⟨a', cap', hv, hcap, hc⟩ := h
  injection hv with e1 e2 e3
  subst e1 e2 e3
  refine ⟨rfl, ?_⟩
  rcases Nat.eq_zero_or_pos L.length with h0 | h0
  · have := List.eq_nil_of_length_eq_zero h0
    subst this
    exact ⟨[], Sl.nil w F, fun h => absurd h (by simp)⟩
  · obtain ⟨b, off, rfl, hF, hcell⟩ := hc h0
    have key : ∀ i u, ((List.range L.length).map fun i => (w.cell? ⟨b, off + i, none⟩).getD undef)[i]? = some u → i < L.length ∧ w.cell? ⟨b, off + i, none⟩ = some u := by
      intro i u hu
      have hi : i < L.length := by
        have := (List.getElem?_eq_some_iff.1 hu).1
        simpa using this
      refine ⟨hi, ?_⟩
      rw [List.getElem?_map, List.getElem?_range hi] at hu
      obtain ⟨s, h1, _⟩ := hcell i hi
      simp only [Option.map_some, h1, Option.getD_some, Option.some.injEq] at hu
      rw [h1, hu]
    refine ⟨(List.range L.length).map fun i => (w.cell? ⟨b, off + i, none⟩).getD undef, ⟨by simp, fun i s hs => ?_⟩, fun _ => ⟨b, off, rfl, fun i u hu => (key i u hu).2⟩⟩
    obtain ⟨hi, h1⟩ := key i s hs
    obtain ⟨s', h2, h3⟩ := hcell i hi
    rw [h1] at h2
    injection h2 with h2
    subst h2
    exact h3
theorem own_bss {w : World} {base n : Nat} {v : Value} {xs : List Value} {L : List (List Nat)} {F : Nat → Prop} (h : w.ownsRow base 29 1 v n xs) (hx : Sl w F xs L) (hF : ∀ k, v.ownBlock = some k → F k) : Bss w F v L := by
  have hn : n = L.length := by have := h.1; have := hx.len; omega
  subst hn
  rcases h.2 with ⟨rfl, h0⟩ | ⟨g, cap, cur, hv, _, _, hnc, _⟩
  · have := List.eq_nil_of_length_eq_zero h0
    subst this
    exact Bss.nil _ _
  · subst hv
    refine ⟨_, _, rfl, hnc, fun hp => ⟨g, 0, rfl, hF g rfl, fun i hi => ?_⟩⟩
    have hix : i < xs.length := by rw [hx.len]; exact hi
    refine ⟨xs[i], ?_, hx.at_ i _ (List.getElem?_eq_getElem hix)⟩
    rw [Nat.zero_add, h.cellAt i (by omega), List.getElem?_eq_getElem hix]
theorem run_append_s (base : Nat) (w : World) (ty : TypeId) (v : Value) (n : Nat) (xs : List Value) (hown : w.ownsRow base 29 1 v n xs)
    (F : Nat → Prop) (A : Option Addr) (m c : Nat) (L : List (List Nat)) (hb : Bss w F (.slice A m c) L) (h63 : n + m ≤ 1000000000) (hbase : base ≤ w.heap.size) :
    ∃ v' w' ys, Sl w F ys L ∧ (Builtin.append_ #[39, 39] ty #[v, .slice A m c]).run Tryd.prog w = .ok v' w' ∧ w'.ownsRow base 29 1 v' (n + m) (xs ++ ys) ∧ w.grownBy w' v.ownBlock := by
  obtain ⟨i0, hi, hz0, hz1, hz2⟩ := info_parts info_sl
  obtain ⟨rfl, ys, hys, hc⟩ := hb.cells
  cases A with
  | none =>
    have h0 : L.length = 0 := by
      rcases Nat.eq_zero_or_pos L.length with h1 | h1
      · exact h1
      · obtain ⟨b, off, e, _⟩ := hc h1
        cases e
    have hl := List.eq_nil_of_length_eq_zero h0
    subst hl
    have hy0 : ys = [] := List.eq_nil_of_length_eq_zero hys.len
    subst hy0
    have hrun : (Builtin.append_ #[39, 39] ty #[v, .slice none 0 c]).run Tryd.prog w = .ok v w := by
      rcases hown.2 with ⟨rfl, rfl⟩ | ⟨g, cap, cur, rfl, _, _, hnc, _⟩
      · simp [Builtin.append_, run_underlying Tryd.underlying39, sizeOf, typeInfo, hi, Builtin.lenOf, Builtin.firstCells]
      · simp [Builtin.append_, run_underlying Tryd.underlying39, sizeOf, typeInfo, hi, Builtin.lenOf, Builtin.firstCells, hnc, storeCells]
    exact ⟨v, w, [], hys, hrun, by simpa using hown, World.grownBy.refl w _⟩
  | some ad =>
    obtain ⟨v', w', h1, h2, h3, _, h5⟩ := run_append_own_at (P := Tryd.prog) w base 39 ty 29 i0 (.slice none 0 0) 1 24 Tryd.underlying39 hi hz0 hz1 hz2 rfl (by decide) v n xs hown ad L.length c ys (by rw [hys.len]; omega) (fun j u hu => by
      have hj : j < ys.length := (List.getElem?_eq_some_iff.1 hu).1
      obtain ⟨b, off, e, hcell⟩ := hc (by have := hys.len; omega)
      cases e
      rw [addr_add, hcell j u hu]) hys.one (by unfold maxLen; omega) (by omega) hbase
    exact ⟨v', w', ys, hys, h1, h2, h3⟩
theorem wpList_append_s {ops : Array Oper} {rest : List Oper} {o : Oper} {a : Act} {w : World} {Q : Exit → Act → World → Prop} (hgd : o.guard = none) (s x : Operand)
    (ho : o.op = .call { callee := .builtin .append, args := #[s, x], argTypes := #[39, 39] })
    (base : Nat) (v : Value) (n : Nat) (xs : List Value) (hs : a.eval s = v) (hown : w.ownsRow base 29 1 v n xs)
    (F : Nat → Prop) (A : Option Addr) (m c : Nat) (L : List (List Nat)) (hx : a.eval x = .slice A m c) (hb : Bss w F (.slice A m c) L) (h63 : n + m ≤ 1000000000) (hbase : base ≤ w.heap.size)
    (h : ∀ v' w' ys, Sl w F ys L → w'.ownsRow base 29 1 v' (n + m) (xs ++ ys) → w.grownBy w' v.ownBlock → wpList Tryd.prog ops Q rest (a.put o.dst v') w') :
    wpList Tryd.prog ops Q (o :: rest) a w := by
  refine wpList_plain hgd fun K hK => ?_
  obtain ⟨v', w', ys, hys, hrun, h1, h2⟩ := run_append_s base w o.type v n xs hown F A m c L hb h63 hbase
  unfold Oper.wp execOp
  simp only [ho, resolve, invoke, builtin, Sem.run_bind, Sem.run_pure, Result.andThen_ok, List.map_toArray, List.map_cons, List.map_nil, hs, hx, hrun]
  exact hK _ _ (h v' w' ys hys h1 h2)
theorem str_app (l m : List Nat) : str l ++ str m = str (l ++ m) := by
  apply ByteArray.ext
  unfold str
  simp [ByteArray.data_append]
/-- The k-th record of a whole chain. -/
theorem whole_at {N : List (List Nat)} (hb : ∀ c ∈ N, Byt c) (hs : ∀ c ∈ N, Short c) (k : Nat) (hk : k < N.length) :
    restE ((rcs N).drop (tot (N.take k))) = 0 ∧ restC ((rcs N).drop (tot (N.take k))) = N.getD k [] := by
  have e2 : N.drop k = N.getD k [] :: N.drop (k + 1) := by
    rw [List.getD_eq_getElem?_getD, List.getElem?_eq_getElem hk]; exact List.drop_eq_getElem_cons hk
  have e3 : rcs N = rcs (N.take k) ++ (rc (N.getD k []) ++ rcs (N.drop (k + 1))) := by
    conv => lhs; rw [← List.take_append_drop k N, rcs_app, e2]
    rfl
  have hl : (rcs (N.take k)).length = tot (N.take k) := rcs_len _
  have e4 : (rcs N).drop (tot (N.take k)) = rc (N.getD k []) ++ rcs (N.drop (k + 1)) := by
    rw [e3, List.drop_append_of_le_length (by omega), List.drop_eq_nil_of_le (by omega), List.nil_append]
  rw [e4]
  have := rest_rc (hs _ (getD_mem hk)) (hb _ (getD_mem hk)) (rcs (N.drop (k + 1)))
  exact ⟨of_ok this.1, this.2⟩
end Go.Proofs.YtojeccmnhgcmcaaDoor.Frame
