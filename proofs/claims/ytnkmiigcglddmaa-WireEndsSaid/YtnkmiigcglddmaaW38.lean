/- Literals, repeated bytes, appends onto a full slice, among the things; the longest numbers and texts. -/
import Derived.Test.YtnkmiigcglddmaaW37
import Derived.Test.YtnkmiigcglddmaaW28
import Derived.Laws.Append
namespace Go.Proofs.Ytnkmiigcglddmaa.Wire
open Go.RowKit Go.ChangeShapes
set_option linter.unusedVariables false
set_option linter.unusedSimpArgs false

theorem Has.lit {w0 W : World} {L : List Asrt} (h : Has w0 W L) (l : List Nat) (h8 : ∀ c ∈ l, c < 256) : Has w0 (W.alloc (.cells (bv l).toArray 5)) (By (.slice (some ⟨W.heap.size, 0, none⟩) l.length l.length) l :: L) :=
  h.add ((Below.refl _ _).alloc (Nat.le_refl _) _) (stable_by _ _) ⟨bs_new W l h8, fun k hk => hk.2⟩
theorem Has.weak {w0 W : World} {L : List Asrt} {A A' : Asrt} (h : Has w0 W (A :: L)) (hS : Stable A') (hi : ∀ F, A F W → A' F W) : Has w0 W (A' :: L) := by
  obtain ⟨hb, F, hF, hA, _, hL⟩ := h
  exact ⟨hb, F, hF, hi F hA, hS, hL⟩
theorem Has.by_ {w0 W : World} {L : List Asrt} {v : Value} {l : List Nat} (h : Has w0 W (Ow v l :: L)) : Has w0 W (By v l :: L) :=
  h.weak (stable_by _ _) fun F hF => ⟨ow_bs hF, hF.2.2.2⟩
theorem h_brep (w0 W : World) (L : List Asrt) (v : Value) (x n : Nat) (h : Has w0 W (By v [x] :: L)) (hn1 : 1 ≤ n) (hn : n ≤ 1000) :
    Calls Try.prog 43 #[v, .int .i64 n] W fun e W' => ∃ g, e = .returned (.slice (some ⟨g, 0, none⟩) n n) ∧ Has w0 W' (By (.slice (some ⟨g, 0, none⟩) n n) (List.replicate n x) :: L) := by
  obtain ⟨F, ⟨hb, hlt⟩, _⟩ := h.fst
  have hx : x < 256 := hb.1 x (by simp)
  refine (brep_any F v x n W hb hlt hn1 hn).mono fun e W' ⟨he, hr⟩ => ⟨_, he, ?_⟩
  obtain ⟨cur, hcl, hblk, htk⟩ := hr.blk
  have hl : (List.replicate n x).length = n := List.length_replicate
  refine h.drop.add hr.bel (stable_by _ _) ⟨⟨fun c hc => by rw [List.eq_of_mem_replicate hc]; exact hx, some ⟨W.heap.size, 0, none⟩, n, by rw [hl], by rw [hl]; exact Nat.le_refl _, fun _ => ⟨W.heap.size, 0, rfl, ⟨Nat.le_refl _, blk_lt hblk⟩, fun i hi => ?_⟩⟩, fun k hk => hk.2⟩
  rw [hl] at hi
  rw [Nat.zero_add]
  have h1 : (cur.take n)[i]? = some (.int .u8 (x : Nat)) := by rw [htk]; exact List.getElem?_eq_some_iff.2 ⟨by rw [List.length_replicate]; exact hi, by simp⟩
  rw [List.getElem?_take_of_lt hi] at h1
  have h2 : (List.replicate n x).getD i 0 = x := by rw [List.getD_eq_getElem?_getD, List.getElem?_replicate, if_pos hi]; rfl
  rw [h2]
  exact blk_cell hblk i _ (by rw [List.getElem?_toArray]; exact h1)
theorem run_append_full {F G : Nat → Prop} {w : World} {g o : Nat} {l m : List Nat} {A : Addr} {c : Nat} (ty : TypeId) (h : Bs w F (.slice (some ⟨g, o, none⟩) l.length l.length) l) (hm : Bs w G (.slice (some A) m.length c) m) (h0 : 0 < m.length) (hlen : l.length + m.length ≤ 1000000) :
    ∃ v' w', (Builtin.append_ #[35, 35] ty #[.slice (some ⟨g, o, none⟩) l.length l.length, .slice (some A) m.length c]).run Try.prog w = .ok v' w' ∧ Below w.heap.size w w' ∧ Ow v' (l ++ m) (New w w') w' ∧ ∃ c', v' = .slice (some ⟨w.heap.size, 0, none⟩) (l.length + m.length) c' := by
  obtain ⟨i0, hi, hz0, hz1, hz2⟩ := info_parts info_u8
  obtain ⟨h8, a1, c1, e1, _, hc1⟩ := h
  injection e1 with e1 _ _
  subst e1
  obtain ⟨m8, a2, c2, e2, _, hc2⟩ := hm
  injection e2 with e2 _ _
  subst e2
  obtain ⟨b2, o2, e2, _, hcell2⟩ := hc2 h0
  cases e2
  have hrun := run_append_grow (P := Try.prog) (w := w) 35 ty 5 i0 (.int .u8 0) Try.underlying35 hi hz0 ⟨g, o, none⟩ l.length l.length (bv l) (by rw [bv_len, hz1, Nat.mul_one]) (fun j v hj => by
      obtain ⟨hjl, rfl⟩ := bv_get l j v hj
      obtain ⟨b1, o1, e1, _, hcell1⟩ := hc1 (by omega)
      cases e1
      rw [addr_add]; exact hcell1 j hjl) ⟨b2, o2, none⟩ m.length c (bv m) (by rw [bv_len, hz1, Nat.mul_one]) (fun j v hj => by
      obtain ⟨hjl, rfl⟩ := bv_get m j v hj
      rw [addr_add]; exact hcell2 j hjl) (by omega) (by omega) (growslice_fits (by omega) (by rw [hz2]; omega))
  refine ⟨_, _, hrun, ?_, ?_, _, rfl⟩
  · exact (Below.refl w.heap.size w).drew.alloc (Nat.le_refl _) _
  · have hge := grownCap_ge w (l.length + m.length) l.length 5
    refine ⟨?_, fun c hc => ?_, fun k hk => ?_, fun k hk => hk.2⟩
    · rw [List.length_append]
      refine ⟨by rw [bv_len, List.length_append]; omega, .inr ⟨w.heap.size, _, _, rfl, Nat.zero_le _, World.alloc_heap_new w.drew _, hge, grownCap_le_maxLen w _ _ _ (by unfold maxLen; omega), ?_, ?_⟩⟩
      · rw [Array.size_append, Array.size_append, size_zeroCells, List.size_toArray, List.size_toArray, bv_len, bv_len]
        show l.length + m.length + (_ - _) * 1 = _ * 1
        omega
      · rw [Nat.mul_one, Array.toList_append, Array.toList_append, ← bv_app, List.take_append_of_le_length (by simp [bv_len]), List.take_of_length_le (by simp [bv_len])]
    · rcases List.mem_append.1 hc with hc | hc
      · exact h8 c hc
      · exact m8 c hc
    · have e : w.heap.size = k := by simpa [Value.ownBlock] using hk
      subst e
      exact ⟨Nat.le_refl _, by simp⟩
theorem wpList_append_full {ops : Array Oper} {rest : List Oper} {o : Oper} {a : Act} {w : World} {Q : Exit → Act → World → Prop} (hgd : o.guard = none) (s x : Operand)
    (ho : o.op = .call { callee := .builtin .append, args := #[s, x], argTypes := #[35, 35] }) (w0 : World) (L : List Asrt) (g : Nat) (l m : List Nat) (A : Addr) (n k c : Nat) (hn : n = l.length) (hk : k = m.length)
    (hs : a.eval s = .slice (some ⟨g, 0, none⟩) n n) (hx : a.eval x = .slice (some A) k c) (hw : Has w0 w (By (.slice (some ⟨g, 0, none⟩) n n) l :: By (.slice (some A) k c) m :: L)) (h0 : 0 < k) (hlen : n + k ≤ 1000000)
    (h : ∀ g' c' w', Has w0 w' (By (.slice (some ⟨g', 0, none⟩) (n + k) c') (l ++ m) :: L) → wpList Try.prog ops Q rest (a.put o.dst (.slice (some ⟨g', 0, none⟩) (n + k) c')) w') :
    wpList Try.prog ops Q (o :: rest) a w := by
  subst hn hk
  obtain ⟨F, ⟨hF, _⟩, _⟩ := hw.fst
  obtain ⟨G, ⟨hG, _⟩, _⟩ := hw.swap.fst
  refine wpList_plain hgd fun K hK => ?_
  obtain ⟨v', w', hrun, hb, how, c', rfl⟩ := run_append_full o.type hF hG h0 hlen
  unfold Oper.wp execOp
  simp only [ho, resolve, invoke, builtin, Sem.run_bind, Sem.run_pure, Result.andThen_ok, List.map_toArray, List.map_cons, List.map_nil, hs, hx, hrun]
  exact hK _ _ (h _ c' w' (hw.drop.drop.add hb (stable_ow _ _) how).by_)

/-! Numbers and texts at the ends. -/
theorem digs_top : digs 18446744073709551615 = List.replicate 9 255 ++ [1] := by
  rw [digs_big (by decide), digs_big (by decide), digs_big (by decide), digs_big (by decide), digs_big (by decide), digs_big (by decide), digs_big (by decide), digs_big (by decide), digs_big (by decide), digs_small (by decide)]
  rfl
theorem digs_long : (digs 65537).length = 3 := by
  rw [digs_big (by decide), digs_big (by decide), digs_small (by decide)]
  rfl
theorem zig_least : zig (-9223372036854775808) = 18446744073709551615 := by decide
theorem text_back (s : ByteArray) (hs : s.size = 65536) : stepR [] rdT (some (digs s.size ++ sb s)) = (sb s, some []) := by
  refine stepR_yes ?_
  unfold rdT
  rw [rdU_digs _ (by omega)]
  dsimp only
  have h1 := sb_len s
  rw [if_pos ⟨by omega, by omega⟩, ← h1, List.take_length, List.drop_length]
theorem text_long (s : ByteArray) (hs : s.size = 65537) : stepR [] rdT (some (digs s.size ++ sb s)) = ([], none) := by
  refine stepR_no ?_
  unfold rdT
  rw [rdU_digs _ (by omega)]
  dsimp only
  rw [if_neg (by omega)]
end Go.Proofs.Ytnkmiigcglddmaa.Wire
