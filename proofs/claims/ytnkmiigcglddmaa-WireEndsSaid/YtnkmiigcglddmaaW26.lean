/- A clone among the things; appending onto a slice of the call's own; what is read of what was written. -/
import Derived.Test.YtnkmiigcglddmaaW23
namespace Go.Proofs.Ytnkmiigcglddmaa.Wire
open Go.RowKit Go.ChangeShapes
set_option linter.unusedVariables false
set_option linter.unusedSimpArgs false

theorem h_clone (w0 W : World) (L : List Asrt) (F : Nat → Prop) (v : Value) (l : List Nat) (h : Has w0 W L) (hv : Bs W F v l) (hF : ∀ k, F k → k < W.heap.size) (hl : l.length ≤ 100000000) :
    Calls Try.prog 22 #[v] W fun e W' => ∃ a c, e = .returned (.slice a l.length c) ∧ Has w0 W' (Ow (.slice a l.length c) l :: L) := by
  refine (clone_any F v l W hv hF hl).mono fun e W' ⟨v1, he, ho, hb⟩ => ?_
  obtain ⟨a, c, rfl⟩ := own_form ho
  refine ⟨a, c, he, h.add hb (stable_ow _ _) ⟨⟨ho.1, ?_⟩, hv.1, fun g hg => own_lt ho g hg, fun k hk => hk.2⟩⟩
  rcases ho.2 with h1 | ⟨g, cap, cur, h1, _, h2⟩
  · exact .inl h1
  · exact .inr ⟨g, cap, cur, h1, Nat.zero_le _, h2⟩
/-- Behind an append onto a slice of the call's own. -/
theorem Has.appended {w0 W W' : World} {L : List Asrt} {v v' : Value} {l m : List Nat} (h : Has w0 W (Ow v l :: L)) (hm : ∀ c ∈ m, c < 256) {n : Nat} (hn : n = l.length + m.length)
    (ho : W'.ownsRow 0 5 1 v' n (bv l ++ bv m)) (hg : W.grownBy W' v.ownBlock) (hl : v'.ownBlock = v.ownBlock ∨ v'.ownBlock = some W.heap.size) : Has w0 W' (Ow v' (l ++ m) :: L) := by
  obtain ⟨F, ⟨ho0, h8, hv, hlt⟩, hF, hst⟩ := h.step
  have hk : Keeps F W W' := (Keeps.refl F W).grown hg fun g e => .inl (hv g e)
  refine hst _ W' (stable_ow _ _) ⟨?_, fun c hc => ?_, fun g hg' => ?_, More.lt hF hk.size⟩ hk
  · rw [bv_app, hn] at ho
    rw [List.length_append]; exact ho
  · rcases List.mem_append.1 hc with hc | hc
    · exact h8 c hc
    · exact hm c hc
  · rcases hl with hl | hl
    · exact .inl (hv g (by rw [← hl]; exact hg'))
    · right
      have e : W.heap.size = g := by rw [hl] at hg'; injection hg'
      have h1 := (own_lt ho g hg').2
      exact ⟨by omega, by omega⟩
theorem Has.own {w0 W : World} {L : List Asrt} {v : Value} {l : List Nat} (h : Has w0 W (Ow v l :: L)) : W.ownsRow 0 5 1 v l.length (bv l) := by
  obtain ⟨F, hF, _⟩ := h.fst; exact hF.1

/-! What is read of what was written. -/
theorem plS_small {k : Nat} {s : ByteArray} (h : s.size ≤ 65536) : (plS k s).size ≤ 65536 := by
  unfold plS; split
  · exact h
  · exact Nat.zero_le _
theorem gv_pv (k n : Nat) (s : ByteArray) (r : List Nat) (hn : n < 18446744073709551616) (hs : s.size ≤ 65536) : gv k (some (pv k n s ++ r)) = (plN k n, sb (plS k s), some r) := by
  have e0 : sb ⟨#[]⟩ = [] := rfl
  rcases kinds k with hj | hj | hj | hj
  · have e1 : plN k n = n := by unfold plN; rw [if_neg (by omega), if_neg (by omega)]
    have e2 : plS k s = ⟨#[]⟩ := by unfold plS; rw [if_neg (by omega)]
    have e3 : pv k n s = digs n := by unfold pv; rw [if_pos hj]
    rw [e1, e2, e3, e0]
    unfold gv
    rw [if_pos hj, stepR_yes (rdU_digs n hn r)]
  · have e1 : plN k n = n := by unfold plN; rw [if_neg (by omega), if_neg (by omega)]
    have e2 : plS k s = ⟨#[]⟩ := by unfold plS; rw [if_neg (by omega)]
    have e3 : pv k n s = digs (zig (i64 n)) := by unfold pv; rw [if_neg (by omega), if_pos hj]
    have h1 : rdI (digs (zig (i64 n)) ++ r) = some (i64 n, r) := by unfold rdI; rw [rdU_digs _ (zig_lt (i64_in hn)) r]; simp only [Option.map_some, zag_zig]
    rw [e1, e2, e3, e0]
    unfold gv
    rw [if_neg (by omega), if_pos hj, stepR_yes h1, u64_i64 hn]
  · have e1 : plN k n = 0 := by unfold plN; rw [if_pos hj]
    have e2 : plS k s = s := by unfold plS; rw [if_pos hj]
    have e3 : pv k n s = digs s.size ++ sb s := by unfold pv; rw [if_neg (by omega), if_neg (by omega), if_pos hj]
    have h1 : rdT (digs s.size ++ sb s ++ r) = some (sb s, r) := by
      unfold rdT
      rw [List.append_assoc, rdU_digs _ (by omega) _]
      have hl := sb_len s
      dsimp only
      rw [if_pos ⟨hs, by rw [List.length_append]; omega⟩, ← hl, List.take_left, List.drop_left]
    rw [e1, e2, e3]
    unfold gv
    rw [if_neg (by omega), if_neg (by omega), if_pos hj, stepR_yes h1]
  · have e1 : plN k n = n % 2 := by unfold plN; rw [if_neg (by omega), if_pos hj]
    have e2 : plS k s = ⟨#[]⟩ := by unfold plS; rw [if_neg (by omega)]
    have e3 : pv k n s = digs (if n % 2 = 1 then 1 else 0) := by unfold pv; rw [if_neg (by omega), if_neg (by omega), if_neg (by omega)]
    have h1 : rdB (digs (if n % 2 = 1 then 1 else 0) ++ r) = some (decide (n % 2 = 1), r) := by
      unfold rdB
      rw [rdU_digs _ (by split <;> omega) r]
      by_cases h2 : n % 2 = 1
      · simp [h2]
      · simp [h2]
    rw [e1, e2, e3, e0]
    unfold gv
    rw [if_neg (by omega), if_neg (by omega), if_neg (by omega), stepR_yes h1]
    by_cases h2 : n % 2 = 1
    · simp [h2]
    · have h3 : n % 2 = 0 := by omega
      simp [h3]
theorem pv_lt (k n : Nat) (s : ByteArray) : ∀ c ∈ pv k n s, c < 256 := by
  intro c hc
  unfold pv at hc
  split at hc
  · exact digs_lt _ c hc
  · split at hc
    · exact digs_lt _ c hc
    · split at hc
      · rcases List.mem_append.1 hc with hc | hc
        · exact digs_lt _ c hc
        · exact sb_lt s c hc
      · exact digs_lt _ c hc
theorem pvs_lt (xs : List Val) : ∀ c ∈ pvs xs, c < 256 := by
  induction xs with
  | nil => intro c hc; cases hc
  | cons x l ih =>
    intro c hc
    rcases List.mem_append.1 hc with hc | hc
    · exact pv_lt _ _ _ c hc
    · exact ih c hc
theorem pv_pos (k n : Nat) (s : ByteArray) : 0 < (pv k n s).length := by
  unfold pv
  split
  · exact digs_pos _
  · split
    · exact digs_pos _
    · split
      · rw [List.length_append]; have := digs_pos s.size; omega
      · exact digs_pos _
/-- A value whose last byte is missing is no value. -/
theorem gv_short (k n : Nat) (s : ByteArray) (hn : n < 18446744073709551616) (hs : s.size ≤ 65536) : (gv k (some (pv k n s).dropLast)).2.2 = none := by
  obtain ⟨N, S, st, hg⟩ : ∃ N S st, gv k (some (pv k n s).dropLast) = (N, S, st) := ⟨_, _, _, rfl⟩
  rw [hg]
  cases st with
  | none => rfl
  | some r =>
    exfalso
    have hne : pv k n s ≠ [] := by intro e; have := pv_pos k n s; rw [e] at this; exact absurd this (by decide)
    have h1 := gv_one (fun c hc => pv_lt k n s c ((List.dropLast_sublist _).subset hc)) hg
    have h2 := List.dropLast_concat_getLast hne
    rw [h1, List.append_assoc] at h2
    have h3 := gv_pv k n s [] hn hs
    rw [List.append_nil, ← h2, gv_pv k N (str S) _ (gv_n hg) (by rw [str_size]; exact gv_s hg)] at h3
    injection h3 with _ h3
    injection h3 with _ h3
    injection h3 with h3
    exact absurd h3 (by simp)
theorem drop_one (xs : List Val) (j : Nat) (h : j < xs.length) : xs.drop j = xs.getD j zv :: xs.drop (j + 1) := by
  rw [List.drop_eq_getElem_cons h, List.getD_eq_getElem?_getD, List.getElem?_eq_getElem h]; rfl
theorem pvs_drop (xs : List Val) (j : Nat) (h : j < xs.length) : pvs (xs.drop j) = pv (xs.getD j zv).k (xs.getD j zv).n (xs.getD j zv).s ++ pvs (xs.drop (j + 1)) := by
  rw [drop_one xs j h]; rfl
theorem pvs_all (xs : List Val) : pvs (xs.drop xs.length) = [] := by rw [List.drop_length]; rfl
theorem pvs_pos {xs : List Val} (h : xs ≠ []) : pvs xs ≠ [] := by
  cases xs with
  | nil => exact absurd rfl h
  | cons x l =>
    intro e
    have h1 := pv_pos x.k x.n x.s
    have h2 : (pvs (x :: l)).length = 0 := by rw [e]; rfl
    rw [pvs, List.length_append] at h2
    omega
/-- What is left of the bytes but the last one, behind j values. -/
def cutAt (xs : List Val) (j : Nat) : Option (List Nat) := if j < xs.length then some (pvs (xs.drop j)).dropLast else none
theorem cut_next (xs : List Val) (j : Nat) (h : j < xs.length) (hn : (xs.getD j zv).n < 18446744073709551616) (hs : (xs.getD j zv).s.size ≤ 65536) : (gv (xs.getD j zv).k (cutAt xs j)).2.2 = cutAt xs (j + 1) := by
  unfold cutAt
  rw [if_pos h, pvs_drop xs j h]
  by_cases h2 : j + 1 < xs.length
  · have hne : xs.drop (j + 1) ≠ [] := by
      intro e
      have h3 : (xs.drop (j + 1)).length = 0 := by rw [e]; rfl
      rw [List.length_drop] at h3
      omega
    rw [if_pos h2, List.dropLast_append_of_ne_nil (pvs_pos hne), gv_pv _ _ _ _ hn hs]
  · have e : j + 1 = xs.length := by omega
    rw [if_neg h2, e, pvs_all, List.append_nil]
    exact gv_short _ _ _ hn hs
end Go.Proofs.Ytnkmiigcglddmaa.Wire
