/- What came in; readings grow shorter; equal values. -/
import Derived.Test.YtnkmiigcglddmaaW14
import Derived.Laws.StructEq
namespace Go.Proofs.Ytnkmiigcglddmaa.Wire
open Go.RowKit Go.ChangeShapes
set_option linter.unusedVariables false
set_option linter.unusedSimpArgs false

/-! A slice of bytes that came in. -/
def IsRow (k : IntKind) (w : World) (a : Option Addr) (len cap : Nat) (zs : List Int) : Prop :=
  (a = none ∧ len = 0 ∧ cap = 0 ∧ zs = []) ∨
  ∃ x, a = some x ∧ len ≤ cap ∧ cap ≤ maxLen ∧ zs.length = cap ∧ (∀ i, i < zs.length → w.cell? (x.add i) = some (.int k (zs.getD i 0))) ∧ ∀ n ∈ zs, (Lit.int k n).wf = true
/-- All that was there. -/
def Old (w : World) (k : Nat) : Prop := k < w.heap.size
theorem row_bs {w : World} {a : Option Addr} {len cap : Nat} {zs : List Int} (h : IsRow .u8 w a len cap zs) :
    ∃ l : List Nat, l.length = len ∧ Bs w (Old w) (.slice a len cap) l := by
  rcases h with ⟨rfl, rfl, rfl, rfl⟩ | ⟨⟨b, off, spot⟩, rfl, hl, hm, hz, hcell, hwz⟩
  · exact ⟨[], rfl, Bs.nil _ _ _ _⟩
  · have e : ((zs.take len).map Int.toNat).length = len := by rw [List.length_map, List.length_take]; omega
    refine ⟨(zs.take len).map Int.toNat, e, ⟨fun c hc => ?_, some ⟨b, off, spot⟩, cap, by rw [e], by rw [e]; exact hl, fun hp => ?_⟩⟩
    · obtain ⟨z, hz1, rfl⟩ := List.mem_map.1 hc
      have hb := bounds_u8 (hwz z (List.mem_of_mem_take hz1))
      omega
    · rw [e] at hp
      have h0 := hcell 0 (by omega)
      have hspot : spot = none := by simpa [Addr.add] using World.cell?_spot h0
      subst hspot
      have h0' := hcell 0 (by omega)
      refine ⟨b, off, rfl, ?_, fun i hi => ?_⟩
      · rw [addr_add] at h0'; exact World.block_lt_of_cell? w _ h0'
      · rw [e] at hi
        have hi2 : i < zs.length := by omega
        have hc := hcell i hi2
        rw [addr_add] at hc
        rw [hc]
        have hb := bounds_u8 (hwz (zs[i]) (List.getElem_mem hi2))
        rw [List.getD_eq_getElem?_getD, List.getElem?_eq_getElem hi2, List.getD_eq_getElem?_getD, List.getElem?_map, List.getElem?_take_of_lt hi, List.getElem?_eq_getElem hi2]
        show some (Value.int .u8 zs[i]) = some (.int .u8 ((zs[i]).toNat : Int))
        rw [Int.toNat_of_nonneg hb.1]
theorem Bs.late {w W : World} {v : Value} {l : List Nat} (h : Bs w (Old w) v l) (hb : Below w.heap.size w W) : Bs W (Old w) v l := h.kept fun k hk => hb.block k hk
theorem Bs.at_ {w : World} {F : Nat → Prop} {a : Option Addr} {n cap : Nat} {l : List Nat} (h : Bs w F (.slice a n cap) l) {i : Nat} (hi : i < l.length) : ∃ b off, a = some ⟨b, off, none⟩ ∧ w.cell? ⟨b, off + i, none⟩ = some (.int .u8 (l.getD i 0 : Nat)) := by
  obtain ⟨_, a', cap', hv, _, hc⟩ := h
  injection hv with e1 e2 e3
  subst e1
  obtain ⟨b, off, ha, _, hcell⟩ := hc (by omega)
  exact ⟨b, off, ha, hcell i hi⟩
theorem cutA_zero (a : Option Addr) (cap : Nat) : cutA a cap 0 = a := by
  have e : ∀ x : Addr, x.add 0 = x := fun x => by cases x; simp [Addr.add]
  unfold cutA
  split
  · rfl
  · cases a with
    | none => rfl
    | some x => simp [e]
theorem upto_run (a : Option Addr) (len cap hi : Nat) (h2 : hi ≤ cap) (w : World) :
    (Instr.slice 35 (.slice a len cap) none (some (.int .i64 (hi : Int))) none).run Try.prog w = .ok (.slice a hi cap) w := by
  have := head_run .i64 a len cap hi h2 w
  rwa [cutA_zero] at this
theorem Bs.upto {w : World} {F : Nat → Prop} {a : Option Addr} {n cap : Nat} {l : List Nat} (h : Bs w F (.slice a n cap) l) (j : Nat) (hj : j ≤ l.length) : Bs w F (.slice a j cap) (l.take j) := by
  have := h.head j hj
  rwa [cutA_zero] at this

/-! Readings grow shorter. -/
theorem rdNum_len : ∀ {l r : List Nat} {n : Nat}, rdNum l = some (n, r) → r.length < l.length
  | [], _, _, h => by cases h
  | c :: l, r, n, h => by
    rw [rdNum] at h
    by_cases h1 : c < 128
    · rw [if_pos h1] at h; cases h; simp
    · rw [if_neg h1] at h
      cases h2 : rdNum l with
      | none => rw [h2] at h; cases h
      | some x =>
        obtain ⟨m, r'⟩ := x
        rw [h2] at h
        dsimp only at h
        have ih := rdNum_len h2
        by_cases h3 : m = 0
        · rw [if_pos h3] at h; cases h
        · rw [if_neg h3] at h; cases h; simp; omega
theorem rdU_len {l r : List Nat} {n : Nat} (h : rdU l = some (n, r)) : r.length < l.length := by
  rw [rdU] at h
  cases h2 : rdNum l with
  | none => rw [h2] at h; cases h
  | some x =>
    obtain ⟨m, r'⟩ := x
    rw [h2] at h
    dsimp only at h
    by_cases h3 : m < 18446744073709551616
    · rw [if_pos h3] at h; cases h; exact rdNum_len h2
    · rw [if_neg h3] at h; cases h
theorem rdI_len {l r : List Nat} {a : Int} (h : rdI l = some (a, r)) : r.length < l.length := by
  unfold rdI at h
  cases h2 : rdU l with
  | none => rw [h2] at h; cases h
  | some x => rw [h2] at h; obtain ⟨n, r'⟩ := x; cases h; exact rdU_len h2
theorem rdT_len {l r s : List Nat} (h : rdT l = some (s, r)) : r.length < l.length := by
  unfold rdT at h
  cases h2 : rdU l with
  | none => rw [h2] at h; cases h
  | some x =>
    obtain ⟨n, r'⟩ := x
    rw [h2] at h
    dsimp only at h
    by_cases h3 : n ≤ 65536 ∧ n ≤ r'.length
    · rw [if_pos h3] at h; cases h
      have := rdU_len h2
      rw [List.length_drop]; omega
    · rw [if_neg h3] at h; cases h
theorem rdB_len {l r : List Nat} {b : Bool} (h : rdB l = some (b, r)) : r.length < l.length := by
  unfold rdB at h
  cases h2 : rdU l with
  | none => rw [h2] at h; cases h
  | some x =>
    obtain ⟨n, r'⟩ := x
    rw [h2] at h
    dsimp only at h
    by_cases h3 : n ≤ 1
    · rw [if_pos h3] at h; cases h; exact rdU_len h2
    · rw [if_neg h3] at h; cases h
def left (st : Option (List Nat)) : Nat := (st.getD []).length
theorem stepR_left {α : Type} {z : α} {rd : List Nat → Option (α × List Nat)} (hrd : ∀ l x r, rd l = some (x, r) → r.length < l.length) (st : Option (List Nat)) : left (stepR z rd st).2 ≤ left st := by
  cases st with
  | none => exact Nat.le_refl _
  | some l =>
    cases h : rd l with
    | none => rw [stepR_no h]; exact Nat.zero_le _
    | some x => obtain ⟨x, r⟩ := x; rw [stepR_yes h]; exact Nat.le_of_lt (hrd l x r h)
theorem gv_left (k : Nat) (st : Option (List Nat)) : left (gv k st).2.2 ≤ left st := by
  unfold gv
  split
  · exact stepR_left (fun _ _ _ => rdU_len) st
  · split
    · exact stepR_left (fun _ _ _ => rdI_len) st
    · split
      · exact stepR_left (fun _ _ _ => rdT_len) st
      · exact stepR_left (fun _ _ _ => rdB_len) st
theorem gv_none (k : Nat) : gv k none = (0, [], none) := by
  unfold gv
  split
  · rfl
  · split
    · rfl
    · split <;> rfl

/-- A value is equal to itself. -/
theorem eq_vl (k n : Int) (s : ByteArray) (w : World) : (Op.equalIn 10000 TV (.agg #[.int .u8 k, .int .u64 n, .string s]) (.agg #[.int .u8 k, .int .u64 n, .string s])).run Try.prog w = .ok true w := by
  simp [go_sem]
end Go.Proofs.Ytnkmiigcglddmaa.Wire
