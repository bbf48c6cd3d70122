/- Appends of bytes and of texts onto a row of the call's own; bytes as texts; bytes.Clone, bytes.Equal. -/
import Derived.Test.YtnkmiigcglddmaaW02
import Derived.Laws.BytesString
import Derived.Lib.SliceRun
namespace Go.Proofs.Ytnkmiigcglddmaa.Wire
open Go.RowKit Go.ChangeShapes
set_option linter.unusedVariables false

theorem own_form {w : World} {base n size : Nat} {e : TypeId} {v : Value} {xs : List Value} (h : w.ownsRow base e size v n xs) : ∃ a cap, v = .slice a n cap := by
  rcases h.2 with ⟨rfl, rfl⟩ | ⟨g, cap, cur, rfl, _⟩
  · exact ⟨none, 0, rfl⟩
  · exact ⟨_, cap, rfl⟩
theorem run_append_b (base : Nat) (w : World) (ty : TypeId) (v : Value) (n : Nat) (xs : List Value) (hown : w.ownsRow base 5 1 v n xs)
    (F : Nat → Prop) (A : Option Addr) (m c : Nat) (l : List Nat) (hb : Bs w F (.slice A m c) l) (h63 : n + m ≤ 1000000000) (hbase : base ≤ w.heap.size) :
    ∃ v' w', (Builtin.append_ #[35, 35] ty #[v, .slice A m c]).run Try.prog w = .ok v' w' ∧ w'.ownsRow base 5 1 v' (n + m) (xs ++ bv l) ∧ w.grownBy w' v.ownBlock ∧ (v'.ownBlock = v.ownBlock ∨ v'.ownBlock = some w.heap.size) := by
  obtain ⟨i0, hi, hz0, hz1, hz2⟩ := info_parts info_u8
  obtain ⟨h8, A', c', hv, hcap, hc⟩ := hb
  injection hv with e1 e2 e3
  subst e1 e2 e3
  cases A with
  | none =>
    have h0 : l.length = 0 := by
      rcases Nat.eq_zero_or_pos l.length with h1 | h1
      · exact h1
      · obtain ⟨b, off, e, _⟩ := hc h1
        cases e
    have hl := List.eq_nil_of_length_eq_zero h0
    subst hl
    have hrun : (Builtin.append_ #[35, 35] ty #[v, .slice none 0 c]).run Try.prog w = .ok v w := by
      rcases hown.2 with ⟨rfl, rfl⟩ | ⟨g, cap, cur, rfl, _, _, hnc, _⟩
      · simp [Builtin.append_, run_underlying Try.underlying35, sizeOf, typeInfo, hi, Builtin.lenOf, Builtin.firstCells]
      · simp [Builtin.append_, run_underlying Try.underlying35, sizeOf, typeInfo, hi, Builtin.lenOf, Builtin.firstCells, hnc, storeCells]
    exact ⟨v, w, hrun, by simpa [bv] using hown, World.grownBy.refl w _, .inl rfl⟩
  | some ad =>
    obtain ⟨v', w', h1, h2, h3, _, h5⟩ := run_append_own_at (P := Try.prog) w base 35 ty 5 i0 (.int .u8 0) 1 1 Try.underlying35 hi hz0 hz1 hz2 rfl (by decide) v n xs hown ad l.length c (bv l) (by rw [bv_len]; omega) (fun j u hu => by
      obtain ⟨hj, rfl⟩ := bv_get l j u hu
      obtain ⟨b, off, e, _, hcell⟩ := hc (by omega)
      cases e
      rw [addr_add, hcell j hj]) (bv_one l) (by unfold maxLen; omega) (by omega) hbase
    exact ⟨v', w', h1, h2, h3, h5⟩
theorem wpList_append_b {ops : Array Oper} {rest : List Oper} {o : Oper} {a : Act} {w : World} {Q : Exit → Act → World → Prop} (hgd : o.guard = none) (s x : Operand)
    (ho : o.op = .call { callee := .builtin .append, args := #[s, x], argTypes := #[35, 35] })
    (base : Nat) (v : Value) (n : Nat) (xs : List Value) (hs : a.eval s = v) (hown : w.ownsRow base 5 1 v n xs)
    (F : Nat → Prop) (A : Option Addr) (m c : Nat) (l : List Nat) (hx : a.eval x = .slice A m c) (hb : Bs w F (.slice A m c) l) (h63 : n + m ≤ 1000000000) (hbase : base ≤ w.heap.size)
    (h : ∀ v' w', w'.ownsRow base 5 1 v' (n + m) (xs ++ bv l) → w.grownBy w' v.ownBlock → (v'.ownBlock = v.ownBlock ∨ v'.ownBlock = some w.heap.size) → wpList Try.prog ops Q rest (a.put o.dst v') w') :
    wpList Try.prog ops Q (o :: rest) a w := by
  refine wpList_plain hgd fun K hK => ?_
  obtain ⟨v', w', hrun, h1, h2, h3⟩ := run_append_b base w o.type v n xs hown F A m c l hb h63 hbase
  unfold Oper.wp execOp
  simp only [ho, resolve, invoke, builtin, Sem.run_bind, Sem.run_pure, Result.andThen_ok, List.map_toArray, List.map_cons, List.map_nil, hs, hx, hrun]
  exact hK _ _ (h v' w' h1 h2 h3)

/-! Texts. -/
def sb (s : ByteArray) : List Nat := s.data.toList.map UInt8.toNat
def str (l : List Nat) : ByteArray := ⟨(l.map UInt8.ofNat).toArray⟩
theorem sb_len (s : ByteArray) : (sb s).length = s.size := by unfold sb; rw [List.length_map, Array.length_toList]; rfl
theorem sb_lt (s : ByteArray) : ∀ c ∈ sb s, c < 256 := by
  intro c hc
  unfold sb at hc
  obtain ⟨b, _, rfl⟩ := List.mem_map.1 hc
  exact b.toNat_lt
theorem sb_cells (s : ByteArray) : Lib.strCells s = bv (sb s) := by simp [Lib.strCells, bv, sb, List.map_map, Function.comp_def]
theorem str_sb (s : ByteArray) : str (sb s) = s := by
  apply ByteArray.ext
  apply Array.ext'
  simp [str, sb, List.map_map, Function.comp_def]
theorem sb_str (l : List Nat) (h : ∀ c ∈ l, c < 256) : sb (str l) = l := by
  unfold sb str
  rw [List.map_map]
  conv => rhs; rw [← List.map_id l]
  refine List.map_congr_left fun c hc => ?_
  have := h c hc
  simp
  omega
theorem str_size (l : List Nat) : (str l).size = l.length := by simp [str, ByteArray.size]
theorem str_inj {l m : List Nat} (hl : ∀ c ∈ l, c < 256) (hm : ∀ c ∈ m, c < 256) (h : str l = str m) : l = m := by rw [← sb_str l hl, ← sb_str m hm, h]
set_option maxRecDepth 100000 in
theorem run_append_s (base : Nat) (w : World) (ty : TypeId) (v : Value) (n : Nat) (xs : List Value) (hown : w.ownsRow base 5 1 v n xs) (s : ByteArray) (h63 : n + s.size ≤ 1000000000000) (hbase : base ≤ w.heap.size) :
    ∃ v' w', (Builtin.append_ #[35, 9] ty #[v, .string s]).run Try.prog w = .ok v' w' ∧ w'.ownsRow base 5 1 v' (n + s.size) (xs ++ bv (sb s)) ∧ w.grownBy w' v.ownBlock ∧ (v'.ownBlock = v.ownBlock ∨ v'.ownBlock = some w.heap.size) := by
  obtain ⟨i0, hi, hz0, hz1, hz2⟩ := info_parts info_u8
  have hm : n + s.size ≤ maxLen := by unfold maxLen; omega
  obtain ⟨v', w', h1, h2, h3, _⟩ := Lib.run_append_own_string (P := Try.prog) w base 35 9 ty 5 i0 Try.underlying35 Try.underlying9 hi hz0 hz1 hz2 v n xs hown s hm (by omega) hbase
  rw [sb_cells] at h2
  refine ⟨v', w', h1, h2, h3, ?_⟩
  have hxl : xs.length = n := by simpa using hown.1
  rcases hown.2 with ⟨rfl, rfl⟩ | ⟨g, cap, cur, rfl, hbg, hg, hnc, hcm, hcs, htake⟩
  · rcases h2.2 with ⟨rfl, _⟩ | ⟨g', cap', cur', rfl, _, hg', _⟩
    · exact .inl rfl
    · right
      by_cases hs0 : s.size = 0
      · exfalso
        have hf := Lib.run_firstCells_string (P := Try.prog) w 1 s
        rw [hs0] at hf
        have hr : (Builtin.append_ #[35, 9] ty #[.slice none 0 0, .string s]).run Try.prog w = .ok (.slice none 0 0) w := by
          simp [Builtin.append_, run_underlying Try.underlying35, run_underlying Try.underlying9, sizeOf, typeInfo, hi, hz1, Builtin.lenOf, hs0, hf]
        rw [hr] at h1
        injection h1 with h1
        injection h1 with h1
        cases h1
      · have hr := run_append_nil_string (P := Try.prog) w 35 9 ty 5 i0 (.int .u8 0) Try.underlying35 Try.underlying9 hi hz0 s (by omega) (by omega) (by rw [hz2]; omega)
        rw [hr] at h1
        injection h1 with h1
        rw [← h1]
        rfl
  · by_cases hroom : n + s.size ≤ cap
    · have hr := Lib.run_append_room_string (P := Try.prog) w 35 9 ty 5 i0 Try.underlying35 Try.underlying9 hi hz1 g n cap cur hg s hroom (by omega)
      rw [hr] at h1
      injection h1 with h1
      rw [← h1]
      exact .inl rfl
    · have holds : ∀ j u, xs[j]? = some u → w.cell? ((⟨g, 0, none⟩ : Addr).add j) = some u := hown.cells (g := g) rfl
      have hr := Lib.run_append_grow_string (P := Try.prog) w 35 9 ty 5 i0 (.int .u8 0) Try.underlying35 Try.underlying9 hi hz0 ⟨g, 0, none⟩ n cap xs (by rw [hz1]; omega) holds s (by omega) (by omega) (by rw [hz2]; exact growslice_fits (by omega) (by omega))
      rw [hr] at h1
      injection h1 with h1
      rw [← h1]
      exact .inr rfl
theorem wpList_append_s {ops : Array Oper} {rest : List Oper} {o : Oper} {a : Act} {w : World} {Q : Exit → Act → World → Prop} (hgd : o.guard = none) (sl x : Operand)
    (ho : o.op = .call { callee := .builtin .append, args := #[sl, x], argTypes := #[35, 9] })
    (base : Nat) (v : Value) (n : Nat) (xs : List Value) (hs : a.eval sl = v) (hown : w.ownsRow base 5 1 v n xs) (s : ByteArray) (hx : a.eval x = .string s) (h63 : n + s.size ≤ 1000000000000) (hbase : base ≤ w.heap.size)
    (h : ∀ v' w', w'.ownsRow base 5 1 v' (n + s.size) (xs ++ bv (sb s)) → w.grownBy w' v.ownBlock → (v'.ownBlock = v.ownBlock ∨ v'.ownBlock = some w.heap.size) → wpList Try.prog ops Q rest (a.put o.dst v') w') :
    wpList Try.prog ops Q (o :: rest) a w := by
  refine wpList_plain hgd fun K hK => ?_
  obtain ⟨v', w', hrun, h1, h2, h3⟩ := run_append_s base w o.type v n xs hown s h63 hbase
  unfold Oper.wp execOp
  simp only [ho, resolve, invoke, builtin, Sem.run_bind, Sem.run_pure, Result.andThen_ok, List.map_toArray, List.map_cons, List.map_nil, hs, hx, hrun]
  exact hK _ _ (h v' w' h1 h2 h3)
theorem foldl_push (l : List Nat) : ∀ s : ByteArray, (l.map fun c : Nat => (c : Int)).foldl (fun (r : ByteArray) n => r.push (UInt8.ofNat n.toNat)) s = ⟨s.data ++ (l.map UInt8.ofNat).toArray⟩ := by
  induction l with
  | nil => intro s; simp
  | cons c l ih =>
    intro s
    rw [List.map_cons, List.foldl_cons, ih]
    simp [ByteArray.push]
set_option maxRecDepth 100000 in
/-- Bytes as a text. -/
theorem bs_str {w : World} {F : Nat → Prop} {a : Option Addr} {n cap : Nat} {l : List Nat} (h : Bs w F (.slice a n cap) l) :
    (convert 35 9 (.slice a n cap)).run Try.prog w = .ok (.string (str l)) w := by
  obtain ⟨h8, a', cap', hv, _, hc⟩ := h
  injection hv with e1 e2 e3
  subst e1 e2 e3
  rw [run_convert_bytes_string w _ _ _ _ _ _ Try.underlying35 Try.underlying5 Try.underlying9]
  rcases Nat.eq_zero_or_pos l.length with h0 | h0
  · have hl := List.eq_nil_of_length_eq_zero h0
    subst hl
    cases a with
    | none => rfl
    | some x => exact run_bytesToString w x 0 cap [] (by simp [loadCells, loadCellsFrom])
  · obtain ⟨b, off, rfl, _, hcell⟩ := hc h0
    have hl : (loadCells ⟨b, off, none⟩ (bv l).length).run Try.prog w = .ok (bv l).toArray w :=
      run_loadCells_list (P := Try.prog) w ⟨b, off, none⟩ _ (fun j v hv => by
        obtain ⟨hj, rfl⟩ := bv_get l j v hv
        rw [addr_add, hcell j hj])
    rw [bv_len] at hl
    have e : bv l = (l.map fun c : Nat => (c : Int)).map (Value.int .u8) := by unfold bv; rw [List.map_map]; rfl
    rw [e] at hl
    rw [run_bytesToString w _ _ _ _ hl, foldl_push]
    simp [str]

/-- The call gives back a slice of its own that reads as l; what was there before is as it was. -/
def Owned (w : World) (l : List Nat) (e : Ending) (w' : World) : Prop := ∃ v, e = .returned v ∧ w'.ownsRow w.heap.size 5 1 v l.length (bv l) ∧ Below w.heap.size w w'
theorem ge_size {w : World} : ∀ k, (Value.slice (some ⟨w.heap.size, 0, none⟩) 0 0).ownBlock = some k → w.heap.size ≤ k := by
  intro k h
  have h2 : w.heap.size = k := by simpa [Value.ownBlock] using h
  omega
set_option maxRecDepth 100000 in
theorem clone_any (F : Nat → Prop) (v : Value) (l : List Nat) (w : World) (hv : Bs w F v l) (hF : ∀ k, F k → k < w.heap.size) (hl : l.length ≤ 100000000) :
    Calls Try.prog 22 #[v] w (Owned w l) := by
  have hv0 := hv
  obtain ⟨h8, a, cap, rfl, _, _⟩ := hv0
  have hnil := fun w' => Lib.run_eql_slice_nil (P := Try.prog) w' 35 5 a l.length cap 0 0 Try.underlying35
  cases a with
  | none =>
    have h0 : l.length = 0 := by
      rcases Nat.eq_zero_or_pos l.length with h1 | h1
      · exact h1
      · obtain ⟨_, a', c', e, _, hc⟩ := hv
        injection e with e1
        subst e1
        obtain ⟨b, off, e, _⟩ := hc h1
        cases e
    have hl := List.eq_nil_of_length_eq_zero h0
    subst hl
    clear hnil hv
    have hnil : ∀ w' : World, (binOp .eql 35 (.slice none 0 cap) (.slice none 0 0)).run Try.prog w' = .ok (.bool true) w' := fun w' => Lib.run_eql_slice_nil (P := Try.prog) w' 35 5 none 0 cap 0 0 Try.underlying35
    show Calls _ _ #[.slice none 0 cap] _ _
    go_enter Try.func22, Try.ntmps22
    go_wp2
    go_ret
    exact ⟨_, rfl, ⟨rfl, .inl ⟨rfl, rfl⟩⟩, Below.refl _ _⟩
  | some ad =>
    have hb := hv.kept (Same.of_below ((Below.refl w.heap.size w).alloc (Nat.le_refl _) (.cells #[] 5)) hF)
    have hown := World.ownsRow_made (e := 5) (size := 1) w #[] 0 (Nat.le_refl _) (Nat.zero_le _) rfl
    have HB := Lib.hid hb
    have HO := Lib.hid hown
    clear hb hown hv
    go_enter Try.func22, Try.ntmps22
    go_wp2_with (at_builtin; refine wpList_append_b rfl _ _ rfl w.heap.size _ 0 [] rfl HO.out F (some ad) l.length cap l rfl HB.out (by omega) (by simp) ?_; intro v' w2 hown2 hg _)
    have hb2 : Below w.heap.size w w2 := ((Below.refl w.heap.size w).alloc (Nat.le_refl _) _).grown hg (by simp) ge_size
    go_wp2
    go_ret
    exact ⟨v', rfl, by simpa using hown2, hb2⟩
theorem beq_str (l m : List Nat) (hl : ∀ c ∈ l, c < 256) (hm : ∀ c ∈ m, c < 256) : (str l).toList == (str m).toList ↔ l = m := by
  constructor
  · intro h
    have h1 : str l = str m := by
      have h2 : (str l).toList = (str m).toList := by simpa using h
      rw [ByteArray.toList_eq, ByteArray.toList_eq] at h2
      apply ByteArray.ext
      exact Array.ext' h2
    exact str_inj hl hm h1
  · rintro rfl; simp
theorem equal_any (F G : Nat → Prop) (v u : Value) (l m : List Nat) (w : World) (hv : Bs w F v l) (hu : Bs w G u m) :
    Calls Try.prog 19 #[v, u] w fun e w' => e = .returned (.bool (decide (l = m))) ∧ w = w' := by
  have h8 := hv.1
  have k8 := hu.1
  have hv0 := hv
  have hu0 := hu
  obtain ⟨_, a, cap, rfl, _, _⟩ := hv0
  obtain ⟨_, b, cap2, rfl, _, _⟩ := hu0
  have hs := bs_str hv
  have ks := bs_str hu
  clear hv hu
  by_cases h : l = m
  · have hd : ((str l).toList == (str m).toList) = true := (beq_str l m h8 k8).2 h
    rw [decide_eq_true h]
    clear h
    go_enter Try.func19, Try.ntmps19
    go_wp2
    go_ret
    exact ⟨by first | rfl | (simp [hd]; done) | (congr; done), rfl⟩
  · have hd : ((str l).toList == (str m).toList) = false := by
      cases h2 : ((str l).toList == (str m).toList) with
      | false => rfl
      | true => exact absurd ((beq_str l m h8 k8).1 h2) h
    rw [decide_eq_false h]
    clear h
    go_enter Try.func19, Try.ntmps19
    go_wp2
    go_ret
    exact ⟨by first | rfl | (simp [hd]; done), rfl⟩
end Go.Proofs.Ytnkmiigcglddmaa.Wire
