/- Bytes in memory and footprints; appends of bytes; bytes as texts; bytes.Clone. -/
import Derived.Test.YtojeccmnhgcmcaaDoorF01
import Derived.WalkKit
import Derived.Lib.Hide
import Derived.Below
import Derived.ChangeOld
import Derived.BigQuiet
import Derived.Deep.QuietTactic
import Derived.Maps.AppendAt
import Derived.Laws.OwnMore
import Derived.OwnWalk
import Derived.Lib.AppendStr
import Derived.OpenShut
import Derived.Laws.BytesString
import Derived.Lib.SliceRun
namespace Go.Proofs.YtojeccmnhgcmcaaDoor.Frame
open Go.RowKit Go.ChangeShapes
set_option linter.unusedVariables false

def bv (l : List Nat) : List Value := l.map fun c : Nat => Value.int .u8 (c : Nat)
theorem bv_len (l : List Nat) : (bv l).length = l.length := by simp [bv]
theorem bv_app (l m : List Nat) : bv l ++ bv m = bv (l ++ m) := by simp [bv]
theorem bv_one (l : List Nat) : ∀ u ∈ bv l, u.oneCell' = true := by intro v hv; obtain ⟨x, _, rfl⟩ := List.mem_map.1 hv; rfl
theorem bv_at (l : List Nat) (i : Nat) (h : i < l.length) : (bv l)[i]? = some (.int .u8 (l.getD i 0 : Nat)) := by
  unfold bv
  rw [List.getElem?_map, List.getElem?_eq_getElem h, List.getD_eq_getElem?_getD, List.getElem?_eq_getElem h]
  rfl
theorem bv_get (l : List Nat) (j : Nat) (v : Value) (h : (bv l)[j]? = some v) : j < l.length ∧ v = .int .u8 (l.getD j 0 : Nat) := by
  have hj : j < (bv l).length := by
    rcases Nat.lt_or_ge j (bv l).length with h1 | h1
    · exact h1
    · rw [List.getElem?_eq_none h1] at h; cases h
  rw [bv_len] at hj
  rw [bv_at l j hj] at h
  exact ⟨hj, (Option.some.inj h).symm⟩
theorem info_u8 : (Tryd.prog.info? 5).map (fun i => (i.zero, i.size, i.bytes)) = some (some (.int .u8 0), 1, 1) := by kernel_rfl
theorem addr_add (b off i : Nat) : (⟨b, off, none⟩ : Addr).add i = ⟨b, off + i, none⟩ := by unfold Addr.add; split <;> simp_all
theorem byte_lt {l : List Nat} (h : ∀ c ∈ l, c < 256) (i : Nat) : l.getD i 0 < 256 := by
  rw [List.getD_eq_getElem?_getD]
  rcases Nat.lt_or_ge i l.length with h1 | h1
  · rw [List.getElem?_eq_getElem h1]; exact h _ (List.getElem_mem h1)
  · rw [List.getElem?_eq_none h1]; decide

/-! What a step leaves as it was: all that was there but the blocks of F. -/
structure Keeps (F : Nat → Prop) (w w' : World) : Prop where
  os : w'.os = w.os
  tape : w'.tape = w.tape
  output : w'.output = w.output
  size : w.heap.size ≤ w'.heap.size
  block : ∀ k, k < w.heap.size → ¬ F k → w'.heap[k]? = w.heap[k]?
theorem Keeps.refl (F : Nat → Prop) (w : World) : Keeps F w w := ⟨rfl, rfl, rfl, Nat.le_refl _, fun _ _ _ => rfl⟩
theorem Keeps.of_below {F : Nat → Prop} {w w' : World} (h : Below w.heap.size w w') : Keeps F w w' := ⟨h.os, h.tape, h.output, h.size, fun k hk _ => h.block k hk⟩
/-- What lies between: F and all that is new. -/
def More (F : Nat → Prop) (w w' : World) (k : Nat) : Prop := F k ∨ (w.heap.size ≤ k ∧ k < w'.heap.size)
theorem Keeps.trans {F G : Nat → Prop} {a b c : World} (h : Keeps F a b) (k : Keeps G b c) (hG : ∀ i, G i → i < a.heap.size → F i) : Keeps F a c :=
  ⟨k.os.trans h.os, k.tape.trans h.tape, k.output.trans h.output, Nat.le_trans h.size k.size, fun i hi hn =>
    (k.block i (Nat.lt_of_lt_of_le hi h.size) (fun hg => hn (hG i hg hi))).trans (h.block i hi hn)⟩
theorem Keeps.next {F : Nat → Prop} {a b c : World} (h : Keeps F a b) (k : Keeps (More F a b) b c) : Keeps F a c :=
  h.trans k fun i hi hlt => hi.elim id (fun h => absurd hlt (by omega))
theorem Keeps.later {F : Nat → Prop} {a b c : World} (h : Keeps F a b) (k : Below b.heap.size b c) : Keeps F a c :=
  h.trans (Keeps.of_below (F := fun _ => False) k) fun i hi => hi.elim
theorem Keeps.below {F : Nat → Prop} {B : Nat} {w w' : World} (h : Keeps F w w') (hB : B ≤ w.heap.size) (hF : ∀ k, F k → B ≤ k) : Below B w w' :=
  ⟨h.os, h.tape, h.output, h.size, fun k hk => h.block k (by omega) (fun hf => by have := hF k hf; omega)⟩
theorem Keeps.wide {F G : Nat → Prop} {w w' : World} (h : Keeps F w w') (hF : ∀ k, F k → G k) : Keeps G w w' :=
  ⟨h.os, h.tape, h.output, h.size, fun k hk hn => h.block k hk (fun hf => hn (hF k hf))⟩
theorem Keeps.drew {F : Nat → Prop} {a w : World} (h : Keeps F a w) : Keeps F a w.drew := ⟨h.os, h.tape, h.output, h.size, h.block⟩
theorem Keeps.alloc {F : Nat → Prop} {a w : World} (h : Keeps F a w) (o : Obj) : Keeps F a (w.alloc o) :=
  h.later ((Below.refl _ _).alloc (Nat.le_refl _) _)
theorem Keeps.setCell {F : Nat → Prop} {a w : World} (h : Keeps F a w) {p : Addr} (hp : F p.block ∨ a.heap.size ≤ p.block) (u : Value) : Keeps F a (w.setCell p u) :=
  ⟨h.os, h.tape, h.output, by simp [World.setCell]; exact h.size, fun k hk hn => (Below.heap_setCell w p u k (fun e => by subst e; rcases hp with hp | hp; exact hn hp; omega)).trans (h.block k hk hn)⟩
theorem Keeps.grown {F : Nat → Prop} {a w w' : World} {row : Option Nat} (h : Keeps F a w) (hg : w.grownBy w' row) (hr : ∀ g, row = some g → F g ∨ a.heap.size ≤ g) : Keeps F a w' :=
  ⟨hg.os.trans h.os, hg.tape.trans h.tape, hg.output.trans h.output, Nat.le_trans h.size hg.size, fun k hk hn =>
    (hg.block k (Nat.lt_of_lt_of_le hk h.size) (fun e => by rcases hr k e.symm with h1 | h1; exact hn h1; omega)).trans (h.block k hk hn)⟩
/-- The blocks of F are as they were. -/
def Same (F : Nat → Prop) (w w' : World) : Prop := ∀ k, F k → w'.heap[k]? = w.heap[k]?
theorem Same.of_below {F : Nat → Prop} {w w' : World} (h : Below w.heap.size w w') (hF : ∀ k, F k → k < w.heap.size) : Same F w w' := fun k hk => h.block k (hF k hk)
theorem Same.of_keeps {F G : Nat → Prop} {w w' : World} (h : Keeps G w w') (hF : ∀ k, F k → k < w.heap.size) (hd : ∀ k, F k → ¬ G k) : Same F w w' := fun k hk => h.block k (hF k hk) (hd k hk)
theorem same_cell {F : Nat → Prop} {w w' : World} (h : Same F w w') {p : Addr} (hp : F p.block) : w'.cell? p = w.cell? p := World.cell?_of_block (w := w) (h p.block hp)

/-! A slice of bytes that reads as l, in blocks of F. -/
def Bs (w : World) (F : Nat → Prop) (v : Value) (l : List Nat) : Prop :=
  (∀ c ∈ l, c < 256) ∧ ∃ a cap, v = .slice a l.length cap ∧ l.length ≤ cap ∧ (0 < l.length → ∃ b off, a = some ⟨b, off, none⟩ ∧ F b ∧ ∀ i, i < l.length → w.cell? ⟨b, off + i, none⟩ = some (.int .u8 (l.getD i 0 : Nat)))
theorem Bs.kept {w w' : World} {F : Nat → Prop} {v : Value} {l : List Nat} (h : Bs w F v l) (hs : Same F w w') : Bs w' F v l := by
  obtain ⟨h8, a, cap, hv, hcap, h⟩ := h
  refine ⟨h8, a, cap, hv, hcap, fun hp => ?_⟩
  obtain ⟨b, off, ha, hF, hc⟩ := h hp
  exact ⟨b, off, ha, hF, fun i hi => (same_cell hs (p := ⟨b, off + i, none⟩) hF).trans (hc i hi)⟩
theorem Bs.wide {w : World} {F G : Nat → Prop} {v : Value} {l : List Nat} (h : Bs w F v l) (hF : ∀ k, F k → G k) : Bs w G v l := by
  obtain ⟨h8, a, cap, hv, hcap, h⟩ := h
  refine ⟨h8, a, cap, hv, hcap, fun hp => ?_⟩
  obtain ⟨b, off, ha, hF', hc⟩ := h hp
  exact ⟨b, off, ha, hF _ hF', hc⟩
theorem Bs.below {w w' : World} {v : Value} {l : List Nat} (h : Bs w (· < w.heap.size) v l) (hb : Below w.heap.size w w') : Bs w' (· < w'.heap.size) v l :=
  (h.kept (Same.of_below hb fun k hk => hk)).wide fun k hk => Nat.lt_of_lt_of_le hk hb.size
theorem Bs.nil (w : World) (F : Nat → Prop) (a : Option Addr) (cap : Nat) : Bs w F (.slice a 0 cap) [] :=
  ⟨fun c hc => absurd hc List.not_mem_nil, a, cap, rfl, Nat.zero_le _, fun hp => absurd hp (Nat.lt_irrefl 0)⟩
theorem own_bs {w : World} {base n : Nat} {v : Value} {l : List Nat} (h : w.ownsRow base 5 1 v n (bv l)) (h8 : ∀ c ∈ l, c < 256) : Bs w (fun k => v.ownBlock = some k) v l := by
  have hn : n = l.length := by have := h.1; rw [bv_len] at this; omega
  subst hn
  rcases h.2 with ⟨rfl, h0⟩ | ⟨g, cap, cur, hv, _, _, hnc, _⟩
  · have hl := List.eq_nil_of_length_eq_zero h0
    subst hl
    exact Bs.nil _ _ _ _
  · subst hv
    refine ⟨h8, _, _, rfl, hnc, fun hp => ⟨g, 0, rfl, rfl, fun i hi => ?_⟩⟩
    rw [Nat.zero_add, h.cellAt i (by omega), bv_at l i hi]
theorem own_lt {w : World} {base n : Nat} {e : TypeId} {v : Value} {xs : List Value} (h : w.ownsRow base e 1 v n xs) : ∀ k, v.ownBlock = some k → base ≤ k ∧ k < w.heap.size := h.lt
theorem own_kept {w w' : World} {base n : Nat} {e : TypeId} {v : Value} {xs : List Value} (h : w.ownsRow base e 1 v n xs) (hs : Same (fun k => v.ownBlock = some k) w w') : w'.ownsRow base e 1 v n xs := by
  refine ⟨h.1, ?_⟩
  rcases h.2 with hn | ⟨g, cap, cur, rfl, hbg, hg, rest⟩
  · exact .inl hn
  · exact .inr ⟨g, cap, cur, rfl, hbg, (hs g rfl).trans hg, rest⟩

theorem blk_cell {w : World} {g : Nat} {cs : Array Value} {e : TypeId} (h : w.heap[g]? = some (.cells cs e (0, 0))) (i : Nat) (v : Value) (hv : cs[i]? = some v) : w.cell? ⟨g, i, none⟩ = some v := by
  simp [World.cell?, h, hv]
theorem blk_frozen {w : World} {g : Nat} {cs : Array Value} {e : TypeId} (h : w.heap[g]? = some (.cells cs e (0, 0))) (i : Nat) : w.frozen? ⟨g, i, none⟩ = false := by
  simp [World.frozen?, h]
theorem blk_set {w : World} {g : Nat} {cs : Array Value} {e : TypeId} (h : w.heap[g]? = some (.cells cs e (0, 0))) (i : Nat) (u : Value) : (w.setCell ⟨g, i, none⟩ u).heap[g]? = some (.cells (cs.setIfInBounds i u) e (0, 0)) := by
  simp [World.setCell, Array.getElem?_modify, h]
theorem blk_lt {w : World} {g : Nat} {o : Obj} (h : w.heap[g]? = some o) : g < w.heap.size := (Array.getElem?_eq_some_iff.1 h).1
theorem own_form {w : World} {base n size : Nat} {e : TypeId} {v : Value} {xs : List Value} (h : w.ownsRow base e size v n xs) : ∃ a cap, v = .slice a n cap := by
  rcases h.2 with ⟨rfl, rfl⟩ | ⟨g, cap, cur, rfl, _⟩
  · exact ⟨none, 0, rfl⟩
  · exact ⟨_, cap, rfl⟩
theorem run_append_b (base : Nat) (w : World) (ty : TypeId) (v : Value) (n : Nat) (xs : List Value) (hown : w.ownsRow base 5 1 v n xs)
    (F : Nat → Prop) (A : Option Addr) (m c : Nat) (l : List Nat) (hb : Bs w F (.slice A m c) l) (h63 : n + m ≤ 1000000000) (hbase : base ≤ w.heap.size) :
    ∃ v' w', (Builtin.append_ #[29, 29] ty #[v, .slice A m c]).run Tryd.prog w = .ok v' w' ∧ w'.ownsRow base 5 1 v' (n + m) (xs ++ bv l) ∧ w.grownBy w' v.ownBlock ∧ (v'.ownBlock = v.ownBlock ∨ v'.ownBlock = some w.heap.size) := by
  obtain ⟨i0, hi, hz0, hz1, hz2⟩ := info_parts info_u8
  obtain ⟨h8, A', c', hv, hcap, hc⟩ := hb
  injection hv with e1 e2 e3
  subst e1 e2 e3
  cases A with
  | none =>
    have h0 : l.length = 0 := by
      rcases Nat.eq_zero_or_pos l.length with h1 | h1
      · exact h1
      · obtain ⟨b, off, e, _⟩ := hc h1
        cases e
    have hl := List.eq_nil_of_length_eq_zero h0
    subst hl
    have hrun : (Builtin.append_ #[29, 29] ty #[v, .slice none 0 c]).run Tryd.prog w = .ok v w := by
      rcases hown.2 with ⟨rfl, rfl⟩ | ⟨g, cap, cur, rfl, _, _, hnc, _⟩
      · simp [Builtin.append_, run_underlying Tryd.underlying29, sizeOf, typeInfo, hi, Builtin.lenOf, Builtin.firstCells]
      · simp [Builtin.append_, run_underlying Tryd.underlying29, sizeOf, typeInfo, hi, Builtin.lenOf, Builtin.firstCells, hnc, storeCells]
    exact ⟨v, w, hrun, by simpa [bv] using hown, World.grownBy.refl w _, .inl rfl⟩
  | some ad =>
    obtain ⟨v', w', h1, h2, h3, _, h5⟩ := run_append_own_at (P := Tryd.prog) w base 29 ty 5 i0 (.int .u8 0) 1 1 Tryd.underlying29 hi hz0 hz1 hz2 rfl (by decide) v n xs hown ad l.length c (bv l) (by rw [bv_len]; omega) (fun j u hu => by
      obtain ⟨hj, rfl⟩ := bv_get l j u hu
      obtain ⟨b, off, e, _, hcell⟩ := hc (by omega)
      cases e
      rw [addr_add, hcell j hj]) (bv_one l) (by unfold maxLen; omega) (by omega) hbase
    exact ⟨v', w', h1, h2, h3, h5⟩
theorem wpList_append_b {ops : Array Oper} {rest : List Oper} {o : Oper} {a : Act} {w : World} {Q : Exit → Act → World → Prop} (hgd : o.guard = none) (s x : Operand)
    (ho : o.op = .call { callee := .builtin .append, args := #[s, x], argTypes := #[29, 29] })
    (base : Nat) (v : Value) (n : Nat) (xs : List Value) (hs : a.eval s = v) (hown : w.ownsRow base 5 1 v n xs)
    (F : Nat → Prop) (A : Option Addr) (m c : Nat) (l : List Nat) (hx : a.eval x = .slice A m c) (hb : Bs w F (.slice A m c) l) (h63 : n + m ≤ 1000000000) (hbase : base ≤ w.heap.size)
    (h : ∀ v' w', w'.ownsRow base 5 1 v' (n + m) (xs ++ bv l) → w.grownBy w' v.ownBlock → (v'.ownBlock = v.ownBlock ∨ v'.ownBlock = some w.heap.size) → wpList Tryd.prog ops Q rest (a.put o.dst v') w') :
    wpList Tryd.prog ops Q (o :: rest) a w := by
  refine wpList_plain hgd fun K hK => ?_
  obtain ⟨v', w', hrun, h1, h2, h3⟩ := run_append_b base w o.type v n xs hown F A m c l hb h63 hbase
  unfold Oper.wp execOp
  simp only [ho, resolve, invoke, builtin, Sem.run_bind, Sem.run_pure, Result.andThen_ok, List.map_toArray, List.map_cons, List.map_nil, hs, hx, hrun]
  exact hK _ _ (h v' w' h1 h2 h3)

/-! Texts. -/
def sb (s : ByteArray) : List Nat := s.data.toList.map UInt8.toNat
def str (l : List Nat) : ByteArray := ⟨(l.map UInt8.ofNat).toArray⟩
theorem sb_len (s : ByteArray) : (sb s).length = s.size := by unfold sb; rw [List.length_map, Array.length_toList]; rfl
theorem sb_lt (s : ByteArray) : ∀ c ∈ sb s, c < 256 := by
  intro c hc
  unfold sb at hc
  obtain ⟨b, _, rfl⟩ := List.mem_map.1 hc
  exact b.toNat_lt
theorem sb_cells (s : ByteArray) : Lib.strCells s = bv (sb s) := by simp [Lib.strCells, bv, sb, List.map_map, Function.comp_def]
theorem str_sb (s : ByteArray) : str (sb s) = s := by
  apply ByteArray.ext
  apply Array.ext'
  simp [str, sb, List.map_map, Function.comp_def]
theorem sb_str (l : List Nat) (h : ∀ c ∈ l, c < 256) : sb (str l) = l := by
  unfold sb str
  rw [List.map_map]
  conv => rhs; rw [← List.map_id l]
  refine List.map_congr_left fun c hc => ?_
  have := h c hc
  simp
  omega
theorem str_size (l : List Nat) : (str l).size = l.length := by simp [str, ByteArray.size]
theorem str_inj {l m : List Nat} (hl : ∀ c ∈ l, c < 256) (hm : ∀ c ∈ m, c < 256) (h : str l = str m) : l = m := by rw [← sb_str l hl, ← sb_str m hm, h]
theorem foldl_push (l : List Nat) : ∀ s : ByteArray, (l.map fun c : Nat => (c : Int)).foldl (fun (r : ByteArray) n => r.push (UInt8.ofNat n.toNat)) s = ⟨s.data ++ (l.map UInt8.ofNat).toArray⟩ := by
  induction l with
  | nil => intro s; simp
  | cons c l ih =>
    intro s
    rw [List.map_cons, List.foldl_cons, ih]
    simp [ByteArray.push]
set_option maxRecDepth 100000 in
/-- Bytes as a text. -/
theorem bs_str {w : World} {F : Nat → Prop} {a : Option Addr} {n cap : Nat} {l : List Nat} (h : Bs w F (.slice a n cap) l) :
    (convert 29 9 (.slice a n cap)).run Tryd.prog w = .ok (.string (str l)) w := by
  obtain ⟨h8, a', cap', hv, _, hc⟩ := h
  injection hv with e1 e2 e3
  subst e1 e2 e3
  rw [run_convert_bytes_string w _ _ _ _ _ _ Tryd.underlying29 Tryd.underlying5 Tryd.underlying9]
  rcases Nat.eq_zero_or_pos l.length with h0 | h0
  · have hl := List.eq_nil_of_length_eq_zero h0
    subst hl
    cases a with
    | none => rfl
    | some x => exact run_bytesToString w x 0 cap [] (by simp [loadCells, loadCellsFrom])
  · obtain ⟨b, off, rfl, _, hcell⟩ := hc h0
    have hl : (loadCells ⟨b, off, none⟩ (bv l).length).run Tryd.prog w = .ok (bv l).toArray w :=
      run_loadCells_list (P := Tryd.prog) w ⟨b, off, none⟩ _ (fun j v hv => by
        obtain ⟨hj, rfl⟩ := bv_get l j v hv
        rw [addr_add, hcell j hj])
    rw [bv_len] at hl
    have e : bv l = (l.map fun c : Nat => (c : Int)).map (Value.int .u8) := by unfold bv; rw [List.map_map]; rfl
    rw [e] at hl
    rw [run_bytesToString w _ _ _ _ hl, foldl_push]
    simp [str]

/-- The call gives back a slice of its own that reads as l; what was there before is as it was. -/
def Owned (w : World) (l : List Nat) (e : Ending) (w' : World) : Prop := ∃ v, e = .returned v ∧ w'.ownsRow w.heap.size 5 1 v l.length (bv l) ∧ Below w.heap.size w w'
theorem ge_size {w : World} : ∀ k, (Value.slice (some ⟨w.heap.size, 0, none⟩) 0 0).ownBlock = some k → w.heap.size ≤ k := by
  intro k h
  have h2 : w.heap.size = k := by simpa [Value.ownBlock] using h
  omega
set_option maxRecDepth 100000 in
theorem clone_any (F : Nat → Prop) (v : Value) (l : List Nat) (w : World) (hv : Bs w F v l) (hF : ∀ k, F k → k < w.heap.size) (hl : l.length ≤ 100000000) :
    Calls Tryd.prog 45 #[v] w (Owned w l) := by
  have hv0 := hv
  obtain ⟨h8, a, cap, rfl, _, _⟩ := hv0
  have hnil := fun w' => Lib.run_eql_slice_nil (P := Tryd.prog) w' 29 5 a l.length cap 0 0 Tryd.underlying29
  cases a with
  | none =>
    have h0 : l.length = 0 := by
      rcases Nat.eq_zero_or_pos l.length with h1 | h1
      · exact h1
      · obtain ⟨_, a', c', e, _, hc⟩ := hv
        injection e with e1
        subst e1
        obtain ⟨b, off, e, _⟩ := hc h1
        cases e
    have hl := List.eq_nil_of_length_eq_zero h0
    subst hl
    clear hnil hv
    have hnil : ∀ w' : World, (binOp .eql 29 (.slice none 0 cap) (.slice none 0 0)).run Tryd.prog w' = .ok (.bool true) w' := fun w' => Lib.run_eql_slice_nil (P := Tryd.prog) w' 29 5 none 0 cap 0 0 Tryd.underlying29
    show Calls _ _ #[.slice none 0 cap] _ _
    go_enter Tryd.func45, Tryd.ntmps45
    go_wp2
    go_ret
    exact ⟨_, rfl, ⟨rfl, .inl ⟨rfl, rfl⟩⟩, Below.refl _ _⟩
  | some ad =>
    have hb := hv.kept (Same.of_below ((Below.refl w.heap.size w).alloc (Nat.le_refl _) (.cells #[] 5)) hF)
    have hown := World.ownsRow_made (e := 5) (size := 1) w #[] 0 (Nat.le_refl _) (Nat.zero_le _) rfl
    have HB := Lib.hid hb
    have HO := Lib.hid hown
    clear hb hown hv
    go_enter Tryd.func45, Tryd.ntmps45
    go_wp2_with (at_builtin; refine wpList_append_b rfl _ _ rfl w.heap.size _ 0 [] rfl HO.out F (some ad) l.length cap l rfl HB.out (by omega) (by simp) ?_; intro v' w2 hown2 hg _)
    have hb2 : Below w.heap.size w w2 := ((Below.refl w.heap.size w).alloc (Nat.le_refl _) _).grown hg (by simp) ge_size
    go_wp2
    go_ret
    exact ⟨v', rfl, by simpa using hown2, hb2⟩
theorem beq_str (l m : List Nat) (hl : ∀ c ∈ l, c < 256) (hm : ∀ c ∈ m, c < 256) : (str l).toList == (str m).toList ↔ l = m := by
  constructor
  · intro h
    have h1 : str l = str m := by
      have h2 : (str l).toList = (str m).toList := by simpa using h
      rw [ByteArray.toList_eq, ByteArray.toList_eq] at h2
      apply ByteArray.ext
      exact Array.ext' h2
    exact str_inj hl hm h1
  · rintro rfl; simp
end Go.Proofs.YtojeccmnhgcmcaaDoor.Frame
