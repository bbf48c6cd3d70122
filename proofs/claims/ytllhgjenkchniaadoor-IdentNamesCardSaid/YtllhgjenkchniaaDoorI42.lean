/- IdentNames: bytes of one's own, strings.Repeat of one byte. -/
import Derived.Test.YtllhgjenkchniaaDoorI19
import Derived.Shelf.Strings.Repeat
import Derived.Maps.AppendAt
import Derived.Outline
import Derived.ChangeKeysEq
import Derived.ShutString
import Derived.Laws.BytesString
import Derived.OwnWalk
import Derived.LoopTactic
namespace Go.Proofs.YtllhgjenkchniaaDoor.Ident
open Go.RowKit Go.Lib Go.ChangeShapes
set_option linter.unusedVariables false
set_option linter.unusedSimpArgs false
set_option maxRecDepth 100000

def rep_ren : Go.Shelf.Ren := ⟨fun | 99 => 36 | 105 => 38 | 165 => 57 | 166 => 58 | 169 => 60 | 170 => 59 | 206 => 55 | 212 => 56 | 240 => 71 | 241 => 72 | 263 => 69 | 264 => 70 | 276 => 81 | 277 => 82 | n => n, fun | 0 => 0 | 3 => 3 | 4 => 4 | 5 => 5 | 9 => 9 | 20 => 20 | 37 => 61 | 46 => 57 | 109 => 80 | 51 => 50 | 53 => 99 | 70 => 82 | 72 => 84 | 75 => 87 | 76 => 88 | 80 => 91 | 127 => 102 | 146 => 97 | 148 => 100 | 164 => 108 | n => n, fun | n => n⟩
theorem rep_lays : Go.Proofs.Lays.n105 Tryd.prog rep_ren := {
  mixed := by kernel_rfl
  f99 := Tryd.func36.trans (congrArg some (by kernel_rfl))
  f105 := Tryd.func38.trans (congrArg some (by kernel_rfl))
  f165 := Tryd.func57.trans (congrArg some (by kernel_rfl))
  f166 := Tryd.func58.trans (congrArg some (by kernel_rfl))
  f169 := Tryd.func60.trans (congrArg some (by kernel_rfl))
  f170 := Tryd.func59.trans (congrArg some (by kernel_rfl))
  f206 := Tryd.func55.trans (congrArg some (by kernel_rfl))
  f212 := Tryd.func56.trans (congrArg some (by kernel_rfl))
  f240 := Tryd.func71.trans (congrArg some (by kernel_rfl))
  f241 := Tryd.func72.trans (congrArg some (by kernel_rfl))
  f263 := Tryd.func69.trans (congrArg some (by kernel_rfl))
  f264 := Tryd.func70.trans (congrArg some (by kernel_rfl))
  f276 := Tryd.func81.trans (congrArg some (by kernel_rfl))
  f277 := Tryd.func82.trans (congrArg some (by kernel_rfl))
  t0 := Tryd.underlying0
  a0 := Tryd.isAgg0
  z0 := Tryd.sizeOf0
  v0 := Tryd.zeroValue0
  t3 := Tryd.underlying3
  a3 := Tryd.isAgg3
  z3 := Tryd.sizeOf3
  v3 := Tryd.zeroValue3
  t4 := Tryd.underlying4
  a4 := Tryd.isAgg4
  z4 := Tryd.sizeOf4
  v4 := Tryd.zeroValue4
  t5 := Tryd.underlying5
  a5 := Tryd.isAgg5
  z5 := Tryd.sizeOf5
  v5 := Tryd.zeroValue5
  t9 := Tryd.underlying9
  a9 := Tryd.isAgg9
  z9 := Tryd.sizeOf9
  v9 := Tryd.zeroValue9
  t20 := Tryd.underlying20
  a20 := Tryd.isAgg20
  z20 := Tryd.sizeOf20
  v20 := Tryd.zeroValue20
  t37 := Tryd.underlying61
  a37 := Tryd.isAgg61
  z37 := Tryd.sizeOf61
  v37 := Tryd.zeroValue61
  t46 := Tryd.underlying57
  a46 := Tryd.isAgg57
  z46 := Tryd.sizeOf57
  v46 := Tryd.zeroValue57
  t51 := Tryd.underlying50
  a51 := Tryd.isAgg50
  z51 := Tryd.sizeOf50
  v51 := Tryd.zeroValue50
  t53 := Tryd.underlying99
  a53 := Tryd.isAgg99
  z53 := Tryd.sizeOf99
  v53 := Tryd.zeroValue99
  t70 := Tryd.underlying82
  a70 := Tryd.isAgg82
  z70 := Tryd.sizeOf82
  v70 := Tryd.zeroValue82
  t72 := Tryd.underlying84
  a72 := Tryd.isAgg84
  z72 := Tryd.sizeOf84
  v72 := Tryd.zeroValue84
  t75 := Tryd.underlying87
  a75 := Tryd.isAgg87
  z75 := Tryd.sizeOf87
  v75 := Tryd.zeroValue87
  t76 := Tryd.underlying88
  a76 := Tryd.isAgg88
  z76 := Tryd.sizeOf88
  v76 := Tryd.zeroValue88
  t109 := Tryd.underlying80
  a109 := Tryd.isAgg80
  z109 := Tryd.sizeOf80
  v109 := Tryd.zeroValue80
  t127 := Tryd.underlying102
  a127 := Tryd.isAgg102
  z127 := Tryd.sizeOf102
  v127 := Tryd.zeroValue102
  t146 := Tryd.underlying97
  a146 := Tryd.isAgg97
  z146 := Tryd.sizeOf97
  v146 := Tryd.zeroValue97
  t148 := Tryd.underlying100
  a148 := Tryd.isAgg100
  z148 := Tryd.sizeOf100
  v148 := Tryd.zeroValue100
  t164 := Tryd.underlying108
  a164 := Tryd.isAgg108
  z164 := Tryd.sizeOf108
  v164 := Tryd.zeroValue108 }
theorem rep_extra : Builder.Extra Tryd.prog rep_ren where
  sizeBuilder := by kernel_rfl
  liesBuilder := by kernel_rfl
  t5 := rep_lays.t5
  a5 := rep_lays.a5
  z5 := rep_lays.z5
  v5 := rep_lays.v5
  infoByte := by kernel_rfl
  cellsByte := by kernel_rfl
  sizeByte := by kernel_rfl
  neB5 := by decide
theorem repL_one (b : UInt8) : ∀ c : Nat, Lib.repeatL [b] c = List.replicate c b
  | 0 => rfl
  | c + 1 => by
    show [b] ++ Lib.repeatL [b] c = _
    rw [repL_one b c, List.replicate_succ]
    rfl
/-- strings.Repeat of a text of one byte. -/
theorem rep_any (b : UInt8) (c : Nat) (w : World) (hc : c ≤ 1000000) :
    Calls Tryd.prog 38 #[.string ⟨#[b]⟩, .int .i64 (c : Nat)] w fun e w' => e = .returned (.string (tx (List.replicate c b))) ∧ Below w.heap.size w w' := by
  have h := Any.strings_Repeat rep_lays rep_extra ⟨#[b]⟩ c w (by omega) (by show 1 * c ≤ _; omega)
  rw [show ((⟨#[b]⟩ : ByteArray).data.toList) = [b] from rfl, repL_one] at h
  exact h

theorem addr_add (b off i : Nat) : (⟨b, off, none⟩ : Addr).add i = ⟨b, off + i, none⟩ := by unfold Addr.add; split <;> simp_all
/-- A slice of bytes that came in. -/
def IsRow (k : IntKind) (w : World) (a : Option Addr) (len cap : Nat) (zs : List Int) : Prop :=
  (a = none ∧ len = 0 ∧ cap = 0 ∧ zs = []) ∨
  ∃ x, a = some x ∧ len ≤ cap ∧ cap ≤ maxLen ∧ zs.length = cap ∧ (∀ i, i < zs.length → w.cell? (x.add i) = some (.int k (zs.getD i 0))) ∧ ∀ n ∈ zs, (Lit.int k n).wf = true
/-- What the cells of a slice hold. -/
def Cs (w : World) (a : Option Addr) (n : Nat) (g : Nat → Nat) : Prop := 0 < n → ∃ b off, a = some ⟨b, off, none⟩ ∧ ∀ i, i < n → w.cell? ⟨b, off + i, none⟩ = some (.int .u8 (g i : Nat)) ∧ g i < 256
theorem row_cs {w : World} {a : Option Addr} {len cap : Nat} {zs : List Int} (h : IsRow .u8 w a len cap zs) : len ≤ cap ∧ (a = none → cap = 0) ∧ ∃ g, Cs w a len g := by
  rcases h with ⟨rfl, rfl, rfl, rfl⟩ | ⟨⟨b, off, spot⟩, rfl, hl, hm, hz, hcell, hwz⟩
  · exact ⟨Nat.le_refl _, fun _ => rfl, fun _ => 0, fun h => by omega⟩
  · refine ⟨hl, (fun h => by cases h), fun i => (zs.getD i 0).toNat, fun hp => ?_⟩
    have h0 := hcell 0 (by omega)
    have hspot : spot = none := by simpa [Addr.add] using World.cell?_spot h0
    subst hspot
    refine ⟨b, off, rfl, fun i hi => ?_⟩
    have hi2 : i < zs.length := by omega
    have hc := hcell i hi2
    rw [addr_add] at hc
    have hb := bounds_u8 (hwz (zs[i]) (List.getElem_mem hi2))
    have e : zs.getD i 0 = zs[i] := by rw [List.getD_eq_getElem?_getD, List.getElem?_eq_getElem hi2]; rfl
    rw [e] at hc
    refine ⟨by rw [hc]; show _ = some (Value.int .u8 (((zs.getD i 0).toNat : Nat) : Int)); rw [e, Int.toNat_of_nonneg hb.1], by show (zs.getD i 0).toNat < 256; rw [e]; omega⟩
/-- Bytes as cells. -/
def bc (l : List UInt8) : List Value := l.map fun c => Value.int .u8 (c.toNat : Nat)
theorem bc_len (l : List UInt8) : (bc l).length = l.length := by simp [bc]
theorem bc_app (l m : List UInt8) : bc l ++ bc m = bc (l ++ m) := by simp [bc]
theorem info_u8 : (Tryd.prog.info? 5).map (fun i => (i.zero, i.size, i.bytes)) = some (some (.int .u8 0), 1, 1) := by kernel_rfl
def Ob (base : Nat) (l : List UInt8) (v : Value) (w : World) : Prop := w.ownsRow base 5 1 v l.length (bc l)
theorem Ob.form {base : Nat} {l : List UInt8} {v : Value} {w : World} (h : Ob base l v w) : ∃ a cap, v = .slice a l.length cap := by
  rcases h.2 with ⟨rfl, h0⟩ | ⟨g, cap, cur, rfl, _⟩
  · exact ⟨none, 0, by rw [h0]⟩
  · exact ⟨_, cap, rfl⟩
theorem Ob.later {base : Nat} {l : List UInt8} {v : Value} {w w' : World} (h : Ob base l v w) (hb : Below w.heap.size w w') : Ob base l v w' := by
  refine ⟨h.1, ?_⟩
  rcases h.2 with hn | ⟨g, cap, cur, rfl, hbg, hg, rest⟩
  · exact .inl hn
  · exact .inr ⟨g, cap, cur, rfl, hbg, (hb.block g (Array.getElem?_eq_some_iff.1 hg).1).trans hg, rest⟩
theorem run_append_c (base : Nat) (w : World) (ty : TypeId) (v : Value) (l : List UInt8) (hown : Ob base l v w) (g cp : Nat) (c : UInt8) (hx : w.cell? ⟨g, 0, none⟩ = some (.int .u8 (c.toNat : Nat))) (hn : l.length ≤ 1000) (hbase : base ≤ w.heap.size) :
    ∃ v' w', (Builtin.append_ #[61, 61] ty #[v, .slice (some ⟨g, 0, none⟩) 1 cp]).run Tryd.prog w = .ok v' w' ∧ Ob base (l ++ [c]) v' w' ∧ w.grownBy w' v.ownBlock := by
  obtain ⟨i0, hi, hz0, hz1, hz2⟩ := info_parts info_u8
  obtain ⟨v', w', h1, h2, h3, _, h5⟩ := run_append_own_at (P := Tryd.prog) w base 61 ty 5 i0 (.int .u8 0) 1 1 Tryd.underlying61 hi hz0 hz1 hz2 rfl (by decide) v l.length (bc l) hown ⟨g, 0, none⟩ 1 cp (bc [c]) rfl (fun j u hu => by
    have hj : j = 0 := by
      have := (List.getElem?_eq_some_iff.1 hu).1
      simpa [bc] using this
    subst hj
    cases hu
    rw [addr_add]
    exact hx) (fun u hu => by simp [bc] at hu; subst hu; rfl) (by unfold maxLen; omega) (by omega) hbase
  refine ⟨v', w', h1, ?_, h3⟩
  show w'.ownsRow base 5 1 v' (l ++ [c]).length (bc (l ++ [c]))
  rw [← bc_app, List.length_append]
  exact h2
theorem wpList_append_c {ops : Array Oper} {rest : List Oper} {o : Oper} {a : Act} {w : World} {Q : Exit → Act → World → Prop} (hgd : o.guard = none) (s x : Operand)
    (ho : o.op = .call { callee := .builtin .append, args := #[s, x], argTypes := #[61, 61] })
    (base : Nat) (v : Value) (l : List UInt8) (hs : a.eval s = v) (hown : Ob base l v w) (g cp : Nat) (c : UInt8) (hx : a.eval x = .slice (some ⟨g, 0, none⟩) 1 cp) (hc : w.cell? ⟨g, 0, none⟩ = some (.int .u8 (c.toNat : Nat)))
    (hn : l.length ≤ 1000) (hbase : base ≤ w.heap.size)
    (h : ∀ v' w', Ob base (l ++ [c]) v' w' → w.grownBy w' v.ownBlock → wpList Tryd.prog ops Q rest (a.put o.dst v') w') :
    wpList Tryd.prog ops Q (o :: rest) a w := by
  refine wpList_plain hgd fun K hK => ?_
  obtain ⟨v', w', hrun, h1, h2⟩ := run_append_c base w o.type v l hown g cp c hc hn hbase
  unfold Oper.wp execOp
  simp only [ho, resolve, invoke, builtin, Sem.run_bind, Sem.run_pure, Result.andThen_ok, List.map_toArray, List.map_cons, List.map_nil, hs, hx, hrun]
  exact hK _ _ (h v' w' h1 h2)
/-- The bytes in a block of one's own. -/
structure Rb (w : World) (q : Nat) (l : List UInt8) (W : World) : Prop where
  blk : ∃ cur, W.heap[q]? = some (.cells cur 5 (0, 0)) ∧ ∀ i (h : i < l.length), cur[i]? = some (.int .u8 ((l[i]).toNat : Nat))
  bel : Below w.heap.size w W
  lo : w.heap.size ≤ q
theorem Rb.later {w W W' : World} {q : Nat} {l : List UInt8} (h : Rb w q l W) (hb : Below W.heap.size W W') : Rb w q l W' := by
  obtain ⟨cur, h1, h2⟩ := h.blk
  exact ⟨⟨cur, (hb.block _ (Array.getElem?_eq_some_iff.1 h1).1).trans h1, h2⟩, h.bel.trans (hb.mono h.bel.size), h.lo⟩
theorem Rb.cell {w W : World} {q : Nat} {l : List UInt8} (h : Rb w q l W) (i : Nat) (hi : i < l.length) : W.cell? ⟨q, i, none⟩ = some (.int .u8 ((l[i]).toNat : Nat)) ∧ W.frozen? ⟨q, i, none⟩ = false := by
  obtain ⟨cur, h1, h2⟩ := h.blk
  exact ⟨(cell_of_row W q i cur _ _ h1).trans (h2 i hi), frozen_of_row W q i cur _ h1⟩
theorem Rb.set {w W : World} {q : Nat} {l : List UInt8} (h : Rb w q l W) (j : Nat) (c : UInt8) : Rb w q (l.set j c) (W.setCell ⟨q, j, none⟩ (.int .u8 (c.toNat : Nat))) := by
  obtain ⟨cur, h1, h2⟩ := h.blk
  refine ⟨⟨cur.setIfInBounds j (.int .u8 (c.toNat : Nat)), heap_setCell_same W q j _ _ _ h1, ?_⟩, h.bel.setCell (p := ⟨q, j, none⟩) h.lo _, h.lo⟩
  intro i hi
  rw [List.length_set] at hi
  have hi3 := h2 i hi
  have hlt := (Array.getElem?_eq_some_iff.1 hi3).1
  rw [Array.getElem?_setIfInBounds]
  by_cases e : j = i
  · subst e
    rw [if_pos rfl, if_pos hlt]
    simp
  · rw [if_neg e, hi3]
    simp [e]
theorem ob_rb {w W : World} {base : Nat} {l : List UInt8} {v : Value} (h : Ob base l v W) (h0 : 0 < l.length) (hb : Below w.heap.size w W) (hbase : w.heap.size ≤ base) : ∃ q cap, v = .slice (some ⟨q, 0, none⟩) l.length cap ∧ Rb w q l W := by
  rcases h.2 with ⟨rfl, hn⟩ | ⟨g, cap, cur, rfl, hbg, hg, hle, hcm, hsz, hx⟩
  · omega
  · refine ⟨g, cap, rfl, ⟨cur, hg, fun i hi => ?_⟩, hb, by omega⟩
    have e : (bc l)[i]? = some (.int .u8 ((l[i]).toNat : Nat)) := by simp [bc, hi]
    rw [← hx, List.getElem?_take] at e
    split at e
    · simpa using e
    · cases e
theorem foldl_push (l : List UInt8) : ∀ s : ByteArray, (l.map fun c => ((c.toNat : Nat) : Int)).foldl (fun (r : ByteArray) n => r.push (UInt8.ofNat n.toNat)) s = ⟨s.data ++ l.toArray⟩ := by
  induction l with
  | nil => intro s; simp
  | cons c l ih =>
    intro s
    rw [List.map_cons, List.foldl_cons, ih]
    simp [ByteArray.push]
/-- The bytes as a text. -/
theorem rb_str {w W : World} {q cap : Nat} {l : List UInt8} (h : Rb w q l W) :
    (convert 61 9 (.slice (some ⟨q, 0, none⟩) l.length cap)).run Tryd.prog W = .ok (.string (tx l)) W := by
  rw [run_convert_bytes_string W _ _ _ _ _ _ Tryd.underlying61 Tryd.underlying5 Tryd.underlying9]
  have hl : (loadCells ⟨q, 0, none⟩ (bc l).length).run Tryd.prog W = .ok (bc l).toArray W :=
    run_loadCells_list (P := Tryd.prog) W ⟨q, 0, none⟩ _ (fun j v hv => by
      have hj : j < l.length := by have := (List.getElem?_eq_some_iff.1 hv).1; rwa [bc_len] at this
      have e : (bc l)[j]? = some (.int .u8 ((l[j]).toNat : Nat)) := by simp [bc, hj]
      rw [e] at hv
      cases hv
      rw [addr_add, Nat.zero_add]
      exact (h.cell j hj).1)
  rw [bc_len] at hl
  have e : bc l = (l.map fun c => ((c.toNat : Nat) : Int)).map (Value.int .u8) := by unfold bc; rw [List.map_map]; rfl
  rw [e] at hl
  rw [run_bytesToString W _ _ _ _ hl, foldl_push]
  simp [tx]
def ABC : List UInt8 := [97, 98, 99, 100, 101, 102, 103, 104, 105, 106, 107, 108, 109, 110, 111, 112, 113, 114, 115, 116, 117, 118, 119, 120, 121, 122, 48, 49, 50, 51, 52, 53, 54, 55, 56, 57]
def letA (x : Nat) : UInt8 := ABC.getD (x % 36) 0
theorem letA_good (x : Nat) : goodB (letA x) = true := by
  have h : ∀ i, i < 36 → goodB (ABC.getD i 0) = true := by decide
  exact h _ (Nat.mod_lt _ (by omega))
def nmL (g : Nat → Nat) (k : Nat) : List UInt8 := (List.range k).map fun i => letA (g i)
theorem nmL_len (g : Nat → Nat) (k : Nat) : (nmL g k).length = k := by simp [nmL]
theorem nmL_succ (g : Nat → Nat) (k : Nat) : nmL g (k + 1) = nmL g k ++ [letA (g k)] := by simp [nmL, List.range_succ]
theorem nmL_good (g : Nat → Nat) (k : Nat) : (nmL g k).all goodB = true := by
  rw [List.all_eq_true]
  intro c hc
  obtain ⟨i, _, rfl⟩ := List.mem_map.1 hc
  exact letA_good _
theorem name_good (l : List UInt8) (h : l.all goodB = true) (h1 : 1 ≤ l.length) (h2 : l.length ≤ 16) : nameOk l = true := by
  unfold nameOk; rw [h, decide_eq_true ⟨h1, h2⟩]; rfl
theorem name_long (l : List UInt8) (h : 16 < l.length) : nameOk l = false := by
  unfold nameOk; rw [decide_eq_false (by omega)]; rfl
theorem name_set (l : List UInt8) (h : l.all goodB = true) (h2 : l.length ≤ 16) (j : Nat) (hj : j < l.length) (c : UInt8) : nameOk (l.set j c) = goodB c := by
  unfold nameOk
  rw [List.length_set, decide_eq_true (by omega), Bool.true_and]
  cases hc : goodB c
  · rw [List.all_eq_false]
    exact ⟨c, by rw [List.mem_iff_getElem]; exact ⟨j, by simpa using hj, by simp⟩, by simp [hc]⟩
  · rw [List.all_eq_true]
    intro x hx
    rcases List.mem_or_eq_of_mem_set hx with h' | rfl
    · exact List.all_eq_true.1 h x h'
    · exact hc
end Go.Proofs.YtllhgjenkchniaaDoor.Ident
