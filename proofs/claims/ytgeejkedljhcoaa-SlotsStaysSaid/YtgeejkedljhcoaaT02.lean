/- A log in memory: its box, its map; what steps leave as it was; rows of numbers and of texts; valid, isBase, has, New, Base. -/
import Derived.Test.YtgeejkedljhcoaaT01
import Derived.Maps.AppendAt
import Derived.Shelf.SlMaps.Clone
import Derived.StillTailTactics
import Derived.Laws.Concat
import Derived.RegionTactic
import Derived.BigCall
import Derived.BigGuard
import Derived.BigQuiet
import Derived.Deep.QuietTactic
import Derived.Deep.RegionHeld3
import Derived.Deep.RegionWith
import Derived.Below
import Derived.LoopTactic
namespace Go.Proofs.Ytgeejkedljhcoaa.Slt
open Go.RowKit Go.Maps Go.Lib
set_option linter.unusedVariables false
set_option linter.unusedSimpArgs false
set_option maxRecDepth 20000

def nOf : Value → Nat
  | .int _ n => n.toNat
  | _ => 0
theorem alloc_b (W : World) (o : Obj) : Below W.heap.size W (W.alloc o) := (Below.refl _ _).alloc (Nat.le_refl _) _

/-! What a step leaves as it was: all that was there but the blocks of F. -/
structure Keeps (F : Nat → Prop) (w w' : World) : Prop where
  os : w'.os = w.os
  tape : w'.tape = w.tape
  output : w'.output = w.output
  size : w.heap.size ≤ w'.heap.size
  block : ∀ k, k < w.heap.size → ¬ F k → w'.heap[k]? = w.heap[k]?
theorem Keeps.refl (F : Nat → Prop) (w : World) : Keeps F w w := ⟨rfl, rfl, rfl, Nat.le_refl _, fun _ _ _ => rfl⟩
theorem Keeps.of_below {F : Nat → Prop} {w w' : World} (h : Below w.heap.size w w') : Keeps F w w' := ⟨h.os, h.tape, h.output, h.size, fun k hk _ => h.block k hk⟩
theorem Keeps.trans {F G : Nat → Prop} {a b c : World} (h : Keeps F a b) (k : Keeps G b c) (hG : ∀ i, G i → i < a.heap.size → F i) : Keeps F a c :=
  ⟨k.os.trans h.os, k.tape.trans h.tape, k.output.trans h.output, Nat.le_trans h.size k.size, fun i hi hn =>
    (k.block i (Nat.lt_of_lt_of_le hi h.size) (fun hg => hn (hG i hg hi))).trans (h.block i hi hn)⟩
theorem Keeps.later {F : Nat → Prop} {a b c : World} (h : Keeps F a b) (k : Below b.heap.size b c) : Keeps F a c :=
  h.trans (Keeps.of_below (F := fun _ => False) k) fun i hi => hi.elim
theorem Keeps.below {F : Nat → Prop} {B : Nat} {w w' : World} (h : Keeps F w w') (hB : B ≤ w.heap.size) (hF : ∀ k, F k → B ≤ k) : Below B w w' :=
  ⟨h.os, h.tape, h.output, h.size, fun k hk => h.block k (by omega) (fun hf => by have := hF k hf; omega)⟩
theorem Keeps.wide {F G : Nat → Prop} {w w' : World} (h : Keeps F w w') (hF : ∀ k, F k → G k) : Keeps G w w' :=
  ⟨h.os, h.tape, h.output, h.size, fun k hk hn => h.block k hk (fun hf => hn (hF k hf))⟩
theorem Keeps.drew {F : Nat → Prop} {a w : World} (h : Keeps F a w) : Keeps F a w.drew := ⟨h.os, h.tape, h.output, h.size, h.block⟩
theorem Keeps.alloc {F : Nat → Prop} {a w : World} (h : Keeps F a w) (o : Obj) : Keeps F a (w.alloc o) :=
  h.later ((Below.refl _ _).alloc (Nat.le_refl _) _)
theorem Keeps.setCell {F : Nat → Prop} {a w : World} (h : Keeps F a w) {p : Addr} (hp : F p.block ∨ a.heap.size ≤ p.block) (u : Value) : Keeps F a (w.setCell p u) :=
  ⟨h.os, h.tape, h.output, by simp [World.setCell]; exact h.size, fun k hk hn => (Below.heap_setCell w p u k (fun e => by subst e; rcases hp with hp | hp; exact hn hp; omega)).trans (h.block k hk hn)⟩
theorem Keeps.grown {F : Nat → Prop} {a w w' : World} {row : Option Nat} (h : Keeps F a w) (hg : w.grownBy w' row) (hr : ∀ g, row = some g → F g ∨ a.heap.size ≤ g) : Keeps F a w' :=
  ⟨hg.os.trans h.os, hg.tape.trans h.tape, hg.output.trans h.output, Nat.le_trans h.size hg.size, fun k hk hn =>
    (hg.block k (Nat.lt_of_lt_of_le hk h.size) (fun e => by rcases hr k e.symm with h1 | h1; exact hn h1; omega)).trans (h.block k hk hn)⟩
theorem below_grown {W W' : World} (h : Below W.heap.size W W') : W.grownBy W' none := ⟨h.os, h.tape, h.output, h.size, fun k hk _ => h.block k hk⟩
theorem below2 {w w1 w2 : World} (h : Below w.heap.size w w1) (k : Below w1.heap.size w1 w2) : Below w.heap.size w w2 := h.trans (k.mono h.size)

/-! Rows of one's own. -/
abbrev TI : TypeId := 3
abbrev TK : TypeId := 9
abbrev TIs : TypeId := 45
abbrev TSs : TypeId := 43
abbrev TM : TypeId := 36
abbrev TA : TypeId := 38
theorem rows_form {w : World} {base n size : Nat} {e : TypeId} {v : Value} {xs : List Value} (h : w.ownsRow base e size v n xs) : ∃ a cap, v = .slice a n cap := by
  rcases h.2 with ⟨rfl, rfl⟩ | ⟨g, cap, cur, rfl, _⟩
  · exact ⟨none, 0, rfl⟩
  · exact ⟨_, cap, rfl⟩
theorem rows_kept {w w' : World} {base size n : Nat} {e : TypeId} {v : Value} {xs : List Value} (h : w.ownsRow base e size v n xs) (hs : ∀ k, v.ownBlock = some k → w'.heap[k]? = w.heap[k]?) : w'.ownsRow base e size v n xs := by
  refine ⟨h.1, ?_⟩
  rcases h.2 with hn | ⟨g, cap, cur, rfl, hbg, hg, rest⟩
  · exact .inl hn
  · exact .inr ⟨g, cap, cur, rfl, hbg, (hs g rfl).trans hg, rest⟩
theorem rows_later {w w' : World} {base size n : Nat} {e : TypeId} {v : Value} {xs : List Value} (h : w.ownsRow base e size v n xs) (hb : Below w.heap.size w w') : w'.ownsRow base e size v n xs :=
  rows_kept h fun k hk => hb.block k (World.ownsRow.lt h k hk).2
theorem rows_base {w : World} {base base' size n : Nat} {e : TypeId} {v : Value} {xs : List Value} (h : w.ownsRow base e size v n xs) (hb : base' ≤ base) : w.ownsRow base' e size v n xs := by
  refine ⟨h.1, ?_⟩
  rcases h.2 with h | ⟨g, cap, cur, rfl, hbg, rest⟩
  · exact .inl h
  · exact .inr ⟨g, cap, cur, rfl, Nat.le_trans hb hbg, rest⟩
theorem info_p {i : Option TypeInfo} {z : Option Value} {s b : Nat} (h : i.map (fun i => (i.zero, i.size, i.bytes)) = some (z, s, b)) : ∃ i0, i = some i0 ∧ i0.zero = z ∧ i0.size = s ∧ i0.bytes = b := by
  cases i with
  | none => cases h
  | some i0 =>
    simp only [Option.map_some, Option.some.injEq, Prod.mk.injEq] at h
    exact ⟨i0, rfl, h.1, h.2.1, h.2.2⟩
theorem addr_add (b off n : Nat) : (⟨b, off, Option.none⟩ : Addr).add n = ⟨b, off + n, Option.none⟩ := by unfold Addr.add; split <;> simp_all
theorem info_i : (Try.prog.info? TI).map (fun i => (i.zero, i.size, i.bytes)) = some (some (.int .i64 0), 1, 8) := by kernel_rfl
def ints (l : List Int) : List Value := l.map (Value.int .i64)
theorem ints_app (a b : List Int) : ints (a ++ b) = ints a ++ ints b := by simp [ints]
def OwI (base : Nat) (l : List Int) (v : Value) (w : World) : Prop := w.ownsRow base TI 1 v l.length (ints l)
theorem OwI.nil (base : Nat) (w : World) : OwI base [] (.slice none 0 0) w := World.ownsRow_nil w base TI 1
theorem run_append_i (base : Nat) (w : World) (ty : TypeId) (v : Value) (l : List Int) (hown : OwI base l v w) (g c : Nat) (x : Int) (hc : w.cell? ⟨g, 0, none⟩ = some (.int .i64 x)) (hn : l.length ≤ 100000) (hbase : base ≤ w.heap.size) :
    ∃ v' w', (Builtin.append_ #[TIs, TIs] ty #[v, .slice (some ⟨g, 0, none⟩) 1 c]).run Try.prog w = .ok v' w' ∧ OwI base (l ++ [x]) v' w' ∧ w.grownBy w' v.ownBlock := by
  obtain ⟨i0, hi, hz0, hz1, hz2⟩ := info_p info_i
  obtain ⟨v', w', h1, h2, h3, _, h5⟩ := run_append_own_at (P := Try.prog) w base TIs ty TI i0 (.int .i64 0) 1 8 Try.underlying45 hi hz0 hz1 hz2 rfl (by decide) v l.length (ints l) hown ⟨g, 0, none⟩ 1 c (ints [x]) rfl (fun j u hu => by
    cases j with
    | zero => cases hu; simpa [Addr.add] using hc
    | succ j => simp [ints] at hu) (fun u hu => by simp [ints] at hu; subst hu; rfl) (by unfold maxLen; omega) (by omega) hbase
  refine ⟨v', w', h1, ?_, h3⟩
  show w'.ownsRow base TI 1 v' (l ++ [x]).length (ints (l ++ [x]))
  rw [ints_app, List.length_append]
  exact h2
theorem wpList_append_i {ops : Array Oper} {rest : List Oper} {o : Oper} {a : Act} {w : World} {Q : Exit → Act → World → Prop} (hgd : o.guard = none) (s x : Operand)
    (ho : o.op = .call { callee := .builtin .append, args := #[s, x], argTypes := #[TIs, TIs] })
    (base : Nat) (v : Value) (l : List Int) (hs : a.eval s = v) (hown : OwI base l v w) (g c : Nat) (y : Int) (hx : a.eval x = .slice (some ⟨g, 0, none⟩) 1 c) (hc : w.cell? ⟨g, 0, none⟩ = some (.int .i64 y))
    (hn : l.length ≤ 100000) (hbase : base ≤ w.heap.size)
    (h : ∀ v' w', OwI base (l ++ [y]) v' w' → w.grownBy w' v.ownBlock → wpList Try.prog ops Q rest (a.put o.dst v') w') :
    wpList Try.prog ops Q (o :: rest) a w := by
  refine wpList_plain hgd fun K hK => ?_
  obtain ⟨v', w', hrun, h1, h2⟩ := run_append_i base w o.type v l hown g c y hc hn hbase
  unfold Oper.wp execOp
  simp only [ho, resolve, invoke, builtin, Sem.run_bind, Sem.run_pure, Result.andThen_ok, List.map_toArray, List.map_cons, List.map_nil, hs, hx, hrun]
  exact hK _ _ (h v' w' h1 h2)
theorem info_s : (Try.prog.info? TK).map (fun i => (i.zero, i.size, i.bytes)) = some (some (.string ⟨#[]⟩), 1, 16) := by kernel_rfl
def txts (l : List ByteArray) : List Value := l.map Value.string
theorem txts_app (a b : List ByteArray) : txts (a ++ b) = txts a ++ txts b := by simp [txts]
def OwS (base : Nat) (l : List ByteArray) (v : Value) (w : World) : Prop := w.ownsRow base TK 1 v l.length (txts l)
theorem OwS.nil (base : Nat) (w : World) : OwS base [] (.slice none 0 0) w := World.ownsRow_nil w base TK 1
theorem run_append_s (base : Nat) (w : World) (ty : TypeId) (v : Value) (l : List ByteArray) (hown : OwS base l v w) (g c : Nat) (x : ByteArray) (hc : w.cell? ⟨g, 0, none⟩ = some (.string x)) (hn : l.length ≤ 100000) (hbase : base ≤ w.heap.size) :
    ∃ v' w', (Builtin.append_ #[TSs, TSs] ty #[v, .slice (some ⟨g, 0, none⟩) 1 c]).run Try.prog w = .ok v' w' ∧ OwS base (l ++ [x]) v' w' ∧ w.grownBy w' v.ownBlock := by
  obtain ⟨i0, hi, hz0, hz1, hz2⟩ := info_p info_s
  obtain ⟨v', w', h1, h2, h3, _, h5⟩ := run_append_own_at (P := Try.prog) w base TSs ty TK i0 (.string ⟨#[]⟩) 1 16 Try.underlying43 hi hz0 hz1 hz2 rfl (by decide) v l.length (txts l) hown ⟨g, 0, none⟩ 1 c (txts [x]) rfl (fun j u hu => by
    cases j with
    | zero => cases hu; simpa [Addr.add] using hc
    | succ j => simp [txts] at hu) (fun u hu => by simp [txts] at hu; subst hu; rfl) (by unfold maxLen; omega) (by omega) hbase
  refine ⟨v', w', h1, ?_, h3⟩
  show w'.ownsRow base TK 1 v' (l ++ [x]).length (txts (l ++ [x]))
  rw [txts_app, List.length_append]
  exact h2
theorem wpList_append_s {ops : Array Oper} {rest : List Oper} {o : Oper} {a : Act} {w : World} {Q : Exit → Act → World → Prop} (hgd : o.guard = none) (s x : Operand)
    (ho : o.op = .call { callee := .builtin .append, args := #[s, x], argTypes := #[TSs, TSs] })
    (base : Nat) (v : Value) (l : List ByteArray) (hs : a.eval s = v) (hown : OwS base l v w) (g c : Nat) (y : ByteArray) (hx : a.eval x = .slice (some ⟨g, 0, none⟩) 1 c) (hc : w.cell? ⟨g, 0, none⟩ = some (.string y))
    (hn : l.length ≤ 100000) (hbase : base ≤ w.heap.size)
    (h : ∀ v' w', OwS base (l ++ [y]) v' w' → w.grownBy w' v.ownBlock → wpList Try.prog ops Q rest (a.put o.dst v') w') :
    wpList Try.prog ops Q (o :: rest) a w := by
  refine wpList_plain hgd fun K hK => ?_
  obtain ⟨v', w', hrun, h1, h2⟩ := run_append_s base w o.type v l hown g c y hc hn hbase
  unfold Oper.wp execOp
  simp only [ho, resolve, invoke, builtin, Sem.run_bind, Sem.run_pure, Result.andThen_ok, List.map_toArray, List.map_cons, List.map_nil, hs, hx, hrun]
  exact hK _ _ (h v' w' h1 h2)
theorem own_below {w w1 w0 : World} {base size n : Nat} {e : TypeId} {v : Value} {xs : List Value} (h : w.ownsRow base e size v n xs) (hg : w.grownBy w1 v.ownBlock) (hb : Below w0.heap.size w0 w) (hbase : w0.heap.size ≤ base) : Below w0.heap.size w0 w1 :=
  hb.grown hg hb.size (fun k e => Nat.le_trans hbase (World.ownsRow.lt h k e).1)

/-! The map in the world, and the log's box. -/
theorem keyI : Keyed Try.prog TI := int_keyed Try.underlying3
theorem wf64 {k : Int} (h0 : -9223372036854775808 ≤ k) (h1 : k ≤ 9223372036854775807) : (Lit.int .i64 k).wf = true := by
  have e1 : IntKind.i64.min = -9223372036854775808 := by decide
  have e2 : IntKind.i64.max = 9223372036854775807 := by decide
  simp [Lit.wf, e1, e2]
  omega
theorem key_of {k : Int} (h : (Lit.int .i64 k).wf = true) : keyOf Try.prog TI (.int .i64 k) = some (.int .i64 k) := keyOf_int_mk Try.underlying3 h
theorem zero_k (w : World) : (zeroValue TK).run Try.prog w = .ok (vK zK) w := by kernel_rfl
theorem own_tight {w : World} {P : Program} {t : TypeId} {R : Value → Option (DataW Unit × List MemPlace)} {b n : Nat} {M : List Et} (h : w.ownsMap P t R b n (DM M)) : w.ownsMap P t R b M.length (DM M) := by
  obtain ⟨es, clock, hb, F, hs, hD⟩ := h
  refine ⟨es, clock, hb, F, ?_, hD⟩
  have h1 := length_read (P := P) (k := t) (R0 := R) es
  unfold DM at hD
  injection hD with hD
  have h2 := congrArg List.length hD
  rw [h1, List.length_map] at h2
  omega

/-- A log's state: the base, and the values at the slots. -/
structure St where
  b : Int
  M : List Et
structure OkS (s : St) : Prop where
  hb : 0 ≤ s.b ∧ s.b ≤ 4096
  srt : Srt s.M
  ent : ∀ e ∈ s.M, s.b ≤ e.s ∧ e.s < 4096 ∧ e.k.size ≤ 65536
theorem OkS.len {s : St} (h : OkS s) : s.M.length ≤ 4096 := by
  have := srt_len s.M s.b 4096 h.srt (fun p hp => ⟨(h.ent p hp).1, (h.ent p hp).2.1⟩) h.hb.2
  have := h.hb.1
  omega
structure Ax (w : World) (sb mb : Nat) (s : St) : Prop where
  box : w.heap[sb]? = some (.cells #[.int .i64 s.b, .map (some mb)] TA (0, 0))
  own : w.ownsMap Try.prog TI rdK mb s.M.length (DM s.M)
  ok : OkS s
theorem Ax.lt {w : World} {sb mb : Nat} {s : St} (x : Ax w sb mb s) : sb < w.heap.size ∧ mb < w.heap.size := ⟨(Array.getElem?_eq_some_iff.1 x.box).1, x.own.lt⟩
theorem Ax.ne {w : World} {sb mb : Nat} {s : St} (x : Ax w sb mb s) : sb ≠ mb := by
  rintro rfl
  obtain ⟨es, clock, hb, _⟩ := x.own
  rw [x.box] at hb
  cases hb
theorem Ax.cells {w : World} {sb mb : Nat} {s : St} (x : Ax w sb mb s) :
    w.cell? ⟨sb, 0, none⟩ = some (.int .i64 s.b) ∧ w.cell? ⟨sb, 1, none⟩ = some (.map (some mb)) :=
  ⟨cell_of_row w sb 0 _ TA _ x.box, cell_of_row w sb 1 _ TA _ x.box⟩
theorem Ax.frozen {w : World} {sb mb : Nat} {s : St} (x : Ax w sb mb s) (i : Nat) : w.frozen? ⟨sb, i, none⟩ = false := frozen_of_row w sb i _ TA x.box
theorem Ax.kept {F : Nat → Prop} {w w' : World} {sb mb : Nat} {s : St} (x : Ax w sb mb s) (h : Keeps F w w') (h1 : ¬ F sb) (h2 : ¬ F mb) : Ax w' sb mb s := by
  refine ⟨(h.block sb x.lt.1 h1).trans x.box, ?_, x.ok⟩
  obtain ⟨es, clock, hb, F', hs, hD⟩ := x.own
  exact ⟨es, clock, (h.block mb x.lt.2 h2).trans hb, F', hs, hD⟩
theorem Ax.later {w w' : World} {sb mb : Nat} {s : St} (x : Ax w sb mb s) (h : Below w.heap.size w w') : Ax w' sb mb s := x.kept (F := fun _ => False) (Keeps.of_below h) id id
theorem Ax.alloc {w : World} {sb mb : Nat} {s : St} (x : Ax w sb mb s) (o : Obj) : Ax (w.alloc o) sb mb s := x.later (alloc_b w o)
theorem Ax.drew {w : World} {sb mb : Nat} {s : St} (x : Ax w sb mb s) : Ax w.drew sb mb s := x.later (Below.refl _ _).drew

/-! valid,  -/
theorem neq_map (w : World) (p : Option Nat) : (binOp .neq TM (.map p) (.map none)).run Try.prog w = .ok (.bool p.isSome) w := by
  have h := run_equalIn_map_nil_sl (P := Try.prog) w 9999 TM _ _ p Try.underlying36
  simp only [binOp]
  simp [show Op.equal TM (.map p) (.map none) = Op.equalIn (9999 + 1) TM (.map p) (.map none) from rfl, h]
theorem valid_any {sb mb : Nat} (w : World) (c4 : w.cell? ⟨sb, 1, none⟩ = some (.map (some mb))) :
    Calls Try.prog 41 #[.pointer (some ⟨sb, 0, none⟩)] w fun e w' => e = .returned (.bool true) ∧ w = w' := by
  have hn := fun w => neq_map w (some mb)
  go_enter Try.func41, Try.ntmps41
  go_wp2
  go_ret
  exact ⟨rfl, rfl⟩
theorem Ax.valid {sb mb : Nat} {s : St} {w : World} (x : Ax w sb mb s) :
    Calls Try.prog 41 #[.pointer (some ⟨sb, 0, none⟩)] w fun e w' => e = .returned (.bool true) ∧ w = w' := valid_any w x.cells.2
theorem valid_nil (w : World) :
    Calls Try.prog 41 #[.pointer none] w fun e w' => e = .returned (.bool false) ∧ w = w' := by
  go_enter Try.func41, Try.ntmps41
  go_wp2
  go_ret
  exact ⟨rfl, rfl⟩
theorem valid_zero (sb : Nat) (w : World) (c4 : w.cell? ⟨sb, 1, none⟩ = some (.map none)) :
    Calls Try.prog 41 #[.pointer (some ⟨sb, 0, none⟩)] w fun e w' => e = .returned (.bool false) ∧ w = w' := by
  have hn := fun w => neq_map w none
  go_enter Try.func41, Try.ntmps41
  go_wp2
  go_ret
  exact ⟨rfl, rfl⟩
theorem isbase_any (u : Int) (w : World) :
    Calls Try.prog 43 #[.int .i64 u] w fun e w' => e = .returned (.bool (decide (0 ≤ u ∧ u ≤ 4096))) ∧ w = w' := by
  by_cases h1 : 0 ≤ u
  · have b1 : decide (0 ≤ u) = true := by simpa using h1
    go_enter Try.func43, Try.ntmps43
    go_wp2
    go_ret
    exact ⟨by simp [h1], rfl⟩
  · have b1 : decide (0 ≤ u) = false := by simpa using h1
    go_enter Try.func43, Try.ntmps43
    go_wp2
    go_ret
    exact ⟨by simp [h1], rfl⟩

/-! New, Base. -/
def newS : St := ⟨0, []⟩
theorem ok_new : OkS newS := ⟨⟨Int.le_refl 0, by show (0 : Int) ≤ 4096; omega⟩, List.Pairwise.nil, fun e he => by cases he⟩
theorem new_any (w : World) :
    Calls Try.prog 13 #[] w fun e w' => ∃ sb mb, e = .returned (.pointer (some ⟨sb, 0, none⟩)) ∧ Ax w' sb mb newS ∧ w.heap.size ≤ sb ∧ w.heap.size ≤ mb ∧ Below w.heap.size w w' := by
  have hmm := @run_makeMap Try.prog
  have hown := World.ownsMap_made w Try.prog TI rdK
  have HO := Lib.hid ok_new
  go_enter Try.func13, Try.ntmps13
  go_wp2
  go_ret
  refine ⟨w.heap.size + 1, w.heap.size, rfl, ⟨?_, (show World.ownsMap _ _ _ _ _ _ (DM []) from hown).alloc _, HO.out⟩, by omega, Nat.le_refl _, ((Below.refl _ _).alloc (Nat.le_refl _) _).alloc (by simp) _⟩
  have := heap_alloc_new (w.alloc (.map #[] 0)) (.cells #[.int .i64 0, .map (some w.heap.size)] TA)
  rwa [World.size_alloc] at this
theorem base_any {sb mb : Nat} {s : St} (w : World) (x : Ax w sb mb s) :
    Calls Try.prog 26 #[.pointer (some ⟨sb, 0, none⟩)] w fun e w' => e = .returned (.int .i64 s.b) ∧ w = w' := by
  have hV := Lib.hid x.valid
  obtain ⟨c0, _⟩ := x.cells
  clear x
  generalize s.b = b at *
  go_enter Try.func26, Try.ntmps26
  go_wp2_with (go_at_call 41; refine hV.out.mono ?_; rintro e w' ⟨rfl, rfl⟩)
  go_ret
  exact ⟨rfl, rfl⟩

/-! Lookups. -/
theorem look_at {w : World} {mb n : Nat} {M : List Et} (h : w.ownsMap Try.prog TI rdK mb n (DM M)) {k : Int} (hk : (Lit.int .i64 k).wf = true) {r : Option Et} (hr : getM M k = r) :
    (Instr.lookup TM (.map (some mb)) (.int .i64 k) true).run Try.prog w = .ok (.tuple #[vK (gK r), .bool r.isSome]) w := by
  obtain ⟨v, ps, hrun, hv⟩ := h.look_ok (t := TM) keyI Try.underlying36 (zero_k w) (zd := kD zK) (rdK_mk zK) (key_of hk)
  rw [at_DM, hr] at hv
  rw [hrun, has_DM, hr]
  cases r with
  | none => rw [rdK_inv hv]
  | some c => rw [rdK_inv hv]
theorem has_any {sb mb : Nat} {s : St} (k : Int) (w : World) (x : Ax w sb mb s) (hk : (Lit.int .i64 k).wf = true) {r : Option Et} (hr : getM s.M k = r) :
    Calls Try.prog 48 #[.pointer (some ⟨sb, 0, none⟩), .int .i64 k] w fun e w' => e = .returned (.bool r.isSome) ∧ w = w' := by
  have hlook := look_at x.own hk hr
  obtain ⟨_, c1⟩ := x.cells
  clear x hr
  generalize r.isSome = b at *
  go_enter Try.func48, Try.ntmps48
  go_wp2
  go_ret
  exact ⟨rfl, rfl⟩
theorem get_any {sb mb : Nat} {s : St} (k : Int) (w : World) (x : Ax w sb mb s) (hk : (Lit.int .i64 k).wf = true) {r : Option Et} (hr : getM s.M k = r) :
    Calls Try.prog 24 #[.pointer (some ⟨sb, 0, none⟩), .int .i64 k] w fun e w' => e = .returned (.tuple #[.string (gK r), .bool r.isSome]) ∧ w = w' := by
  have hV := Lib.hid x.valid
  have hlook := look_at x.own hk hr
  obtain ⟨_, c1⟩ := x.cells
  clear x hr
  generalize r.isSome = b at *
  generalize gK r = q at *
  go_enter Try.func24, Try.ntmps24
  go_wp2_with (go_at_call 41; refine hV.out.mono ?_; rintro e w' ⟨rfl, rfl⟩)
  go_ret2
  exact ⟨rfl, rfl⟩
end Go.Proofs.Ytgeejkedljhcoaa.Slt
