/- A learner in memory: its box, its map; what steps leave as it was; rows of numbers; valid, isNode, good, check, New. -/
import Derived.Test.YtaacnhhinhdinaaE03
import Derived.Maps.AppendAt
import Derived.Shelf.SlMaps.Clone
namespace Go.Proofs.Ytaacnhhinhdinaa.Lrn
open Go.RowKit Go.Maps Go.Lib
open Bal (TB bOk ckB ordV eqB eqB_t eqB_f eq_b alloc_b check_any order_any)
set_option linter.unusedVariables false
set_option linter.unusedSimpArgs false
set_option maxRecDepth 20000

/-! What a step leaves as it was: all that was there but the blocks of F. -/
structure Keeps (F : Nat → Prop) (w w' : World) : Prop where
  os : w'.os = w.os
  tape : w'.tape = w.tape
  output : w'.output = w.output
  size : w.heap.size ≤ w'.heap.size
  block : ∀ k, k < w.heap.size → ¬ F k → w'.heap[k]? = w.heap[k]?
theorem Keeps.refl (F : Nat → Prop) (w : World) : Keeps F w w := ⟨rfl, rfl, rfl, Nat.le_refl _, fun _ _ _ => rfl⟩
theorem Keeps.of_below {F : Nat → Prop} {w w' : World} (h : Below w.heap.size w w') : Keeps F w w' := ⟨h.os, h.tape, h.output, h.size, fun k hk _ => h.block k hk⟩
theorem Keeps.trans {F G : Nat → Prop} {a b c : World} (h : Keeps F a b) (k : Keeps G b c) (hG : ∀ i, G i → i < a.heap.size → F i) : Keeps F a c :=
  ⟨k.os.trans h.os, k.tape.trans h.tape, k.output.trans h.output, Nat.le_trans h.size k.size, fun i hi hn =>
    (k.block i (Nat.lt_of_lt_of_le hi h.size) (fun hg => hn (hG i hg hi))).trans (h.block i hi hn)⟩
theorem Keeps.later {F : Nat → Prop} {a b c : World} (h : Keeps F a b) (k : Below b.heap.size b c) : Keeps F a c :=
  h.trans (Keeps.of_below (F := fun _ => False) k) fun i hi => hi.elim
theorem Keeps.below {F : Nat → Prop} {B : Nat} {w w' : World} (h : Keeps F w w') (hB : B ≤ w.heap.size) (hF : ∀ k, F k → B ≤ k) : Below B w w' :=
  ⟨h.os, h.tape, h.output, h.size, fun k hk => h.block k (by omega) (fun hf => by have := hF k hf; omega)⟩
theorem Keeps.wide {F G : Nat → Prop} {w w' : World} (h : Keeps F w w') (hF : ∀ k, F k → G k) : Keeps G w w' :=
  ⟨h.os, h.tape, h.output, h.size, fun k hk hn => h.block k hk (fun hf => hn (hF k hf))⟩
theorem Keeps.drew {F : Nat → Prop} {a w : World} (h : Keeps F a w) : Keeps F a w.drew := ⟨h.os, h.tape, h.output, h.size, h.block⟩
theorem Keeps.alloc {F : Nat → Prop} {a w : World} (h : Keeps F a w) (o : Obj) : Keeps F a (w.alloc o) :=
  h.later ((Below.refl _ _).alloc (Nat.le_refl _) _)
theorem Keeps.setCell {F : Nat → Prop} {a w : World} (h : Keeps F a w) {p : Addr} (hp : F p.block ∨ a.heap.size ≤ p.block) (u : Value) : Keeps F a (w.setCell p u) :=
  ⟨h.os, h.tape, h.output, by simp [World.setCell]; exact h.size, fun k hk hn => (Below.heap_setCell w p u k (fun e => by subst e; rcases hp with hp | hp; exact hn hp; omega)).trans (h.block k hk hn)⟩
theorem Keeps.grown {F : Nat → Prop} {a w w' : World} {row : Option Nat} (h : Keeps F a w) (hg : w.grownBy w' row) (hr : ∀ g, row = some g → F g ∨ a.heap.size ≤ g) : Keeps F a w' :=
  ⟨hg.os.trans h.os, hg.tape.trans h.tape, hg.output.trans h.output, Nat.le_trans h.size hg.size, fun k hk hn =>
    (hg.block k (Nat.lt_of_lt_of_le hk h.size) (fun e => by rcases hr k e.symm with h1 | h1; exact hn h1; omega)).trans (h.block k hk hn)⟩
theorem below_grown {W W' : World} (h : Below W.heap.size W W') : W.grownBy W' none := ⟨h.os, h.tape, h.output, h.size, fun k hk _ => h.block k hk⟩
theorem below2 {w w1 w2 : World} (h : Below w.heap.size w w1) (k : Below w1.heap.size w1 w2) : Below w.heap.size w w2 := h.trans (k.mono h.size)

/-! Rows of one's own. -/
abbrev TI : TypeId := 3
abbrev TK : TypeId := 78
abbrev TIs : TypeId := 52
abbrev TM : TypeId := 67
abbrev TA : TypeId := 69
theorem rows_form {w : World} {base n size : Nat} {e : TypeId} {v : Value} {xs : List Value} (h : w.ownsRow base e size v n xs) : ∃ a cap, v = .slice a n cap := by
  rcases h.2 with ⟨rfl, rfl⟩ | ⟨g, cap, cur, rfl, _⟩
  · exact ⟨none, 0, rfl⟩
  · exact ⟨_, cap, rfl⟩
theorem rows_kept {w w' : World} {base size n : Nat} {e : TypeId} {v : Value} {xs : List Value} (h : w.ownsRow base e size v n xs) (hs : ∀ k, v.ownBlock = some k → w'.heap[k]? = w.heap[k]?) : w'.ownsRow base e size v n xs := by
  refine ⟨h.1, ?_⟩
  rcases h.2 with hn | ⟨g, cap, cur, rfl, hbg, hg, rest⟩
  · exact .inl hn
  · exact .inr ⟨g, cap, cur, rfl, hbg, (hs g rfl).trans hg, rest⟩
theorem rows_later {w w' : World} {base size n : Nat} {e : TypeId} {v : Value} {xs : List Value} (h : w.ownsRow base e size v n xs) (hb : Below w.heap.size w w') : w'.ownsRow base e size v n xs :=
  rows_kept h fun k hk => hb.block k (World.ownsRow.lt h k hk).2
theorem rows_base {w : World} {base base' size n : Nat} {e : TypeId} {v : Value} {xs : List Value} (h : w.ownsRow base e size v n xs) (hb : base' ≤ base) : w.ownsRow base' e size v n xs := by
  refine ⟨h.1, ?_⟩
  rcases h.2 with h | ⟨g, cap, cur, rfl, hbg, rest⟩
  · exact .inl h
  · exact .inr ⟨g, cap, cur, rfl, Nat.le_trans hb hbg, rest⟩
theorem info_p {i : Option TypeInfo} {z : Option Value} {s b : Nat} (h : i.map (fun i => (i.zero, i.size, i.bytes)) = some (z, s, b)) : ∃ i0, i = some i0 ∧ i0.zero = z ∧ i0.size = s ∧ i0.bytes = b := by
  cases i with
  | none => cases h
  | some i0 =>
    simp only [Option.map_some, Option.some.injEq, Prod.mk.injEq] at h
    exact ⟨i0, rfl, h.1, h.2.1, h.2.2⟩
theorem addr_add (b off n : Nat) : (⟨b, off, Option.none⟩ : Addr).add n = ⟨b, off + n, Option.none⟩ := by unfold Addr.add; split <;> simp_all
theorem info_i : (Try.prog.info? TI).map (fun i => (i.zero, i.size, i.bytes)) = some (some (.int .i64 0), 1, 8) := by kernel_rfl
def ints (l : List Int) : List Value := l.map (Value.int .i64)
theorem ints_app (a b : List Int) : ints (a ++ b) = ints a ++ ints b := by simp [ints]
def OwI (base : Nat) (l : List Int) (v : Value) (w : World) : Prop := w.ownsRow base TI 1 v l.length (ints l)
theorem OwI.nil (base : Nat) (w : World) : OwI base [] (.slice none 0 0) w := World.ownsRow_nil w base TI 1
theorem run_append_i (base : Nat) (w : World) (ty : TypeId) (v : Value) (l : List Int) (hown : OwI base l v w) (g c : Nat) (x : Int) (hc : w.cell? ⟨g, 0, none⟩ = some (.int .i64 x)) (hn : l.length ≤ 100000) (hbase : base ≤ w.heap.size) :
    ∃ v' w', (Builtin.append_ #[TIs, TIs] ty #[v, .slice (some ⟨g, 0, none⟩) 1 c]).run Try.prog w = .ok v' w' ∧ OwI base (l ++ [x]) v' w' ∧ w.grownBy w' v.ownBlock := by
  obtain ⟨i0, hi, hz0, hz1, hz2⟩ := info_p info_i
  obtain ⟨v', w', h1, h2, h3, _, h5⟩ := run_append_own_at (P := Try.prog) w base TIs ty TI i0 (.int .i64 0) 1 8 Try.underlying52 hi hz0 hz1 hz2 rfl (by decide) v l.length (ints l) hown ⟨g, 0, none⟩ 1 c (ints [x]) rfl (fun j u hu => by
    cases j with
    | zero => cases hu; simpa [Addr.add] using hc
    | succ j => simp [ints] at hu) (fun u hu => by simp [ints] at hu; subst hu; rfl) (by unfold maxLen; omega) (by omega) hbase
  refine ⟨v', w', h1, ?_, h3⟩
  show w'.ownsRow base TI 1 v' (l ++ [x]).length (ints (l ++ [x]))
  rw [ints_app, List.length_append]
  exact h2
theorem wpList_append_i {ops : Array Oper} {rest : List Oper} {o : Oper} {a : Act} {w : World} {Q : Exit → Act → World → Prop} (hgd : o.guard = none) (s x : Operand)
    (ho : o.op = .call { callee := .builtin .append, args := #[s, x], argTypes := #[TIs, TIs] })
    (base : Nat) (v : Value) (l : List Int) (hs : a.eval s = v) (hown : OwI base l v w) (g c : Nat) (y : Int) (hx : a.eval x = .slice (some ⟨g, 0, none⟩) 1 c) (hc : w.cell? ⟨g, 0, none⟩ = some (.int .i64 y))
    (hn : l.length ≤ 100000) (hbase : base ≤ w.heap.size)
    (h : ∀ v' w', OwI base (l ++ [y]) v' w' → w.grownBy w' v.ownBlock → wpList Try.prog ops Q rest (a.put o.dst v') w') :
    wpList Try.prog ops Q (o :: rest) a w := by
  refine wpList_plain hgd fun K hK => ?_
  obtain ⟨v', w', hrun, h1, h2⟩ := run_append_i base w o.type v l hown g c y hc hn hbase
  unfold Oper.wp execOp
  simp only [ho, resolve, invoke, builtin, Sem.run_bind, Sem.run_pure, Result.andThen_ok, List.map_toArray, List.map_cons, List.map_nil, hs, hx, hrun]
  exact hK _ _ (h v' w' h1 h2)
theorem own_below {w w1 w0 : World} {base size n : Nat} {e : TypeId} {v : Value} {xs : List Value} (h : w.ownsRow base e size v n xs) (hg : w.grownBy w1 v.ownBlock) (hb : Below w0.heap.size w0 w) (hbase : w0.heap.size ≤ base) : Below w0.heap.size w0 w1 :=
  hb.grown hg hb.size (fun k e => Nat.le_trans hbase (World.ownsRow.lt h k e).1)

/-! The map in the world, and the learner's box. -/
theorem keyI : Keyed Try.prog TI := int_keyed Try.underlying3
theorem wf64 {k : Int} (h0 : -9223372036854775808 ≤ k) (h1 : k ≤ 9223372036854775807) : (Lit.int .i64 k).wf = true := by
  have e1 : IntKind.i64.min = -9223372036854775808 := by decide
  have e2 : IntKind.i64.max = 9223372036854775807 := by decide
  simp [Lit.wf, e1, e2]
  omega
theorem key_of {k : Int} (h : (Lit.int .i64 k).wf = true) : keyOf Try.prog TI (.int .i64 k) = some (.int .i64 k) := keyOf_int_mk Try.underlying3 h
theorem zero_k (w : World) : (zeroValue TK).run Try.prog w = .ok (vK zK) w := by kernel_rfl
theorem own_tight {w : World} {P : Program} {t : TypeId} {R : Value → Option (DataW Unit × List MemPlace)} {b n : Nat} {M : List Et} (h : w.ownsMap P t R b n (DM M)) : w.ownsMap P t R b M.length (DM M) := by
  obtain ⟨es, clock, hb, F, hs, hD⟩ := h
  refine ⟨es, clock, hb, F, ?_, hD⟩
  have h1 := length_read (P := P) (k := t) (R0 := R) es
  unfold DM at hD
  injection hD with hD
  have h2 := congrArg List.length hD
  rw [h1, List.length_map] at h2
  omega

/-- A learner's state: its group, the base, what is known of the slots. -/
structure St where
  n : Int
  b : Int
  M : List Et
def Gd (n r m : Int) : Prop := 1 ≤ r ∧ r ≤ 1073741824 ∧ 0 ≤ m ∧ m < n
instance (n r m : Int) : Decidable (Gd n r m) := by unfold Gd; exact inferInstance
structure OkK (n : Int) (k : Kn) : Prop where
  x : k.x ≤ Quo.all1 n.toNat
  v : k.v.size ≤ 65536
  t : k.t.size ≤ 65536
structure OkS (s : St) : Prop where
  hn : 1 ≤ s.n ∧ s.n ≤ 7
  hb : 0 ≤ s.b ∧ s.b ≤ 4096
  srt : Srt s.M
  ent : ∀ e ∈ s.M, s.b ≤ e.s ∧ e.s < 4096 ∧ OkK s.n e.k
theorem OkS.len {s : St} (h : OkS s) : s.M.length ≤ 4096 := by
  have := srt_len s.M s.b 4096 h.srt (fun p hp => ⟨(h.ent p hp).1, (h.ent p hp).2.1⟩) h.hb.2
  have := h.hb.1
  omega
theorem ok_z (n : Int) : OkK n zK := ⟨Nat.zero_le _, Nat.zero_le _, Nat.zero_le _⟩
theorem OkS.get {s : St} (h : OkS s) (k : Int) : OkK s.n (gK (getM s.M k)) := by
  cases hg : getM s.M k with
  | none => exact ok_z _
  | some e => exact (h.ent e ((get_iff h.srt _ _).1 hg).1).2.2
structure Ax (w : World) (sb mb : Nat) (s : St) : Prop where
  box : w.heap[sb]? = some (.cells #[.int .i64 s.n, .int .i64 s.b, .map (some mb)] TA (0, 0))
  own : w.ownsMap Try.prog TI rdK mb s.M.length (DM s.M)
  ok : OkS s
theorem Ax.lt {w : World} {sb mb : Nat} {s : St} (x : Ax w sb mb s) : sb < w.heap.size ∧ mb < w.heap.size := ⟨(Array.getElem?_eq_some_iff.1 x.box).1, x.own.lt⟩
theorem Ax.ne {w : World} {sb mb : Nat} {s : St} (x : Ax w sb mb s) : sb ≠ mb := by
  rintro rfl
  obtain ⟨es, clock, hb, _⟩ := x.own
  rw [x.box] at hb
  cases hb
theorem Ax.cells {w : World} {sb mb : Nat} {s : St} (x : Ax w sb mb s) :
    w.cell? ⟨sb, 0, none⟩ = some (.int .i64 s.n) ∧ w.cell? ⟨sb, 1, none⟩ = some (.int .i64 s.b) ∧ w.cell? ⟨sb, 2, none⟩ = some (.map (some mb)) :=
  ⟨cell_of_row w sb 0 _ TA _ x.box, cell_of_row w sb 1 _ TA _ x.box, cell_of_row w sb 2 _ TA _ x.box⟩
theorem Ax.frozen {w : World} {sb mb : Nat} {s : St} (x : Ax w sb mb s) (i : Nat) : w.frozen? ⟨sb, i, none⟩ = false := frozen_of_row w sb i _ TA x.box
theorem Ax.kept {F : Nat → Prop} {w w' : World} {sb mb : Nat} {s : St} (x : Ax w sb mb s) (h : Keeps F w w') (h1 : ¬ F sb) (h2 : ¬ F mb) : Ax w' sb mb s := by
  refine ⟨(h.block sb x.lt.1 h1).trans x.box, ?_, x.ok⟩
  obtain ⟨es, clock, hb, F', hs, hD⟩ := x.own
  exact ⟨es, clock, (h.block mb x.lt.2 h2).trans hb, F', hs, hD⟩
theorem Ax.later {w w' : World} {sb mb : Nat} {s : St} (x : Ax w sb mb s) (h : Below w.heap.size w w') : Ax w' sb mb s := x.kept (F := fun _ => False) (Keeps.of_below h) id id
theorem Ax.alloc {w : World} {sb mb : Nat} {s : St} (x : Ax w sb mb s) (o : Obj) : Ax (w.alloc o) sb mb s := x.later (alloc_b w o)
theorem Ax.drew {w : World} {sb mb : Nat} {s : St} (x : Ax w sb mb s) : Ax w.drew sb mb s := x.later (Below.refl _ _).drew

/-! valid, isNode, good, check. -/
theorem neq_map (w : World) (p : Option Nat) : (binOp .neq TM (.map p) (.map none)).run Try.prog w = .ok (.bool p.isSome) w := by
  have h := run_equalIn_map_nil_sl (P := Try.prog) w 9999 TM _ _ p Try.underlying67
  simp only [binOp]
  simp [show Op.equal TM (.map p) (.map none) = Op.equalIn (9999 + 1) TM (.map p) (.map none) from rfl, h]
theorem valid_any {sb mb : Nat} (w : World) (c4 : w.cell? ⟨sb, 2, none⟩ = some (.map (some mb))) :
    Calls Try.prog 29 #[.pointer (some ⟨sb, 0, none⟩)] w fun e w' => e = .returned (.bool true) ∧ w = w' := by
  have hn := fun w => neq_map w (some mb)
  go_enter Try.func29, Try.ntmps29
  go_wp2
  go_ret
  exact ⟨rfl, rfl⟩
theorem Ax.valid {sb mb : Nat} {s : St} {w : World} (x : Ax w sb mb s) :
    Calls Try.prog 29 #[.pointer (some ⟨sb, 0, none⟩)] w fun e w' => e = .returned (.bool true) ∧ w = w' := valid_any w x.cells.2.2
theorem valid_nil (w : World) :
    Calls Try.prog 29 #[.pointer none] w fun e w' => e = .returned (.bool false) ∧ w = w' := by
  go_enter Try.func29, Try.ntmps29
  go_wp2
  go_ret
  exact ⟨rfl, rfl⟩
theorem valid_zero (sb : Nat) (w : World) (c4 : w.cell? ⟨sb, 2, none⟩ = some (.map none)) :
    Calls Try.prog 29 #[.pointer (some ⟨sb, 0, none⟩)] w fun e w' => e = .returned (.bool false) ∧ w = w' := by
  have hn := fun w => neq_map w none
  go_enter Try.func29, Try.ntmps29
  go_wp2
  go_ret
  exact ⟨rfl, rfl⟩
theorem isnode_any {sb mb : Nat} {s : St} (k : Int) (w : World) (x : Ax w sb mb s) :
    Calls Try.prog 30 #[.pointer (some ⟨sb, 0, none⟩), .int .i64 k] w fun e w' => e = .returned (.bool (decide (0 ≤ k ∧ k < s.n))) ∧ w = w' := by
  obtain ⟨c0, _⟩ := x.cells
  clear x
  generalize s.n = n at *
  by_cases h1 : 0 ≤ k
  · have b1 : decide (0 ≤ k) = true := by simpa using h1
    go_enter Try.func30, Try.ntmps30
    go_wp2
    go_ret
    exact ⟨by simp [h1], rfl⟩
  · have b1 : decide (0 ≤ k) = false := by simpa using h1
    go_enter Try.func30, Try.ntmps30
    go_wp2
    go_ret
    exact ⟨by simp [h1], rfl⟩
/-- A ballot in the box that the call made, beside the learner's cells. -/
structure GAt (w : World) (sb : Nat) (n x y : Int) (W : World) : Prop where
  b1 : W.heap[w.heap.size]? = some (.cells #[.int .i64 x, .int .i64 y] TB (0, 0))
  c0 : W.cell? ⟨sb, 0, none⟩ = some (.int .i64 n)
  bel : Below w.heap.size w W
theorem GAt.later {w W W' : World} {sb : Nat} {n x y : Int} (h : GAt w sb n x y W) (hb : Below W.heap.size W W') : GAt w sb n x y W' := by
  have hlt := World.block_lt_of_cell? W _ h.c0
  exact ⟨(hb.block _ (Array.getElem?_eq_some_iff.1 h.b1).1).trans h.b1, (hb.cell (p := ⟨sb, 0, none⟩) hlt).trans h.c0, h.bel.trans (hb.mono h.bel.size)⟩
theorem GAt.drew {w W : World} {sb : Nat} {n x y : Int} (h : GAt w sb n x y W) : GAt w sb n x y W.drew := h.later (Below.refl _ _).drew
theorem GAt.cells {w W : World} {sb : Nat} {n x y : Int} (h : GAt w sb n x y W) : W.cell? ⟨w.heap.size, 0, none⟩ = some (.int .i64 x) ∧ W.cell? ⟨w.heap.size, 1, none⟩ = some (.int .i64 y) ∧
    W.cell? ⟨sb, 0, none⟩ = some (.int .i64 n) ∧ GAt w sb n x y W :=
  ⟨cell_of_row W _ 0 _ TB _ h.b1, cell_of_row W _ 1 _ TB _ h.b1, h.c0, h⟩
theorem gat_new {w : World} {sb mb : Nat} {s : St} (x : Ax w sb mb s) (u v : Int) : GAt w sb s.n u v (w.alloc (.cells #[.int .i64 u, .int .i64 v] TB)) := by
  obtain ⟨c0, _⟩ := (x.alloc (.cells #[.int .i64 u, .int .i64 v] TB)).cells
  exact ⟨heap_alloc_new _ _, c0, alloc_b _ _⟩
theorem good_any {sb mb : Nat} {s : St} (x y : Int) (w : World) (h : Ax w sb mb s) :
    Calls Try.prog 31 #[.pointer (some ⟨sb, 0, none⟩), .agg #[.int .i64 x, .int .i64 y]] w fun e w' => e = .returned (.bool (decide (Gd s.n x y))) ∧ Below w.heap.size w w' := by
  have G0 := gat_new h x y
  have hn := h.ok.hn
  generalize s.n = n at *
  have HE : Hid (∀ W, GAt w sb n x y W → W.cell? ⟨w.heap.size, 0, none⟩ = some (.int .i64 x) ∧ W.cell? ⟨w.heap.size, 1, none⟩ = some (.int .i64 y) ∧
    W.cell? ⟨sb, 0, none⟩ = some (.int .i64 n) ∧ GAt w sb n x y W) := fun W h => h.cells
  have hC := Lib.hid (fun W => check_any x y n W)
  clear h
  by_cases hz : x = 0 ∧ y = 0
  · have hq := fun W => eq_b x y 0 0 W
    rw [eqB_t hz] at hq
    have e := Lib.hid (show decide (Gd n x y) = false from decide_eq_false (by unfold Gd; omega))
    obtain ⟨d0, d1, _⟩ := G0.drew.cells
    have hB : Hid (∀ n, Below w.heap.size w ((w.alloc (.cells #[.int .i64 x, .int .i64 y] TB)).drewN n)) := Lib.hid fun n => G0.bel.trans ⟨rfl, rfl, rfl, Nat.le_refl _, fun _ _ => rfl⟩
    clear hz hn G0 HE
    go_enter Try.func31, Try.ntmps31
    go_wp2
    go_quiet (fail)
    go_wp2
    go_ret
    exact ⟨by rw [e.out]; rfl, hB.out _⟩
  · have hq := fun W => eq_b x y 0 0 W
    rw [eqB_f hz] at hq
    have e : (ckB x y n == 0) = decide (Gd n x y) := by
      unfold ckB
      by_cases hg : Gd n x y
      · rw [if_pos ⟨hn, .inr hg⟩, decide_eq_true hg]; rfl
      · rw [if_neg, decide_eq_false hg]; rfl
        rintro ⟨_, h1 | h1⟩
        · exact hz h1
        · exact hg h1
    generalize ckB x y n = c at *
    replace e := Lib.hid e
    clear hz hn
    go_enter Try.func31, Try.ntmps31
    go_wp2
    go_region_held3 (fun W => W.cell? ⟨w.heap.size, 0, none⟩ = some (.int .i64 x) ∧ W.cell? ⟨w.heap.size, 1, none⟩ = some (.int .i64 y) ∧
        W.cell? ⟨sb, 0, none⟩ = some (.int .i64 n) ∧ GAt w sb n x y W)
      ((first | exact HE.out _ G0.drew | exact HE.out _ (by assumption) | assumption))
      ((go_at_call 55; refine (hC.out _).mono ?_; rintro e2 w2 ⟨rfl, hb2⟩; have hG2 := G0.drew.later hb2))
    go_wp2
    go_ret
    exact ⟨by rw [← e.out]; rfl, hG2.bel⟩
def ckV (b k : Int) (v : ByteArray) : Int := if 0 ≤ k ∧ k < 4096 then (if 65536 < v.size then 11 else if k < b then 8 else 0) else 2
theorem chk_any {sb mb : Nat} {s : St} (k : Int) (v : ByteArray) (w : World) (x : Ax w sb mb s) :
    Calls Try.prog 32 #[.pointer (some ⟨sb, 0, none⟩), .int .i64 k, .string v] w fun e w' => e = .returned (.int .i64 (ckV s.b k v)) ∧ w = w' := by
  obtain ⟨_, c1, _⟩ := x.cells
  clear x
  generalize s.b = b at *
  by_cases h0 : k < 0
  · have b0 : decide (k < 0) = true := decide_eq_true h0
    have e := Lib.hid (show ckV b k v = 2 from if_neg (by omega))
    clear h0
    go_enter Try.func32, Try.ntmps32
    go_wp2
    go_ret
    exact ⟨by rw [e.out]; rfl, rfl⟩
  · have b0 : decide (k < 0) = false := decide_eq_false h0
    by_cases h1 : 4096 ≤ k
    · have b1 : decide (4096 ≤ k) = true := decide_eq_true h1
      have e := Lib.hid (show ckV b k v = 2 from if_neg (by omega))
      clear h0 h1
      go_enter Try.func32, Try.ntmps32
      go_wp2
      go_ret
      exact ⟨by rw [e.out]; rfl, rfl⟩
    · have b1 : decide (4096 ≤ k) = false := decide_eq_false h1
      by_cases hv : 65536 < v.size
      · have b2 : decide (65536 < v.size) = true := decide_eq_true hv
        have b3 : decide ((65536 : Int) < (v.size : Int)) = true := decide_eq_true (by omega)
        have e := Lib.hid (show ckV b k v = 11 by unfold ckV; rw [if_pos (by omega), if_pos hv])
        clear h0 h1 hv
        go_enter Try.func32, Try.ntmps32
        go_wp2
        go_ret
        exact ⟨by rw [e.out]; rfl, rfl⟩
      · have b2 : decide (65536 < v.size) = false := decide_eq_false hv
        have b3 : decide ((65536 : Int) < (v.size : Int)) = false := decide_eq_false (by omega)
        by_cases hk : k < b
        · have b4 : decide (k < b) = true := decide_eq_true hk
          have e := Lib.hid (show ckV b k v = 8 by unfold ckV; rw [if_pos (by omega), if_neg hv, if_pos hk])
          clear h0 h1 hv hk
          go_enter Try.func32, Try.ntmps32
          go_wp2
          go_ret
          exact ⟨by rw [e.out]; rfl, rfl⟩
        · have b4 : decide (k < b) = false := decide_eq_false hk
          have e := Lib.hid (show ckV b k v = 0 by unfold ckV; rw [if_pos (by omega), if_neg hv, if_neg hk])
          clear h0 h1 hv hk
          go_enter Try.func32, Try.ntmps32
          go_wp2
          go_ret
          exact ⟨by rw [e.out]; rfl, rfl⟩

/-! New. -/
def newS (n : Int) : St := ⟨n, 0, []⟩
theorem ok_new {n : Int} (h : 1 ≤ n ∧ n ≤ 7) : OkS (newS n) := ⟨h, ⟨Int.le_refl 0, by show (0 : Int) ≤ 4096; omega⟩, List.Pairwise.nil, fun e he => by cases he⟩
theorem new_any (n : Int) (h : 1 ≤ n ∧ n ≤ 7) (w : World) :
    Calls Try.prog 12 #[.int .i64 n] w fun e w' => ∃ sb mb, e = .returned (.tuple #[.pointer (some ⟨sb, 0, none⟩), .int .i64 0]) ∧ Ax w' sb mb (newS n) ∧ w.heap.size ≤ sb ∧ w.heap.size ≤ mb ∧ Below w.heap.size w w' := by
  have hmm := @run_makeMap Try.prog
  have hown := World.ownsMap_made w Try.prog TI rdK
  have b1 : decide (n < 1) = false := by simp; omega
  have b2 : decide (7 < n) = false := by simp; omega
  have HO := Lib.hid (ok_new h)
  clear h
  go_enter Try.func12, Try.ntmps12
  go_wp2
  go_ret2
  refine ⟨w.heap.size + 1, w.heap.size, rfl, ⟨?_, (show World.ownsMap _ _ _ _ _ _ (DM []) from hown).alloc _, HO.out⟩, by omega, Nat.le_refl _, ((Below.refl _ _).alloc (Nat.le_refl _) _).alloc (by simp) _⟩
  have := heap_alloc_new (w.alloc (.map #[] 0)) (.cells #[.int .i64 n, .int .i64 0, .map (some w.heap.size)] TA)
  rwa [World.size_alloc] at this
theorem new_bad (n : Int) (h : n < 1 ∨ 7 < n) (w : World) :
    Calls Try.prog 12 #[.int .i64 n] w fun e w' => e = .returned (.tuple #[.pointer none, .int .i64 2]) ∧ w = w' := by
  rcases h with h | h
  · have b1 : decide (n < 1) = true := by simpa using h
    go_enter Try.func12, Try.ntmps12
    go_wp2
    go_ret2
    exact ⟨rfl, rfl⟩
  · have b1 : decide (n < 1) = false := by simp; omega
    have b2 : decide (7 < n) = true := by simpa using h
    clear h
    go_enter Try.func12, Try.ntmps12
    go_wp2
    go_ret2
    exact ⟨rfl, rfl⟩
end Go.Proofs.Ytaacnhhinhdinaa.Lrn
