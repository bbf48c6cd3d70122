/- An acceptor in memory: its box, its map; what steps leave as it was; rows of numbers and of entries of one's own; valid, isStart, isSlot, good, late, New, Promised, Base. -/
import Derived.Test.YtpaoaagphacclaaA02
import Derived.Maps.AppendAt
import Derived.Shelf.SlMaps.Clone
namespace Go.Proofs.Ytpaoaagphacclaa.Acc
open Go.RowKit Go.Maps Go.Lib
open Bal (TB bOk ckB ordV eqB eqB_t eqB_f eq_b alloc_b check_any order_any)
set_option linter.unusedVariables false
set_option linter.unusedSimpArgs false
set_option maxRecDepth 20000

/-! What a step leaves as it was: all that was there but the blocks of F. -/
structure Keeps (F : Nat → Prop) (w w' : World) : Prop where
  os : w'.os = w.os
  tape : w'.tape = w.tape
  output : w'.output = w.output
  size : w.heap.size ≤ w'.heap.size
  block : ∀ k, k < w.heap.size → ¬ F k → w'.heap[k]? = w.heap[k]?
theorem Keeps.refl (F : Nat → Prop) (w : World) : Keeps F w w := ⟨rfl, rfl, rfl, Nat.le_refl _, fun _ _ _ => rfl⟩
theorem Keeps.of_below {F : Nat → Prop} {w w' : World} (h : Below w.heap.size w w') : Keeps F w w' := ⟨h.os, h.tape, h.output, h.size, fun k hk _ => h.block k hk⟩
theorem Keeps.trans {F G : Nat → Prop} {a b c : World} (h : Keeps F a b) (k : Keeps G b c) (hG : ∀ i, G i → i < a.heap.size → F i) : Keeps F a c :=
  ⟨k.os.trans h.os, k.tape.trans h.tape, k.output.trans h.output, Nat.le_trans h.size k.size, fun i hi hn =>
    (k.block i (Nat.lt_of_lt_of_le hi h.size) (fun hg => hn (hG i hg hi))).trans (h.block i hi hn)⟩
theorem Keeps.later {F : Nat → Prop} {a b c : World} (h : Keeps F a b) (k : Below b.heap.size b c) : Keeps F a c :=
  h.trans (Keeps.of_below (F := fun _ => False) k) fun i hi => hi.elim
theorem Keeps.below {F : Nat → Prop} {B : Nat} {w w' : World} (h : Keeps F w w') (hB : B ≤ w.heap.size) (hF : ∀ k, F k → B ≤ k) : Below B w w' :=
  ⟨h.os, h.tape, h.output, h.size, fun k hk => h.block k (by omega) (fun hf => by have := hF k hf; omega)⟩
theorem Keeps.wide {F G : Nat → Prop} {w w' : World} (h : Keeps F w w') (hF : ∀ k, F k → G k) : Keeps G w w' :=
  ⟨h.os, h.tape, h.output, h.size, fun k hk hn => h.block k hk (fun hf => hn (hF k hf))⟩
theorem Keeps.drew {F : Nat → Prop} {a w : World} (h : Keeps F a w) : Keeps F a w.drew := ⟨h.os, h.tape, h.output, h.size, h.block⟩
theorem Keeps.alloc {F : Nat → Prop} {a w : World} (h : Keeps F a w) (o : Obj) : Keeps F a (w.alloc o) :=
  h.later ((Below.refl _ _).alloc (Nat.le_refl _) _)
theorem Keeps.setCell {F : Nat → Prop} {a w : World} (h : Keeps F a w) {p : Addr} (hp : F p.block ∨ a.heap.size ≤ p.block) (u : Value) : Keeps F a (w.setCell p u) :=
  ⟨h.os, h.tape, h.output, by simp [World.setCell]; exact h.size, fun k hk hn => (Below.heap_setCell w p u k (fun e => by subst e; rcases hp with hp | hp; exact hn hp; omega)).trans (h.block k hk hn)⟩
theorem Keeps.grown {F : Nat → Prop} {a w w' : World} {row : Option Nat} (h : Keeps F a w) (hg : w.grownBy w' row) (hr : ∀ g, row = some g → F g ∨ a.heap.size ≤ g) : Keeps F a w' :=
  ⟨hg.os.trans h.os, hg.tape.trans h.tape, hg.output.trans h.output, Nat.le_trans h.size hg.size, fun k hk hn =>
    (hg.block k (Nat.lt_of_lt_of_le hk h.size) (fun e => by rcases hr k e.symm with h1 | h1; exact hn h1; omega)).trans (h.block k hk hn)⟩
theorem below_grown {W W' : World} (h : Below W.heap.size W W') : W.grownBy W' none := ⟨h.os, h.tape, h.output, h.size, fun k hk _ => h.block k hk⟩
theorem below2 {w w1 w2 : World} (h : Below w.heap.size w w1) (k : Below w1.heap.size w1 w2) : Below w.heap.size w w2 := h.trans (k.mono h.size)

/-! Rows of one's own. -/
abbrev TI : TypeId := 3
abbrev TE : TypeId := 45
abbrev TEs : TypeId := 36
abbrev TIs : TypeId := 81
abbrev TM : TypeId := 52
abbrev TA : TypeId := 54
theorem rows_form {w : World} {base n size : Nat} {e : TypeId} {v : Value} {xs : List Value} (h : w.ownsRow base e size v n xs) : ∃ a cap, v = .slice a n cap := by
  rcases h.2 with ⟨rfl, rfl⟩ | ⟨g, cap, cur, rfl, _⟩
  · exact ⟨none, 0, rfl⟩
  · exact ⟨_, cap, rfl⟩
theorem rows_kept {w w' : World} {base size n : Nat} {e : TypeId} {v : Value} {xs : List Value} (h : w.ownsRow base e size v n xs) (hs : ∀ k, v.ownBlock = some k → w'.heap[k]? = w.heap[k]?) : w'.ownsRow base e size v n xs := by
  refine ⟨h.1, ?_⟩
  rcases h.2 with hn | ⟨g, cap, cur, rfl, hbg, hg, rest⟩
  · exact .inl hn
  · exact .inr ⟨g, cap, cur, rfl, hbg, (hs g rfl).trans hg, rest⟩
theorem rows_later {w w' : World} {base size n : Nat} {e : TypeId} {v : Value} {xs : List Value} (h : w.ownsRow base e size v n xs) (hb : Below w.heap.size w w') : w'.ownsRow base e size v n xs :=
  rows_kept h fun k hk => hb.block k (World.ownsRow.lt h k hk).2
theorem rows_base {w : World} {base base' size n : Nat} {e : TypeId} {v : Value} {xs : List Value} (h : w.ownsRow base e size v n xs) (hb : base' ≤ base) : w.ownsRow base' e size v n xs := by
  refine ⟨h.1, ?_⟩
  rcases h.2 with h | ⟨g, cap, cur, rfl, hbg, rest⟩
  · exact .inl h
  · exact .inr ⟨g, cap, cur, rfl, Nat.le_trans hb hbg, rest⟩
theorem info_p {i : Option TypeInfo} {z : Option Value} {s b : Nat} (h : i.map (fun i => (i.zero, i.size, i.bytes)) = some (z, s, b)) : ∃ i0, i = some i0 ∧ i0.zero = z ∧ i0.size = s ∧ i0.bytes = b := by
  cases i with
  | none => cases h
  | some i0 =>
    simp only [Option.map_some, Option.some.injEq, Prod.mk.injEq] at h
    exact ⟨i0, rfl, h.1, h.2.1, h.2.2⟩
theorem addr_add (b off n : Nat) : (⟨b, off, Option.none⟩ : Addr).add n = ⟨b, off + n, Option.none⟩ := by unfold Addr.add; split <;> simp_all
theorem info_i : (Try.prog.info? TI).map (fun i => (i.zero, i.size, i.bytes)) = some (some (.int .i64 0), 1, 8) := by kernel_rfl
theorem info_e : (Try.prog.info? TE).map (fun i => (i.zero, i.size, i.bytes)) = some (some (.agg #[.int .i64 0, .int .i64 0, .int .i64 0, .string ⟨#[]⟩]), 4, 40) := by kernel_rfl
def ints (l : List Int) : List Value := l.map (Value.int .i64)
theorem ints_app (a b : List Int) : ints (a ++ b) = ints a ++ ints b := by simp [ints]
def OwI (base : Nat) (l : List Int) (v : Value) (w : World) : Prop := w.ownsRow base TI 1 v l.length (ints l)
theorem OwI.nil (base : Nat) (w : World) : OwI base [] (.slice none 0 0) w := World.ownsRow_nil w base TI 1
theorem run_append_i (base : Nat) (w : World) (ty : TypeId) (v : Value) (l : List Int) (hown : OwI base l v w) (g c : Nat) (x : Int) (hc : w.cell? ⟨g, 0, none⟩ = some (.int .i64 x)) (hn : l.length ≤ 100000) (hbase : base ≤ w.heap.size) :
    ∃ v' w', (Builtin.append_ #[TIs, TIs] ty #[v, .slice (some ⟨g, 0, none⟩) 1 c]).run Try.prog w = .ok v' w' ∧ OwI base (l ++ [x]) v' w' ∧ w.grownBy w' v.ownBlock := by
  obtain ⟨i0, hi, hz0, hz1, hz2⟩ := info_p info_i
  obtain ⟨v', w', h1, h2, h3, _, h5⟩ := run_append_own_at (P := Try.prog) w base TIs ty TI i0 (.int .i64 0) 1 8 Try.underlying81 hi hz0 hz1 hz2 rfl (by decide) v l.length (ints l) hown ⟨g, 0, none⟩ 1 c (ints [x]) rfl (fun j u hu => by
    cases j with
    | zero => cases hu; simpa [Addr.add] using hc
    | succ j => simp [ints] at hu) (fun u hu => by simp [ints] at hu; subst hu; rfl) (by unfold maxLen; omega) (by omega) hbase
  refine ⟨v', w', h1, ?_, h3⟩
  show w'.ownsRow base TI 1 v' (l ++ [x]).length (ints (l ++ [x]))
  rw [ints_app, List.length_append]
  exact h2
theorem wpList_append_i {ops : Array Oper} {rest : List Oper} {o : Oper} {a : Act} {w : World} {Q : Exit → Act → World → Prop} (hgd : o.guard = none) (s x : Operand)
    (ho : o.op = .call { callee := .builtin .append, args := #[s, x], argTypes := #[TIs, TIs] })
    (base : Nat) (v : Value) (l : List Int) (hs : a.eval s = v) (hown : OwI base l v w) (g c : Nat) (y : Int) (hx : a.eval x = .slice (some ⟨g, 0, none⟩) 1 c) (hc : w.cell? ⟨g, 0, none⟩ = some (.int .i64 y))
    (hn : l.length ≤ 100000) (hbase : base ≤ w.heap.size)
    (h : ∀ v' w', OwI base (l ++ [y]) v' w' → w.grownBy w' v.ownBlock → wpList Try.prog ops Q rest (a.put o.dst v') w') :
    wpList Try.prog ops Q (o :: rest) a w := by
  refine wpList_plain hgd fun K hK => ?_
  obtain ⟨v', w', hrun, h1, h2⟩ := run_append_i base w o.type v l hown g c y hc hn hbase
  unfold Oper.wp execOp
  simp only [ho, resolve, invoke, builtin, Sem.run_bind, Sem.run_pure, Result.andThen_ok, List.map_toArray, List.map_cons, List.map_nil, hs, hx, hrun]
  exact hK _ _ (h v' w' h1 h2)
def ec (e : Et) : List Value := [.int .i64 e.s, .int .i64 e.r, .int .i64 e.m, .string e.v]
def flat (L : List Et) : List Value := L.flatMap ec
theorem flat_app (a b : List Et) : flat (a ++ b) = flat a ++ flat b := by simp [flat]
theorem flat_one (e : Et) : flat [e] = ec e := by simp [flat]
theorem flat_cons (e : Et) (L : List Et) : flat (e :: L) = ec e ++ flat L := rfl
theorem flat_len : ∀ L : List Et, (flat L).length = L.length * 4
  | [] => rfl
  | e :: L => by rw [flat_cons, List.length_append, flat_len L, List.length_cons]; show 4 + _ = _; omega
theorem flat_at : ∀ (L : List Et) (i j : Nat) (e : Et), L[i]? = some e → j < 4 → (flat L)[i * 4 + j]? = (ec e)[j]?
  | [], i, j, e, h, _ => by simp at h
  | x :: L, 0, j, e, h, hj => by
    simp only [List.getElem?_cons_zero, Option.some.injEq] at h
    subst h
    rw [flat_cons, Nat.zero_mul, Nat.zero_add, List.getElem?_append_left (by show j < 4; omega)]
  | x :: L, i + 1, j, e, h, hj => by
    rw [List.getElem?_cons_succ] at h
    rw [flat_cons, List.getElem?_append_right (by show 4 ≤ _; omega), ← flat_at L i j e h hj]
    congr 1
    show (i + 1) * 4 + j - 4 = _
    omega
def OwE (base : Nat) (L : List Et) (v : Value) (w : World) : Prop := w.ownsRow base TE 4 v L.length (flat L)
theorem OwE.nil (base : Nat) (w : World) : OwE base [] (.slice none 0 0) w := World.ownsRow_nil w base TE 4
theorem OwE.later {base : Nat} {L : List Et} {v : Value} {w w' : World} (h : OwE base L v w) (hb : Below w.heap.size w w') : OwE base L v w' := rows_later h hb
theorem OwE.kept {base : Nat} {L : List Et} {v : Value} {w w' : World} {F : Nat → Prop} (h : OwE base L v w) (hk : Keeps F w w') (hF : ∀ k, F k → k < base) : OwE base L v w' :=
  rows_kept h fun k e => hk.block k (World.ownsRow.lt h k e).2 fun hf => by have := hF k hf; have := (World.ownsRow.lt h k e).1; omega
/-- Where an entry of a row stands. -/
theorem OwE.cells {base : Nat} {L : List Et} {v : Value} {w : World} (h : OwE base L v w) (hp : 0 < L.length) : ∃ g cap, v = .slice (some ⟨g, 0, none⟩) L.length cap ∧ base ≤ g ∧ g < w.heap.size ∧
    ∀ i e, L[i]? = some e → w.cell? ⟨g, i * 4, none⟩ = some (.int .i64 e.s) ∧ w.cell? ⟨g, i * 4 + 1, none⟩ = some (.int .i64 e.r) ∧ w.cell? ⟨g, i * 4 + 2, none⟩ = some (.int .i64 e.m) ∧ w.cell? ⟨g, i * 4 + 3, none⟩ = some (.string e.v) := by
  rcases h.2 with ⟨_, h0⟩ | ⟨g, cap, cur, rfl, hbg, hg, h1, h2, h3, h4⟩
  · omega
  · refine ⟨g, cap, rfl, hbg, (Array.getElem?_eq_some_iff.1 hg).1, fun i e he => ?_⟩
    have hi : i < L.length := (List.getElem?_eq_some_iff.1 he).1
    have key : ∀ j, j < 4 → w.cell? ⟨g, i * 4 + j, none⟩ = (ec e)[j]? := fun j hj => by
      have e1 := flat_at L i j e he hj
      rw [← h4, List.getElem?_take_of_lt (by omega)] at e1
      rw [← e1]
      simp [World.cell?, hg]
    exact ⟨key 0 (by omega), key 1 (by omega), key 2 (by omega), key 3 (by omega)⟩
theorem run_append_e (base : Nat) (w : World) (ty : TypeId) (v : Value) (L : List Et) (hown : OwE base L v w) (g c : Nat) (x : Et) (hx : w.heap[g]? = some (.cells (ec x).toArray TE (0, 0))) (hn : L.length ≤ 100000) (hbase : base ≤ w.heap.size) :
    ∃ v' w', (Builtin.append_ #[TEs, TEs] ty #[v, .slice (some ⟨g, 0, none⟩) 1 c]).run Try.prog w = .ok v' w' ∧ OwE base (L ++ [x]) v' w' ∧ w.grownBy w' v.ownBlock := by
  obtain ⟨i0, hi, hz0, hz1, hz2⟩ := info_p info_e
  obtain ⟨v', w', h1, h2, h3, _, h5⟩ := run_append_own_at (P := Try.prog) w base TEs ty TE i0 _ 4 40 Try.underlying36 hi hz0 hz1 hz2 rfl (by decide) v L.length (flat L) hown ⟨g, 0, none⟩ 1 c (ec x) rfl
    (fun j u hu => by rw [addr_add, Nat.zero_add, cell_of_row w g j _ TE _ hx]; simpa using hu) (fun u hu => by simp [ec] at hu; rcases hu with rfl | rfl | rfl | rfl <;> rfl) (by unfold maxLen; omega) (by omega) hbase
  refine ⟨v', w', h1, ?_, h3⟩
  show w'.ownsRow base TE 4 v' (L ++ [x]).length (flat (L ++ [x]))
  rw [flat_app, flat_one, List.length_append]
  exact h2
theorem wpList_append_e {ops : Array Oper} {rest : List Oper} {o : Oper} {a : Act} {w : World} {Q : Exit → Act → World → Prop} (hgd : o.guard = none) (s x : Operand)
    (ho : o.op = .call { callee := .builtin .append, args := #[s, x], argTypes := #[TEs, TEs] })
    (base : Nat) (v : Value) (L : List Et) (hs : a.eval s = v) (hown : OwE base L v w) (g c : Nat) (y : Et) (hx : a.eval x = .slice (some ⟨g, 0, none⟩) 1 c) (hc : w.heap[g]? = some (.cells (ec y).toArray TE (0, 0)))
    (hn : L.length ≤ 100000) (hbase : base ≤ w.heap.size)
    (h : ∀ v' w', OwE base (L ++ [y]) v' w' → w.grownBy w' v.ownBlock → wpList Try.prog ops Q rest (a.put o.dst v') w') :
    wpList Try.prog ops Q (o :: rest) a w := by
  refine wpList_plain hgd fun K hK => ?_
  obtain ⟨v', w', hrun, h1, h2⟩ := run_append_e base w o.type v L hown g c y hc hn hbase
  unfold Oper.wp execOp
  simp only [ho, resolve, invoke, builtin, Sem.run_bind, Sem.run_pure, Result.andThen_ok, List.map_toArray, List.map_cons, List.map_nil, hs, hx, hrun]
  exact hK _ _ (h v' w' h1 h2)
theorem own_below {w w1 w0 : World} {base size n : Nat} {e : TypeId} {v : Value} {xs : List Value} (h : w.ownsRow base e size v n xs) (hg : w.grownBy w1 v.ownBlock) (hb : Below w0.heap.size w0 w) (hbase : w0.heap.size ≤ base) : Below w0.heap.size w0 w1 :=
  hb.grown hg hb.size (fun k e => Nat.le_trans hbase (World.ownsRow.lt h k e).1)

/-! The map in the world, and the acceptor's box. -/
theorem keyI : Keyed Try.prog TI := int_keyed Try.underlying3
theorem wf64 {k : Int} (h0 : -9223372036854775808 ≤ k) (h1 : k ≤ 9223372036854775807) : (Lit.int .i64 k).wf = true := by
  have e1 : IntKind.i64.min = -9223372036854775808 := by decide
  have e2 : IntKind.i64.max = 9223372036854775807 := by decide
  simp [Lit.wf, e1, e2]
  omega
theorem key_of {k : Int} (h : (Lit.int .i64 k).wf = true) : keyOf Try.prog TI (.int .i64 k) = some (.int .i64 k) := keyOf_int_mk Try.underlying3 h
theorem zero_e (w : World) : (zeroValue TE).run Try.prog w = .ok (vE zE) w := by kernel_rfl
theorem own_tight {w : World} {P : Program} {t : TypeId} {R : Value → Option (DataW Unit × List MemPlace)} {b n : Nat} {M : List Et} (h : w.ownsMap P t R b n (DM M)) : w.ownsMap P t R b M.length (DM M) := by
  obtain ⟨es, clock, hb, F, hs, hD⟩ := h
  refine ⟨es, clock, hb, F, ?_, hD⟩
  have h1 := length_read (P := P) (k := t) (R0 := R) es
  unfold DM at hD
  injection hD with hD
  have h2 := congrArg List.length hD
  rw [h1, List.length_map] at h2
  omega

/-- An acceptor's state: its group, the promised ballot, the base, the entries. -/
structure St where
  n : Int
  r : Int
  m : Int
  b : Int
  M : List Et
def Gd (n r m : Int) : Prop := 1 ≤ r ∧ r ≤ 1073741824 ∧ 0 ≤ m ∧ m < n
instance (n r m : Int) : Decidable (Gd n r m) := by unfold Gd; exact inferInstance
structure OkS (s : St) : Prop where
  hn : 1 ≤ s.n ∧ s.n ≤ 7
  hb : 0 ≤ s.b ∧ s.b ≤ 4096
  hp : bOk s.n s.r s.m
  srt : Srt s.M
  ent : ∀ e ∈ s.M, s.b ≤ e.s ∧ e.s < 4096 ∧ Gd s.n e.r e.m ∧ e.v.size ≤ 65536
theorem OkS.len {s : St} (h : OkS s) : s.M.length ≤ 4096 := by
  have := srt_len s.M s.b 4096 h.srt (fun p hp => ⟨(h.ent p hp).1, (h.ent p hp).2.1⟩) h.hb.2
  have := h.hb.1
  omega
theorem fr_len (M : List Et) (k : Int) : (frM M k).length ≤ M.length := List.length_filter_le _ _
def aC (s : St) (mb : Nat) : Array Value := #[.int .i64 s.n, .int .i64 s.r, .int .i64 s.m, .int .i64 s.b, .map (some mb)]
structure Ax (w : World) (sb mb : Nat) (s : St) : Prop where
  box : w.heap[sb]? = some (.cells #[.int .i64 s.n, .int .i64 s.r, .int .i64 s.m, .int .i64 s.b, .map (some mb)] TA (0, 0))
  own : w.ownsMap Try.prog TI rdE mb s.M.length (DM s.M)
  ok : OkS s
theorem Ax.lt {w : World} {sb mb : Nat} {s : St} (x : Ax w sb mb s) : sb < w.heap.size ∧ mb < w.heap.size := ⟨(Array.getElem?_eq_some_iff.1 x.box).1, x.own.lt⟩
theorem Ax.ne {w : World} {sb mb : Nat} {s : St} (x : Ax w sb mb s) : sb ≠ mb := by
  rintro rfl
  obtain ⟨es, clock, hb, _⟩ := x.own
  rw [x.box] at hb
  cases hb
theorem Ax.cells {w : World} {sb mb : Nat} {s : St} (x : Ax w sb mb s) :
    w.cell? ⟨sb, 0, none⟩ = some (.int .i64 s.n) ∧ w.cell? ⟨sb, 1, none⟩ = some (.int .i64 s.r) ∧ w.cell? ⟨sb, 2, none⟩ = some (.int .i64 s.m) ∧ w.cell? ⟨sb, 3, none⟩ = some (.int .i64 s.b) ∧ w.cell? ⟨sb, 4, none⟩ = some (.map (some mb)) :=
  ⟨cell_of_row w sb 0 _ TA _ x.box, cell_of_row w sb 1 _ TA _ x.box, cell_of_row w sb 2 _ TA _ x.box, cell_of_row w sb 3 _ TA _ x.box, cell_of_row w sb 4 _ TA _ x.box⟩
theorem Ax.frozen {w : World} {sb mb : Nat} {s : St} (x : Ax w sb mb s) (i : Nat) : w.frozen? ⟨sb, i, none⟩ = false := frozen_of_row w sb i _ TA x.box
theorem Ax.kept {F : Nat → Prop} {w w' : World} {sb mb : Nat} {s : St} (x : Ax w sb mb s) (h : Keeps F w w') (h1 : ¬ F sb) (h2 : ¬ F mb) : Ax w' sb mb s := by
  refine ⟨(h.block sb x.lt.1 h1).trans x.box, ?_, x.ok⟩
  obtain ⟨es, clock, hb, F', hs, hD⟩ := x.own
  exact ⟨es, clock, (h.block mb x.lt.2 h2).trans hb, F', hs, hD⟩
theorem Ax.later {w w' : World} {sb mb : Nat} {s : St} (x : Ax w sb mb s) (h : Below w.heap.size w w') : Ax w' sb mb s := x.kept (F := fun _ => False) (Keeps.of_below h) id id
theorem Ax.alloc {w : World} {sb mb : Nat} {s : St} (x : Ax w sb mb s) (o : Obj) : Ax (w.alloc o) sb mb s := x.later (alloc_b w o)
theorem Ax.drew {w : World} {sb mb : Nat} {s : St} (x : Ax w sb mb s) : Ax w.drew sb mb s := x.later (Below.refl _ _).drew

/-! valid, isStart, isSlot. -/
theorem neq_map (w : World) (p : Option Nat) : (binOp .neq TM (.map p) (.map none)).run Try.prog w = .ok (.bool p.isSome) w := by
  have h := run_equalIn_map_nil_sl (P := Try.prog) w 9999 TM _ _ p Try.underlying52
  simp only [binOp]
  simp [show Op.equal TM (.map p) (.map none) = Op.equalIn (9999 + 1) TM (.map p) (.map none) from rfl, h]
theorem valid_any {sb mb : Nat} (w : World) (c4 : w.cell? ⟨sb, 4, none⟩ = some (.map (some mb))) :
    Calls Try.prog 38 #[.pointer (some ⟨sb, 0, none⟩)] w fun e w' => e = .returned (.bool true) ∧ w = w' := by
  have hn := fun w => neq_map w (some mb)
  go_enter Try.func38, Try.ntmps38
  go_wp2
  go_ret
  exact ⟨rfl, rfl⟩
theorem Ax.valid {sb mb : Nat} {s : St} {w : World} (x : Ax w sb mb s) :
    Calls Try.prog 38 #[.pointer (some ⟨sb, 0, none⟩)] w fun e w' => e = .returned (.bool true) ∧ w = w' := valid_any w x.cells.2.2.2.2
theorem valid_nil (w : World) :
    Calls Try.prog 38 #[.pointer none] w fun e w' => e = .returned (.bool false) ∧ w = w' := by
  go_enter Try.func38, Try.ntmps38
  go_wp2
  go_ret
  exact ⟨rfl, rfl⟩
theorem valid_zero (sb : Nat) (w : World) (c4 : w.cell? ⟨sb, 4, none⟩ = some (.map none)) :
    Calls Try.prog 38 #[.pointer (some ⟨sb, 0, none⟩)] w fun e w' => e = .returned (.bool false) ∧ w = w' := by
  have hn := fun w => neq_map w none
  go_enter Try.func38, Try.ntmps38
  go_wp2
  go_ret
  exact ⟨rfl, rfl⟩
theorem start_any (k : Int) (w : World) :
    Calls Try.prog 40 #[.int .i64 k] w fun e w' => e = .returned (.bool (decide (0 ≤ k ∧ k ≤ 4096))) ∧ w = w' := by
  by_cases h1 : 0 ≤ k
  · have b1 : decide (0 ≤ k) = true := by simpa using h1
    go_enter Try.func40, Try.ntmps40
    go_wp2
    go_ret
    exact ⟨by simp [h1], rfl⟩
  · have b1 : decide (0 ≤ k) = false := by simpa using h1
    go_enter Try.func40, Try.ntmps40
    go_wp2
    go_ret
    exact ⟨by simp [h1], rfl⟩
theorem slot_any (k : Int) (w : World) :
    Calls Try.prog 45 #[.int .i64 k] w fun e w' => e = .returned (.bool (decide (0 ≤ k ∧ k < 4096))) ∧ w = w' := by
  by_cases h1 : 0 ≤ k
  · have b1 : decide (0 ≤ k) = true := by simpa using h1
    go_enter Try.func45, Try.ntmps45
    go_wp2
    go_ret
    exact ⟨by simp [h1], rfl⟩
  · have b1 : decide (0 ≤ k) = false := by simpa using h1
    go_enter Try.func45, Try.ntmps45
    go_wp2
    go_ret
    exact ⟨by simp [h1], rfl⟩

/-! good and late. -/
/-- A ballot in the box that the call made, beside the acceptor's cells. -/
structure GAt (w : World) (sb : Nat) (n r m x y : Int) (W : World) : Prop where
  b1 : W.heap[w.heap.size]? = some (.cells #[.int .i64 x, .int .i64 y] TB (0, 0))
  c0 : W.cell? ⟨sb, 0, none⟩ = some (.int .i64 n)
  c1 : W.cell? ⟨sb, 1, none⟩ = some (.int .i64 r)
  c2 : W.cell? ⟨sb, 2, none⟩ = some (.int .i64 m)
  bel : Below w.heap.size w W
theorem GAt.later {w W W' : World} {sb : Nat} {n r m x y : Int} (h : GAt w sb n r m x y W) (hb : Below W.heap.size W W') : GAt w sb n r m x y W' := by
  have hlt := World.block_lt_of_cell? W _ h.c0
  exact ⟨(hb.block _ (Array.getElem?_eq_some_iff.1 h.b1).1).trans h.b1, (hb.cell (p := ⟨sb, 0, none⟩) hlt).trans h.c0, (hb.cell (p := ⟨sb, 1, none⟩) hlt).trans h.c1, (hb.cell (p := ⟨sb, 2, none⟩) hlt).trans h.c2, h.bel.trans (hb.mono h.bel.size)⟩
theorem GAt.drew {w W : World} {sb : Nat} {n r m x y : Int} (h : GAt w sb n r m x y W) : GAt w sb n r m x y W.drew := h.later (Below.refl _ _).drew
theorem GAt.cells {w W : World} {sb : Nat} {n r m x y : Int} (h : GAt w sb n r m x y W) : W.cell? ⟨w.heap.size, 0, none⟩ = some (.int .i64 x) ∧ W.cell? ⟨w.heap.size, 1, none⟩ = some (.int .i64 y) ∧
    W.cell? ⟨sb, 0, none⟩ = some (.int .i64 n) ∧ W.cell? ⟨sb, 1, none⟩ = some (.int .i64 r) ∧ W.cell? ⟨sb, 2, none⟩ = some (.int .i64 m) ∧ GAt w sb n r m x y W :=
  ⟨cell_of_row W _ 0 _ TB _ h.b1, cell_of_row W _ 1 _ TB _ h.b1, h.c0, h.c1, h.c2, h⟩
theorem gat_new {w : World} {sb mb : Nat} {s : St} (x : Ax w sb mb s) (u v : Int) : GAt w sb s.n s.r s.m u v (w.alloc (.cells #[.int .i64 u, .int .i64 v] TB)) := by
  obtain ⟨c0, c1, c2, _⟩ := (x.alloc (.cells #[.int .i64 u, .int .i64 v] TB)).cells
  exact ⟨heap_alloc_new _ _, c0, c1, c2, alloc_b _ _⟩
theorem good_any {sb mb : Nat} {s : St} (x y : Int) (w : World) (h : Ax w sb mb s) :
    Calls Try.prog 39 #[.pointer (some ⟨sb, 0, none⟩), .agg #[.int .i64 x, .int .i64 y]] w fun e w' => e = .returned (.bool (decide (Gd s.n x y))) ∧ Below w.heap.size w w' := by
  have G0 := gat_new h x y
  have hn := h.ok.hn
  generalize s.n = n at *
  generalize s.r = r at *
  generalize s.m = m at *
  have HE : Hid (∀ W, GAt w sb n r m x y W → W.cell? ⟨w.heap.size, 0, none⟩ = some (.int .i64 x) ∧ W.cell? ⟨w.heap.size, 1, none⟩ = some (.int .i64 y) ∧
    W.cell? ⟨sb, 0, none⟩ = some (.int .i64 n) ∧ W.cell? ⟨sb, 1, none⟩ = some (.int .i64 r) ∧ W.cell? ⟨sb, 2, none⟩ = some (.int .i64 m) ∧ GAt w sb n r m x y W) := fun W h => h.cells
  have hC := Lib.hid (fun W => check_any x y n W)
  clear h
  by_cases hz : x = 0 ∧ y = 0
  · have hq := fun W => eq_b x y 0 0 W
    rw [eqB_t hz] at hq
    have e := Lib.hid (show decide (Gd n x y) = false from decide_eq_false (by unfold Gd; omega))
    obtain ⟨d0, d1, _⟩ := G0.drew.cells
    have hB : Hid (∀ n, Below w.heap.size w ((w.alloc (.cells #[.int .i64 x, .int .i64 y] TB)).drewN n)) := Lib.hid fun n => G0.bel.trans ⟨rfl, rfl, rfl, Nat.le_refl _, fun _ _ => rfl⟩
    clear hz hn G0 HE
    go_enter Try.func39, Try.ntmps39
    go_wp2
    go_quiet (fail)
    go_wp2
    go_ret
    exact ⟨by rw [e.out]; rfl, hB.out _⟩
  · have hq := fun W => eq_b x y 0 0 W
    rw [eqB_f hz] at hq
    have e : (ckB x y n == 0) = decide (Gd n x y) := by
      unfold ckB
      by_cases hg : Gd n x y
      · rw [if_pos ⟨hn, .inr hg⟩, decide_eq_true hg]; rfl
      · rw [if_neg, decide_eq_false hg]; rfl
        rintro ⟨_, h1 | h1⟩
        · exact hz h1
        · exact hg h1
    generalize ckB x y n = c at *
    replace e := Lib.hid e
    clear hz hn
    go_enter Try.func39, Try.ntmps39
    go_wp2
    go_region_held3 (fun W => W.cell? ⟨w.heap.size, 0, none⟩ = some (.int .i64 x) ∧ W.cell? ⟨w.heap.size, 1, none⟩ = some (.int .i64 y) ∧
        W.cell? ⟨sb, 0, none⟩ = some (.int .i64 n) ∧ W.cell? ⟨sb, 1, none⟩ = some (.int .i64 r) ∧ W.cell? ⟨sb, 2, none⟩ = some (.int .i64 m) ∧ GAt w sb n r m x y W)
      ((first | exact HE.out _ G0.drew | exact HE.out _ (by assumption) | assumption))
      ((go_at_call 54; refine (hC.out _).mono ?_; rintro e2 w2 ⟨rfl, hb2⟩; have hG2 := G0.drew.later hb2))
    go_wp2
    go_ret
    exact ⟨by rw [← e.out]; rfl, hG2.bel⟩
theorem late_any {sb mb : Nat} {s : St} (x y : Int) (w : World) (h : Ax w sb mb s) :
    Calls Try.prog 41 #[.pointer (some ⟨sb, 0, none⟩), .agg #[.int .i64 x, .int .i64 y]] w fun e w' => e = .returned (.bool (decide (ordV x y s.r s.m < 0))) ∧ Below w.heap.size w w' := by
  have G0 := gat_new h x y
  generalize s.n = n at *
  generalize s.r = r at *
  generalize s.m = m at *
  have HE : Hid (∀ W, GAt w sb n r m x y W → W.cell? ⟨w.heap.size, 0, none⟩ = some (.int .i64 x) ∧ W.cell? ⟨w.heap.size, 1, none⟩ = some (.int .i64 y) ∧
    W.cell? ⟨sb, 0, none⟩ = some (.int .i64 n) ∧ W.cell? ⟨sb, 1, none⟩ = some (.int .i64 r) ∧ W.cell? ⟨sb, 2, none⟩ = some (.int .i64 m) ∧ GAt w sb n r m x y W) := fun W h => h.cells
  have hC := Lib.hid (fun W => order_any x y r m W)
  generalize ordV x y r m = c at *
  clear h
  go_enter Try.func41, Try.ntmps41
  go_wp2
  go_region_held3 (fun W => W.cell? ⟨w.heap.size, 0, none⟩ = some (.int .i64 x) ∧ W.cell? ⟨w.heap.size, 1, none⟩ = some (.int .i64 y) ∧
      W.cell? ⟨sb, 0, none⟩ = some (.int .i64 n) ∧ W.cell? ⟨sb, 1, none⟩ = some (.int .i64 r) ∧ W.cell? ⟨sb, 2, none⟩ = some (.int .i64 m) ∧ GAt w sb n r m x y W)
    ((first | exact HE.out _ G0.drew | exact HE.out _ (by assumption) | assumption))
    ((go_at_call 34; refine (hC.out _).mono ?_; rintro e2 w2 ⟨rfl, hb2⟩; have hG2 := G0.drew.later hb2))
  go_wp2
  go_ret
  exact ⟨rfl, hG2.bel⟩

/-! New, Promised, Base. -/
def newS (n : Int) : St := ⟨n, 0, 0, 0, []⟩
theorem ok_new {n : Int} (h : 1 ≤ n ∧ n ≤ 7) : OkS (newS n) := ⟨h, ⟨Int.le_refl 0, by show (0 : Int) ≤ 4096; omega⟩, .inl ⟨rfl, rfl⟩, List.Pairwise.nil, fun e he => by cases he⟩
theorem new_any (n : Int) (h : 1 ≤ n ∧ n ≤ 7) (w : World) :
    Calls Try.prog 14 #[.int .i64 n] w fun e w' => ∃ sb mb, e = .returned (.tuple #[.pointer (some ⟨sb, 0, none⟩), .int .i64 0]) ∧ Ax w' sb mb (newS n) ∧ w.heap.size ≤ sb ∧ w.heap.size ≤ mb ∧ Below w.heap.size w w' := by
  have hmm := @run_makeMap Try.prog
  have hown := World.ownsMap_made w Try.prog TI rdE
  have b1 : decide (n < 1) = false := by simp; omega
  have b2 : decide (7 < n) = false := by simp; omega
  have HO := Lib.hid (ok_new h)
  clear h
  go_enter Try.func14, Try.ntmps14
  go_wp2
  go_ret2
  refine ⟨w.heap.size + 1, w.heap.size, rfl, ⟨?_, (show World.ownsMap _ _ _ _ _ _ (DM []) from hown).alloc _, HO.out⟩, by omega, Nat.le_refl _, ((Below.refl _ _).alloc (Nat.le_refl _) _).alloc (by simp) _⟩
  have := heap_alloc_new (w.alloc (.map #[] 0)) (.cells #[.int .i64 n, .int .i64 0, .int .i64 0, .int .i64 0, .map (some w.heap.size)] TA)
  rwa [World.size_alloc] at this
theorem new_bad (n : Int) (h : n < 1 ∨ 7 < n) (w : World) :
    Calls Try.prog 14 #[.int .i64 n] w fun e w' => e = .returned (.tuple #[.pointer none, .int .i64 2]) ∧ w = w' := by
  rcases h with h | h
  · have b1 : decide (n < 1) = true := by simpa using h
    go_enter Try.func14, Try.ntmps14
    go_wp2
    go_ret2
    exact ⟨rfl, rfl⟩
  · have b1 : decide (n < 1) = false := by simp; omega
    have b2 : decide (7 < n) = true := by simpa using h
    clear h
    go_enter Try.func14, Try.ntmps14
    go_wp2
    go_ret2
    exact ⟨rfl, rfl⟩
theorem promised_any {sb mb : Nat} {s : St} (w : World) (x : Ax w sb mb s) :
    Calls Try.prog 27 #[.pointer (some ⟨sb, 0, none⟩)] w fun e w' => e = .returned (.agg #[.int .i64 s.r, .int .i64 s.m]) ∧ Below w.heap.size w w' := by
  have x1 := x.alloc (.cells #[.int .i64 0, .int .i64 0] TB)
  obtain ⟨_, c1, c2, _⟩ := x1.cells
  have hV := Lib.hid x1.valid
  have hlt := x.lt.1
  clear x x1
  generalize s.r = r at *
  generalize s.m = m at *
  have hB := Lib.hid (Bal.bx_new w r m)
  go_enter Try.func27, Try.ntmps27
  go_wp2_with (go_at_call 38; refine hV.out.mono ?_; rintro e w' ⟨rfl, rfl⟩)
  obtain ⟨d0, d1, _⟩ := hB.out.cells
  refine bodyPost_ret (v := .agg #[.int .i64 r, .int .i64 m]) ?_ rfl ⟨rfl, hB.out.bel⟩
  simp [results, Try.results27, go_sem, d0, d1]
theorem base_any {sb mb : Nat} {s : St} (w : World) (x : Ax w sb mb s) :
    Calls Try.prog 29 #[.pointer (some ⟨sb, 0, none⟩)] w fun e w' => e = .returned (.int .i64 s.b) ∧ w = w' := by
  obtain ⟨_, _, _, c3, _⟩ := x.cells
  have hV := Lib.hid x.valid
  clear x
  generalize s.b = b at *
  go_enter Try.func29, Try.ntmps29
  go_wp2_with (go_at_call 38; refine hV.out.mono ?_; rintro e w' ⟨rfl, rfl⟩)
  go_ret
  exact ⟨rfl, rfl⟩
end Go.Proofs.Ytpaoaagphacclaa.Acc
