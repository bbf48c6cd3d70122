/- A proposer in memory: rows of entries, its box; valid, good, isStart. -/
import Derived.Test.YtffiooclkchoiaaP03
import Derived.BigQuiet
import Derived.Deep.QuietTactic
import Derived.Laws.Rows
namespace Go.Proofs.Ytffiooclkchoiaa.Prp
open Go.RowKit Go.Lib
open Bal (TB bOk ckB ordV eqB eqB_t eqB_f eq_b alloc_b check_any order_any)
set_option linter.unusedVariables false
set_option linter.unusedSimpArgs false
set_option maxRecDepth 20000

/-! What a step leaves as it was: all that was there but the blocks of F. -/
structure Keeps (F : Nat → Prop) (w w' : World) : Prop where
  os : w'.os = w.os
  tape : w'.tape = w.tape
  output : w'.output = w.output
  size : w.heap.size ≤ w'.heap.size
  block : ∀ k, k < w.heap.size → ¬ F k → w'.heap[k]? = w.heap[k]?
theorem Keeps.refl (F : Nat → Prop) (w : World) : Keeps F w w := ⟨rfl, rfl, rfl, Nat.le_refl _, fun _ _ _ => rfl⟩
theorem Keeps.of_below {F : Nat → Prop} {w w' : World} (h : Below w.heap.size w w') : Keeps F w w' := ⟨h.os, h.tape, h.output, h.size, fun k hk _ => h.block k hk⟩
theorem Keeps.trans {F G : Nat → Prop} {a b c : World} (h : Keeps F a b) (k : Keeps G b c) (hG : ∀ i, G i → i < a.heap.size → F i) : Keeps F a c :=
  ⟨k.os.trans h.os, k.tape.trans h.tape, k.output.trans h.output, Nat.le_trans h.size k.size, fun i hi hn =>
    (k.block i (Nat.lt_of_lt_of_le hi h.size) (fun hg => hn (hG i hg hi))).trans (h.block i hi hn)⟩
theorem Keeps.later {F : Nat → Prop} {a b c : World} (h : Keeps F a b) (k : Below b.heap.size b c) : Keeps F a c :=
  h.trans (Keeps.of_below (F := fun _ => False) k) fun i hi => hi.elim
theorem Keeps.below {F : Nat → Prop} {B : Nat} {w w' : World} (h : Keeps F w w') (hB : B ≤ w.heap.size) (hF : ∀ k, F k → B ≤ k) : Below B w w' :=
  ⟨h.os, h.tape, h.output, h.size, fun k hk => h.block k (by omega) (fun hf => by have := hF k hf; omega)⟩
theorem Keeps.wide {F G : Nat → Prop} {w w' : World} (h : Keeps F w w') (hF : ∀ k, F k → G k) : Keeps G w w' :=
  ⟨h.os, h.tape, h.output, h.size, fun k hk hn => h.block k hk (fun hf => hn (hF k hf))⟩
theorem Keeps.drew {F : Nat → Prop} {a w : World} (h : Keeps F a w) : Keeps F a w.drew := ⟨h.os, h.tape, h.output, h.size, h.block⟩
theorem Keeps.alloc {F : Nat → Prop} {a w : World} (h : Keeps F a w) (o : Obj) : Keeps F a (w.alloc o) :=
  h.later ((Below.refl _ _).alloc (Nat.le_refl _) _)
theorem Keeps.setCell {F : Nat → Prop} {a w : World} (h : Keeps F a w) {p : Addr} (hp : F p.block ∨ a.heap.size ≤ p.block) (u : Value) : Keeps F a (w.setCell p u) :=
  ⟨h.os, h.tape, h.output, by simp [World.setCell]; exact h.size, fun k hk hn => (Below.heap_setCell w p u k (fun e => by subst e; rcases hp with hp | hp; exact hn hp; omega)).trans (h.block k hk hn)⟩
theorem Keeps.grown {F : Nat → Prop} {a w w' : World} {row : Option Nat} (h : Keeps F a w) (hg : w.grownBy w' row) (hr : ∀ g, row = some g → F g ∨ a.heap.size ≤ g) : Keeps F a w' :=
  ⟨hg.os.trans h.os, hg.tape.trans h.tape, hg.output.trans h.output, Nat.le_trans h.size hg.size, fun k hk hn =>
    (hg.block k (Nat.lt_of_lt_of_le hk h.size) (fun e => by rcases hr k e.symm with h1 | h1; exact hn h1; omega)).trans (h.block k hk hn)⟩
theorem below_grown {W W' : World} (h : Below W.heap.size W W') : W.grownBy W' none := ⟨h.os, h.tape, h.output, h.size, fun k hk _ => h.block k hk⟩
theorem below2 {w w1 w2 : World} (h : Below w.heap.size w w1) (k : Below w1.heap.size w1 w2) : Below w.heap.size w w2 := h.trans (k.mono h.size)

/-! Rows of one's own. -/
abbrev TI : TypeId := 3
abbrev TE : TypeId := 49
abbrev vE (e : Et) : Value := .agg #[.int .i64 e.s, .int .i64 e.r, .int .i64 e.m, .string e.v]
abbrev TEs : TypeId := 36
theorem rows_form {w : World} {base n size : Nat} {e : TypeId} {v : Value} {xs : List Value} (h : w.ownsRow base e size v n xs) : ∃ a cap, v = .slice a n cap := by
  rcases h.2 with ⟨rfl, rfl⟩ | ⟨g, cap, cur, rfl, _⟩
  · exact ⟨none, 0, rfl⟩
  · exact ⟨_, cap, rfl⟩
theorem rows_kept {w w' : World} {base size n : Nat} {e : TypeId} {v : Value} {xs : List Value} (h : w.ownsRow base e size v n xs) (hs : ∀ k, v.ownBlock = some k → w'.heap[k]? = w.heap[k]?) : w'.ownsRow base e size v n xs := by
  refine ⟨h.1, ?_⟩
  rcases h.2 with hn | ⟨g, cap, cur, rfl, hbg, hg, rest⟩
  · exact .inl hn
  · exact .inr ⟨g, cap, cur, rfl, hbg, (hs g rfl).trans hg, rest⟩
theorem rows_later {w w' : World} {base size n : Nat} {e : TypeId} {v : Value} {xs : List Value} (h : w.ownsRow base e size v n xs) (hb : Below w.heap.size w w') : w'.ownsRow base e size v n xs :=
  rows_kept h fun k hk => hb.block k (World.ownsRow.lt h k hk).2
theorem rows_base {w : World} {base base' size n : Nat} {e : TypeId} {v : Value} {xs : List Value} (h : w.ownsRow base e size v n xs) (hb : base' ≤ base) : w.ownsRow base' e size v n xs := by
  refine ⟨h.1, ?_⟩
  rcases h.2 with h | ⟨g, cap, cur, rfl, hbg, rest⟩
  · exact .inl h
  · exact .inr ⟨g, cap, cur, rfl, Nat.le_trans hb hbg, rest⟩
theorem info_p {i : Option TypeInfo} {z : Option Value} {s b : Nat} (h : i.map (fun i => (i.zero, i.size, i.bytes)) = some (z, s, b)) : ∃ i0, i = some i0 ∧ i0.zero = z ∧ i0.size = s ∧ i0.bytes = b := by
  cases i with
  | none => cases h
  | some i0 =>
    simp only [Option.map_some, Option.some.injEq, Prod.mk.injEq] at h
    exact ⟨i0, rfl, h.1, h.2.1, h.2.2⟩
theorem addr_add (b off n : Nat) : (⟨b, off, Option.none⟩ : Addr).add n = ⟨b, off + n, Option.none⟩ := by unfold Addr.add; split <;> simp_all
theorem info_e : (Try.prog.info? TE).map (fun i => (i.zero, i.size, i.bytes)) = some (some (.agg #[.int .i64 0, .int .i64 0, .int .i64 0, .string ⟨#[]⟩]), 4, 40) := by kernel_rfl
def ec (e : Et) : List Value := [.int .i64 e.s, .int .i64 e.r, .int .i64 e.m, .string e.v]
def flat (L : List Et) : List Value := L.flatMap ec
theorem flat_app (a b : List Et) : flat (a ++ b) = flat a ++ flat b := by simp [flat]
theorem flat_one (e : Et) : flat [e] = ec e := by simp [flat]
theorem flat_cons (e : Et) (L : List Et) : flat (e :: L) = ec e ++ flat L := rfl
theorem flat_len : ∀ L : List Et, (flat L).length = L.length * 4
  | [] => rfl
  | e :: L => by rw [flat_cons, List.length_append, flat_len L, List.length_cons]; show 4 + _ = _; omega
theorem flat_at : ∀ (L : List Et) (i j : Nat) (e : Et), L[i]? = some e → j < 4 → (flat L)[i * 4 + j]? = (ec e)[j]?
  | [], i, j, e, h, _ => by simp at h
  | x :: L, 0, j, e, h, hj => by
    simp only [List.getElem?_cons_zero, Option.some.injEq] at h
    subst h
    rw [flat_cons, Nat.zero_mul, Nat.zero_add, List.getElem?_append_left (by show j < 4; omega)]
  | x :: L, i + 1, j, e, h, hj => by
    rw [List.getElem?_cons_succ] at h
    rw [flat_cons, List.getElem?_append_right (by show 4 ≤ _; omega), ← flat_at L i j e h hj]
    congr 1
    show (i + 1) * 4 + j - 4 = _
    omega
def OwE (base : Nat) (L : List Et) (v : Value) (w : World) : Prop := w.ownsRow base TE 4 v L.length (flat L)
theorem OwE.nil (base : Nat) (w : World) : OwE base [] (.slice none 0 0) w := World.ownsRow_nil w base TE 4
theorem OwE.later {base : Nat} {L : List Et} {v : Value} {w w' : World} (h : OwE base L v w) (hb : Below w.heap.size w w') : OwE base L v w' := rows_later h hb
theorem OwE.kept {base : Nat} {L : List Et} {v : Value} {w w' : World} {F : Nat → Prop} (h : OwE base L v w) (hk : Keeps F w w') (hF : ∀ k, F k → k < base) : OwE base L v w' :=
  rows_kept h fun k e => hk.block k (World.ownsRow.lt h k e).2 fun hf => by have := hF k hf; have := (World.ownsRow.lt h k e).1; omega
/-- Where an entry of a row stands. -/
theorem OwE.cells {base : Nat} {L : List Et} {v : Value} {w : World} (h : OwE base L v w) (hp : 0 < L.length) : ∃ g cap, v = .slice (some ⟨g, 0, none⟩) L.length cap ∧ base ≤ g ∧ g < w.heap.size ∧
    ∀ i e, L[i]? = some e → w.cell? ⟨g, i * 4, none⟩ = some (.int .i64 e.s) ∧ w.cell? ⟨g, i * 4 + 1, none⟩ = some (.int .i64 e.r) ∧ w.cell? ⟨g, i * 4 + 2, none⟩ = some (.int .i64 e.m) ∧ w.cell? ⟨g, i * 4 + 3, none⟩ = some (.string e.v) := by
  rcases h.2 with ⟨_, h0⟩ | ⟨g, cap, cur, rfl, hbg, hg, h1, h2, h3, h4⟩
  · omega
  · refine ⟨g, cap, rfl, hbg, (Array.getElem?_eq_some_iff.1 hg).1, fun i e he => ?_⟩
    have hi : i < L.length := (List.getElem?_eq_some_iff.1 he).1
    have key : ∀ j, j < 4 → w.cell? ⟨g, i * 4 + j, none⟩ = (ec e)[j]? := fun j hj => by
      have e1 := flat_at L i j e he hj
      rw [← h4, List.getElem?_take_of_lt (by omega)] at e1
      rw [← e1]
      simp [World.cell?, hg]
    exact ⟨key 0 (by omega), key 1 (by omega), key 2 (by omega), key 3 (by omega)⟩
theorem run_append_e (base : Nat) (w : World) (ty : TypeId) (v : Value) (L : List Et) (hown : OwE base L v w) (g c : Nat) (x : Et) (hx : w.heap[g]? = some (.cells (ec x).toArray TE (0, 0))) (hn : L.length ≤ 100000) (hbase : base ≤ w.heap.size) :
    ∃ v' w', (Builtin.append_ #[TEs, TEs] ty #[v, .slice (some ⟨g, 0, none⟩) 1 c]).run Try.prog w = .ok v' w' ∧ OwE base (L ++ [x]) v' w' ∧ w.grownBy w' v.ownBlock := by
  obtain ⟨i0, hi, hz0, hz1, hz2⟩ := info_p info_e
  obtain ⟨v', w', h1, h2, h3, _, h5⟩ := run_append_own_at (P := Try.prog) w base TEs ty TE i0 _ 4 40 Try.underlying36 hi hz0 hz1 hz2 rfl (by decide) v L.length (flat L) hown ⟨g, 0, none⟩ 1 c (ec x) rfl
    (fun j u hu => by rw [addr_add, Nat.zero_add, cell_of_row w g j _ TE _ hx]; simpa using hu) (fun u hu => by simp [ec] at hu; rcases hu with rfl | rfl | rfl | rfl <;> rfl) (by unfold maxLen; omega) (by omega) hbase
  refine ⟨v', w', h1, ?_, h3⟩
  show w'.ownsRow base TE 4 v' (L ++ [x]).length (flat (L ++ [x]))
  rw [flat_app, flat_one, List.length_append]
  exact h2
theorem wpList_append_e {ops : Array Oper} {rest : List Oper} {o : Oper} {a : Act} {w : World} {Q : Exit → Act → World → Prop} (hgd : o.guard = none) (s x : Operand)
    (ho : o.op = .call { callee := .builtin .append, args := #[s, x], argTypes := #[TEs, TEs] })
    (base : Nat) (v : Value) (L : List Et) (hs : a.eval s = v) (hown : OwE base L v w) (g c : Nat) (y : Et) (hx : a.eval x = .slice (some ⟨g, 0, none⟩) 1 c) (hc : w.heap[g]? = some (.cells (ec y).toArray TE (0, 0)))
    (hn : L.length ≤ 100000) (hbase : base ≤ w.heap.size)
    (h : ∀ v' w', OwE base (L ++ [y]) v' w' → w.grownBy w' v.ownBlock → wpList Try.prog ops Q rest (a.put o.dst v') w') :
    wpList Try.prog ops Q (o :: rest) a w := by
  refine wpList_plain hgd fun K hK => ?_
  obtain ⟨v', w', hrun, h1, h2⟩ := run_append_e base w o.type v L hown g c y hc hn hbase
  unfold Oper.wp execOp
  simp only [ho, resolve, invoke, builtin, Sem.run_bind, Sem.run_pure, Result.andThen_ok, List.map_toArray, List.map_cons, List.map_nil, hs, hx, hrun]
  exact hK _ _ (h v' w' h1 h2)
theorem own_below {w w1 w0 : World} {base size n : Nat} {e : TypeId} {v : Value} {xs : List Value} (h : w.ownsRow base e size v n xs) (hg : w.grownBy w1 v.ownBlock) (hb : Below w0.heap.size w0 w) (hbase : w0.heap.size ≤ base) : Below w0.heap.size w0 w1 :=
  hb.grown hg hb.size (fun k e => Nat.le_trans hbase (World.ownsRow.lt h k e).1)

theorem below_drewN {B : Nat} {a w : World} (h : Below B a w) (n : Nat) : Below B a (w.drewN n) := h.trans ⟨rfl, rfl, rfl, Nat.le_refl _, fun _ _ => rfl⟩
instance : DecidableEq Et := fun a b => by
  obtain ⟨a1, a2, a3, a4⟩ := a
  obtain ⟨b1, b2, b3, b4⟩ := b
  exact decidable_of_iff (a1 = b1 ∧ a2 = b2 ∧ a3 = b3 ∧ a4 = b4) (by simp)
def eqE (a b : Et) : Bool := decide (a = b)
theorem eqE_t (a : Et) : eqE a a = true := decide_eq_true rfl
theorem eqE_f {a b : Et} (h : a ≠ b) : eqE a b = false := decide_eq_false h
theorem ba_list {a b : ByteArray} (h : a.toList = b.toList) : a = b := by
  rw [ByteArray.toList_eq, ByteArray.toList_eq] at h
  obtain ⟨⟨a⟩⟩ := a
  obtain ⟨⟨b⟩⟩ := b
  simp only at h
  rw [h]
theorem eq_e (a b : Et) (w : World) : (Op.equalIn 10000 TE (vE a) (vE b)).run Try.prog w = .ok (eqE a b) w := by
  obtain ⟨a1, a2, a3, a4⟩ := a
  obtain ⟨b1, b2, b3, b4⟩ := b
  have e : eqE ⟨a1, a2, a3, a4⟩ ⟨b1, b2, b3, b4⟩ = (a1 == b1 && (a2 == b2 && a3 == b3) && (a4.toList == b4.toList)) := by
    unfold eqE
    by_cases h : (⟨a1, a2, a3, a4⟩ : Et) = ⟨b1, b2, b3, b4⟩
    · rw [decide_eq_true h]
      injection h with h1 h2 h3 h4
      subst h1 h2 h3 h4
      simp
    · rw [decide_eq_false h]
      symm
      rw [Bool.eq_false_iff]
      intro hh
      simp only [Bool.and_eq_true, beq_iff_eq] at hh
      obtain ⟨⟨h1, h2, h3⟩, h4⟩ := hh
      exact h (by rw [h1, h2, h3, ba_list h4])
  rw [e]
  simp [go_sem]
  by_cases h1 : a1 = b1 <;> by_cases h2 : a2 = b2 <;> by_cases h3 : a3 = b3 <;> by_cases h4 : a4.toList = b4.toList <;> simp [*]
def IsE (w : World) (v : Value) (L : List Et) : Prop :=
  ∃ a cap, v = .slice a L.length cap ∧ (0 < L.length → ∃ b off, a = some ⟨b, off, none⟩ ∧ b < w.heap.size ∧ ∀ i e, L[i]? = some e →
    w.cell? ⟨b, off + i * 4, none⟩ = some (.int .i64 e.s) ∧ w.cell? ⟨b, off + i * 4 + 1, none⟩ = some (.int .i64 e.r) ∧ w.cell? ⟨b, off + i * 4 + 2, none⟩ = some (.int .i64 e.m) ∧ w.cell? ⟨b, off + i * 4 + 3, none⟩ = some (.string e.v))
theorem IsE.later {w w' : World} {v : Value} {L : List Et} (h : IsE w v L) (hb : Below w.heap.size w w') : IsE w' v L := by
  obtain ⟨a, cap, rfl, hc⟩ := h
  refine ⟨a, cap, rfl, fun hp => ?_⟩
  obtain ⟨b, off, rfl, hlt, hd⟩ := hc hp
  refine ⟨b, off, rfl, Nat.lt_of_lt_of_le hlt hb.size, fun i e he => ?_⟩
  obtain ⟨h1, h2, h3, h4⟩ := hd i e he
  exact ⟨(hb.cell (p := ⟨b, off + i * 4, none⟩) hlt).trans h1, (hb.cell (p := ⟨b, off + i * 4 + 1, none⟩) hlt).trans h2, (hb.cell (p := ⟨b, off + i * 4 + 2, none⟩) hlt).trans h3, (hb.cell (p := ⟨b, off + i * 4 + 3, none⟩) hlt).trans h4⟩
theorem OwE.is {base : Nat} {L : List Et} {v : Value} {w : World} (h : OwE base L v w) : IsE w v L := by
  obtain ⟨a, cap, rfl⟩ := rows_form h
  refine ⟨a, cap, rfl, fun hp => ?_⟩
  obtain ⟨g, cap', hv, _, hg, hc⟩ := h.cells hp
  injection hv with h1 h2 h3
  refine ⟨g, 0, h1, hg, fun i e he => ?_⟩
  have := hc i e he
  rwa [← Nat.zero_add (i * 4)] at this
theorem is_one {w : World} {g : Nat} {e : Et} (h : w.heap[g]? = some (.cells #[.int .i64 e.s, .int .i64 e.r, .int .i64 e.m, .string e.v] TE (0, 0))) (c : Nat) : IsE w (.slice (some ⟨g, 0, none⟩) 1 c) [e] := by
  refine ⟨_, c, rfl, fun _ => ⟨g, 0, rfl, (Array.getElem?_eq_some_iff.1 h).1, fun i x hx => ?_⟩⟩
  cases i with
  | succ i => simp at hx
  | zero =>
    simp only [List.getElem?_cons_zero, Option.some.injEq] at hx
    subst hx
    exact ⟨cell_of_row w g 0 _ TE _ h, cell_of_row w g 1 _ TE _ h, cell_of_row w g 2 _ TE _ h, cell_of_row w g 3 _ TE _ h⟩

/-! The proposer's box. -/
abbrev TP : TypeId := 55
abbrev TPm : TypeId := 52
abbrev TAr : TypeId := 53
def arr (P : Nat → Pm) (vs : Nat → Value) : Array Value := #[.bool (P 0).a, vs 0, .int .i64 (P 0).u, .bool (P 1).a, vs 1, .int .i64 (P 1).u, .bool (P 2).a, vs 2, .int .i64 (P 2).u, .bool (P 3).a, vs 3, .int .i64 (P 3).u, .bool (P 4).a, vs 4, .int .i64 (P 4).u, .bool (P 5).a, vs 5, .int .i64 (P 5).u, .bool (P 6).a, vs 6, .int .i64 (P 6).u]
def boxC (s : St) (vs : Nat → Value) : Array Value := #[.int .i64 s.n, .int .i64 s.r, .int .i64 s.m, .int .i64 s.f, .bool (s.P 0).a, vs 0, .int .i64 (s.P 0).u, .bool (s.P 1).a, vs 1, .int .i64 (s.P 1).u, .bool (s.P 2).a, vs 2, .int .i64 (s.P 2).u, .bool (s.P 3).a, vs 3, .int .i64 (s.P 3).u, .bool (s.P 4).a, vs 4, .int .i64 (s.P 4).u, .bool (s.P 5).a, vs 5, .int .i64 (s.P 5).u, .bool (s.P 6).a, vs 6, .int .i64 (s.P 6).u]
theorem arr_size (P : Nat → Pm) (vs : Nat → Value) : (arr P vs).size = 21 := rfl
theorem index_any (P : Nat → Pm) (vs : Nat → Value) (k : Nat) (h : k < 7) (w : World) : (Instr.index TAr (.agg (arr P vs)) (.int .i64 (k : Nat))).run Try.prog w = .ok (.agg #[.bool (P k).a, vs k, .int .i64 (P k).u]) w := by
  match k, h with
  | 0, _ => simp [Instr.index, asIntOf, run_underlying Try.underlying53, run_underlying Try.underlying3, go_sem, part, isAgg, arr]
  | 1, _ => simp [Instr.index, asIntOf, run_underlying Try.underlying53, run_underlying Try.underlying3, go_sem, part, isAgg, arr]
  | 2, _ => simp [Instr.index, asIntOf, run_underlying Try.underlying53, run_underlying Try.underlying3, go_sem, part, isAgg, arr]
  | 3, _ => simp [Instr.index, asIntOf, run_underlying Try.underlying53, run_underlying Try.underlying3, go_sem, part, isAgg, arr]
  | 4, _ => simp [Instr.index, asIntOf, run_underlying Try.underlying53, run_underlying Try.underlying3, go_sem, part, isAgg, arr]
  | 5, _ => simp [Instr.index, asIntOf, run_underlying Try.underlying53, run_underlying Try.underlying3, go_sem, part, isAgg, arr]
  | 6, _ => simp [Instr.index, asIntOf, run_underlying Try.underlying53, run_underlying Try.underlying3, go_sem, part, isAgg, arr]
  | n + 7, h => omega
theorem load_sub {ops : Array Oper} {rest : List Oper} {o : Oper} {a : Act} {w : World} {Q : Exit → Act → World → Prop} (hgd : o.guard = none) (x : Operand) (ho : o.op = .load TAr x)
    (g off : Nat) (hx : a.eval x = .pointer (some ⟨g, off, none⟩)) (xs : Array Value) (hsz : xs.size = 21) (hc : ∀ (j : Nat) (v : Value), xs[j]? = some v → w.cell? ⟨g, off + j, none⟩ = some v)
    (h : wpList Try.prog ops Q rest (a.put o.dst (.agg xs)) w) : wpList Try.prog ops Q (o :: rest) a w := by
  refine wpList_plain hgd fun K hK => ?_
  have hl : (loadCells ⟨g, off, none⟩ xs.toList.length).run Try.prog w = .ok xs.toList.toArray w :=
    run_loadCells_list (P := Try.prog) w ⟨g, off, none⟩ xs.toList (fun j v hv => by
      rw [addr_add]
      exact hc j v (by simpa using hv))
  have hi : (Try.prog.info? TAr).map (·.size) = some 21 := by kernel_rfl
  have hr : (loadVar TAr ⟨g, off, none⟩).run Try.prog w = .ok (.agg xs) w := by
    cases hq : Try.prog.info? TAr with
    | none => simp [hq] at hi
    | some i =>
      have hs : i.size = 21 := by simpa [hq] using hi
      have hagg : (isAgg TAr).run Try.prog w = .ok true w := by
        unfold isAgg
        rw [Sem.run_bind, run_underlying Try.underlying53 w]
        rfl
      simp only [Array.length_toList, Array.toArray_toList] at hl
      rw [hsz] at hl
      simp [loadVar, Sem.run_bind, hagg, sizeOf, typeInfo, hq, hs, hl]
  unfold Oper.wp execOp
  simp only [ho, hx, Instr.loadAt, Instr.sureAddr, Sem.run_bind, Sem.run_pure, Result.andThen_ok, hr]
  exact hK _ _ h
/-- A proposer: its box, and its lists as rows of their own from base on. -/
structure Px (base : Nat) (w : World) (b : Nat) (vs : Nat → Value) (s : St) : Prop where
  box : w.heap[b]? = some (.cells (boxC s vs) TP (0, 0))
  lst : ∀ i, i < 7 → OwE base (s.P i).l (vs i) w
  ok : OkS s
section
variable {base : Nat} {w w' : World} {b : Nat} {vs : Nat → Value} {s : St}
theorem Px.lt (x : Px base w b vs s) : b < w.heap.size := (Array.getElem?_eq_some_iff.1 x.box).1
theorem Px.at' (x : Px base w b vs s) (j : Nat) : w.cell? ⟨b, j, none⟩ = (boxC s vs)[j]? := cell_of_row w b j _ TP _ x.box
theorem box_04 (s : St) (vs : Nat → Value) : (boxC s vs)[0]? = some (.int .i64 s.n) ∧ (boxC s vs)[1]? = some (.int .i64 s.r) ∧ (boxC s vs)[2]? = some (.int .i64 s.m) ∧ (boxC s vs)[3]? = some (.int .i64 s.f) := by simp [boxC]
theorem Px.cells (x : Px base w b vs s) : w.cell? ⟨b, 0, none⟩ = some (.int .i64 s.n) ∧ w.cell? ⟨b, 1, none⟩ = some (.int .i64 s.r) ∧ w.cell? ⟨b, 2, none⟩ = some (.int .i64 s.m) ∧ w.cell? ⟨b, 3, none⟩ = some (.int .i64 s.f) := by
  obtain ⟨h0, h1, h2, h3⟩ := box_04 s vs
  exact ⟨(x.at' 0).trans h0, (x.at' 1).trans h1, (x.at' 2).trans h2, (x.at' 3).trans h3⟩
theorem box_arr (s : St) (vs : Nat → Value) (j : Nat) : (arr s.P vs)[j]? = (boxC s vs)[4 + j]? := by
  have e : boxC s vs = #[.int .i64 s.n, .int .i64 s.r, .int .i64 s.m, .int .i64 s.f] ++ arr s.P vs := by simp [boxC, arr]
  rw [e, Array.getElem?_append_right (by simp)]
  congr 1
  simp
theorem Px.arr (x : Px base w b vs s) (j : Nat) (v : Value) (h : (arr s.P vs)[j]? = some v) : w.cell? ⟨b, 4 + j, none⟩ = some v := by rw [x.at', ← box_arr, h]
theorem box_at (s : St) (vs : Nat → Value) (k : Nat) (h : k < 7) : (boxC s vs)[4 + k * 3]? = some (.bool (s.P k).a) ∧ (boxC s vs)[4 + k * 3 + 1]? = some (vs k) ∧ (boxC s vs)[4 + k * 3 + 2]? = some (.int .i64 (s.P k).u) := by
  match k, h with
  | 0, _ => simp [boxC]
  | 1, _ => simp [boxC]
  | 2, _ => simp [boxC]
  | 3, _ => simp [boxC]
  | 4, _ => simp [boxC]
  | 5, _ => simp [boxC]
  | 6, _ => simp [boxC]
  | n + 7, h => omega
theorem Px.kept {F : Nat → Prop} (x : Px base w b vs s) (h : Keeps F w w') (h1 : ¬ F b) (h2 : ∀ i, i < 7 → ∀ k, (vs i).ownBlock = some k → ¬ F k) : Px base w' b vs s :=
  ⟨(h.block b x.lt h1).trans x.box, fun i hi => rows_kept (x.lst i hi) fun k hk => h.block k (World.ownsRow.lt (x.lst i hi) k hk).2 (h2 i hi k hk), x.ok⟩
theorem Px.later (x : Px base w b vs s) (h : Below w.heap.size w w') : Px base w' b vs s := x.kept (F := fun _ => False) (Keeps.of_below h) id fun _ _ _ _ => id
theorem Px.alloc (x : Px base w b vs s) (o : Obj) : Px base (w.alloc o) b vs s := x.later (alloc_b w o)
theorem Px.drew (x : Px base w b vs s) : Px base w.drew b vs s := x.later (Below.refl _ _).drew
theorem Px.low (x : Px base w b vs s) {base' : Nat} (h : base' ≤ base) : Px base' w b vs s := ⟨x.box, fun i hi => rows_base (x.lst i hi) h, x.ok⟩
end
theorem Px.node {base : Nat} {w : World} {b : Nat} {vs : Nat → Value} {s : St} (x : Px base w b vs s) (i : Nat) (h : s.n ≤ i) : s.P i = zP := by
  cases ha : (s.P i).a with
  | false => exact x.ok.off i ha
  | true => have := (x.ok.on i ha).1; omega

/-! valid, good, isStart. -/
theorem valid_at (b : Nat) (n : Int) (w : World) (c0 : w.cell? ⟨b, 0, none⟩ = some (.int .i64 n)) (hn : n ≠ 0) :
    Calls Try.prog 33 #[.pointer (some ⟨b, 0, none⟩)] w fun e w' => e = .returned (.bool true) ∧ w = w' := by
  have b1 : (n == 0) = false := by simpa using hn
  have b2 : (n != 0) = true := by simpa using hn
  go_enter Try.func33, Try.ntmps33
  go_wp2
  go_ret
  exact ⟨rfl, rfl⟩
theorem Px.valid {base : Nat} {w : World} {b : Nat} {vs : Nat → Value} {s : St} (x : Px base w b vs s) :
    Calls Try.prog 33 #[.pointer (some ⟨b, 0, none⟩)] w fun e w' => e = .returned (.bool true) ∧ w = w' := valid_at b s.n w x.cells.1 (by have := x.ok.n1; omega)
theorem valid_nil (w : World) :
    Calls Try.prog 33 #[.pointer none] w fun e w' => e = .returned (.bool false) ∧ w = w' := by
  go_enter Try.func33, Try.ntmps33
  go_wp2
  go_ret
  exact ⟨rfl, rfl⟩
theorem valid_zero (b : Nat) (w : World) (c0 : w.cell? ⟨b, 0, none⟩ = some (.int .i64 0)) :
    Calls Try.prog 33 #[.pointer (some ⟨b, 0, none⟩)] w fun e w' => e = .returned (.bool false) ∧ w = w' := by
  go_enter Try.func33, Try.ntmps33
  go_wp2
  go_ret
  exact ⟨rfl, rfl⟩
theorem start_any (k : Int) (w : World) :
    Calls Try.prog 31 #[.int .i64 k] w fun e w' => e = .returned (.bool (decide (0 ≤ k ∧ k ≤ 4096))) ∧ w = w' := by
  by_cases h1 : 0 ≤ k
  · have b1 : decide (0 ≤ k) = true := by simpa using h1
    go_enter Try.func31, Try.ntmps31
    go_wp2
    go_ret
    exact ⟨by simp [h1], rfl⟩
  · have b1 : decide (0 ≤ k) = false := by simpa using h1
    go_enter Try.func31, Try.ntmps31
    go_wp2
    go_ret
    exact ⟨by simp [h1], rfl⟩
def gdB (n x y : Int) : Bool := decide ((1 ≤ n ∧ n ≤ 7) ∧ Gd n x y)
theorem good_any (x y n : Int) (w : World) :
    Calls Try.prog 30 #[.agg #[.int .i64 x, .int .i64 y], .int .i64 n] w fun e w' => e = .returned (.bool (gdB n x y)) ∧ Below w.heap.size w w' := by
  have hb := alloc_b w (.cells #[.int .i64 x, .int .i64 y] TB)
  have hC := Lib.hid (fun W => check_any x y n W)
  by_cases hz : x = 0 ∧ y = 0
  · have hq := fun W => eq_b x y 0 0 W
    rw [eqB_t hz] at hq
    have e := Lib.hid (show gdB n x y = false from decide_eq_false (by unfold Gd; omega))
    clear hz
    go_enter Try.func30, Try.ntmps30
    go_wp2
    go_ret
    exact ⟨by rw [e.out]; rfl, hb⟩
  · have hq := fun W => eq_b x y 0 0 W
    rw [eqB_f hz] at hq
    have e : (ckB x y n == 0) = gdB n x y := by
      unfold ckB gdB
      by_cases hn : 1 ≤ n ∧ n ≤ 7
      · by_cases hg : Gd n x y
        · rw [if_pos ⟨hn, .inr hg⟩, decide_eq_true ⟨hn, hg⟩]; rfl
        · rw [if_neg, decide_eq_false (fun h => hg h.2)]; rfl
          rintro ⟨_, h1 | h1⟩
          · exact hz h1
          · exact hg h1
      · rw [if_neg (fun h => hn h.1), decide_eq_false (fun h => hn h.1)]; rfl
    generalize ckB x y n = c at *
    replace e := Lib.hid e
    clear hz
    go_enter Try.func30, Try.ntmps30
    go_wp2_with (go_at_call 47; refine (hC.out _).mono ?_; rintro e2 w2 ⟨rfl, hb2⟩)
    go_ret
    exact ⟨by rw [← e.out]; rfl, below2 hb hb2⟩
end Go.Proofs.Ytffiooclkchoiaa.Prp
