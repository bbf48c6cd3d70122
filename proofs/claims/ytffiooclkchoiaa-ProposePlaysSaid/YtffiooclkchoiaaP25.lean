/- Plain facts on the greatest ballots of a list; a proposer beside a row of entries that grows; append of a whole list. -/
import Derived.Test.YtffiooclkchoiaaP23
namespace Go.Proofs.Ytffiooclkchoiaa.Prp
open Go.RowKit Go.Lib
open Bal (TB bOk ckB ordV eqB eqB_t eqB_f eq_b alloc_b check_any order_any)
set_option linter.unusedVariables false
set_option linter.unusedSimpArgs false
set_option maxRecDepth 100000

/-! Plain facts. -/
theorem gt_false {a b x y : Int} : gtB a b x y = false ↔ a < x ∨ (a = x ∧ b ≤ y) := by
  unfold gtB
  simp only [Bool.or_eq_false_iff, Bool.and_eq_false_imp, decide_eq_false_iff_not, decide_eq_true_eq]
  omega
theorem gt_true {a b x y : Int} : gtB a b x y = true ↔ x < a ∨ (a = x ∧ y < b) := by
  unfold gtB
  simp only [Bool.or_eq_true, Bool.and_eq_true, decide_eq_true_eq]
theorem pick_law (k : Int) (es : List Et) : ∀ z : Et, (es.foldl (pick k) z = z ∨ (es.foldl (pick k) z ∈ es ∧ (es.foldl (pick k) z).s = k)) ∧
    gtB z.r z.m (es.foldl (pick k) z).r (es.foldl (pick k) z).m = false ∧ ∀ e ∈ es, e.s = k → gtB e.r e.m (es.foldl (pick k) z).r (es.foldl (pick k) z).m = false := by
  induction es with
  | nil => intro z; exact ⟨.inl rfl, gt_false.2 (by rw [List.foldl_nil]; omega), fun e he => by cases he⟩
  | cons x l ih =>
    intro z
    rw [List.foldl_cons]
    have hp : (pick k z x = z ∧ (x.s = k → gtB x.r x.m z.r z.m = false)) ∨ (pick k z x = x ∧ x.s = k ∧ gtB x.r x.m z.r z.m = true) := by
      unfold pick
      by_cases h1 : x.s = k
      · cases h2 : gtB x.r x.m z.r z.m with
        | false => exact .inl ⟨by simp, fun _ => rfl⟩
        | true => exact .inr ⟨by simp [h1], h1, rfl⟩
      · exact .inl ⟨by simp [h1], fun h => absurd h h1⟩
    obtain ⟨i1, i2, i3⟩ := ih (pick k z x)
    refine ⟨?_, ?_, ?_⟩
    · rcases i1 with i1 | i1
      · rw [i1]
        rcases hp with ⟨e, _⟩ | ⟨e, h, _⟩
        · exact .inl e
        · exact .inr (by rw [e]; exact ⟨List.mem_cons_self .., h⟩)
      · exact .inr ⟨List.mem_cons_of_mem _ i1.1, i1.2⟩
    · rcases hp with ⟨e, h⟩ | ⟨e, _, h⟩
      · rw [e] at i2 ⊢; exact i2
      · rw [e] at i2 ⊢
        rw [gt_false] at i2 ⊢
        rw [gt_true] at h
        omega
    · intro e he hs
      rcases List.mem_cons.1 he with rfl | he
      · rcases hp with ⟨e1, h⟩ | ⟨e1, _, h⟩
        · have h := h hs
          rw [e1] at i2 ⊢
          rw [gt_false] at i2 h ⊢
          omega
        · rw [e1] at i2 ⊢; exact i2
      · exact i3 e he hs
theorem pick_same (k : Int) (z : Et) {A L : List Et} (h : ∀ e, e ∈ A ↔ e ∈ L) : (A.foldl (pick k) z).r = (L.foldl (pick k) z).r ∧ (A.foldl (pick k) z).m = (L.foldl (pick k) z).m := by
  have key : ∀ {A L : List Et}, (∀ e, e ∈ A → e ∈ L) → gtB (A.foldl (pick k) z).r (A.foldl (pick k) z).m (L.foldl (pick k) z).r (L.foldl (pick k) z).m = false := by
    intro A L h
    obtain ⟨a1, a2, a3⟩ := pick_law k A z
    obtain ⟨l1, l2, l3⟩ := pick_law k L z
    rcases a1 with a1 | ⟨a1, a0⟩
    · rw [a1]; exact l2
    · exact l3 _ (h _ a1) a0
  have h1 := key (fun e => (h e).1)
  have h2 := key (fun e => (h e).2)
  rw [gt_false] at h1 h2
  omega
abbrev grB (b : Int) (j : Nat) (A : List Et) : Et := A.foldl (pick (b + j)) (zAt b j)
theorem gr_snoc (b : Int) (j : Nat) (A : List Et) (x : Et) : grB b j (A ++ [x]) = pick (b + j) (grB b j A) x := by simp [grB]
theorem found_at (b : Int) (j : Nat) {A L : List Et} (h : ∀ e, e ∈ A ↔ e ∈ L) :
    ((grB b j A).r = 0 ∧ (grB b j A).m = 0 ∧ (bestF b L j).v = ⟨#[]⟩) ∨ ∃ x ∈ A, x.s = b + j ∧ x.r = (grB b j A).r ∧ x.m = (grB b j A).m ∧ x.v = (bestF b L j).v := by
  obtain ⟨e1, e2⟩ := pick_same (b + j) (zAt b j) h
  obtain ⟨l1, l2, l3⟩ := pick_law (b + j) L (zAt b j)
  rcases l1 with l1 | ⟨l1, l0⟩
  · refine .inl ⟨?_, ?_, ?_⟩
    · show (A.foldl (pick (b + j)) (zAt b j)).r = 0
      rw [e1, l1]
    · show (A.foldl (pick (b + j)) (zAt b j)).m = 0
      rw [e2, l1]
    · unfold bestF
      rw [l1]
  · exact .inr ⟨_, (h _).2 l1, l0, e1.symm, e2.symm, rfl⟩
theorem top_mem {b : Int} {es : List Et} : ∀ e ∈ es, e.s < b + topN b es := by
  have key : ∀ (es : List Et) (N : Nat), N ≤ es.foldl (fun N x => max N (x.s - b + 1).toNat) N ∧ ∀ e ∈ es, (e.s - b + 1).toNat ≤ es.foldl (fun N x => max N (x.s - b + 1).toNat) N := by
    intro es
    induction es with
    | nil => intro N; exact ⟨Nat.le_refl _, fun e he => by cases he⟩
    | cons x r ih =>
      intro N
      rw [List.foldl_cons]
      obtain ⟨h1, h2⟩ := ih (max N (x.s - b + 1).toNat)
      refine ⟨by omega, fun e he => ?_⟩
      rcases List.mem_cons.1 he with rfl | he
      · omega
      · exact h2 e he
  intro e he
  have := (key es 0).2 e he
  unfold topN
  omega
theorem all_in {P : Nat → Pm} {e : Et} : ∀ {k : Nat}, e ∈ allK P k ↔ ∃ i, i < k ∧ e ∈ (P i).l
  | 0 => by simp [allK]
  | k + 1 => by
    unfold allK
    rw [List.mem_append, all_in (k := k)]
    constructor
    · rintro (⟨i, hi, h⟩ | h)
      · exact ⟨i, by omega, h⟩
      · exact ⟨k, by omega, h⟩
    · rintro ⟨i, hi, h⟩
      by_cases e : i = k
      · subst e; exact .inr h
      · exact .inl ⟨i, by omega, h⟩
/-- What a proposer that takes a promise has of entries. -/
theorem all_add {s : St} (h : OkS s) (h7 : s.n ≤ 7) {k : Int} {L : List Et} {u : Int} (hE : addE s k L u = 0) (e : Et) : e ∈ allK (addS s k L u).P 7 ↔ e ∈ allK s.P 7 ∨ e ∈ L := by
  have h0 := hE
  unfold addE at hE
  split at hE
  · rename_i hA
    split at hE
    · split at hE
      · cases hE
      · rename_i ha
        obtain ⟨m, rfl, hmn, _⟩ := arg_k hA
        rw [Int.toNat_natCast] at ha
        have hz := h.off m (by simpa using ha)
        unfold addS
        rw [if_pos h0]
        show e ∈ allK (updP s.P (m : Int).toNat ⟨true, L, u⟩) 7 ↔ _
        rw [Int.toNat_natCast, all_in, all_in]
        constructor
        · rintro ⟨i, hi, he⟩
          by_cases c : i = m
          · subst c
            rw [updP_same] at he
            exact .inr he
          · rw [updP_other _ _ c] at he
            exact .inl ⟨i, hi, he⟩
        · rintro (⟨i, hi, he⟩ | he)
          · refine ⟨i, hi, ?_⟩
            by_cases c : i = m
            · subst c; rw [hz] at he; cases he
            · rw [updP_other _ _ c]; exact he
          · exact ⟨m, by omega, by rw [updP_same]; exact he⟩
    · cases hE
  · cases hE

/-! A proposer beside a row of entries. -/
structure GA (w : World) (base b : Nat) (s : St) (T : List Et) (v : Value) (W : World) : Prop where
  px : ∃ vs, Px w.heap.size W b vs s ∧ ∀ i, i < 7 → ∀ k, (vs i).ownBlock = some k → v.ownBlock ≠ some k
  t : OwE base T v W
  bel : Below w.heap.size w W
  sz : base ≤ W.heap.size
  lo : w.heap.size ≤ b
  hi : b < base
section
variable {w W W' : World} {base b : Nat} {s : St} {T : List Et} {v : Value}
theorem GA.ok (x : GA w base b s T v W) : OkS s := by obtain ⟨vs, h, _⟩ := x.px; exact h.ok
theorem GA.p (x : GA w base b s T v W) : PAt w b s W := by obtain ⟨vs, h, _⟩ := x.px; exact ⟨⟨vs, h⟩, x.bel, x.lo⟩
theorem GA.later (x : GA w base b s T v W) (h : Below W.heap.size W W') : GA w base b s T v W' := by
  obtain ⟨vs, hp, hn⟩ := x.px
  exact ⟨⟨vs, hp.later h, hn⟩, x.t.later h, x.bel.trans (h.mono x.bel.size), Nat.le_trans x.sz h.size, x.lo, x.hi⟩
theorem GA.drew (x : GA w base b s T v W) : GA w base b s T v W.drew := x.later (Below.refl _ _).drew
theorem GA.start (x : PAt w b s W) (hb : b < W.heap.size) : GA w W.heap.size b s [] (.slice none 0 0) W := by
  obtain ⟨vs, h⟩ := x.px
  exact ⟨⟨vs, h, fun i hi k hk e => by cases e⟩, OwE.nil _ _, x.bel, Nat.le_refl _, x.lo, hb⟩
theorem GA.add (x : GA w base b s T v W) (k : Int) (u : Value) (up : Int) (L : List Et) (hl : IsE W u L) (hlen : L.length ≤ 100000) :
    Calls Try.prog 27 #[.pointer (some ⟨b, 0, none⟩), .int .i64 k, u, .int .i64 up] W fun e W' => e = .returned (.tuple #[.bool (addB s k L up), .int .i64 (addE s k L up)]) ∧ GA w base b (addS s k L up) T v W' := by
  obtain ⟨vs, h, hn⟩ := x.px
  refine (add_any h k u up L hl hlen x.bel.size).mono ?_
  rintro e W' ⟨rfl, ⟨vs', hp, hv⟩, hK⟩
  refine ⟨rfl, ⟨vs', hp, fun i hi k hk e => ?_⟩, x.t.kept hK (fun k e => by subst e; exact x.hi), x.bel.trans (hK.below x.bel.size fun k e => by subst e; exact x.lo), Nat.le_trans x.sz hK.size, x.lo, x.hi⟩
  rcases hv i hi with hv | hv
  · rw [hv] at hk; exact hn i hi k hk e
  · have := hv k hk
    have := (World.ownsRow.lt x.t k e).2
    omega
theorem GA.push (x : GA w base b s T v W) {T' : List Et} {v' : Value} (h : OwE base T' v' W') (hg : W.grownBy W' v.ownBlock) (hv : v'.ownBlock = v.ownBlock ∨ v'.ownBlock = some W.heap.size) : GA w base b s T' v' W' := by
  obtain ⟨vs, hp, hn⟩ := x.px
  have hK : Keeps (fun k => v.ownBlock = some k) W W' := (Keeps.refl _ W).grown hg fun g e => .inl e
  have hlo := x.lo
  have hhi := x.hi
  refine ⟨⟨vs, hp.kept hK (fun e => ?_) fun i hi k hk e => hn i hi k hk e, fun i hi k hk e => ?_⟩, h, own_below x.t hg x.bel (by omega), Nat.le_trans x.sz hg.size, x.lo, x.hi⟩
  · have := (World.ownsRow.lt x.t b e).1
    omega
  · rcases hv with hv | hv
    · rw [hv] at e; exact hn i hi k hk e
    · rw [hv] at e
      injection e with e
      have := (World.ownsRow.lt (hp.lst i hi) k hk).2
      omega
end
/-! append(all, l...). -/
theorem run_append_l (base : Nat) (w : World) (ty : TypeId) (v u : Value) (T L : List Et) (hown : OwE base T v w) (hl : IsE w u L) (hT : T.length ≤ 10000) (hL : L.length ≤ 10000) (hbase : base ≤ w.heap.size) :
    ∃ v' w', (Builtin.append_ #[TEs, TEs] ty #[v, u]).run Try.prog w = .ok v' w' ∧ OwE base (T ++ L) v' w' ∧ w.grownBy w' v.ownBlock ∧ (v'.ownBlock = v.ownBlock ∨ v'.ownBlock = some w.heap.size) := by
  obtain ⟨i0, hi, hz0, hz1, hz2⟩ := info_p info_e
  obtain ⟨a, cap, rfl, hc⟩ := hl
  cases a with
  | none =>
    have h0 : L = [] := by
      cases L with
      | nil => rfl
      | cons x r =>
        obtain ⟨b, off, h, _⟩ := hc (by simp)
        cases h
    subst h0
    refine ⟨v, w, ?_, by rw [List.append_nil]; exact hown, ⟨rfl, rfl, rfl, Nat.le_refl _, fun _ _ _ => rfl⟩, .inl rfl⟩
    have h2 := hown.2
    rcases h2 with ⟨rfl, hr⟩ | ⟨g, cap, cur, rfl, _, _, hnc, _⟩
    · simp [Builtin.append_, run_underlying Try.underlying36, sizeOf, typeInfo, hi, Builtin.lenOf, Builtin.firstCells]
    · simp [Builtin.append_, run_underlying Try.underlying36, sizeOf, typeInfo, hi, Builtin.lenOf, Builtin.firstCells, hnc, storeCells]
  | some p =>
    obtain ⟨v', w', hr, h2, h3, _, h5⟩ := run_append_own_at (P := Try.prog) w base TEs ty TE i0 _ 4 40 Try.underlying36 hi hz0 hz1 hz2 rfl (by decide) v T.length (flat T) hown p L.length cap (flat L) (flat_len L)
      (fun j u hu => by
        have hj : j < (flat L).length := (List.getElem?_eq_some_iff.1 hu).1
        rw [flat_len] at hj
        obtain ⟨b, off, hp, hb, hd⟩ := hc (by omega)
        injection hp with hp
        subst hp
        have hq : j / 4 < L.length := by omega
        obtain ⟨d0, d1, d2, d3⟩ := hd (j / 4) _ (List.getElem?_eq_getElem hq)
        have hf := flat_at L (j / 4) (j % 4) _ (List.getElem?_eq_getElem hq) (Nat.mod_lt _ (by omega))
        rw [show j / 4 * 4 + j % 4 = j by omega, hu] at hf
        rw [addr_add]
        have h4 : j % 4 < 4 := Nat.mod_lt _ (by omega)
        rcases (show j % 4 = 0 ∨ j % 4 = 1 ∨ j % 4 = 2 ∨ j % 4 = 3 by omega) with e | e | e | e
        · rw [e] at hf; rw [show off + j = off + j / 4 * 4 by omega, d0, hf]; rfl
        · rw [e] at hf; rw [show off + j = off + j / 4 * 4 + 1 by omega, d1, hf]; rfl
        · rw [e] at hf; rw [show off + j = off + j / 4 * 4 + 2 by omega, d2, hf]; rfl
        · rw [e] at hf; rw [show off + j = off + j / 4 * 4 + 3 by omega, d3, hf]; rfl)
      (fun u hu => by
        unfold flat at hu
        obtain ⟨e, _, he⟩ := List.mem_flatMap.1 hu
        simp [ec] at he
        rcases he with rfl | rfl | rfl | rfl <;> rfl)
      (by unfold maxLen; omega) (by omega) hbase
    refine ⟨v', w', hr, ?_, h3, h5⟩
    show w'.ownsRow base TE 4 v' (T ++ L).length (flat (T ++ L))
    rw [List.length_append, show flat (T ++ L) = flat T ++ flat L by simp [flat]]
    exact h2
theorem wpList_append_l {ops : Array Oper} {rest : List Oper} {o : Oper} {a : Act} {w : World} {Q : Exit → Act → World → Prop} (hgd : o.guard = none) (s x : Operand)
    (ho : o.op = .call { callee := .builtin .append, args := #[s, x], argTypes := #[TEs, TEs] })
    (base : Nat) (v u : Value) (T L : List Et) (hs : a.eval s = v) (hx : a.eval x = u) (hown : OwE base T v w) (hl : IsE w u L) (hT : T.length ≤ 10000) (hL : L.length ≤ 10000) (hbase : base ≤ w.heap.size)
    (h : ∀ v' w', OwE base (T ++ L) v' w' → w.grownBy w' v.ownBlock → (v'.ownBlock = v.ownBlock ∨ v'.ownBlock = some w.heap.size) → wpList Try.prog ops Q rest (a.put o.dst v') w') :
    wpList Try.prog ops Q (o :: rest) a w := by
  refine wpList_plain hgd fun K hK => ?_
  obtain ⟨v', w', hrun, h1, h2, h3⟩ := run_append_l base w o.type v u T L hown hl hT hL hbase
  unfold Oper.wp execOp
  simp only [ho, resolve, invoke, builtin, Sem.run_bind, Sem.run_pure, Result.andThen_ok, List.map_toArray, List.map_cons, List.map_nil, hs, hx, hrun]
  exact hK _ _ (h v' w' h1 h2 h3)
end Go.Proofs.Ytffiooclkchoiaa.Prp
