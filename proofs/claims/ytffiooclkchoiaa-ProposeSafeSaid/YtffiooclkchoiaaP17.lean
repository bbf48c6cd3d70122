/- Rounds of proposers and acceptors as plain numbers: why a chosen value stays; what ProposeSafe has in memory. -/
import Derived.Test.YtffiooclkchoiaaP16
namespace Go.Proofs.Ytffiooclkchoiaa.Prp
open Go.RowKit Go.Lib
open Bal (TB bOk ckB ordV eqB eqB_t eqB_f eq_b alloc_b check_any order_any)
set_option linter.unusedVariables false
set_option linter.unusedSimpArgs false
set_option maxRecDepth 20000

abbrev e0 : ByteArray := ⟨#[]⟩
def setK (f : Nat → Bool) (n : Nat) : Nat := nodesK (fun j => ⟨f j, [], 0⟩) n
def cntK (f : Nat → Bool) : Nat → Nat
  | 0 => 0
  | k + 1 => cntK f k + if f k then 1 else 0
theorem set_bit (f : Nat → Bool) (i n : Nat) : (setK f n).testBit i = (decide (i < n) && f i) := nodes_bit _ i n
theorem set_pc (f : Nat → Bool) : ∀ n, n ≤ 7 → Quo.pc (setK f n) = cntK f n
  | 0, _ => pc_zero
  | n + 1, h => by
    have ih := set_pc f n (by omega)
    have hl : setK f n < 128 := Nat.lt_of_lt_of_le (nodes_lt _ n) (by
      have : 2 ^ n ≤ 2 ^ 7 := Nat.pow_le_pow_right (by omega) (by omega)
      omega)
    show Quo.pc (if f n then setK f n ||| 2 ^ n else setK f n) = cntK f n + if f n then 1 else 0
    cases hf : f n with
    | false => simpa using ih
    | true =>
      rw [if_pos rfl, if_pos rfl, pc_or _ hl n (by omega) (by rw [set_bit]; simp), ih]
theorem cnt_le (f : Nat → Bool) : ∀ k, cntK f k ≤ k
  | 0 => Nat.le_refl 0
  | k + 1 => by have := cnt_le f k; unfold cntK; split <;> omega
/-- Two sets of more than half share a node. -/
theorem meet7 : ∀ (n : Fin 8) (x y : Fin 128), x.val < 2 ^ n.val → y.val < 2 ^ n.val → n.val < 2 * Quo.pc x.val → n.val < 2 * Quo.pc y.val → x.val &&& y.val ≠ 0 := by
  have key : ∀ x : Fin 128, ∀ y : Fin 128, x.val &&& y.val = 0 → Quo.pc x.val + Quo.pc y.val = Quo.pc (x.val ||| y.val) := by decide +kernel
  have lim : ∀ n : Fin 8, ∀ z : Fin 128, z.val < 2 ^ n.val → Quo.pc z.val ≤ n.val := by decide +kernel
  intro n x y hx hy qx qy h
  have h1 := key x y h
  have hz : x.val ||| y.val < 2 ^ n.val := Nat.or_lt_two_pow hx hy
  have hz2 : x.val ||| y.val < 128 := Nat.or_lt_two_pow (n := 7) x.isLt y.isLt
  have h2 := lim n ⟨x.val ||| y.val, hz2⟩ hz
  simp only at h2
  omega
theorem meet_at {n : Nat} (h7 : n ≤ 7) {x y : Nat} (hx : x < 2 ^ n) (hy : y < 2 ^ n) (qx : n < 2 * Quo.pc x) (qy : n < 2 * Quo.pc y) : ∃ k, k < n ∧ x.testBit k = true ∧ y.testBit k = true := by
  have hp : 2 ^ n ≤ 128 := Nat.pow_le_pow_right (by omega) h7
  have h := meet7 ⟨n, by omega⟩ ⟨x, by omega⟩ ⟨y, by omega⟩ hx hy qx qy
  simp only at h
  have h2 : ∃ k, (x &&& y).testBit k = true := by
    by_cases hc : ∃ k, (x &&& y).testBit k = true
    · exact hc
    · exfalso
      refine h (Nat.eq_of_testBit_eq fun i => ?_)
      rw [Nat.zero_testBit]
      cases hb : (x &&& y).testBit i with
      | false => rfl
      | true => exact absurd ⟨i, hb⟩ hc
  obtain ⟨k, hk⟩ := h2
  rw [Nat.testBit_and, Bool.and_eq_true] at hk
  refine ⟨k, ?_, hk.1, hk.2⟩
  rcases Nat.lt_or_ge k n with h | h
  · exact h
  · have := Nat.testBit_lt_two_pow (Nat.lt_of_lt_of_le hx (Nat.pow_le_pow_right (by omega) h))
    rw [this] at hk
    cases hk.1
def told (x : Vt) : List Et := if x.v = e0 then [] else [⟨0, x.r, x.m, x.v⟩]
/-- What holds after i rounds. -/
structure Pl (n i : Nat) (H : Nat → Vt) (c : ByteArray) : Prop where
  h : ∀ k, k < n → H k = zV ∨ (1 ≤ (H k).r ∧ (H k).r ≤ i ∧ 0 ≤ (H k).m ∧ (H k).m < n ∧ (H k).v.size ≤ 2 ∧ (H k).v ≠ e0)
  c : c = e0 ∨ ∃ (J : Int) (X : Nat), 1 ≤ J ∧ X < 2 ^ n ∧ n < 2 * Quo.pc X ∧ (∀ k, k < n → X.testBit k = true → J ≤ (H k).r) ∧ ∀ k, k < n → J ≤ (H k).r → (H k).v = c
theorem pl0 (n : Nat) : Pl n 0 (fun _ => zV) e0 := ⟨fun _ _ => .inl rfl, .inl rfl⟩
/-- The proposer of a round behind the nodes below k. -/
def prS (n : Nat) (r m : Int) (H : Nat → Vt) (f : Nat → Bool) (k : Nat) : St := ⟨n, r, m, 0, fun j => if j < k ∧ f j = true then ⟨true, told (H j), 0⟩ else zP⟩
theorem prS_zero (n : Nat) (r m : Int) (H : Nat → Vt) (f : Nat → Bool) : prS n r m H f 0 = newS n r m 0 := by
  have e : (fun j => if j < 0 ∧ f j = true then (⟨true, told (H j), 0⟩ : Pm) else zP) = fun _ => zP := funext fun j => if_neg (by omega)
  unfold prS newS
  rw [e]
theorem prS_skip {n : Nat} {r m : Int} {H : Nat → Vt} {f : Nat → Bool} {k : Nat} (h : f k = false) : prS n r m H f (k + 1) = prS n r m H f k := by
  unfold prS
  congr 1
  funext j
  by_cases e : j < k ∧ f j = true
  · rw [if_pos ⟨by omega, e.2⟩, if_pos e]
  · rw [if_neg e, if_neg]
    rintro ⟨h1, h2⟩
    by_cases e2 : j = k
    · subst e2; rw [h] at h2; cases h2
    · exact e ⟨by omega, h2⟩
theorem okL_told {n i : Nat} {H : Nat → Vt} {c : ByteArray} (h : Pl n i H c) (hi : i ≤ 1000) {k : Nat} (hk : k < n) : okL n 0 (told (H k)) = true ∧ fitL (told (H k)) = true ∧ (told (H k)).length ≤ 1 := by
  unfold told
  split
  · exact ⟨rfl, rfl, by decide⟩
  · rename_i hv
    rcases h.h k hk with h0 | ⟨h1, h2, h3, h4, h5, h6⟩
    · rw [h0] at hv; exact absurd rfl hv
    · refine ⟨?_, ?_, Nat.le_refl 1⟩
      · unfold okL
        rw [decide_eq_true (show okE n 0 ⟨0, (H k).r, (H k).m, (H k).v⟩ from ⟨Int.le_refl 0, (show (0 : Int) < 4096 by omega), h1, by show (H k).r ≤ _; omega, h3, h4⟩)]
        rfl
      · unfold fitL
        simp only [List.all_cons, List.all_nil, Bool.and_true]
        exact decide_eq_true (by omega)
theorem prS_add {n i : Nat} {r m : Int} {H : Nat → Vt} {f : Nat → Bool} {c : ByteArray} {k : Nat} (h : Pl n i H c) (hi : i ≤ 1000) (hk : k < n) (hf : f k = true) :
    addE (prS n r m H f k) k (told (H k)) 0 = 0 ∧ addS (prS n r m H f k) k (told (H k)) 0 = prS n r m H f (k + 1) ∧ addB (prS n r m H f k) k (told (H k)) 0 = rdy (prS n r m H f (k + 1)) := by
  obtain ⟨o1, o2, _⟩ := okL_told h hi hk
  have hA : argOk (prS n r m H f k) k (told (H k)) 0 = true := by
    unfold argOk
    show (decide (0 ≤ (k : Int) ∧ (k : Int) < n) && okL n 0 (told (H k)) && decide ((0 : Int) ≤ 0 ∧ (0 : Int) ≤ 4096)) = true
    rw [o1, decide_eq_true (show 0 ≤ (k : Int) ∧ (k : Int) < n by omega)]
    rfl
  have ha : ((prS n r m H f k).P k).a = false := by
    show (if k < k ∧ f k = true then (⟨true, told (H k), 0⟩ : Pm) else zP).a = false
    rw [if_neg (by omega)]
  have hE : addE (prS n r m H f k) k (told (H k)) 0 = 0 := by
    unfold addE
    rw [hA, o2, Int.toNat_natCast, ha]
    rfl
  have hS : addS (prS n r m H f k) k (told (H k)) 0 = prS n r m H f (k + 1) := by
    unfold addS
    rw [if_pos hE, Int.toNat_natCast]
    unfold prS
    congr 1
    funext j
    by_cases e : j = k
    · subst e
      rw [updP_same, if_pos ⟨by omega, hf⟩]
    · rw [updP_other _ _ e]
      show (if j < k ∧ f j = true then (⟨true, told (H j), 0⟩ : Pm) else zP) = _
      by_cases e2 : j < k ∧ f j = true
      · rw [if_pos e2, if_pos ⟨by omega, e2.2⟩]
      · rw [if_neg e2, if_neg (fun h => e2 ⟨by omega, h.2⟩)]
  refine ⟨hE, hS, ?_⟩
  unfold addB
  rw [if_pos hE, hS]
theorem prS_nodes (n : Nat) (h7 : n ≤ 7) (r m : Int) (H : Nat → Vt) (f : Nat → Bool) : nodesK (prS n r m H f n).P 7 = setK f n := by
  refine Nat.eq_of_testBit_eq fun i => ?_
  rw [nodes_bit, set_bit]
  show (decide (i < 7) && (if i < n ∧ f i = true then (⟨true, told (H i), 0⟩ : Pm) else zP).a) = _
  by_cases e : i < n ∧ f i = true
  · rw [if_pos e, decide_eq_true (show i < 7 by omega), decide_eq_true e.1, e.2]
  · rw [if_neg e]
    by_cases e2 : i < n
    · have : f i = false := by
        cases hf : f i with
        | false => rfl
        | true => exact absurd ⟨e2, hf⟩ e
      rw [this, Bool.and_false, Bool.and_false]
    · rw [decide_eq_false e2, Bool.and_false, Bool.false_and]
theorem pick_fold (es : List Et) : ∀ z : Et, (∀ e ∈ es, e.s = 0) → z.s = 0 → ((es.foldl (pick 0) z = z ∨ es.foldl (pick 0) z ∈ es) ∧ z.r ≤ (es.foldl (pick 0) z).r ∧ ∀ e ∈ es, e.r ≤ (es.foldl (pick 0) z).r) := by
  induction es with
  | nil => intro z _ _; exact ⟨.inl rfl, Int.le_refl _, fun e he => by cases he⟩
  | cons x l ih =>
    intro z hz h0
    rw [List.foldl_cons]
    have hx := hz x (List.mem_cons_self ..)
    have hp : (pick 0 z x = z ∧ x.r ≤ z.r) ∨ (pick 0 z x = x ∧ z.r ≤ x.r) := by
      unfold pick gtB
      rw [decide_eq_true hx, Bool.true_and]
      by_cases h1 : z.r < x.r
      · rw [decide_eq_true h1]; exact .inr ⟨rfl, by omega⟩
      · rw [decide_eq_false h1, Bool.false_or]
        by_cases h2 : x.r = z.r
        · rw [decide_eq_true h2, Bool.true_and]
          by_cases h3 : z.m < x.m
          · rw [decide_eq_true h3]; exact .inr ⟨rfl, by omega⟩
          · rw [decide_eq_false h3]; exact .inl ⟨rfl, by omega⟩
        · rw [decide_eq_false h2, Bool.false_and]; exact .inl ⟨rfl, by omega⟩
    have hps : (pick 0 z x).s = 0 := by rcases hp with ⟨e, _⟩ | ⟨e, _⟩ <;> rw [e] <;> assumption
    obtain ⟨i1, i2, i3⟩ := ih (pick 0 z x) (fun e he => hz e (List.mem_cons_of_mem _ he)) hps
    refine ⟨?_, ?_, ?_⟩
    · rcases i1 with i1 | i1
      · rw [i1]
        rcases hp with ⟨e, _⟩ | ⟨e, _⟩
        · exact .inl e
        · exact .inr (by rw [e]; exact List.mem_cons_self ..)
      · exact .inr (List.mem_cons_of_mem _ i1)
    · rcases hp with ⟨e, h⟩ | ⟨e, h⟩
      · rw [e] at i2 ⊢; exact i2
      · rw [e] at i2 ⊢; omega
    · intro e he
      rcases List.mem_cons.1 he with rfl | he
      · rcases hp with ⟨e, h⟩ | ⟨e, h⟩
        · rw [e] at i2 ⊢; omega
        · rw [e] at i2 ⊢; exact i2
      · exact i3 e he
theorem top_one (es : List Et) (h : ∀ e ∈ es, e.s = 0) (hn : es ≠ []) : topN 0 es = 1 := by
  have key : ∀ (es : List Et) (N : Nat), (∀ e ∈ es, e.s = 0) → N ≤ 1 → es ≠ [] ∨ N = 1 → es.foldl (fun N x => max N (x.s - 0 + 1).toNat) N = 1 := by
    intro es
    induction es with
    | nil => intro N _ _ h; rcases h with h | h; exact absurd rfl h; exact h
    | cons x l ih =>
      intro N hz hN _
      rw [List.foldl_cons]
      have hx := hz x (List.mem_cons_self ..)
      refine ih _ (fun e he => hz e (List.mem_cons_of_mem _ he)) ?_ ?_
      · rw [hx]; omega
      · right; rw [hx]; omega
  exact key es 0 h (by omega) (.inl hn)
theorem all_told {n i : Nat} {r m : Int} {H : Nat → Vt} {f : Nat → Bool} {c : ByteArray} (h : Pl n i H c) : ∀ k, ∀ e, e ∈ allK (prS n r m H f n).P k ↔ ∃ j, j < k ∧ j < n ∧ f j = true ∧ (H j).v ≠ e0 ∧ e = ⟨0, (H j).r, (H j).m, (H j).v⟩
  | 0, e => by
    constructor
    · intro he; cases he
    · rintro ⟨j, hj, _⟩; omega
  | k + 1, e => by
    show e ∈ allK (prS n r m H f n).P k ++ ((prS n r m H f n).P k).l ↔ _
    rw [List.mem_append, all_told h k e]
    show _ ∨ e ∈ (if k < n ∧ f k = true then (⟨true, told (H k), 0⟩ : Pm) else zP).l ↔ _
    constructor
    · rintro (⟨j, h1, h2⟩ | he)
      · exact ⟨j, by omega, h2⟩
      · split at he
        · rename_i hc
          unfold told at he
          simp only at he
          split at he
          · cases he
          · rename_i hv
            rw [List.mem_singleton] at he
            exact ⟨k, by omega, hc.1, hc.2, hv, he⟩
        · cases he
    · rintro ⟨j, h1, h2, h3, h4, h5⟩
      by_cases e1 : j = k
      · subst e1
        right
        rw [if_pos ⟨h2, h3⟩]
        show e ∈ told (H j)
        unfold told
        rw [if_neg h4, List.mem_singleton]
        exact h5
      · exact .inl ⟨j, by omega, h2, h3, h4, h5⟩
theorem up_zero {n : Nat} {r m : Int} {H : Nat → Vt} {f : Nat → Bool} : upK (prS n r m H f n).P 7 = 0 := by
  have h1 := up_lim (prS n r m H f n).P (Int.le_refl 0) 7 (fun j _ => by
    show (if j < n ∧ f j = true then (⟨true, told (H j), 0⟩ : Pm) else zP).u ≤ 0
    split <;> exact Int.le_refl 0)
  have h2 := up_nn (prS n r m H f n).P 7
  omega
/-- What a proposer finds out. -/
theorem vals_safe {n i : Nat} {r m : Int} {H : Nat → Vt} {f : Nat → Bool} {c : ByteArray} (h : Pl n i H c) (h7 : n ≤ 7) (hr : n < 2 * cntK f n) :
    (valsOf (prS n r m H f n) = [] ∧ c = e0) ∨ ∃ v, valsOf (prS n r m H f n) = [⟨0, r, m, v⟩] ∧ v ≠ e0 ∧ v.size ≤ 2 ∧ (c ≠ e0 → v = c) := by
  have hb : beg (prS n r m H f n) = 0 := by
    show max 0 (upK (prS n r m H f n).P 7) = 0
    rw [up_zero]
    rfl
  have hmem := fun e => all_told (r := r) (m := m) (f := f) h 7 e
  generalize hes : allK (prS n r m H f n).P 7 = es at hmem
  have hX : c ≠ e0 → es ≠ [] := by
    intro hc
    rcases h.c with h0 | ⟨J, X, j1, j2, j3, j4, j5⟩
    · exact absurd h0 hc
    · have hs := set_pc f n h7
      obtain ⟨k, k1, k2, k3⟩ := meet_at h7 j2 (nodes_lt (fun j => ⟨f j, [], 0⟩) n) j3 (show n < 2 * Quo.pc (setK f n) by rw [hs]; exact hr)
      have k4 := j4 k k1 k2
      have hfk : f k = true := by
        have := set_bit f k n
        rw [show (setK f n).testBit k = true from k3] at this
        have := this.symm
        rw [Bool.and_eq_true] at this
        exact this.2
      have hv : (H k).v ≠ e0 := by
        rcases h.h k k1 with h0 | h0
        · rw [h0] at k4; simp only at k4; omega
        · exact h0.2.2.2.2.2
      intro he
      have := (hmem ⟨0, (H k).r, (H k).m, (H k).v⟩).2 ⟨k, by omega, k1, hfk, hv, rfl⟩
      rw [he] at this
      cases this
  by_cases hn : es = []
  · left
    refine ⟨?_, ?_⟩
    · unfold valsOf
      rw [hes, hn]
      rfl
    · by_cases hc : c = e0
      · exact hc
      · exact absurd hn (hX hc)
  · right
    have hz : ∀ e ∈ es, e.s = 0 := fun e he => by
      obtain ⟨j, _, _, _, _, rfl⟩ := (hmem e).1 he
      rfl
    obtain ⟨p1, p2, p3⟩ := pick_fold es (zAt 0 0) hz rfl
    have hbest : bestF 0 es 0 = es.foldl (pick 0) (zAt 0 0) := rfl
    rw [← hbest] at p1 p2 p3
    have hge : ∀ e ∈ es, 1 ≤ e.r := fun e he => by
      obtain ⟨j, _, h2, _, h4, rfl⟩ := (hmem e).1 he
      rcases h.h j h2 with h0 | h0
      · rw [h0] at h4; exact absurd rfl h4
      · exact h0.1
    have hin : bestF 0 es 0 ∈ es := by
      rcases p1 with p1 | p1
      · exfalso
        obtain ⟨x, hx⟩ := List.exists_mem_of_ne_nil es hn
        have a1 := p3 x hx
        have a2 := hge x hx
        rw [p1] at a1
        simp only at a1
        omega
      · exact p1
    obtain ⟨j, _, g2, g3, g4, g5⟩ := (hmem _).1 hin
    refine ⟨(H j).v, ?_, g4, ?_, ?_⟩
    · unfold valsOf
      rw [hes, hb, top_one es hz hn]
      show [(⟨(0 : Int) + (0 : Nat), r, m, (bestF 0 es 0).v⟩ : Et)] = _
      rw [g5]
      rfl
    · rcases h.h j g2 with h0 | h0
      · rw [h0] at g4; exact absurd rfl g4
      · exact h0.2.2.2.2.1
    · intro hc
      rcases h.c with h0 | ⟨J, X, j1, j2, j3, j4, j5⟩
      · exact absurd h0 hc
      · have hs := set_pc f n h7
        obtain ⟨k, k1, k2, k3⟩ := meet_at h7 j2 (nodes_lt (fun j => ⟨f j, [], 0⟩) n) j3 (show n < 2 * Quo.pc (setK f n) by rw [hs]; exact hr)
        have k4 := j4 k k1 k2
        have hfk : f k = true := by
          have := set_bit f k n
          rw [show (setK f n).testBit k = true from k3] at this
          have := this.symm
          rw [Bool.and_eq_true] at this
          exact this.2
        have hv : (H k).v ≠ e0 := by
          rcases h.h k k1 with h0 | h0
          · rw [h0] at k4; simp only at k4; omega
          · exact h0.2.2.2.2.2
        have hk := p3 _ ((hmem ⟨0, (H k).r, (H k).m, (H k).v⟩).2 ⟨k, by omega, k1, hfk, hv, rfl⟩)
        rw [g5] at hk
        simp only at hk
        exact j5 j g2 (by omega)
/-- The nodes below k have accepted. -/
def accH (H : Nat → Vt) (x : Vt) (f : Nat → Bool) (k : Nat) : Nat → Vt := fun j => if j < k ∧ f j = true then x else H j
theorem acc_skip {H : Nat → Vt} {x : Vt} {f : Nat → Bool} {k : Nat} (h : f k = false) : accH H x f (k + 1) = accH H x f k := by
  funext j
  unfold accH
  by_cases e : j < k ∧ f j = true
  · rw [if_pos ⟨by omega, e.2⟩, if_pos e]
  · rw [if_neg e, if_neg]
    rintro ⟨h1, h2⟩
    by_cases e2 : j = k
    · subst e2; rw [h] at h2; cases h2
    · exact e ⟨by omega, h2⟩
theorem acc_step {H : Nat → Vt} {x : Vt} {f : Nat → Bool} {k : Nat} (h : f k = true) : accH H x f (k + 1) = updH (accH H x f k) k x := by
  funext j
  unfold accH updH
  by_cases e : j = k
  · subst e; rw [if_pos ⟨by omega, h⟩, if_pos rfl]
  · rw [if_neg e]
    show _ = if j < k ∧ f j = true then x else H j
    by_cases e2 : j < k ∧ f j = true
    · rw [if_pos e2, if_pos ⟨by omega, e2.2⟩]
    · rw [if_neg e2, if_neg (fun h => e2 ⟨by omega, h.2⟩)]
def chK (n : Nat) (c v : ByteArray) (q : Nat) : ByteArray := if n < 2 * q then v else c
theorem pl_next {n i : Nat} {H : Nat → Vt} {c v : ByteArray} {m : Int} {f : Nat → Bool} (h : Pl n i H c) (h7 : n ≤ 7) (hm : 0 ≤ m ∧ m < n) (hv : v ≠ e0 ∧ v.size ≤ 2) (hc : c ≠ e0 → v = c) :
    Pl n (i + 1) (accH H ⟨((i + 1 : Nat) : Int), m, v⟩ f n) (chK n c v (cntK f n)) := by
  refine ⟨fun k hk => ?_, ?_⟩
  · unfold accH
    split
    · exact .inr ⟨by simp only; omega, by simp only; omega, hm.1, hm.2, hv.2, hv.1⟩
    · rcases h.h k hk with h0 | ⟨h1, h2, h3⟩
      · exact .inl h0
      · exact .inr ⟨h1, by omega, h3⟩
  · unfold chK
    split
    · rename_i hq
      right
      refine ⟨((i + 1 : Nat) : Int), setK f n, by omega, nodes_lt _ n, by rw [set_pc f n h7]; exact hq, fun k hk hb => ?_, fun k hk hJ => ?_⟩
      · rw [set_bit, Bool.and_eq_true] at hb
        unfold accH
        rw [if_pos ⟨hk, hb.2⟩]
        exact Int.le_refl _
      · unfold accH at hJ ⊢
        split
        · rfl
        · rename_i hn
          rw [if_neg hn] at hJ
          rcases h.h k hk with h0 | ⟨h1, h2, _⟩
          · rw [h0] at hJ; simp only at hJ; omega
          · omega
    · rcases h.c with h0 | ⟨J, X, j1, j2, j3, j4, j5⟩
      · exact .inl h0
      · by_cases hce : c = e0
        · exact .inl hce
        · right
          refine ⟨J, X, j1, j2, j3, fun k hk hb => ?_, fun k hk hJ => ?_⟩
          · have h1 := j4 k hk hb
            unfold accH
            split
            · rcases h.h k hk with h0 | ⟨_, h2, _⟩
              · rw [h0] at h1; simp only at h1; omega
              · simp only; omega
            · exact h1
          · unfold accH at hJ ⊢
            split
            · exact hc hce
            · rename_i hn
              rw [if_neg hn] at hJ
              exact j5 k hk hJ
/-! What ProposeSafe has in memory. -/
structure Sf (w : World) (n : Nat) (hb pb mb : Nat) (H : Nat → Vt) (Q : Nat → Int × Int) (C : Vt → Int) (W : World) : Prop where
  has : W.heap[hb]? = some (.cells (vflat n H).toArray TV (0, 0))
  pro : W.heap[pb]? = some (.cells (bflat n Q).toArray TB (0, 0))
  mp : MpC W mb C
  lo : w.heap.size ≤ hb ∧ w.heap.size ≤ pb ∧ w.heap.size ≤ mb
  bel : Below w.heap.size w W
section
variable {w W W' : World} {n hb pb mb : Nat} {H : Nat → Vt} {Q : Nat → Int × Int} {C : Vt → Int}
theorem Sf.later (h : Sf w n hb pb mb H Q C W) (hB : Below W.heap.size W W') : Sf w n hb pb mb H Q C W' :=
  ⟨(hB.block _ (Array.getElem?_eq_some_iff.1 h.has).1).trans h.has, (hB.block _ (Array.getElem?_eq_some_iff.1 h.pro).1).trans h.pro, h.mp.later hB, h.lo, h.bel.trans (hB.mono h.bel.size)⟩
theorem Sf.alloc (h : Sf w n hb pb mb H Q C W) (o : Obj) : Sf w n hb pb mb H Q C (W.alloc o) := h.later (alloc_b _ _)
/-- The proposer's box was written. -/
theorem Sf.prop {b : Nat} {s : St} (h : Sf w n hb pb mb H Q C W) (x : PAt w b s W) (hK : Keeps (fun j => j = b) W W') : Sf w n hb pb mb H Q C W' := by
  obtain ⟨vs, hx⟩ := x.px
  have hb0 := hx.box
  have n1 : hb ≠ b := by
    rintro rfl
    have h1 := h.has
    rw [hb0] at h1
    injection h1 with h1
    injection h1 with _ h1
    exact absurd h1 (by decide)
  have n2 : pb ≠ b := by
    rintro rfl
    have h1 := h.pro
    rw [hb0] at h1
    injection h1 with h1
    injection h1 with _ h1
    exact absurd h1 (by decide)
  have n3 : mb ≠ b := by
    rintro rfl
    obtain ⟨es, clock, h1, _⟩ := h.mp.ex
    rw [hb0] at h1
    cases h1
  exact ⟨(hK.block _ (Array.getElem?_eq_some_iff.1 h.has).1 n1).trans h.has, (hK.block _ (Array.getElem?_eq_some_iff.1 h.pro).1 n2).trans h.pro, h.mp.kept (hK.block _ h.mp.lt n3), h.lo, h.bel.trans (hK.below h.bel.size fun k hk => by subst hk; exact x.lo)⟩
theorem Sf.cellH (h : Sf w n hb pb mb H Q C W) {k : Nat} (hk : k < n) : W.cell? ⟨hb, k * 3, none⟩ = some (.int .i64 (H k).r) ∧ W.cell? ⟨hb, k * 3 + 1, none⟩ = some (.int .i64 (H k).m) ∧ W.cell? ⟨hb, k * 3 + 2, none⟩ = some (.string (H k).v) := by
  obtain ⟨h0, h1, h2⟩ := vflat_at H hk
  exact ⟨(cell_of_row W hb _ _ TV _ h.has).trans (by simpa using h0), (cell_of_row W hb _ _ TV _ h.has).trans (by simpa using h1), (cell_of_row W hb _ _ TV _ h.has).trans (by simpa using h2)⟩
theorem Sf.cellQ (h : Sf w n hb pb mb H Q C W) {k : Nat} (hk : k < n) : W.cell? ⟨pb, k * 2, none⟩ = some (.int .i64 (Q k).1) ∧ W.cell? ⟨pb, k * 2 + 1, none⟩ = some (.int .i64 (Q k).2) := by
  obtain ⟨h0, h1⟩ := bflat_at Q hk
  exact ⟨(cell_of_row W pb _ _ TB _ h.pro).trans (by simpa using h0), (cell_of_row W pb _ _ TB _ h.pro).trans (by simpa using h1)⟩
theorem Sf.froz (h : Sf w n hb pb mb H Q C W) (i : Nat) : W.frozen? ⟨hb, i, none⟩ = false ∧ W.frozen? ⟨pb, i, none⟩ = false := ⟨frozen_of_row W hb i _ TV h.has, frozen_of_row W pb i _ TB h.pro⟩
theorem Sf.ne (h : Sf w n hb pb mb H Q C W) : hb ≠ pb ∧ hb ≠ mb ∧ pb ≠ mb := by
  obtain ⟨es, clock, h1, _⟩ := h.mp.ex
  refine ⟨?_, ?_, ?_⟩
  · rintro rfl
    have h2 := h.has
    rw [h.pro] at h2
    injection h2 with h2
    injection h2 with _ h2
    exact absurd h2 (by decide)
  · rintro rfl; rw [h.has] at h1; cases h1
  · rintro rfl; rw [h.pro] at h1; cases h1
/-- promised[k] = b -/
theorem Sf.setQ (h : Sf w n hb pb mb H Q C W) {k : Nat} (hk : k < n) (x y : Int) : Sf w n hb pb mb H (updH Q k (x, y)) C ((W.setCell ⟨pb, k * 2, none⟩ (.int .i64 x)).setCell ⟨pb, k * 2 + 1, none⟩ (.int .i64 y)) := by
  obtain ⟨n1, n2, n3⟩ := h.ne
  have hK : Keeps (fun j => j = pb) W ((W.setCell ⟨pb, k * 2, none⟩ (.int .i64 x)).setCell ⟨pb, k * 2 + 1, none⟩ (.int .i64 y)) := ((Keeps.refl (fun j => j = pb) W).setCell (p := ⟨pb, _, none⟩) (.inl rfl) _).setCell (p := ⟨pb, _, none⟩) (.inl rfl) _
  refine ⟨(hK.block _ (Array.getElem?_eq_some_iff.1 h.has).1 n1).trans h.has, ?_, h.mp.kept (hK.block _ h.mp.lt (Ne.symm n3)), h.lo, h.bel.trans (hK.below h.bel.size fun k hk => by subst hk; exact h.lo.2.1)⟩
  have h2 : ((W.setCell ⟨pb, k * 2, none⟩ (.int .i64 x)).setCell ⟨pb, k * 2 + 1, none⟩ (.int .i64 y)).heap[pb]? = some (.cells (((bflat n Q).toArray.setIfInBounds (k * 2) (.int .i64 x)).setIfInBounds (k * 2 + 1) (.int .i64 y)) TB (0, 0)) := heap_setCell_same _ pb _ _ _ _ (heap_setCell_same W pb _ _ _ _ h.pro)
  rw [h2, ← bflat_set Q hk (x, y)]
  simp
/-- has[k] = vote{b, value} -/
theorem Sf.setH (h : Sf w n hb pb mb H Q C W) {k : Nat} (hk : k < n) (x : Vt) : Sf w n hb pb mb (updH H k x) Q C (((W.setCell ⟨hb, k * 3, none⟩ (.int .i64 x.r)).setCell ⟨hb, k * 3 + 1, none⟩ (.int .i64 x.m)).setCell ⟨hb, k * 3 + 2, none⟩ (.string x.v)) := by
  obtain ⟨n1, n2, n3⟩ := h.ne
  have hK : Keeps (fun j => j = hb) W (((W.setCell ⟨hb, k * 3, none⟩ (.int .i64 x.r)).setCell ⟨hb, k * 3 + 1, none⟩ (.int .i64 x.m)).setCell ⟨hb, k * 3 + 2, none⟩ (.string x.v)) := (((Keeps.refl (fun j => j = hb) W).setCell (p := ⟨hb, _, none⟩) (.inl rfl) _).setCell (p := ⟨hb, _, none⟩) (.inl rfl) _).setCell (p := ⟨hb, _, none⟩) (.inl rfl) _
  refine ⟨?_, (hK.block _ (Array.getElem?_eq_some_iff.1 h.pro).1 (Ne.symm n1)).trans h.pro, h.mp.kept (hK.block _ h.mp.lt (Ne.symm n2)), h.lo, h.bel.trans (hK.below h.bel.size fun k hk => by subst hk; exact h.lo.1)⟩
  have h2 : (((W.setCell ⟨hb, k * 3, none⟩ (.int .i64 x.r)).setCell ⟨hb, k * 3 + 1, none⟩ (.int .i64 x.m)).setCell ⟨hb, k * 3 + 2, none⟩ (.string x.v)).heap[hb]? = some (.cells ((((vflat n H).toArray.setIfInBounds (k * 3) (.int .i64 x.r)).setIfInBounds (k * 3 + 1) (.int .i64 x.m)).setIfInBounds (k * 3 + 2) (.string x.v)) TV (0, 0)) := heap_setCell_same _ hb _ _ _ _ (heap_setCell_same _ hb _ _ _ _ (heap_setCell_same W hb _ _ _ _ h.has))
  rw [h2, ← vflat_set H hk x]
  simp
/-- The map was written. -/
theorem Sf.setM (h : Sf w n hb pb mb H Q C W) {C' : Vt → Int} (hg : W.grownBy W' (some mb)) (hm : MpC W' mb C') : Sf w n hb pb mb H Q C' W' := by
  obtain ⟨n1, n2, n3⟩ := h.ne
  refine ⟨(hg.block _ (Array.getElem?_eq_some_iff.1 h.has).1 (fun e => n2 (by injection e))).trans h.has, (hg.block _ (Array.getElem?_eq_some_iff.1 h.pro).1 (fun e => n3 (by injection e))).trans h.pro, hm, h.lo, h.bel.grown hg h.bel.size (fun k e => by injection e with e; subst e; exact h.lo.2.2)⟩
end
theorem PAt.keptB {w W W' : World} {b pb : Nat} {s : St} {cs : Array Value} (x : PAt w b s W) (h : W.heap[pb]? = some (.cells cs TB (0, 0))) (hK : Keeps (fun j => j = pb) W W') (hlo : w.heap.size ≤ pb) : PAt w b s W' := by
  obtain ⟨vs, hx⟩ := x.px
  refine ⟨⟨vs, hx.kept hK (fun e => ?_) (fun i hi k hk e => ?_)⟩, x.bel.trans (hK.below x.bel.size fun k hk => by subst hk; exact hlo), x.lo⟩
  · subst e
    have h1 := hx.box
    rw [h] at h1
    injection h1 with h1
    injection h1 with _ h1
    exact absurd h1 (by decide)
  · subst e
    rcases (hx.lst i hi).2 with ⟨e1, _⟩ | ⟨g, cap, cur, e1, _, hg, _⟩
    · rw [e1] at hk; cases hk
    · rw [e1] at hk
      injection hk with hk
      have hk : g = k := hk
      subst hk
      rw [h] at hg
      injection hg with hg
      injection hg with _ hg
      exact absurd hg (by decide)
end Go.Proofs.Ytffiooclkchoiaa.Prp
