/- The promises of a proposer as plain lists; what is proposed at each slot. -/
import Derived.Test.YtffiooclkchoiaaRows
import Derived.Test.YtffiooclkchoiaaChecked
import Derived.WalkKit
import Derived.Lib.Hide
import Derived.Carry
import Derived.Maps.OwnSet
import Derived.Maps.AppendAt
namespace Go.Proofs.Ytffiooclkchoiaa.Prp
open Go.RowKit Go.Lib
set_option linter.unusedVariables false
set_option linter.unusedSimpArgs false
set_option maxRecDepth 20000

/-! Entries, promises, proposers. -/
structure Et where
  s : Int
  r : Int
  m : Int
  v : ByteArray
abbrev zE : Et := ⟨0, 0, 0, ⟨#[]⟩⟩
structure Pm where
  a : Bool
  l : List Et
  u : Int
abbrev zP : Pm := ⟨false, [], 0⟩
structure St where
  n : Int
  r : Int
  m : Int
  f : Int
  P : Nat → Pm
def Gd (n r m : Int) : Prop := 1 ≤ r ∧ r ≤ 1073741824 ∧ 0 ≤ m ∧ m < n
instance (n r m : Int) : Decidable (Gd n r m) := by unfold Gd; exact inferInstance
def okE (n f : Int) (e : Et) : Prop := f ≤ e.s ∧ e.s < 4096 ∧ Gd n e.r e.m
instance (n f : Int) (e : Et) : Decidable (okE n f e) := by unfold okE; exact inferInstance
def okL (n : Int) : Int → List Et → Bool
  | _, [] => true
  | f, e :: L => decide (okE n f e) && okL n (e.s + 1) L
def fitL (L : List Et) : Bool := L.all fun e => decide (e.v.size ≤ 65536)
def updP (P : Nat → Pm) (k : Nat) (x : Pm) : Nat → Pm := fun i => if i = k then x else P i
theorem updP_same (P : Nat → Pm) (k : Nat) (x : Pm) : updP P k x k = x := if_pos rfl
theorem updP_other (P : Nat → Pm) {k i : Nat} (x : Pm) (h : i ≠ k) : updP P k x i = P i := if_neg h
def nodesK (P : Nat → Pm) : Nat → Nat
  | 0 => 0
  | k + 1 => if (P k).a then nodesK P k ||| 2 ^ k else nodesK P k
def upK (P : Nat → Pm) : Nat → Int
  | 0 => 0
  | k + 1 => max (upK P k) (P k).u
def allK (P : Nat → Pm) : Nat → List Et
  | 0 => []
  | k + 1 => allK P k ++ (P k).l
theorem nodes_lt (P : Nat → Pm) : ∀ k, nodesK P k < 2 ^ k
  | 0 => Nat.one_pos
  | k + 1 => by
    have h := nodes_lt P k
    have h2 : 2 ^ k < 2 ^ (k + 1) := Nat.pow_lt_pow_right (by omega) (by omega)
    unfold nodesK
    split
    · exact Nat.or_lt_two_pow (by omega) h2
    · omega
theorem nodes_bit (P : Nat → Pm) (i : Nat) : ∀ k, (nodesK P k).testBit i = (decide (i < k) && (P i).a)
  | 0 => by simp [nodesK]
  | k + 1 => by
    have h := nodes_bit P i k
    unfold nodesK
    cases ha : (P k).a with
    | false =>
      rw [if_neg (by simp)]
      rw [h]
      by_cases e : i = k
      · subst e; simp [ha]
      · congr 1; exact decide_eq_decide.2 (by omega)
    | true =>
      rw [if_pos rfl, Nat.testBit_or, h, Nat.testBit_two_pow]
      by_cases e : i = k
      · subst e; simp [ha]
      · rw [decide_eq_false (show ¬ k = i from fun h => e h.symm), Bool.or_false]
        congr 1; exact decide_eq_decide.2 (by omega)
theorem up_nn (P : Nat → Pm) : ∀ k, 0 ≤ upK P k
  | 0 => Int.le_refl 0
  | k + 1 => by have := up_nn P k; unfold upK; omega

/-! The entry with the greatest ballot at each slot. -/
def fdV (x y : Int) : Int := if x = 0 then y else x
def gtB (a b x y : Int) : Bool := decide (x < a) || (decide (a = x) && decide (y < b))
abbrev zAt (b : Int) (j : Nat) : Et := ⟨b + j, 0, 0, ⟨#[]⟩⟩
def pick (k : Int) (e x : Et) : Et := if decide (x.s = k) && gtB x.r x.m e.r e.m then x else e
def bestF (b : Int) (es : List Et) (j : Nat) : Et := es.foldl (pick (b + j)) (zAt b j)
def topN (b : Int) (es : List Et) : Nat := es.foldl (fun N x => max N (x.s - b + 1).toNat) 0
theorem best_snoc (b : Int) (es : List Et) (x : Et) (j : Nat) : bestF b (es ++ [x]) j = pick (b + j) (bestF b es j) x := by simp [bestF]
theorem top_snoc (b : Int) (es : List Et) (x : Et) : topN b (es ++ [x]) = max (topN b es) (x.s - b + 1).toNat := by simp [topN]
theorem best_from (b : Int) (es : List Et) (j : Nat) : bestF b (es.filter fun x => decide (b ≤ x.s)) j = bestF b es j := by
  unfold bestF
  generalize zAt b j = z
  induction es generalizing z with
  | nil => rfl
  | cons x r ih =>
    rw [List.filter_cons]
    by_cases h : b ≤ x.s
    · rw [if_pos (decide_eq_true h), List.foldl_cons, List.foldl_cons, ih]
    · rw [if_neg (by simpa using h), List.foldl_cons, ih]
      have e : pick (b + j) z x = z := by
        unfold pick
        rw [decide_eq_false (by omega)]
        rfl
      rw [e]
theorem top_from (b : Int) (es : List Et) : topN b (es.filter fun x => decide (b ≤ x.s)) = topN b es := by
  unfold topN
  generalize 0 = z
  induction es generalizing z with
  | nil => rfl
  | cons x r ih =>
    rw [List.filter_cons]
    by_cases h : b ≤ x.s
    · rw [if_pos (decide_eq_true h), List.foldl_cons, List.foldl_cons, ih]
    · rw [if_neg (by simpa using h), List.foldl_cons, ih]
      have e : max z (x.s - b + 1).toNat = z := by omega
      rw [e]
theorem best_slot (b : Int) (es : List Et) (j : Nat) : (bestF b es j).s = b + j := by
  unfold bestF
  have h : (zAt b j).s = b + j := rfl
  revert h
  generalize zAt b j = z
  induction es generalizing z with
  | nil => intro h; exact h
  | cons x r ih =>
    intro h
    rw [List.foldl_cons]
    refine ih _ ?_
    unfold pick
    split
    · rename_i hc
      rw [Bool.and_eq_true, decide_eq_true_eq] at hc
      exact hc.1
    · exact h
theorem best_beyond (b : Int) (es : List Et) (j : Nat) (h : topN b es ≤ j) : bestF b es j = zAt b j := by
  have key : ∀ (es : List Et) (N : Nat) (z : Et), es.foldl (fun N x => max N (x.s - b + 1).toNat) N ≤ j → es.foldl (pick (b + j)) z = z := by
    intro es
    induction es with
    | nil => intro N z _; rfl
    | cons x r ih =>
      intro N z h
      rw [List.foldl_cons] at h ⊢
      have h1 : ∀ (r : List Et) (M : Nat), M ≤ r.foldl (fun N x => max N (x.s - b + 1).toNat) M := by
        intro r
        induction r with
        | nil => intro M; exact Nat.le_refl M
        | cons y r ih2 => intro M; rw [List.foldl_cons]; exact Nat.le_trans (Nat.le_max_left _ _) (ih2 _)
      have h2 := Nat.le_trans (h1 r _) h
      have e : pick (b + j) z x = z := by
        unfold pick
        rw [decide_eq_false (by omega)]
        rfl
      rw [e]
      exact ih _ z h
  exact key es 0 _ h
def lst (N : Nat) (B : Nat → Et) : List Et := (List.range N).map B
theorem lst_len (N : Nat) (B : Nat → Et) : (lst N B).length = N := by simp [lst]
theorem lst_succ (N : Nat) (B : Nat → Et) : lst (N + 1) B = lst N B ++ [B N] := by simp [lst, List.range_succ]
theorem lst_at (N : Nat) (B : Nat → Et) (j : Nat) (h : j < N) : (lst N B)[j]? = some (B j) := by simp [lst, List.getElem?_map, h]
theorem lst_congr {N : Nat} {B C : Nat → Et} (h : ∀ j, j < N → B j = C j) : lst N B = lst N C := by
  unfold lst
  exact List.map_congr_left fun j hj => h j (List.mem_range.1 hj)
theorem lst_set {N : Nat} {B : Nat → Et} {k : Nat} (x : Et) (h : k < N) : (lst N B).set k x = lst N (fun j => if j = k then x else B j) := by
  refine List.ext_getElem? fun j => ?_
  rw [List.getElem?_set]
  by_cases hj : j < N
  · rw [lst_at _ _ _ hj, lst_at _ _ _ hj, lst_len]
    by_cases e : k = j
    · subst e; rw [if_pos rfl, if_pos h, if_pos rfl]
    · rw [if_neg e, if_neg (fun c => e c.symm)]
  · rw [List.getElem?_eq_none (by rw [lst_len]; omega), List.getElem?_eq_none (by rw [lst_len]; omega), if_neg (by omega)]

/-! The plain answers. -/
def beg (s : St) : Int := max s.f (upK s.P 7)
def valsOf (s : St) : List Et := lst (topN (beg s) (allK s.P 7)) fun j => ⟨beg s + j, s.r, s.m, (bestF (beg s) (allK s.P 7) j).v⟩
def argOk (s : St) (k : Int) (l : List Et) (u : Int) : Bool := decide (0 ≤ k ∧ k < s.n) && okL s.n s.f l && decide (0 ≤ u ∧ u ≤ 4096)
def addE (s : St) (k : Int) (l : List Et) (u : Int) : Int :=
  if argOk s k l u then (if fitL l then (if (s.P k.toNat).a then 6 else 0) else 11) else 2
def addS (s : St) (k : Int) (l : List Et) (u : Int) : St := if addE s k l u = 0 then ⟨s.n, s.r, s.m, s.f, updP s.P k.toNat ⟨true, l, u⟩⟩ else s
/-- What always holds of a proposer. -/
structure OkS (s : St) : Prop where
  n1 : 1 ≤ s.n
  n7 : s.n ≤ 7
  hb : Gd s.n s.r s.m
  hf : 0 ≤ s.f ∧ s.f ≤ 4096
  off : ∀ i, (s.P i).a = false → s.P i = zP
  on : ∀ i, (s.P i).a = true → (i : Int) < s.n ∧ okL s.n s.f (s.P i).l = true ∧ fitL (s.P i).l = true ∧ 0 ≤ (s.P i).u ∧ (s.P i).u ≤ 4096
theorem OkS.add {s : St} (h : OkS s) (k : Int) (l : List Et) (u : Int) : OkS (addS s k l u) := by
  unfold addS
  split
  · rename_i he
    unfold addE at he
    split at he
    · rename_i hA
      split at he
      · rename_i hF
        unfold argOk at hA
        simp only [Bool.and_eq_true, decide_eq_true_eq] at hA
        refine ⟨h.n1, h.n7, h.hb, h.hf, fun i hi => ?_, fun i hi => ?_⟩
        · by_cases e : i = k.toNat
          · subst e
            simp only [updP_same] at hi
            cases hi
          · simp only [updP_other _ _ e] at hi ⊢
            exact h.off i hi
        · by_cases e : i = k.toNat
          · subst e
            simp only [updP_same]
            exact ⟨by omega, hA.1.2, hF, hA.2.1, hA.2.2⟩
          · simp only [updP_other _ _ e] at hi ⊢
            exact h.on i hi
      · cases he
    · cases he
  · exact h
theorem up_le {s : St} (h : OkS s) : ∀ k, upK s.P k ≤ 4096
  | 0 => by show (0 : Int) ≤ 4096; omega
  | k + 1 => by
    have := up_le h k
    unfold upK
    have h2 : (s.P k).u ≤ 4096 := by
      cases ha : (s.P k).a with
      | true => exact (h.on k ha).2.2.2.2
      | false => rw [h.off k ha]; show (0 : Int) ≤ 4096; omega
    omega
theorem okL_mem : ∀ {n f : Int} {L : List Et}, okL n f L = true → ∀ e ∈ L, okE n f e
  | _, _, [], _, _, h => by cases h
  | n, f, x :: L, h, e, he => by
    unfold okL at h
    rw [Bool.and_eq_true, decide_eq_true_eq] at h
    rcases List.mem_cons.1 he with rfl | he
    · exact h.1
    · obtain ⟨h1, h2, h3⟩ := okL_mem h.2 e he
      have := h.1.1
      exact ⟨by omega, h2, h3⟩
theorem okL_len : ∀ {n f : Int} {L : List Et}, okL n f L = true → f ≤ 4096 → (L.length : Int) ≤ 4096 - f
  | _, _, [], _, _ => by simp; omega
  | n, f, x :: L, h, hf => by
    unfold okL at h
    rw [Bool.and_eq_true, decide_eq_true_eq] at h
    have h1 := okL_len h.2 (by have := h.1.2.1; omega)
    have h2 := h.1.1
    rw [List.length_cons]
    omega
theorem all_mem {s : St} (h : OkS s) : ∀ k, ∀ e ∈ allK s.P k, okE s.n s.f e ∧ e.v.size ≤ 65536
  | 0, e, he => by cases he
  | k + 1, e, he => by
    unfold allK at he
    rcases List.mem_append.1 he with he | he
    · exact all_mem h k e he
    · cases ha : (s.P k).a with
      | false => rw [h.off k ha] at he; cases he
      | true =>
        obtain ⟨_, h2, h3, _⟩ := h.on k ha
        unfold fitL at h3
        rw [List.all_eq_true] at h3
        exact ⟨okL_mem h2 e he, of_decide_eq_true (h3 e he)⟩
theorem top_le {b : Int} {es : List Et} (hb : 0 ≤ b) (h : ∀ e ∈ es, e.s < 4096) : topN b es ≤ 4096 := by
  have key : ∀ (es : List Et) (N : Nat), N ≤ 4096 → (∀ e ∈ es, e.s < 4096) → es.foldl (fun N x => max N (x.s - b + 1).toNat) N ≤ 4096 := by
    intro es
    induction es with
    | nil => intro N h _; exact h
    | cons x r ih =>
      intro N hN hr
      rw [List.foldl_cons]
      refine ih _ ?_ fun e he => hr e (List.mem_cons_of_mem _ he)
      have := hr x (List.mem_cons_self ..)
      omega
  exact key es 0 (by omega) h
end Go.Proofs.Ytffiooclkchoiaa.Prp
