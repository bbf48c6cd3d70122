/- The counters of a store as a plain list in order, and the map that holds them. -/
import Derived.Test.YtiahjacjpakkdaaS13
import Derived.Test.YtiahjacjpakkdaaS09
import Derived.Maps.Ext
import Derived.Maps.OwnSet
import Derived.Sort.KeysCollected
import Derived.StringKeys
namespace Go.Proofs.Ytiahjacjpakkdaa.Sto
open Go.RowKit Go.Maps Go.Lib
open Cnt (Ct cA OkC)
open Rng (tx nameOk bl bl_eq bl_irrefl bl_trans)
set_option linter.unusedVariables false
set_option linter.unusedSimpArgs false

/-! Plain lists. -/
abbrev En := List UInt8 × Ct
abbrev Srt (M : List En) : Prop := M.Pairwise (fun p q => bl p.1 q.1 = true)
def getM (M : List En) (k : List UInt8) : Option Ct := (M.find? (fun p => p.1 == k)).map (·.2)
def delM (M : List En) (k : List UInt8) : List En := M.filter (fun p => !(p.1 == k))
def insM (x : En) : List En → List En
  | [] => [x]
  | y :: r => if bl x.1 y.1 then x :: y :: r else y :: insM x r
def putM (M : List En) (k : List UInt8) (c : Ct) : List En := insM (k, c) (delM M k)
def keysM (M : List En) : List (List UInt8) := M.map (·.1)

theorem bl_total {x y : List UInt8} (h : x ≠ y) : bl x y = true ∨ bl y x = true := by
  rw [bl_eq, bl_eq]
  rcases Classical.em (x < y) with h1 | h1
  · exact .inl (decide_eq_true h1)
  · right
    have h2 : y ≤ x := List.not_lt.1 h1
    refine decide_eq_true ?_
    rcases Classical.em (y < x) with h3 | h3
    · exact h3
    · exact absurd (List.le_antisymm (List.not_lt.1 h3) h2) h
theorem ne_of_bl {x y : List UInt8} (h : bl x y = true) : x ≠ y := fun e => by rw [e, bl_irrefl] at h; cases h
theorem mem_ins (x p : En) : ∀ M : List En, p ∈ insM x M ↔ p = x ∨ p ∈ M
  | [] => by simp [insM]
  | y :: r => by
    unfold insM
    split
    · simp
    · simp only [List.mem_cons, mem_ins x p r]
      constructor
      · rintro (h | h | h) <;> simp [h]
      · rintro (h | h | h) <;> simp [h]
theorem srt_ins (x : En) : ∀ M : List En, Srt M → (∀ p ∈ M, p.1 ≠ x.1) → Srt (insM x M)
  | [], _, _ => by simp [insM]
  | y :: r, h, hn => by
    unfold insM
    obtain ⟨h1, h2⟩ := List.pairwise_cons.1 h
    split
    · rename_i hb
      refine List.pairwise_cons.2 ⟨fun p hp => ?_, h⟩
      rcases List.mem_cons.1 hp with rfl | hp
      · exact hb
      · exact bl_trans _ _ _ hb (h1 p hp)
    · rename_i hb
      refine List.pairwise_cons.2 ⟨fun p hp => ?_, srt_ins x r h2 (fun p hp => hn p (List.mem_cons_of_mem _ hp))⟩
      rcases (mem_ins x p r).1 hp with rfl | hp
      · rcases bl_total (hn y (List.mem_cons_self ..)) with hh | hh
        · exact hh
        · exact absurd hh hb
      · exact h1 p hp
theorem mem_del {M : List En} {k : List UInt8} {p : En} : p ∈ delM M k ↔ p ∈ M ∧ p.1 ≠ k := by simp [delM]
theorem srt_del {M : List En} (h : Srt M) (k : List UInt8) : Srt (delM M k) := h.sublist List.filter_sublist
theorem srt_put {M : List En} (h : Srt M) (k : List UInt8) (c : Ct) : Srt (putM M k c) := srt_ins _ _ (srt_del h k) fun p hp => (mem_del.1 hp).2
theorem mem_put {M : List En} {k : List UInt8} {c : Ct} {p : En} : p ∈ putM M k c ↔ p = (k, c) ∨ (p ∈ M ∧ p.1 ≠ k) := by unfold putM; rw [mem_ins, mem_del]
theorem get_iff {M : List En} (h : Srt M) (k : List UInt8) (c : Ct) : getM M k = some c ↔ (k, c) ∈ M := by
  induction M with
  | nil => simp [getM]
  | cons y r ih =>
    obtain ⟨h1, h2⟩ := List.pairwise_cons.1 h
    unfold getM at ih ⊢
    rw [List.find?_cons]
    by_cases e : y.1 = k
    · have : (y.1 == k) = true := by simp [e]
      simp only [this, Option.map_some, Option.some.injEq, List.mem_cons]
      constructor
      · intro e2; left; rw [← e, ← e2]
      · rintro (e2 | e2)
        · rw [← e2]
        · exact absurd e (ne_of_bl (h1 _ e2))
    · have : (y.1 == k) = false := by simp [e]
      simp only [this, List.mem_cons]
      rw [ih h2]
      constructor
      · exact .inr
      · rintro (e2 | e2)
        · exact absurd (by rw [← e2]) e
        · exact e2
theorem get_none {M : List En} {k : List UInt8} : getM M k = none ↔ ∀ p ∈ M, p.1 ≠ k := by
  unfold getM
  rw [Option.map_eq_none_iff, List.find?_eq_none]
  simp
theorem get_put {M : List En} (h : Srt M) (k : List UInt8) (c : Ct) (j : List UInt8) : getM (putM M k c) j = if j = k then some c else getM M j := by
  by_cases e : j = k
  · subst e
    rw [if_pos rfl, get_iff (srt_put h _ _)]
    exact mem_put.2 (.inl rfl)
  · rw [if_neg e]
    refine Option.ext fun x => ?_
    rw [get_iff (srt_put h _ _), get_iff h, mem_put]
    simp [e]
theorem get_del {M : List En} (h : Srt M) (k j : List UInt8) : getM (delM M k) j = if j = k then none else getM M j := by
  by_cases e : j = k
  · subst e
    rw [if_pos rfl, get_none]
    exact fun p hp => (mem_del.1 hp).2
  · rw [if_neg e]
    refine Option.ext fun x => ?_
    rw [get_iff (srt_del h _), get_iff h, mem_del]
    simp [e]
theorem ext_M {M N : List En} (hM : Srt M) (hN : Srt N) (h : ∀ k, getM M k = getM N k) : M = N := by
  refine List.Perm.eq_of_pairwise (le := fun p q : En => bl p.1 q.1 = true) (fun a b _ _ h1 h2 => ?_) hM hN ?_
  · have := bl_trans _ _ _ h1 h2
    rw [bl_irrefl] at this; cases this
  · refine (List.perm_ext_iff_of_nodup ?_ ?_).2 fun p => ?_
    · exact hM.imp fun h => fun e => ne_of_bl h (by rw [e])
    · exact hN.imp fun h => fun e => ne_of_bl h (by rw [e])
    · obtain ⟨k, c⟩ := p
      rw [← get_iff hM, ← get_iff hN, h]
theorem del_put {M : List En} (h : Srt M) {k : List UInt8} (c : Ct) (hk : getM M k = none) : delM (putM M k c) k = M := by
  refine ext_M (srt_del (srt_put h _ _) _) h fun j => ?_
  rw [get_del (srt_put h _ _), get_put h]
  by_cases e : j = k
  · rw [if_pos e, e, hk]
  · rw [if_neg e, if_neg e]
theorem put_put {M : List En} (h : Srt M) (k : List UInt8) (c d : Ct) : putM (putM M k c) k d = putM M k d := by
  refine ext_M (srt_put (srt_put h _ _) _ _) (srt_put h _ _) fun j => ?_
  rw [get_put (srt_put h _ _), get_put h, get_put h]
  by_cases e : j = k
  · rw [if_pos e, if_pos e]
  · rw [if_neg e, if_neg e, if_neg e]
theorem put_same {M : List En} (h : Srt M) {k : List UInt8} {c : Ct} (hk : getM M k = some c) : putM M k c = M := by
  refine ext_M (srt_put h _ _) h fun j => ?_
  rw [get_put h]
  by_cases e : j = k
  · rw [if_pos e, e, hk]
  · rw [if_neg e]
theorem ins_len (x : En) : ∀ M : List En, (insM x M).length = M.length + 1
  | [] => rfl
  | y :: r => by unfold insM; split <;> simp [ins_len x r]
theorem del_none {M : List En} {k : List UInt8} (hk : getM M k = none) : delM M k = M := by
  unfold delM
  rw [List.filter_eq_self]
  intro p hp
  simpa using get_none.1 hk p hp
theorem put_len_new {M : List En} {k : List UInt8} (c : Ct) (hk : getM M k = none) : (putM M k c).length = M.length + 1 := by
  unfold putM; rw [ins_len, del_none hk]
theorem keys_srt {M : List En} (h : Srt M) : (keysM M).Pairwise (fun a b => bl a b = true) := List.pairwise_map.2 h
theorem mem_keys {M : List En} {k : List UInt8} : k ∈ keysM M ↔ getM M k ≠ none := by
  rw [Ne, get_none]
  unfold keysM
  simp
theorem keys_put_old {M : List En} (h : Srt M) {k : List UInt8} {c0 : Ct} (c : Ct) (hk : getM M k = some c0) : keysM (putM M k c) = keysM M := by
  refine List.Perm.eq_of_pairwise (le := fun a b : List UInt8 => bl a b = true) (fun a b _ _ h1 h2 => ?_) (keys_srt (srt_put h _ _)) (keys_srt h) ?_
  · have := bl_trans _ _ _ h1 h2
    rw [bl_irrefl] at this; cases this
  · refine (List.perm_ext_iff_of_nodup ?_ ?_).2 fun p => ?_
    · exact (keys_srt (srt_put h _ _)).imp fun h => ne_of_bl h
    · exact (keys_srt h).imp fun h => ne_of_bl h
    · rw [mem_keys, mem_keys, get_put h]
      by_cases e : p = k
      · rw [if_pos e, e, hk]; simp
      · rw [if_neg e]
theorem put_len_old {M : List En} (h : Srt M) {k : List UInt8} {c0 : Ct} (c : Ct) (hk : getM M k = some c0) : (putM M k c).length = M.length := by
  have := congrArg List.length (keys_put_old h c hk)
  simpa [keysM] using this
theorem get_at {M : List En} (h : Srt M) {i : Nat} (hi : i < M.length) : getM M M[i].1 = some M[i].2 := (get_iff h _ _).2 (List.getElem_mem hi)

/-! As data. -/
def cD (c : Ct) : DataW Unit := .agg [.lit (.int .i64 c.v), .lit (.int .i64 c.u), .lit (.int .i64 c.d), .lit (.int .i64 c.l), .lit (.int .i64 c.h)]
def ent (p : En) : Lit × DataW Unit := (.string p.1, cD p.2)
def DM (M : List En) : DataW Unit := .map (M.map ent)
abbrev vC (c : Ct) : Value := cA c.v c.u c.d c.l c.h
theorem vC_inj {c c' : Ct} (h : vC c = vC c') : c = c' := by
  obtain ⟨a1, a2, a3, a4, a5⟩ := c
  obtain ⟨b1, b2, b3, b4, b5⟩ := c'
  simp only [vC, cA, Value.agg.injEq, Array.mk.injEq, List.cons.injEq, Value.int.injEq, true_and, and_true] at h
  obtain ⟨rfl, rfl, rfl, rfl, rfl⟩ := h
  rfl
theorem cD_inj {c c' : Ct} (h : cD c = cD c') : c = c' := by
  obtain ⟨a1, a2, a3, a4, a5⟩ := c
  obtain ⟨b1, b2, b3, b4, b5⟩ := c'
  simp only [cD, DataW.agg.injEq, List.cons.injEq, DataW.lit.injEq, Lit.int.injEq, true_and, and_true] at h
  obtain ⟨rfl, rfl, rfl, rfl, rfl⟩ := h
  rfl
open Classical in
noncomputable def rdC (x : Value) : Option (DataW Unit × List MemPlace) := if h : ∃ c : Ct, x = vC c then some (cD h.choose, []) else none
theorem rdC_mk (c : Ct) : rdC (vC c) = some (cD c, []) := by
  have h : ∃ c' : Ct, vC c = vC c' := ⟨c, rfl⟩
  unfold rdC
  rw [dif_pos h]
  have := vC_inj h.choose_spec
  rw [← this]
theorem rdC_inv {x : Value} {c : Ct} {ps : List MemPlace} (h : rdC x = some (cD c, ps)) : x = vC c := by
  unfold rdC at h
  split at h
  · rename_i hx
    injection h with h
    injection h with h1 h2
    rw [← cD_inj h1]
    exact hx.choose_spec
  · cases h
theorem bb_eq : ∀ x y : List UInt8, bytesBefore x y = bl x y
  | [], [] => rfl
  | [], _ :: _ => rfl
  | _ :: _, [] => rfl
  | a :: r, b :: s => by
    show (decide (a < b) || (a == b && bytesBefore r s)) = bl (a :: r) (b :: s)
    rw [bb_eq r s]
    rfl
theorem ins_DM (x : En) : ∀ M : List En, DataW.insert (ent x) (M.map ent) = (insM x M).map ent
  | [] => rfl
  | y :: r => by
    show (if (ent x).1.before (ent y).1 then ent x :: ent y :: r.map ent else ent y :: DataW.insert (ent x) (r.map ent)) = (insM x (y :: r)).map ent
    have e : (ent x).1.before (ent y).1 = bl x.1 y.1 := bb_eq _ _
    rw [e, ins_DM x r]
    show _ = (if bl x.1 y.1 then x :: y :: r else y :: insM x r).map ent
    split <;> rfl
theorem same_str (a b : List UInt8) : (Lit.string a).sameKey (.string b) = (a == b) := rfl
theorem del_DM (M : List En) (k : List UInt8) : (DM M).del (.string k) = DM (delM M k) := by
  show DataW.map ((M.map ent).filter fun p => !p.1.sameKey (.string k)) = DataW.map ((delM M k).map ent)
  congr 1
  unfold delM
  rw [List.filter_map]
  rfl
theorem put_DM (M : List En) (k : List UInt8) (c : Ct) : (DM M).put (.string k) (cD c) = DM (putM M k c) := by
  have h := del_DM M k
  unfold DataW.del DM at h
  simp only at h
  unfold DataW.put DM
  simp only
  injection h with h
  rw [h]
  exact congrArg _ (ins_DM (k, c) (delM M k))
theorem find_DM (M : List En) (k : List UInt8) : (M.map ent).find? (fun p => p.1.sameKey (.string k)) = (M.find? (fun p => p.1 == k)).map ent := by
  rw [List.find?_map]
  rfl
theorem at_DM (M : List En) (k : List UInt8) (z : DataW Unit) : (DM M).atKey (.string k) z = match getM M k with | some c => cD c | none => z := by
  unfold DataW.atKey DM getM
  simp only [find_DM]
  cases M.find? (fun p => p.1 == k) <;> rfl
theorem has_DM (M : List En) (k : List UInt8) : Maps.has (DM M) (.string k) = (getM M k).isSome := by
  show (M.map ent).any (fun p => p.1.sameKey (.string k)) = _
  unfold getM
  rw [Option.isSome_map, List.any_map, List.isSome_find?]
  rfl
theorem size_DM (M : List En) : Maps.size (DM M) = M.length := by
  show (M.map ent).length = _
  rw [List.length_map]
theorem keys_DM (M : List En) : strKeys (DM M) = keysM M := by
  show (M.map ent).map (fun p => strOf p.1) = _
  rw [List.map_map]
  rfl

/-! The map in the world, and the store's box. -/
abbrev TM : TypeId := 32
abbrev TS : TypeId := 9
abbrev TC : TypeId := 23
abbrev TB : TypeId := 34
theorem keyS : Keyed Try.prog TS := string_keyed Try.underlying9
theorem key_of {k : List UInt8} (h : k.length ≤ maxLen) : keyOf Try.prog TS (.string (tx k)) = some (.string k) := by
  have h1 := Go.WideMaps.keyOf_string_mk (P := Try.prog) (k := TS) Try.underlying9 (s := tx k) (by rw [Rng.tx_size]; exact h)
  rw [h1, Rng.tx_list]
theorem zero_c (w : World) : (zeroValue TC).run Try.prog w = .ok (cA 0 0 0 0 0) w := by kernel_rfl
theorem own_tight {w : World} {P : Program} {t : TypeId} {R : Value → Option (DataW Unit × List MemPlace)} {b n : Nat} {M : List En} (h : w.ownsMap P t R b n (DM M)) : w.ownsMap P t R b M.length (DM M) := by
  obtain ⟨es, clock, hb, F, hs, hD⟩ := h
  refine ⟨es, clock, hb, F, ?_, hD⟩
  have h1 := length_read (P := P) (k := t) (R0 := R) es
  unfold DM at hD
  injection hD with hD
  have h2 := congrArg List.length hD
  rw [h1, List.length_map] at h2
  omega
theorem srt_of {w : World} {R : Value → Option (DataW Unit × List MemPlace)} {b n : Nat} {M : List En} (h : w.ownsMap Try.prog TS R b n (DM M)) : Srt M := by
  obtain ⟨es, he, hp, _⟩ := h.canon keyS
  unfold DM at he
  injection he with he
  subst he
  refine (List.pairwise_map.1 hp).imp fun {p q} h => ?_
  rw [← bb_eq]
  exact h

/-- A store: its box sb, its map b, its counters M. -/
structure Sx (w : World) (sb b : Nat) (M : List En) : Prop where
  box : w.heap[sb]? = some (.cells #[.map (some b)] TB (0, 0))
  own : w.ownsMap Try.prog TS rdC b M.length (DM M)
  len : M.length ≤ 64
  ok : ∀ p ∈ M, nameOk p.1 = true ∧ OkC p.2
theorem Sx.srt {w : World} {sb b : Nat} {M : List En} (x : Sx w sb b M) : Srt M := srt_of x.own
theorem Sx.cell {w : World} {sb b : Nat} {M : List En} (x : Sx w sb b M) : w.cell? ⟨sb, 0, none⟩ = some (.map (some b)) := by
  simp [World.cell?, x.box]
theorem Sx.lt {w : World} {sb b : Nat} {M : List En} (x : Sx w sb b M) : sb < w.heap.size ∧ b < w.heap.size := ⟨(Array.getElem?_eq_some_iff.1 x.box).1, x.own.lt⟩
theorem Sx.ne {w : World} {sb b : Nat} {M : List En} (x : Sx w sb b M) : sb ≠ b := by
  rintro rfl
  obtain ⟨es, clock, hb, _⟩ := x.own
  rw [x.box] at hb
  cases hb
theorem Sx.kept {w w' : World} {row : Option Nat} {sb b : Nat} {M : List En} (x : Sx w sb b M) (hg : w.grownBy w' row) (h1 : some b ≠ row) (h2 : some sb ≠ row) : Sx w' sb b M :=
  ⟨(hg.block sb x.lt.1 h2).trans x.box, x.own.kept hg h1, x.len, x.ok⟩
theorem grown_b {w w' : World} (h : Below w.heap.size w w') : w.grownBy w' none := ⟨h.os, h.tape, h.output, h.size, fun k hk _ => h.block k hk⟩
theorem Sx.later {w w' : World} {sb b : Nat} {M : List En} (x : Sx w sb b M) (h : Below w.heap.size w w') : Sx w' sb b M := x.kept (grown_b h) (by simp) (by simp)
theorem Sx.alloc {w : World} {sb b : Nat} {M : List En} (x : Sx w sb b M) (o : Obj) : Sx (w.alloc o) sb b M := x.later (Cnt.alloc_b w o)
theorem Sx.drew {w : World} {sb b : Nat} {M : List En} (x : Sx w sb b M) : Sx w.drew sb b M := x.later (Below.refl _ _).drew
theorem Sx.get_ok {w : World} {sb b : Nat} {M : List En} (x : Sx w sb b M) {k : List UInt8} {c : Ct} (h : getM M k = some c) : nameOk k = true ∧ OkC c := x.ok _ ((get_iff x.srt k c).1 h)
/-- Two stores that lie apart: what is done to the one leaves the other. -/
theorem Sx.other {w w' : World} {sb b sb' b' : Nat} {M M' : List En} (x : Sx w sb b M) (y : Sx w sb' b' M') (hb : b ≠ b') (hg : w.grownBy w' (some b')) : Sx w' sb b M :=
  x.kept hg (by simpa using hb) (by
    rintro h
    injection h with h
    subst h
    obtain ⟨es, clock, hh, _⟩ := y.own
    rw [x.box] at hh
    cases hh)
/-- The map is turned into the counters N. -/
theorem Sx.turned {w w' : World} {sb b n : Nat} {M N : List En} (x : Sx w sb b M) (hg : w.grownBy w' (some b)) (ho : w'.ownsMap Try.prog TS rdC b n (DM N)) (hl : N.length ≤ 64) (hok : ∀ p ∈ N, nameOk p.1 = true ∧ OkC p.2) : Sx w' sb b N :=
  ⟨(hg.block sb x.lt.1 (by have := x.ne; simpa using this)).trans x.box, own_tight ho, hl, hok⟩
theorem name_len {k : List UInt8} (h : nameOk k = true) : k.length ≤ maxLen := by
  have := (Rng.nameOk_len h).2
  unfold maxLen
  omega
end Go.Proofs.Ytiahjacjpakkdaa.Sto
