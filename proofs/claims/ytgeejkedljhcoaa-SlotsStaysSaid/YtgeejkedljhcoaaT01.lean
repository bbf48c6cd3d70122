/- The values of a log by their slots as a plain list in order, and the map that holds it. -/
import Derived.Test.YtgeejkedljhcoaaRows
import Derived.Test.YtgeejkedljhcoaaChecked
import Derived.WalkKit
import Derived.Lib.Hide
import Derived.Carry
import Derived.Maps.Ext
import Derived.Maps.OwnSet
import Derived.Maps.RangeWalk
import Derived.Lib.SlKeysI
namespace Go.Proofs.Ytgeejkedljhcoaa.Slt
open Go.RowKit Go.Maps Go.Lib
set_option linter.unusedVariables false
set_option linter.unusedSimpArgs false
set_option maxRecDepth 20000

/-! Plain lists. -/
structure Et where
  s : Int
  k : ByteArray
abbrev zK : ByteArray := ⟨#[]⟩
abbrev Srt (M : List Et) : Prop := M.Pairwise (fun p q => p.s < q.s)
def getM (M : List Et) (k : Int) : Option Et := M.find? (fun p => p.s == k)
def delM (M : List Et) (k : Int) : List Et := M.filter (fun p => !(p.s == k))
def insM (x : Et) : List Et → List Et
  | [] => [x]
  | y :: r => if decide (x.s < y.s) then x :: y :: r else y :: insM x r
def putM (M : List Et) (e : Et) : List Et := insM e (delM M e.s)
def keysM (M : List Et) : List Int := M.map (·.s)
def frM (M : List Et) (k : Int) : List Et := M.filter (fun p => decide (k ≤ p.s))

theorem mem_ins (x p : Et) : ∀ M : List Et, p ∈ insM x M ↔ p = x ∨ p ∈ M
  | [] => by simp [insM]
  | y :: r => by
    unfold insM
    split
    · simp
    · simp only [List.mem_cons, mem_ins x p r]
      constructor
      · rintro (h | h | h) <;> simp [h]
      · rintro (h | h | h) <;> simp [h]
theorem srt_ins (x : Et) : ∀ M : List Et, Srt M → (∀ p ∈ M, p.s ≠ x.s) → Srt (insM x M)
  | [], _, _ => by simp [insM]
  | y :: r, h, hn => by
    unfold insM
    obtain ⟨h1, h2⟩ := List.pairwise_cons.1 h
    split
    · rename_i hb
      have hb := of_decide_eq_true hb
      refine List.pairwise_cons.2 ⟨fun p hp => ?_, h⟩
      rcases List.mem_cons.1 hp with rfl | hp
      · exact hb
      · have := h1 p hp; omega
    · rename_i hb
      have hb : ¬ x.s < y.s := fun h => hb (decide_eq_true h)
      refine List.pairwise_cons.2 ⟨fun p hp => ?_, srt_ins x r h2 (fun p hp => hn p (List.mem_cons_of_mem _ hp))⟩
      rcases (mem_ins x p r).1 hp with rfl | hp
      · have := hn y (List.mem_cons_self ..); omega
      · exact h1 p hp
theorem mem_del {M : List Et} {k : Int} {p : Et} : p ∈ delM M k ↔ p ∈ M ∧ p.s ≠ k := by simp [delM]
theorem mem_fr {M : List Et} {k : Int} {p : Et} : p ∈ frM M k ↔ p ∈ M ∧ k ≤ p.s := by simp [frM]
theorem srt_del {M : List Et} (h : Srt M) (k : Int) : Srt (delM M k) := h.sublist List.filter_sublist
theorem srt_fr {M : List Et} (h : Srt M) (k : Int) : Srt (frM M k) := h.sublist List.filter_sublist
theorem srt_put {M : List Et} (h : Srt M) (e : Et) : Srt (putM M e) := srt_ins _ _ (srt_del h e.s) fun p hp => (mem_del.1 hp).2
theorem mem_put {M : List Et} {e p : Et} : p ∈ putM M e ↔ p = e ∨ (p ∈ M ∧ p.s ≠ e.s) := by unfold putM; rw [mem_ins, mem_del]
theorem get_iff {M : List Et} (h : Srt M) (k : Int) (e : Et) : getM M k = some e ↔ e ∈ M ∧ e.s = k := by
  induction M with
  | nil => simp [getM]
  | cons y r ih =>
    obtain ⟨h1, h2⟩ := List.pairwise_cons.1 h
    unfold getM at ih ⊢
    rw [List.find?_cons]
    by_cases e0 : y.s = k
    · have : (y.s == k) = true := by simp [e0]
      simp only [this, Option.some.injEq, List.mem_cons]
      constructor
      · rintro rfl; exact ⟨.inl rfl, e0⟩
      · rintro ⟨rfl | e2, e3⟩
        · rfl
        · have := h1 _ e2; omega
    · have : (y.s == k) = false := by simp [e0]
      simp only [this, List.mem_cons]
      rw [ih h2]
      constructor
      · rintro ⟨a, b⟩; exact ⟨.inr a, b⟩
      · rintro ⟨rfl | e2, e3⟩
        · exact absurd e3 e0
        · exact ⟨e2, e3⟩
theorem get_none {M : List Et} {k : Int} : getM M k = none ↔ ∀ p ∈ M, p.s ≠ k := by
  unfold getM
  rw [List.find?_eq_none]
  simp
theorem get_key {M : List Et} {k : Int} {e : Et} (h : getM M k = some e) : e.s = k := by
  have := List.find?_some h
  simpa using this
theorem get_put {M : List Et} (h : Srt M) (e : Et) (j : Int) : getM (putM M e) j = if j = e.s then some e else getM M j := by
  by_cases e0 : j = e.s
  · subst e0
    rw [if_pos rfl, get_iff (srt_put h _)]
    exact ⟨mem_put.2 (.inl rfl), rfl⟩
  · rw [if_neg e0]
    refine Option.ext fun x => ?_
    rw [get_iff (srt_put h _), get_iff h, mem_put]
    constructor
    · rintro ⟨rfl | ⟨a, b⟩, c⟩
      · exact absurd c.symm e0
      · exact ⟨a, c⟩
    · rintro ⟨a, b⟩; exact ⟨.inr ⟨a, by omega⟩, b⟩
theorem get_fr {M : List Et} (h : Srt M) (k j : Int) : getM (frM M k) j = if k ≤ j then getM M j else none := by
  by_cases e0 : k ≤ j
  · rw [if_pos e0]
    refine Option.ext fun x => ?_
    rw [get_iff (srt_fr h _), get_iff h, mem_fr]
    constructor
    · rintro ⟨⟨a, b⟩, c⟩; exact ⟨a, c⟩
    · rintro ⟨a, b⟩; exact ⟨⟨a, by omega⟩, b⟩
  · rw [if_neg e0, get_none]
    intro p hp
    have := (mem_fr.1 hp).2
    omega
theorem ext_M {M N : List Et} (hM : Srt M) (hN : Srt N) (h : ∀ k, getM M k = getM N k) : M = N := by
  refine List.Perm.eq_of_pairwise (le := fun p q : Et => p.s < q.s) (fun a b _ _ h1 h2 => by omega) hM hN ?_
  refine (List.perm_ext_iff_of_nodup ?_ ?_).2 fun p => ?_
  · exact hM.imp fun h => fun e => by rw [e] at h; omega
  · exact hN.imp fun h => fun e => by rw [e] at h; omega
  · have a1 := get_iff hM p.s p
    have a2 := get_iff hN p.s p
    rw [h] at a1
    constructor
    · intro hp; exact (a2.1 (a1.2 ⟨hp, rfl⟩)).1
    · intro hp; exact (a1.1 (a2.2 ⟨hp, rfl⟩)).1
theorem fr_all {M : List Et} {k : Int} (h : ∀ p ∈ M, k ≤ p.s) : frM M k = M := by
  unfold frM
  rw [List.filter_eq_self]
  intro p hp
  exact decide_eq_true (h p hp)
theorem fr_fr (M : List Et) (j k : Int) : frM (frM M j) k = frM M (max j k) := by
  unfold frM
  rw [List.filter_filter]
  congr 1
  funext p
  rw [← Bool.decide_and]
  congr 1
  exact propext ⟨fun h => by omega, fun h => by omega⟩
/-- A list of different slots of a log is not long. -/
theorem srt_len : ∀ (M : List Et) (a b : Int), Srt M → (∀ p ∈ M, a ≤ p.s ∧ p.s < b) → a ≤ b → (M.length : Int) ≤ b - a
  | [], a, b, _, _, h => by simp; omega
  | x :: r, a, b, h, hb, hab => by
    obtain ⟨h1, h2⟩ := List.pairwise_cons.1 h
    have hx := hb x (List.mem_cons_self ..)
    have := srt_len r (x.s + 1) b h2 (fun p hp => ⟨by have := h1 p hp; omega, (hb p (List.mem_cons_of_mem _ hp)).2⟩) (by omega)
    simp only [List.length_cons]
    omega

/-! As data. -/
def kD (e : ByteArray) : DataW Unit := .lit (.string e.data.toList)
def ent (e : Et) : Lit × DataW Unit := (.int .i64 e.s, kD e.k)
def DM (M : List Et) : DataW Unit := .map (M.map ent)
abbrev vK (e : ByteArray) : Value := .string e
theorem vK_inj {c c' : ByteArray} (h : vK c = vK c') : c = c' := by
  injection h
theorem kD_inj {c c' : ByteArray} (h : kD c = kD c') : c = c' := by
  obtain ⟨⟨a2⟩⟩ := c
  obtain ⟨⟨b2⟩⟩ := c'
  simp only [kD, DataW.lit.injEq, Lit.string.injEq] at h
  rw [h]
open Classical in
noncomputable def rdK (x : Value) : Option (DataW Unit × List MemPlace) := if h : ∃ c : ByteArray, x = vK c then some (kD h.choose, []) else none
theorem rdK_mk (c : ByteArray) : rdK (vK c) = some (kD c, []) := by
  have h : ∃ c' : ByteArray, vK c = vK c' := ⟨c, rfl⟩
  unfold rdK
  rw [dif_pos h]
  have := vK_inj h.choose_spec
  rw [← this]
theorem rdK_inv {x : Value} {c : ByteArray} {ps : List MemPlace} (h : rdK x = some (kD c, ps)) : x = vK c := by
  unfold rdK at h
  split at h
  · rename_i hx
    injection h with h
    injection h with h1 h2
    rw [← kD_inj h1]
    exact hx.choose_spec
  · cases h
theorem rdK_form {x : Value} {d : DataW Unit} {ps : List MemPlace} (h : rdK x = some (d, ps)) : ∃ c, x = vK c ∧ d = kD c := by
  unfold rdK at h
  split at h
  · rename_i hx
    injection h with h
    injection h with h1 h2
    exact ⟨_, hx.choose_spec, h1.symm⟩
  · cases h
theorem ins_DM (x : Et) : ∀ M : List Et, DataW.insert (ent x) (M.map ent) = (insM x M).map ent
  | [] => rfl
  | y :: r => by
    show (if (ent x).1.before (ent y).1 then ent x :: ent y :: r.map ent else ent y :: DataW.insert (ent x) (r.map ent)) = (insM x (y :: r)).map ent
    have e : (ent x).1.before (ent y).1 = decide (x.s < y.s) := rfl
    rw [e, ins_DM x r]
    show _ = (if decide (x.s < y.s) then x :: y :: r else y :: insM x r).map ent
    split <;> rfl
theorem same_int (a b : Int) : (Lit.int .i64 a).sameKey (.int .i64 b) = (a == b) := by simp [Lit.sameKey]; rfl
theorem del_DM (M : List Et) (k : Int) : (DM M).del (.int .i64 k) = DM (delM M k) := by
  show DataW.map ((M.map ent).filter fun p => !p.1.sameKey (.int .i64 k)) = DataW.map ((delM M k).map ent)
  congr 1
  unfold delM
  rw [List.filter_map]
  congr 1
  refine congrArg (fun f => List.filter f M) (funext fun p => ?_)
  show (!(Lit.int .i64 p.s).sameKey (.int .i64 k)) = _
  rw [same_int]
theorem put_DM (M : List Et) (e : Et) : (DM M).put (.int .i64 e.s) (kD e.k) = DM (putM M e) := by
  have h := del_DM M e.s
  unfold DataW.del DM at h
  simp only at h
  unfold DataW.put DM
  simp only
  injection h with h
  rw [h]
  exact congrArg _ (ins_DM e (delM M e.s))
theorem find_DM (M : List Et) (k : Int) : (M.map ent).find? (fun p => p.1.sameKey (.int .i64 k)) = (M.find? (fun p => p.s == k)).map ent := by
  rw [List.find?_map]
  congr 1
  refine congrArg (fun f => List.find? f M) (funext fun p => ?_)
  exact same_int _ _
theorem at_DM (M : List Et) (k : Int) (z : DataW Unit) : (DM M).atKey (.int .i64 k) z = match getM M k with | some c => kD c.k | none => z := by
  unfold DataW.atKey DM getM
  simp only [find_DM]
  cases M.find? (fun p => p.s == k) <;> rfl
theorem has_DM (M : List Et) (k : Int) : Maps.has (DM M) (.int .i64 k) = (getM M k).isSome := by
  show (M.map ent).any (fun p => p.1.sameKey (.int .i64 k)) = _
  unfold getM
  rw [List.any_map, List.isSome_find?]
  refine congrArg (fun f => List.any M f) (funext fun p => ?_)
  exact same_int _ _
theorem size_DM (M : List Et) : Maps.size (DM M) = M.length := by
  show (M.map ent).length = _
  rw [List.length_map]
theorem keys_DM (M : List Et) : intKeys (DM M) = keysM M := by
  show (M.map ent).map (fun p => intOf p.1) = _
  rw [List.map_map]
  rfl
theorem keys_srt {M : List Et} (h : Srt M) : (keysM M).Pairwise (fun a b => a < b) := List.pairwise_map.2 h
theorem keys_sorted {M : List Et} (h : Srt M) {p : Int → Bool} {ss : List Int} (hp : ss.Perm (intKeys (DM M))) : (ss.filter p).mergeSort leI = keysM (M.filter fun e => p e.s) := by
  rw [keys_DM] at hp
  have e0 : keysM (M.filter fun e => p e.s) = (keysM M).filter p := by
    unfold keysM
    rw [List.filter_map]
    rfl
  rw [e0]
  have e1 : (ss.filter p).mergeSort leI = ((keysM M).filter p).mergeSort leI := mergeSort_of_perm_i (hp.filter p)
  rw [e1]
  refine List.mergeSort_of_pairwise (((keys_srt h).filter p).imp fun {a b} hab => ?_)
  exact decide_eq_true (by omega)
abbrev gK (r : Option Et) : ByteArray := match r with | some e => e.k | none => zK
theorem fr_len (M : List Et) (k : Int) : (frM M k).length ≤ M.length := List.length_filter_le _ _
/-- What a list has of a slot decides which keys a filter leaves. -/
theorem keys_filter_put {M : List Et} (h : Srt M) (e : Et) (p : Et → Bool) (j : Int) : j ∈ keysM ((putM M e).filter p) ↔ (j = e.s ∧ p e = true) ∨ (j ≠ e.s ∧ j ∈ keysM (M.filter p)) := by
  unfold keysM
  simp only [List.mem_map, List.mem_filter, mem_put]
  constructor
  · rintro ⟨a, ⟨rfl | ⟨h1, h2⟩, hp⟩, rfl⟩
    · exact .inl ⟨rfl, hp⟩
    · exact .inr ⟨h2, a, ⟨h1, hp⟩, rfl⟩
  · rintro (⟨rfl, hp⟩ | ⟨hn, a, ⟨h1, hp⟩, rfl⟩)
    · exact ⟨e, ⟨.inl rfl, hp⟩, rfl⟩
    · exact ⟨a, ⟨.inr ⟨h1, hn⟩, hp⟩, rfl⟩
end Go.Proofs.Ytgeejkedljhcoaa.Slt
