/- Contracts of slices.Grow, Concat and Reverse at []int64. -/
import Derived.Test.YtkphkjcpbnnpfaaC13
import Derived.Test.YtkphkjcpbnnpfaaC10
import Derived.Shelf.Spec.SlicesGrow
import Derived.Shelf.SlicesE.Reverse
import Derived.Sort.OwnSortedInts
import Derived.Maps.AppendAt
namespace Go.Proofs.Ytkphkjcpbnnpfaa.Num
open Go.RowKit Go.ChangeShapes
set_option linter.unusedVariables false

def grow_ren : Go.Shelf.Ren := ⟨fun | 4 => 48 | n => n, fun | 0 => 0 | 3 => 3 | 4 => 4 | 9 => 9 | 20 => 20 | 22 => 28 | 25 => 2 | n => n, fun | n => n⟩
theorem grow_lays : Go.Proofs.Lays8.n4 Try.prog grow_ren := {
  mixed := by kernel_rfl
  f4 := ⟨Try.f48.name, by kernel_rfl, Try.func48.trans (congrArg some (by kernel_rfl))⟩
  t0 := Try.underlying0
  a0 := Try.isAgg0
  z0 := Try.sizeOf0
  v0 := Try.zeroValue0
  t3 := Try.underlying3
  a3 := Try.isAgg3
  z3 := Try.sizeOf3
  v3 := Try.zeroValue3
  t4 := Try.underlying4
  a4 := Try.isAgg4
  z4 := Try.sizeOf4
  v4 := Try.zeroValue4
  t9 := Try.underlying9
  a9 := Try.isAgg9
  z9 := Try.sizeOf9
  v9 := Try.zeroValue9
  t20 := Try.underlying20
  a20 := Try.isAgg20
  z20 := Try.sizeOf20
  v20 := Try.zeroValue20
  t22 := Try.underlying28
  a22 := Try.isAgg28
  z22 := Try.sizeOf28
  v22 := Try.zeroValue28 }
/-- The call gives back a slice of its own without elements. -/
def Grew (w : World) (e : Ending) (w' : World) : Prop := ∃ v, e = .returned v ∧ w'.ownsRow w.heap.size 2 1 v 0 (ints []) ∧ Below w.heap.size w w'
theorem grow_nil (n : Nat) (hn : n ≤ 100000) (w : World) : Calls Try.prog 48 #[.slice none 0 0, .int .i64 n] w (Grew w) := by
  obtain ⟨i0, hi, hz0, hz1, hz2⟩ := info_parts info_i64
  rcases Nat.eq_zero_or_pos n with h0 | h0
  · subst h0
    refine (Any8.slices_Grow_room grow_lays none 0 0 0 w (by omega) (by omega) (by omega) (by omega)).mono fun e w' ⟨h1, h2⟩ => ⟨_, h1, ?_, ?_⟩
    · subst h2; exact ⟨rfl, .inl ⟨rfl, rfl⟩⟩
    · subst h2; exact Below.refl _ _
  · refine (Any8.slices_Grow_grow grow_lays i0 (.int .i64 0) hi hz0 (by rw [hz1]; decide) none 0 0 n [] w (by omega) (by omega) (by rw [hz2]; omega) (by omega) (by simp) (fun _ => rfl) (fun a h => by cases h)).mono fun e w' ⟨h1, h2⟩ => ⟨_, h1, ?_, ?_⟩
    · subst h2
      have hge := grownCap_ge w (0 + n) 0 2
      have hle := grownCap_le_maxLen w (0 + n) 0 2 (by unfold maxLen; omega)
      refine ⟨rfl, .inr ⟨w.heap.size, _, _, rfl, Nat.le_refl _, heap_alloc_new w.drew _, Nat.zero_le _, hle, ?_, rfl⟩⟩
      simp only [Array.size_append, size_zeroCells]
      show 0 + (0 + n - 0) * 1 + (grownCap w (0 + n) 0 2 - (0 + n)) * 1 = grownCap w (0 + n) 0 2 * 1
      omega
    · subst h2
      exact (Below.refl _ _).drew.alloc (Nat.le_refl _) _

theorem il_append {ops : Array Oper} {rest : List Oper} {o : Oper} {a : Act} {w : World} {Q : Exit → Act → World → Prop} (hgd : o.guard = none) (s x : Operand)
    (ho : o.op = .call { callee := .builtin .append, args := #[s, x], argTypes := #[28, 28] })
    (base : Nat) (v : Value) (n : Nat) (xs : List Int) (hs : a.eval s = v) (hown : w.ownsRow base 2 1 v n (ints xs))
    (A : Option Addr) (m c : Nat) (l : List Int) (hx : a.eval x = .slice A m c) (hb : IsList w (.slice A m c) l) (h63 : n + m ≤ 1000000000) (hbase : base ≤ w.heap.size)
    (h : ∀ v' w', w'.ownsRow base 2 1 v' (n + m) (ints (xs ++ l)) → w.grownBy w' v.ownBlock → (v'.ownBlock = v.ownBlock ∨ v'.ownBlock = some w.heap.size) → wpList Try.prog ops Q rest (a.put o.dst v') w') :
    wpList Try.prog ops Q (o :: rest) a w := by
  obtain ⟨i0, hi, hz0, hz1, hz2⟩ := info_parts info_i64
  obtain ⟨A', c', hv, hc⟩ := hb
  injection hv with e1 e2 e3
  subst e1 e2 e3
  have happ : ints xs ++ ints l = ints (xs ++ l) := by simp [ints]
  cases A with
  | none =>
    have h0 : l.length = 0 := by
      rcases Nat.eq_zero_or_pos l.length with h1 | h1
      · exact h1
      · obtain ⟨b, off, e, _⟩ := hc h1
        cases e
    have hl := List.eq_nil_of_length_eq_zero h0
    subst hl
    refine wpList_plain hgd fun K hK => ?_
    have hrun : (Builtin.append_ #[28, 28] o.type #[v, .slice none 0 c]).run Try.prog w = .ok v w := by
      rcases hown.2 with ⟨rfl, rfl⟩ | ⟨g, cap, cur, rfl, _, _, hnc, _⟩
      · simp [Builtin.append_, run_underlying Try.underlying28, sizeOf, typeInfo, hi, Builtin.lenOf, Builtin.firstCells]
      · simp [Builtin.append_, run_underlying Try.underlying28, sizeOf, typeInfo, hi, Builtin.lenOf, Builtin.firstCells, hnc, storeCells]
    have hx' : a.eval x = .slice none 0 c := hx
    unfold Oper.wp
    simp [execOp, ho, resolve, invoke, builtin, hs, hx', hrun, Result.andThen]
    refine hK _ _ (h v w ?_ (World.grownBy.refl w _) (.inl rfl))
    simpa [ints] using hown
  | some ad =>
    refine wpList_append_own_at w hgd s x _ ho base 2 i0 (.int .i64 0) 1 8 Try.underlying28 hi hz0 hz1 hz2 rfl (by decide) v n _ hs hown ad l.length c (ints l) hx (by rw [ints_len]; omega) (fun j u hu => ?_) (ints_one l) (by unfold maxLen; omega) (by omega) hbase (fun v' w' h1 h2 _ h4 => h v' w' (by rw [← happ]; exact h1) h2 h4)
    obtain ⟨hj, rfl⟩ := ints_get l j u hu
    obtain ⟨b, off, e, hcell⟩ := hc (by omega)
    cases e
    rw [addr_add, hcell j hj]
theorem own_ge {w : World} {base n : Nat} {e : TypeId} {v : Value} {xs : List Value} (h : w.ownsRow base e 1 v n xs) : ∀ k, v.ownBlock = some k → base ≤ k := by
  intro k hk
  rcases h.2 with ⟨rfl, h0⟩ | ⟨g, cap, cur, rfl, hb, _⟩
  · cases hk
  · have : g = k := by simpa [Value.ownBlock] using hk
    omega

def rev_ren : Go.Shelf.Ren := ⟨fun | 35 => 37 | n => n, fun | 0 => 0 | 3 => 3 | 4 => 4 | 22 => 28 | 23 => 2 | n => n, fun | n => n⟩
theorem rev_lays : Go.Proofs.SlLaysE.n35 Try.prog rev_ren := {
  mixed := by kernel_rfl
  f35 := ⟨Try.f37.name, by kernel_rfl, Try.func37.trans (congrArg some (by kernel_rfl))⟩
  t0 := Try.underlying0
  a0 := Try.isAgg0
  z0 := Try.sizeOf0
  v0 := Try.zeroValue0
  t3 := Try.underlying3
  a3 := Try.isAgg3
  z3 := Try.sizeOf3
  v3 := Try.zeroValue3
  t4 := Try.underlying4
  a4 := Try.isAgg4
  z4 := Try.sizeOf4
  v4 := Try.zeroValue4
  t22 := Try.underlying28
  a22 := Try.isAgg28
  z22 := Try.sizeOf28
  v22 := Try.zeroValue28
  a23 := Try.isAgg2
  z23 := Try.sizeOf2 }
/-- The slice v that is the call's own holds the list turned round. -/
def Turned (w : World) (base : Nat) (v : Value) (l : List Int) (e : Ending) (w' : World) : Prop := e = .returned (.tuple #[]) ∧ w'.ownsRow base 2 1 v l.length (ints l.reverse) ∧ w.grownBy w' v.ownBlock
theorem rev_any (base : Nat) (v : Value) (l : List Int) (w : World) (hown : w.ownsRow base 2 1 v l.length (ints l)) (hl : l.length ≤ 100000) :
    Calls Try.prog 37 #[v] w (Turned w base v l) := by
  rcases Nat.eq_zero_or_pos l.length with h0 | h0
  · have hnil := List.eq_nil_of_length_eq_zero h0
    subst hnil
    obtain ⟨a, cap, hv⟩ : ∃ a cap, v = .slice a 0 cap := by
      rcases hown.2 with ⟨h, _⟩ | ⟨g, cap, cur, h, _⟩
      · exact ⟨none, 0, h⟩
      · exact ⟨_, cap, h⟩
    subst hv
    refine (AnyE.slices_Reverse_empty rev_lays a cap w).mono fun e w' ⟨h1, h2⟩ => ?_
    subst h2
    exact ⟨h1, hown, World.grownBy.refl _ _⟩
  · rcases hown.2 with ⟨_, hz⟩ | ⟨g, cap, cur, hv, hb, hh, hle, hm, hsz, hx⟩
    · omega
    · subst hv
      have hH := holds_of_blockI (ss := l) hh (by rw [Nat.mul_one] at hx; exact hx)
      refine (AnyE.slices_Reverse rev_lays (Value.int .i64) ?_ g 0 cap l w hH (by omega)).mono fun e w' ⟨h1, k, h2⟩ => ?_
      · exact fun x => rfl
      · subst h2
        have e : ∀ W : World, Go.Sort.grow W #[] = W := fun W => by simp [Go.Sort.grow]
        have ho := ownsRow_sortedI (w := w) (base := base) (n := k) (os := #[]) (cap := cap) (ss := l) (ts := l.reverse) (by simp) hb hh hle hm hsz
        have hg := grownBy_sortedI (w := w) (g := g) (n := k) (os := #[]) l.reverse.toArray
        rw [e] at ho hg
        exact ⟨h1, ho, hg⟩
end Go.Proofs.Ytkphkjcpbnnpfaa.Num
