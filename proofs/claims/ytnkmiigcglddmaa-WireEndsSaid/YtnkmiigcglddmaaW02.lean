/- Bytes in memory, footprints, writers and readers: what is known of them in a world. -/
import Derived.Test.YtnkmiigcglddmaaProg
import Derived.Test.YtnkmiigcglddmaaW01
import Derived.WalkKit
import Derived.Lib.Hide
import Derived.Below
import Derived.ChangeOld
import Derived.BigQuiet
import Derived.Deep.QuietTactic
import Derived.Maps.AppendAt
import Derived.Laws.OwnMore
import Derived.OwnWalk
import Derived.Lib.AppendStr
import Derived.OpenShut
namespace Go.Proofs.Ytnkmiigcglddmaa.Wire
open Go.RowKit Go.ChangeShapes
set_option linter.unusedVariables false

def bv (l : List Nat) : List Value := l.map fun c : Nat => Value.int .u8 (c : Nat)
theorem bv_len (l : List Nat) : (bv l).length = l.length := by simp [bv]
theorem bv_app (l m : List Nat) : bv l ++ bv m = bv (l ++ m) := by simp [bv]
theorem bv_one (l : List Nat) : ∀ u ∈ bv l, u.oneCell' = true := by intro v hv; obtain ⟨x, _, rfl⟩ := List.mem_map.1 hv; rfl
theorem bv_at (l : List Nat) (i : Nat) (h : i < l.length) : (bv l)[i]? = some (.int .u8 (l.getD i 0 : Nat)) := by
  unfold bv
  rw [List.getElem?_map, List.getElem?_eq_getElem h, List.getD_eq_getElem?_getD, List.getElem?_eq_getElem h]
  rfl
theorem bv_get (l : List Nat) (j : Nat) (v : Value) (h : (bv l)[j]? = some v) : j < l.length ∧ v = .int .u8 (l.getD j 0 : Nat) := by
  have hj : j < (bv l).length := by
    rcases Nat.lt_or_ge j (bv l).length with h1 | h1
    · exact h1
    · rw [List.getElem?_eq_none h1] at h; cases h
  rw [bv_len] at hj
  rw [bv_at l j hj] at h
  exact ⟨hj, (Option.some.inj h).symm⟩
theorem info_u8 : (Try.prog.info? 5).map (fun i => (i.zero, i.size, i.bytes)) = some (some (.int .u8 0), 1, 1) := by kernel_rfl
theorem addr_add (b off i : Nat) : (⟨b, off, none⟩ : Addr).add i = ⟨b, off + i, none⟩ := by unfold Addr.add; split <;> simp_all
theorem byte_lt {l : List Nat} (h : ∀ c ∈ l, c < 256) (i : Nat) : l.getD i 0 < 256 := by
  rw [List.getD_eq_getElem?_getD]
  rcases Nat.lt_or_ge i l.length with h1 | h1
  · rw [List.getElem?_eq_getElem h1]; exact h _ (List.getElem_mem h1)
  · rw [List.getElem?_eq_none h1]; decide

/-! What a step leaves as it was: all that was there but the blocks of F. -/
structure Keeps (F : Nat → Prop) (w w' : World) : Prop where
  os : w'.os = w.os
  tape : w'.tape = w.tape
  output : w'.output = w.output
  size : w.heap.size ≤ w'.heap.size
  block : ∀ k, k < w.heap.size → ¬ F k → w'.heap[k]? = w.heap[k]?
theorem Keeps.refl (F : Nat → Prop) (w : World) : Keeps F w w := ⟨rfl, rfl, rfl, Nat.le_refl _, fun _ _ _ => rfl⟩
theorem Keeps.of_below {F : Nat → Prop} {w w' : World} (h : Below w.heap.size w w') : Keeps F w w' := ⟨h.os, h.tape, h.output, h.size, fun k hk _ => h.block k hk⟩
/-- What lies between: F and all that is new. -/
def More (F : Nat → Prop) (w w' : World) (k : Nat) : Prop := F k ∨ (w.heap.size ≤ k ∧ k < w'.heap.size)
theorem Keeps.trans {F G : Nat → Prop} {a b c : World} (h : Keeps F a b) (k : Keeps G b c) (hG : ∀ i, G i → i < a.heap.size → F i) : Keeps F a c :=
  ⟨k.os.trans h.os, k.tape.trans h.tape, k.output.trans h.output, Nat.le_trans h.size k.size, fun i hi hn =>
    (k.block i (Nat.lt_of_lt_of_le hi h.size) (fun hg => hn (hG i hg hi))).trans (h.block i hi hn)⟩
theorem Keeps.next {F : Nat → Prop} {a b c : World} (h : Keeps F a b) (k : Keeps (More F a b) b c) : Keeps F a c :=
  h.trans k fun i hi hlt => hi.elim id (fun h => absurd hlt (by omega))
theorem Keeps.later {F : Nat → Prop} {a b c : World} (h : Keeps F a b) (k : Below b.heap.size b c) : Keeps F a c :=
  h.trans (Keeps.of_below (F := fun _ => False) k) fun i hi => hi.elim
theorem Keeps.below {F : Nat → Prop} {B : Nat} {w w' : World} (h : Keeps F w w') (hB : B ≤ w.heap.size) (hF : ∀ k, F k → B ≤ k) : Below B w w' :=
  ⟨h.os, h.tape, h.output, h.size, fun k hk => h.block k (by omega) (fun hf => by have := hF k hf; omega)⟩
theorem Keeps.wide {F G : Nat → Prop} {w w' : World} (h : Keeps F w w') (hF : ∀ k, F k → G k) : Keeps G w w' :=
  ⟨h.os, h.tape, h.output, h.size, fun k hk hn => h.block k hk (fun hf => hn (hF k hf))⟩
theorem Keeps.drew {F : Nat → Prop} {a w : World} (h : Keeps F a w) : Keeps F a w.drew := ⟨h.os, h.tape, h.output, h.size, h.block⟩
theorem Keeps.alloc {F : Nat → Prop} {a w : World} (h : Keeps F a w) (o : Obj) : Keeps F a (w.alloc o) :=
  h.later ((Below.refl _ _).alloc (Nat.le_refl _) _)
theorem Keeps.setCell {F : Nat → Prop} {a w : World} (h : Keeps F a w) {p : Addr} (hp : F p.block ∨ a.heap.size ≤ p.block) (u : Value) : Keeps F a (w.setCell p u) :=
  ⟨h.os, h.tape, h.output, by simp [World.setCell]; exact h.size, fun k hk hn => (Below.heap_setCell w p u k (fun e => by subst e; rcases hp with hp | hp; exact hn hp; omega)).trans (h.block k hk hn)⟩
theorem Keeps.grown {F : Nat → Prop} {a w w' : World} {row : Option Nat} (h : Keeps F a w) (hg : w.grownBy w' row) (hr : ∀ g, row = some g → F g ∨ a.heap.size ≤ g) : Keeps F a w' :=
  ⟨hg.os.trans h.os, hg.tape.trans h.tape, hg.output.trans h.output, Nat.le_trans h.size hg.size, fun k hk hn =>
    (hg.block k (Nat.lt_of_lt_of_le hk h.size) (fun e => by rcases hr k e.symm with h1 | h1; exact hn h1; omega)).trans (h.block k hk hn)⟩
/-- The blocks of F are as they were. -/
def Same (F : Nat → Prop) (w w' : World) : Prop := ∀ k, F k → w'.heap[k]? = w.heap[k]?
theorem Same.of_below {F : Nat → Prop} {w w' : World} (h : Below w.heap.size w w') (hF : ∀ k, F k → k < w.heap.size) : Same F w w' := fun k hk => h.block k (hF k hk)
theorem Same.of_keeps {F G : Nat → Prop} {w w' : World} (h : Keeps G w w') (hF : ∀ k, F k → k < w.heap.size) (hd : ∀ k, F k → ¬ G k) : Same F w w' := fun k hk => h.block k (hF k hk) (hd k hk)
theorem same_cell {F : Nat → Prop} {w w' : World} (h : Same F w w') {p : Addr} (hp : F p.block) : w'.cell? p = w.cell? p := World.cell?_of_block (w := w) (h p.block hp)

/-! A slice of bytes that reads as l, in blocks of F. -/
def Bs (w : World) (F : Nat → Prop) (v : Value) (l : List Nat) : Prop :=
  (∀ c ∈ l, c < 256) ∧ ∃ a cap, v = .slice a l.length cap ∧ l.length ≤ cap ∧ (0 < l.length → ∃ b off, a = some ⟨b, off, none⟩ ∧ F b ∧ ∀ i, i < l.length → w.cell? ⟨b, off + i, none⟩ = some (.int .u8 (l.getD i 0 : Nat)))
theorem Bs.kept {w w' : World} {F : Nat → Prop} {v : Value} {l : List Nat} (h : Bs w F v l) (hs : Same F w w') : Bs w' F v l := by
  obtain ⟨h8, a, cap, hv, hcap, h⟩ := h
  refine ⟨h8, a, cap, hv, hcap, fun hp => ?_⟩
  obtain ⟨b, off, ha, hF, hc⟩ := h hp
  exact ⟨b, off, ha, hF, fun i hi => (same_cell hs (p := ⟨b, off + i, none⟩) hF).trans (hc i hi)⟩
theorem Bs.wide {w : World} {F G : Nat → Prop} {v : Value} {l : List Nat} (h : Bs w F v l) (hF : ∀ k, F k → G k) : Bs w G v l := by
  obtain ⟨h8, a, cap, hv, hcap, h⟩ := h
  refine ⟨h8, a, cap, hv, hcap, fun hp => ?_⟩
  obtain ⟨b, off, ha, hF', hc⟩ := h hp
  exact ⟨b, off, ha, hF _ hF', hc⟩
theorem Bs.below {w w' : World} {v : Value} {l : List Nat} (h : Bs w (· < w.heap.size) v l) (hb : Below w.heap.size w w') : Bs w' (· < w'.heap.size) v l :=
  (h.kept (Same.of_below hb fun k hk => hk)).wide fun k hk => Nat.lt_of_lt_of_le hk hb.size
theorem Bs.nil (w : World) (F : Nat → Prop) (a : Option Addr) (cap : Nat) : Bs w F (.slice a 0 cap) [] :=
  ⟨fun c hc => absurd hc List.not_mem_nil, a, cap, rfl, Nat.zero_le _, fun hp => absurd hp (Nat.lt_irrefl 0)⟩
theorem own_bs {w : World} {base n : Nat} {v : Value} {l : List Nat} (h : w.ownsRow base 5 1 v n (bv l)) (h8 : ∀ c ∈ l, c < 256) : Bs w (fun k => v.ownBlock = some k) v l := by
  have hn : n = l.length := by have := h.1; rw [bv_len] at this; omega
  subst hn
  rcases h.2 with ⟨rfl, h0⟩ | ⟨g, cap, cur, hv, _, _, hnc, _⟩
  · have hl := List.eq_nil_of_length_eq_zero h0
    subst hl
    exact Bs.nil _ _ _ _
  · subst hv
    refine ⟨h8, _, _, rfl, hnc, fun hp => ⟨g, 0, rfl, rfl, fun i hi => ?_⟩⟩
    rw [Nat.zero_add, h.cellAt i (by omega), bv_at l i hi]
theorem own_lt {w : World} {base n : Nat} {e : TypeId} {v : Value} {xs : List Value} (h : w.ownsRow base e 1 v n xs) : ∀ k, v.ownBlock = some k → base ≤ k ∧ k < w.heap.size := h.lt
theorem own_kept {w w' : World} {base n : Nat} {e : TypeId} {v : Value} {xs : List Value} (h : w.ownsRow base e 1 v n xs) (hs : Same (fun k => v.ownBlock = some k) w w') : w'.ownsRow base e 1 v n xs := by
  refine ⟨h.1, ?_⟩
  rcases h.2 with hn | ⟨g, cap, cur, rfl, hbg, hg, rest⟩
  · exact .inl hn
  · exact .inr ⟨g, cap, cur, rfl, hbg, (hs g rfl).trans hg, rest⟩

/-! A writer at block p, of type T, with the bytes l; all of it lies in F. -/
structure WrAt (T : TypeId) (w : World) (p : Nat) (F : Nat → Prop) (v : Value) (l : List Nat) : Prop where
  blk : w.heap[p]? = some (.cells #[.bool true, v] T (0, 0))
  own : w.ownsRow 0 5 1 v l.length (bv l)
  h8 : ∀ c ∈ l, c < 256
  fp : F p
  fv : ∀ g, v.ownBlock = some g → F g
  lt : ∀ k, F k → k < w.heap.size
theorem WrAt.kept {T : TypeId} {w w' : World} {p : Nat} {F : Nat → Prop} {v : Value} {l : List Nat} (h : WrAt T w p F v l) (hs : Same F w w') (hz : w.heap.size ≤ w'.heap.size) : WrAt T w' p F v l :=
  ⟨(hs p h.fp).trans h.blk, own_kept h.own (fun k hk => hs k (h.fv k hk)), h.h8, h.fp, h.fv, fun k hk => Nat.lt_of_lt_of_le (h.lt k hk) hz⟩
theorem WrAt.below {T : TypeId} {w w' : World} {p : Nat} {F : Nat → Prop} {v : Value} {l : List Nat} (h : WrAt T w p F v l) (hb : Below w.heap.size w w') : WrAt T w' p F v l :=
  h.kept (Same.of_below hb h.lt) hb.size
theorem WrAt.other {T : TypeId} {w w' : World} {p : Nat} {F G : Nat → Prop} {v : Value} {l : List Nat} (h : WrAt T w p F v l) (hb : Keeps G w w') (hd : ∀ k, F k → ¬ G k) : WrAt T w' p F v l :=
  h.kept (Same.of_keeps hb h.lt hd) hb.size
theorem blk_cell {w : World} {g : Nat} {cs : Array Value} {e : TypeId} (h : w.heap[g]? = some (.cells cs e (0, 0))) (i : Nat) (v : Value) (hv : cs[i]? = some v) : w.cell? ⟨g, i, none⟩ = some v := by
  simp [World.cell?, h, hv]
theorem blk_frozen {w : World} {g : Nat} {cs : Array Value} {e : TypeId} (h : w.heap[g]? = some (.cells cs e (0, 0))) (i : Nat) : w.frozen? ⟨g, i, none⟩ = false := by
  simp [World.frozen?, h]
theorem blk_set {w : World} {g : Nat} {cs : Array Value} {e : TypeId} (h : w.heap[g]? = some (.cells cs e (0, 0))) (i : Nat) (u : Value) : (w.setCell ⟨g, i, none⟩ u).heap[g]? = some (.cells (cs.setIfInBounds i u) e (0, 0)) := by
  simp [World.setCell, Array.getElem?_modify, h]
theorem blk_lt {w : World} {g : Nat} {o : Obj} (h : w.heap[g]? = some o) : g < w.heap.size := (Array.getElem?_eq_some_iff.1 h).1
theorem WrAt.made {T : TypeId} {w : World} {p : Nat} {F : Nat → Prop} {v : Value} {l : List Nat} (h : WrAt T w p F v l) : w.cell? ⟨p, 0, none⟩ = some (.bool true) := blk_cell h.blk 0 _ rfl
theorem WrAt.all {T : TypeId} {w : World} {p : Nat} {F : Nat → Prop} {v : Value} {l : List Nat} (h : WrAt T w p F v l) : w.cell? ⟨p, 1, none⟩ = some v := blk_cell h.blk 1 _ rfl
theorem WrAt.frozen {T : TypeId} {w : World} {p : Nat} {F : Nat → Prop} {v : Value} {l : List Nat} (h : WrAt T w p F v l) (i : Nat) : w.frozen? ⟨p, i, none⟩ = false := blk_frozen h.blk i
theorem WrAt.bs {T : TypeId} {w : World} {p : Nat} {F : Nat → Prop} {v : Value} {l : List Nat} (h : WrAt T w p F v l) : Bs w F v l := (own_bs h.own h.h8).wide h.fv
theorem WrAt.form {T : TypeId} {w : World} {p : Nat} {F : Nat → Prop} {v : Value} {l : List Nat} (h : WrAt T w p F v l) : ∃ a cap, v = .slice a l.length cap := by
  obtain ⟨_, a, cap, hv, _⟩ := h.bs; exact ⟨a, cap, hv⟩
/-- The writer's block is another than the bytes'. -/
theorem WrAt.ne {T : TypeId} {w : World} {p : Nat} {F : Nat → Prop} {v : Value} {l : List Nat} (h : WrAt T w p F v l) (hT : T ≠ 5) : v.ownBlock ≠ some p := by
  rcases h.own.2 with ⟨hv, _⟩ | ⟨g, cap, cur, hv, _, hg, _⟩
  · rw [hv]; intro e; cases e
  · rw [hv]
    intro e
    have : g = p := by simpa [Value.ownBlock] using e
    subst this
    rw [h.blk] at hg
    injection hg with hg
    injection hg with _ h2
    exact hT h2
/-- Behind an append onto the writer's bytes, and the store of the new slice. -/
theorem WrAt.stored {T : TypeId} {w w1 w2 : World} {p : Nat} {F : Nat → Prop} {v v' : Value} {l l' : List Nat} (h : WrAt T w p F v l) (hT : T ≠ 5) (hk : Keeps F w w1) (hs : Same F w w1) (hg : w1.grownBy w2 v.ownBlock)
    {n : Nat} (ho : w2.ownsRow 0 5 1 v' n (bv l')) (h8 : ∀ c ∈ l', c < 256) (hl : v'.ownBlock = v.ownBlock ∨ v'.ownBlock = some w1.heap.size) (hn : n = l'.length) :
    WrAt T (w2.setCell ⟨p, 1, none⟩ v') p (More F w (w2.setCell ⟨p, 1, none⟩ v')) v' l' ∧ Keeps F w (w2.setCell ⟨p, 1, none⟩ v') := by
  subst hn
  have hb1 : w1.heap[p]? = some (.cells #[.bool true, v] T (0, 0)) := (hs p h.fp).trans h.blk
  have hb2 : w2.heap[p]? = some (.cells #[.bool true, v] T (0, 0)) := (hg.block p (blk_lt hb1) (fun e => h.ne hT e.symm)).trans hb1
  have hk2 : Keeps F w w2 := hk.grown hg (fun g e => .inl (h.fv g e))
  have hk3 : Keeps F w (w2.setCell ⟨p, 1, none⟩ v') := hk2.setCell (p := ⟨p, 1, none⟩) (.inl h.fp) v'
  have hne : v'.ownBlock ≠ some p := by
    rcases hl with hl | hl
    · rw [hl]; exact h.ne hT
    · rw [hl]; intro e
      have h1 := blk_lt hb1
      have h2 : w1.heap.size = p := by injection e
      omega
  have hsz : w2.heap.size ≤ (w2.setCell ⟨p, 1, none⟩ v').heap.size := by simp [World.setCell]
  refine ⟨⟨blk_set hb2 1 v', own_kept ho (fun k hk => Below.heap_setCell w2 _ _ k (fun e => hne (by rw [hk]; exact congrArg some e))), h8, .inl h.fp, fun g hg' => ?_, fun k hk => ?_⟩, hk3⟩
  · rcases hl with hl | hl
    · exact .inl (h.fv g (by rw [← hl]; exact hg'))
    · right
      have e : w1.heap.size = g := by rw [hl] at hg'; injection hg'
      have h1 := (own_lt ho g hg').2
      have := hk.size
      exact ⟨by omega, by omega⟩
  · rcases hk with hk | hk
    · exact Nat.lt_of_lt_of_le (h.lt k hk) hk3.size
    · exact hk.2
end Go.Proofs.Ytnkmiigcglddmaa.Wire
