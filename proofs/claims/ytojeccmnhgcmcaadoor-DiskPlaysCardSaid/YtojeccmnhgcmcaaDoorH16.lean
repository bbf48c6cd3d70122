/- Bytes of one's own that are changed; DiskSaves. -/
import Derived.Test.YtojeccmnhgcmcaaDoorH15
namespace Go.Proofs.YtojeccmnhgcmcaaDoor.Dsk
open Go.RowKit Go.ChangeShapes Go.WideShapes _root_.Go.Proofs.YtojeccmnhgcmcaaDoor.Frame
open _root_.Go.Proofs.YtojeccmnhgcmcaaDoor.Crc (Hv more more_lt ret_u32)
set_option linter.unusedVariables false
set_option linter.unusedSimpArgs false
set_option maxRecDepth 100000

theorem bv_set1 (l : List Nat) (i x : Nat) : (bv l).set i (.int .u8 (x : Nat)) = bv (l.set i x) := by unfold bv; rw [List.map_set]
/-- Bytes of one's own at a place. -/
theorem mine_at {w : World} {base cap n : Nat} {a : Option Addr} {c : List Nat} (h : Mine w base (.slice a n cap) c) (k : Nat) (hk : k < c.length) :
    ∃ g, a = some ⟨g, 0, none⟩ ∧ base ≤ g ∧ g < w.heap.size ∧ w.cell? ⟨g, k, none⟩ = some (.int .u8 (c.getD k 0 : Nat)) ∧ w.frozen? ⟨g, k, none⟩ = false := by
  rcases h.own.2 with ⟨_, h0⟩ | ⟨g, cap', cur, hv, hbg, hg, _⟩
  · omega
  · injection hv with e1 e2 e3
    subst e1 e2 e3
    refine ⟨g, rfl, hbg, (Array.getElem?_eq_some_iff.1 hg).1, ?_, frozen_of_row w g k _ TB hg⟩
    rw [h.own.cellAt k (by omega), bv_at c k hk]
theorem mine_put {w : World} {base cap n g : Nat} {c : List Nat} (h : Mine w base (.slice (some ⟨g, 0, none⟩) n cap) c) (k : Nat) (hk : k < c.length) (x : Nat) (hx : x < 256) :
    Mine (w.setCell ⟨g, k, none⟩ (.int .u8 (x : Nat))) base (.slice (some ⟨g, 0, none⟩) n cap) (c.set k x) := by
  refine ⟨⟨by rw [bv_len, Nat.mul_one], ?_⟩, fun y hy => ?_⟩
  · rw [List.length_set]
    rcases h.own.2 with ⟨e, _⟩ | ⟨g', cap', cur, hv, hbg, hg, h1, h2, h3, h4⟩
    · cases e
    · injection hv with e1 e2 e3
      injection e1 with e1
      injection e1 with e1 _
      subst e1 e2 e3
      refine .inr ⟨g, cap, cur.setIfInBounds k (.int .u8 (x : Nat)), rfl, hbg, heap_setCell_same w g k cur TB _ hg, h1, h2, by rw [Array.size_setIfInBounds]; exact h3, ?_⟩
      rw [Array.toList_setIfInBounds, ← bv_set1, ← h4, List.take_set]
  · rcases List.mem_or_eq_of_mem_set hy with hy | rfl
    · exact h.h8 y hy
    · exact hx
/-- Some bytes or other, as many as said, in one's own row. -/
structure Some' (base n : Nat) (v : Value) (W : World) : Prop where
  ex : ∃ c : List Nat, c.length = n ∧ Mine W base v c
/-- What a loop keeps that changes the row v. -/
structure Mut (W0 : World) (base n : Nat) (v : Value) (W : World) : Prop where
  so : Some' base n v W
  kp : Keeps (fun k => v.ownBlock = some k) W0 W
theorem Mut.first {W : World} {base : Nat} {v : Value} {c : List Nat} (h : Mine W base v c) : Mut W base c.length v W := ⟨⟨c, rfl, h⟩, Keeps.refl _ _⟩
theorem Mut.at_ {W0 W : World} {base n cap : Nat} {a : Option Addr} (h : Mut W0 base n (.slice a n cap) W) (k : Nat) (hk : k < n) :
    ∃ g x, a = some ⟨g, 0, none⟩ ∧ x < 256 ∧ W.cell? ⟨g, k, none⟩ = some (.int .u8 (x : Nat)) ∧ W.frozen? ⟨g, k, none⟩ = false ∧ ∀ y : Nat, y < 256 → Mut W0 base n (.slice a n cap) (W.setCell ⟨g, k, none⟩ (.int .u8 (y : Nat))) := by
  obtain ⟨c, hc, hm⟩ := h.so.ex
  obtain ⟨g, rfl, hb, hg, h1, h2⟩ := mine_at hm k (by omega)
  refine ⟨g, _, rfl, byte_lt hm.h8 k, h1, h2, fun y hy => ⟨⟨_, ?_, mine_put hm k (by omega) y hy⟩, h.kp.setCell (p := ⟨g, k, none⟩) (.inl rfl) _⟩⟩
  rw [List.length_set]
  exact hc
theorem own_made (w : World) : (w.alloc (.cells #[] TB)).ownsRow w.heap.size TB 1 (.slice (some ⟨w.heap.size, 0, none⟩) 0 0) 0 [] :=
  World.ownsRow_made (e := TB) (size := 1) w #[] 0 (Nat.le_refl _) (Nat.zero_le _) rfl
theorem inc_u8 (x : Nat) (hx : x < 256) : ∃ y : Nat, y < 256 ∧ IntKind.u8.wrap ((x : Int) + 1) = (y : Nat) := by
  refine ⟨(x + 1) % 256, Nat.mod_lt _ (by decide), ?_⟩
  rw [IntKind.wrap_u8]
  omega
end Go.Proofs.YtojeccmnhgcmcaaDoor.Dsk
