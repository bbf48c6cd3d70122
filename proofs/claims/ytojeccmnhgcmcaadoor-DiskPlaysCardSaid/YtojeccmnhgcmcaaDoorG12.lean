/- The examples of the chapter: works returns true. -/
import Derived.Test.YtojeccmnhgcmcaaDoorG11
import Derived.Lib.SlBytesConst
namespace Go.Proofs.YtojeccmnhgcmcaaDoor.Frame
open Go.RowKit Go.ChangeShapes
open Crc (Hv more more_lt ret_u32)
set_option linter.unusedVariables false
set_option linter.unusedSimpArgs false

theorem bs_frozen (w : World) (l : List Nat) (e : TypeId) (fr : Nat × Nat) (h8 : Byt l) : Bs (w.alloc (.cells (bv l).toArray e fr)) (· = w.heap.size) (.slice (some ⟨w.heap.size, 0, none⟩) l.length l.length) l :=
  ⟨h8, _, _, rfl, Nat.le_refl _, fun _ => ⟨w.heap.size, 0, rfl, rfl, fun i hi => by rw [Nat.zero_add, cell_of_row _ _ _ (bv l).toArray e fr (heap_alloc_new w _), List.getElem?_toArray, bv_at l i hi]⟩⟩

theorem make_is (F : Nat → Prop) (v : Value) (c r : List Nat) (er : Nat) (h1 : makeL c = r) (h2 : makeE c = er) (w : World) (hv : Bs w F v c) (hF : ∀ k, F k → k < w.heap.size) (hH : Hv w) :
    Calls Tryd.prog 48 #[v] w (JoinR w w.heap.size r (er : Nat)) := by subst h1 h2; exact make_any F v c w hv hF hH
/-- What is known of the world: the table, and that what was there is as it was. -/
structure Got (w wr : World) : Prop where
  hv : Hv wr
  bel : Below w.heap.size w wr
theorem Got.later {w wr w1 : World} (h : Got w wr) (hb : Below wr.heap.size wr w1) : Got w w1 := ⟨hv_later h.hv hb, h.bel.trans (hb.mono h.bel.size)⟩
theorem Got.alloc {w wr : World} (h : Got w wr) (o : Obj) : Got w (wr.alloc o) := h.later ((Below.refl _ _).alloc (Nat.le_refl _) _)
theorem all_is (F : Nat → Prop) (v : Value) (b : List Nat) (L : List (List Nat)) (h : chain b = L) (w : World) (hv : Bs w F v b) (hF : ∀ k, F k → k < w.heap.size) (hH : Hv w) (hlen : b.length ≤ 100000000) :
    Calls Tryd.prog 51 #[v] w fun e w' => ∃ a cap, e = .returned (.tuple #[.slice a L.length cap, .int .i64 (tot L : Nat)]) ∧ Frs 81 w' w.heap.size (.slice a L.length cap) L ∧ Below w.heap.size w w' := by
  subst h
  refine (all_any F v b w hv hF hH hlen).mono ?_
  rintro e w' ⟨u, rfl, hm, hb⟩
  obtain ⟨zs, h1, h2⟩ := hm.ex
  obtain ⟨a, cap, rfl⟩ := rows_form h1
  exact ⟨a, cap, rfl, hm, hb⟩

end Go.Proofs.YtojeccmnhgcmcaaDoor.Frame
