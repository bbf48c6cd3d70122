/- Contracts of matrices: byteSteps, of, twice. -/
import Derived.Test.YtnpkdieblejliaaDoorK03
import Derived.Deep.WholeRow
import Derived.OwnWalk
namespace Go.Proofs.YtnpkdieblejliaaDoor.Crc
open Go.RowKit Go.ChangeShapes
set_option linter.unusedVariables false

/-! A block that is known whole. -/
def Blk (w : World) (g : Nat) (cur : Array Value) (e : TypeId) : Prop := w.heap[g]? = some (.cells cur e (0, 0))
theorem Blk.cell {w : World} {g : Nat} {cur : Array Value} {e : TypeId} (h : Blk w g cur e) (i : Nat) (v : Value) (hv : cur[i]? = some v) : w.cell? ⟨g, i, none⟩ = some v := by
  rw [cell_of_row w g i cur e (0, 0) h, hv]
theorem Blk.free {w : World} {g : Nat} {cur : Array Value} {e : TypeId} (h : Blk w g cur e) (i : Nat) : w.frozen? ⟨g, i, none⟩ = false := frozen_of_row w g i cur e h
theorem Blk.set {w : World} {g : Nat} {cur : Array Value} {e : TypeId} (h : Blk w g cur e) (i : Nat) (v : Value) : Blk (w.setCell ⟨g, i, none⟩ v) g (cur.setIfInBounds i v) e := heap_setCell_same w g i cur e v h
theorem Blk.far {w : World} {g : Nat} {cur : Array Value} {e : TypeId} (h : Blk w g cur e) (a : Addr) (v : Value) (hn : g ≠ a.block) : Blk (w.setCell a v) g cur e := (heap_setCell_other w a g v hn).trans h
theorem Blk.lt {w : World} {g : Nat} {cur : Array Value} {e : TypeId} (h : Blk w g cur e) : g < w.heap.size := (Array.getElem?_eq_some_iff.1 h).1
theorem Blk.later {w w' : World} {g : Nat} {cur : Array Value} {e : TypeId} (h : Blk w g cur e) (hb : Below w.heap.size w w') : Blk w' g cur e := by
  have hlt := h.lt
  unfold Blk at *
  rw [hb.block g hlt]; exact h
theorem Blk.row {w : World} {g : Nat} {cur cur' : Array Value} {e : TypeId} (h : Blk w g cur e) : Blk (w.setRow g cur') g cur' e := setRow_heap w g cur cur' e (0, 0) h
theorem Blk.rowFar {w : World} {g k : Nat} {cur cur' : Array Value} {e : TypeId} (h : Blk w g cur e) (hn : g ≠ k) : Blk (w.setRow k cur') g cur e := (setRow_other w k g cur' hn).trans h

/-- The first k of n cells hold what f makes of their places, the others 0. -/
def fill (f : Nat → Nat) (n k : Nat) : Array Value := ((List.range n).map fun i => Value.int .u32 (if i < k then f i else 0 : Nat)).toArray
theorem fill_size (f : Nat → Nat) (n k : Nat) : (fill f n k).size = n := by simp [fill]
theorem fill_get (f : Nat → Nat) (n k i : Nat) (h : i < n) : (fill f n k)[i]? = some (.int .u32 (if i < k then f i else 0 : Nat)) := by simp [fill, h]
theorem fill_set (f : Nat → Nat) (n k : Nat) (h : k < n) : (fill f n k).setIfInBounds k (.int .u32 (f k : Nat)) = fill f n (k + 1) := by
  apply Array.ext_getElem?
  intro i
  rw [Array.getElem?_setIfInBounds]
  rcases Nat.lt_or_ge i n with hi | hi
  · rw [fill_get f n k i hi, fill_get f n (k + 1) i hi, fill_size]
    rcases Nat.lt_trichotomy i k with h1 | h1 | h1
    · rw [if_neg (by omega), if_pos h1, if_pos (by omega)]
    · subst h1; rw [if_pos rfl, if_pos h, if_pos (by omega)]
    · rw [if_neg (by omega), if_neg (by omega), if_neg (by omega)]
  · have e1 : (fill f n k)[i]? = none := by rw [Array.getElem?_eq_none_iff, fill_size]; exact hi
    have e2 : (fill f n (k + 1))[i]? = none := by rw [Array.getElem?_eq_none_iff, fill_size]; exact hi
    rw [e1, e2, if_neg (by omega)]
theorem fill_cong (f g : Nat → Nat) (n : Nat) (h : ∀ i, i < n → f i = g i) (k : Nat) : fill f n k = fill g n k := by
  unfold fill
  congr 1
  refine List.map_congr_left fun i hi => ?_
  have := List.mem_range.1 hi
  rw [h i this]
theorem fill_zero (f g : Nat → Nat) (n : Nat) : fill f n 0 = fill g n 0 := by
  unfold fill
  congr 1
theorem fill_one (f : Nat → Nat) (n k : Nat) : (fill f n k).all (·.oneCell') = true := by
  rw [Array.all_eq_true]
  intro i hi
  simp [fill, Value.oneCell']

/-- The columns of the steps n. -/
def cols (n : Nat) : Array Value := fill (fun i => stps n (2 ^ i)) 32 32
theorem zero32 : (Tryd.prog.info? 48).map (fun i => (i.zero, i.size)) = some (some (.agg (fill (fun _ => 0) 32 0)), 32) := by kernel_rfl
theorem size32 : (Tryd.prog.info? 48).map (·.size) = some 32 := by kernel_rfl

/-- Where a matrix is being made: the block g + 1 holds the first k columns, the block g none. -/
structure MAt (w : World) (g : Nat) (f : Nat → Nat) (k : Nat) (wr : World) : Prop where
  new : Blk wr (g + 1) (fill f 32 k) 48
  res : Blk wr g (fill f 32 0) 48
  bel : Below g w wr
  hv : Hv wr

theorem pow_lt (k : Nat) (h : k < 32) : 2 ^ k < 4294967296 := Nat.pow_lt_pow_right (n := 32) (by omega) h
theorem pow_in (k : Nat) (h : k < 32) : (2 : Int) ^ k % 4294967296 = ((2 ^ k : Nat) : Int) := by
  have h1 := pow_lt k h
  have h2 : (2 : Int) ^ k = ((2 ^ k : Nat) : Int) := by rw [Int.natCast_pow]; rfl
  rw [h2]
  generalize 2 ^ k = q at *
  omega
theorem below_setRow {B g : Nat} {a w : World} (h : Below B a w) (hg : B ≤ g) (cs : Array Value) : Below B a (w.setRow g cs) :=
  ⟨h.os, h.tape, h.output, by rw [size_setRow]; exact h.size, fun k hk => (setRow_other w g k cs (by omega)).trans (h.block k hk)⟩
theorem MAt.next {w wr : World} {g k : Nat} {f : Nat → Nat} (h : MAt w g f k wr) (hk : k < 32) (hg : 0 < g) : MAt w g f (k + 1) (wr.setCell ⟨g + 1, k, none⟩ (.int .u32 (f k : Nat))) := by
  refine ⟨?_, h.res.far _ _ (by simp), h.bel.setCell (by simp) _, ?_⟩
  · have := h.new.set k (.int .u32 (f k : Nat))
    rwa [fill_set f 32 k hk] at this
  · intro i hi
    rw [World.cell?_setCell_other _ _ _ _ (by intro e; injection e with e; omega)]
    exact h.hv i hi
theorem MAt.later {w wr w1 : World} {g k : Nat} {f : Nat → Nat} (h : MAt w g f k wr) (hb : Below wr.heap.size wr w1) (hg : g ≤ wr.heap.size) : MAt w g f k w1 :=
  ⟨h.new.later hb, h.res.later hb, h.bel.trans (hb.mono hg), h.hv.later hb⟩
theorem Hv.lt {w : World} (h : Hv w) : 0 < w.heap.size := World.block_lt_of_cell? w _ (h 0 (by omega))

theorem byteSteps_any (w : World) (hH : Hv w) :
    Calls Tryd.prog 30 #[] w fun e w' => e = .returned (.agg (cols 8)) ∧ Below w.heap.size w w' := by
  go_enter Tryd.func30, Tryd.ntmps30
  go_wp2
  go_loopw [3] (fun i wr => ∃ k : Nat, k ≤ 32 ∧ i = .int .i64 k ∧ MAt w w.heap.size (fun i => stps 8 (2 ^ i)) k wr) (fun i _ => 32 - (intOf i).toNat)
  case atStart =>
    have hb := ((Below.refl w.heap.size w).alloc (Nat.le_refl _) (.cells (fill (fun _ => 0) 32 0) 48)).alloc (by simp) (.cells (fill (fun _ => 0) 32 0) 48)
    exact ⟨0, Nat.zero_le _, rfl, ⟨heap_alloc2_new _ _ _, heap_alloc2_old _ _ _, hb, hH.later hb⟩⟩
  case round =>
    obtain ⟨k, hk, rfl, hm⟩ := hrel
    have hv := hm.hv
    by_cases hlt : k < 32
    · have hc := hm.new.cell k _ (fill_get _ 32 k k hlt)
      have hf := hm.new.free k
      have HM := Lib.hid hm
      clear hm
      have hp := pow_in k hlt
      have hpl := pow_lt k hlt
      have hg := hH.lt
      have hnext := HM.out.next hlt hg
      generalize hq : 2 ^ k = q at *
      have HP := Lib.hid hp
      have HN := Lib.hid hnext
      clear hp hq hnext
      go_wp2_with fail
      rw [HP.out]
      refine (eight_any q hpl _ hv).mono ?_
      rintro e w' ⟨rfl, rfl⟩
      go_wp2
      go_roundw
      case rel => exact ⟨k + 1, by omega, by go_num, HN.out⟩
      case measure => simp [intOf]; omega
    · obtain rfl : k = 32 := by omega
      have hn := hm.new
      have hr := hm.res
      have HM := Lib.hid hm
      clear hm
      have hi1 : (Tryd.prog.info? 48).map (·.size) = some (fill (fun i => stps 8 (2 ^ i)) 32 32).size := by rw [fill_size]; exact size32
      have ho : (fill (fun i => stps 8 (2 ^ i)) 32 0).size = (fill (fun i => stps 8 (2 ^ i)) 32 32).size := by rw [fill_size, fill_size]
      have h1 := fill_one (fun i => stps 8 (2 ^ i)) 32 32
      have Hi1 := Lib.hid hi1
      have Ho := Lib.hid ho
      have H1 := Lib.hid h1
      have Hn := Lib.hid hn
      have Hr := Lib.hid hr
      clear hi1 ho h1 hn hr
      go_wp2_with (first
        | (refine wpList_load_row rfl 48 _ rfl (w.heap.size + 1) rfl 48 _ (0, 0) _ Hn.out Tryd.underlying48 rfl Hi1.out ?_)
        | (refine wpList_store_row rfl 48 _ _ rfl w.heap.size _ rfl rfl 48 _ Hr.out Hi1.out Ho.out H1.out ?_))
      refine bodyPost_ret (v := .agg (cols 8)) ?_ rfl ⟨rfl, ?_⟩
      · rw [results_cell_row (fn := Tryd.f30) Tryd.results30 _ _ w.heap.size 48 _ (0, 0) _ rfl (Hr.out.row) Tryd.underlying48 rfl Hi1.out]
        rfl
      · exact below_setRow HM.out.bel (Nat.le_refl _) _
end Go.Proofs.YtnpkdieblejliaaDoor.Crc
