/- Contracts of the tables. -/
import Derived.Test.YtnpkdieblejliaaDoorK07
namespace Go.Proofs.YtnpkdieblejliaaDoor.Crc
open Go.RowKit Go.ChangeShapes
set_option linter.unusedVariables false

/-- Where an array of n numbers of the type T is being made. -/
structure FAt (T n : Nat) (w : World) (g : Nat) (f : Nat → Nat) (k : Nat) (wr : World) : Prop where
  new : Blk wr (g + 1) (fill f n k) T
  res : Blk wr g (fill f n 0) T
  bel : Below g w wr
  hv : Hv wr
theorem FAt.next {T n : Nat} {w wr : World} {g k : Nat} {f : Nat → Nat} (h : FAt T n w g f k wr) (hk : k < n) (hg : 0 < g) : FAt T n w g f (k + 1) (wr.setCell ⟨g + 1, k, none⟩ (.int .u32 (f k : Nat))) := by
  refine ⟨?_, h.res.far _ _ (by simp), h.bel.setCell (by simp) _, ?_⟩
  · have := h.new.set k (.int .u32 (f k : Nat))
    rwa [fill_set f n k hk] at this
  · intro i hi
    rw [World.cell?_setCell_other _ _ _ _ (by intro e; injection e with e; omega)]
    exact h.hv i hi
theorem FAt.later {T n : Nat} {w wr w1 : World} {g k : Nat} {f : Nat → Nat} (h : FAt T n w g f k wr) (hb : Below wr.heap.size wr w1) (hg : g ≤ wr.heap.size) : FAt T n w g f k w1 :=
  ⟨h.new.later hb, h.res.later hb, h.bel.trans (hb.mono hg), h.hv.later hb⟩

/-- The table. -/
def tab : Array Value := fill (stps 8) 256 256
theorem size256 : (Tryd.prog.info? 34).map (·.size) = some 256 := by kernel_rfl
theorem tab_hi : (Tryd.prog.info? 34).map (·.size) = some tab.size := by unfold tab; rw [fill_size]; exact size256
theorem tab_ho : (fill (stps 8) 256 0).size = tab.size := by unfold tab; rw [fill_size, fill_size]
theorem tab_one : tab.all (·.oneCell') = true := fill_one _ _ _

theorem zero256 : (Tryd.prog.info? 34).map (fun i => (i.zero, i.size)) = some (some (.agg (fill (stps 8) 256 0)), 256) := by kernel_rfl
set_option maxRecDepth 100000 in
theorem table_any (w : World) (hH : Hv w) :
    Calls Tryd.prog 26 #[] w fun e w' => e = .returned (.agg tab) ∧ Below w.heap.size w w' := by
  have hg := hH.lt
  have hz := (zero_of_info zero256).1
  go_enter Tryd.func26, Tryd.ntmps26
  go_wp2
  go_loopw [3] (fun i wr => ∃ k : Nat, k ≤ 256 ∧ i = .int .i64 k ∧ FAt 34 256 w w.heap.size (stps 8) k wr) (fun i _ => 256 - (intOf i).toNat)
  case atStart =>
    have hb := ((Below.refl w.heap.size w).alloc (Nat.le_refl _) (.cells (fill (stps 8) 256 0) 34)).alloc (by simp) (.cells (fill (stps 8) 256 0) 34)
    exact ⟨0, Nat.zero_le _, rfl, ⟨heap_alloc2_new _ _ _, heap_alloc2_old _ _ _, hb, hH.later hb⟩⟩
  case round =>
    obtain ⟨k, hk, rfl, hm⟩ := hrel
    have hv := hm.hv
    by_cases hlt : k < 256
    · have hc := hm.new.cell k _ (fill_get _ 256 k k hlt)
      have hf := hm.new.free k
      have hw : IntKind.u32.wrap (k : Int) = k := by rw [IntKind.wrap_u32']; omega
      have hn := hm.next hlt hg
      have HN := Lib.hid hn
      clear hm hn
      go_wp2_with (go_at_call 28; refine (eight_any k (by omega) _ hv).mono ?_; rintro e w' ⟨rfl, rfl⟩)
      go_roundw
      case rel => exact ⟨k + 1, by omega, by go_num, HN.out⟩
      case measure => simp [intOf]; omega
    · obtain rfl : k = 256 := by omega
      have Hn := Lib.hid hm.new
      have Hr := Lib.hid hm.res
      have HM := Lib.hid hm
      clear hm
      go_wp2_with (first
        | (refine wpList_load_row rfl 34 _ rfl (w.heap.size + 1) rfl 34 tab (0, 0) _ Hn.out Tryd.underlying34 rfl tab_hi ?_)
        | (refine wpList_store_row rfl 34 _ _ rfl w.heap.size tab rfl rfl 34 _ Hr.out tab_hi tab_ho tab_one ?_))
      refine bodyPost_ret (v := .agg tab) ?_ rfl ⟨rfl, ?_⟩
      · rw [results_cell_row (fn := Tryd.f26) Tryd.results26 _ _ w.heap.size 34 tab (0, 0) _ rfl (Hr.out.row) Tryd.underlying34 rfl tab_hi]
      · exact below_setRow HM.out.bel (Nat.le_refl _) _
set_option maxRecDepth 100000 in
theorem ref_table_any (w : World) (hH : Hv w) :
    Calls Tryd.prog 27 #[] w fun e w' => e = .returned (.agg tab) ∧ Below w.heap.size w w' := by
  have hg := hH.lt
  have hz := (zero_of_info zero256).1
  go_enter Tryd.func27, Tryd.ntmps27
  go_wp2
  go_loopw [2] (fun i wr => ∃ k : Nat, k ≤ 256 ∧ i = .int .i64 k ∧ FAt 34 256 w w.heap.size (stps 8) k wr) (fun i _ => 256 - (intOf i).toNat)
  case atStart =>
    have hb := ((Below.refl w.heap.size w).alloc (Nat.le_refl _) (.cells (fill (stps 8) 256 0) 34)).alloc (by simp) (.cells (fill (stps 8) 256 0) 34)
    exact ⟨0, Nat.zero_le _, rfl, ⟨heap_alloc2_new _ _ _, heap_alloc2_old _ _ _, hb, hH.later hb⟩⟩
  case round =>
    obtain ⟨k, hk, rfl, hm⟩ := hrel
    have hv := hm.hv
    by_cases hlt : k < 256
    · have hc := hm.new.cell k _ (fill_get _ 256 k k hlt)
      have hf := hm.new.free k
      have hw : IntKind.u8.wrap (k : Int) = k := by rw [IntKind.wrap_u8']; omega
      have ht : takeB 0 k = stps 8 k := by unfold takeB; rw [Nat.zero_xor]
      have HT := Lib.hid ht
      clear ht
      have hn := hm.next hlt hg
      have HN := Lib.hid hn
      clear hm hn
      go_wp2_with (go_at_call 29; refine (take_any 0 k (by omega) hlt _).mono ?_; rintro e w' ⟨rfl, rfl⟩; rw [HT.out])
      go_roundw
      case rel => exact ⟨k + 1, by omega, by go_num, HN.out⟩
      case measure => simp [intOf]; omega
    · obtain rfl : k = 256 := by omega
      have Hn := Lib.hid hm.new
      have Hr := Lib.hid hm.res
      have HM := Lib.hid hm
      clear hm
      go_wp2_with (first
        | (refine wpList_load_row rfl 34 _ rfl (w.heap.size + 1) rfl 34 tab (0, 0) _ Hn.out Tryd.underlying34 rfl tab_hi ?_)
        | (refine wpList_store_row rfl 34 _ _ rfl w.heap.size tab rfl rfl 34 _ Hr.out tab_hi tab_ho tab_one ?_))
      refine bodyPost_ret (v := .agg tab) ?_ rfl ⟨rfl, ?_⟩
      · rw [results_cell_row (fn := Tryd.f27) Tryd.results27 _ _ w.heap.size 34 tab (0, 0) _ rfl (Hr.out.row) Tryd.underlying34 rfl tab_hi]
      · exact below_setRow HM.out.bel (Nat.le_refl _) _

end Go.Proofs.YtnpkdieblejliaaDoor.Crc
