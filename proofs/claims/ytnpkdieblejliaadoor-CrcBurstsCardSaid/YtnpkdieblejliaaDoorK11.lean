/- The examples of the chapter: works returns true. -/
import Derived.Test.YtnpkdieblejliaaDoorK10
import Derived.Lib.SlBytesConst
namespace Go.Proofs.YtnpkdieblejliaaDoor.Crc
open Go.RowKit Go.ChangeShapes
set_option linter.unusedVariables false

theorem u8s_get (l : List Nat) (i : Nat) (h : i < l.length) : (u8s l)[i]? = some (.int .u8 (l.getD i 0 : Nat)) := by
  unfold u8s
  rw [List.getElem?_toArray, List.getElem?_map, List.getElem?_eq_getElem h, List.getD_eq_getElem?_getD, List.getElem?_eq_getElem h]
  rfl
theorem Blk.bs {w : World} {g cap : Nat} {l : List Nat} {e : TypeId} (h : Blk w g (u8s l) e) (h8 : ∀ c ∈ l, c < 256) : Bs w (.slice (some ⟨g, 0, none⟩) l.length cap) l :=
  ⟨h8, _, _, rfl, fun _ => ⟨g, 0, rfl, fun i hi => by rw [Nat.zero_add]; exact h.cell i _ (u8s_get l i hi)⟩⟩
theorem bs_new (w : World) (l : List Nat) (e : TypeId) (fr : Nat × Nat) (h8 : ∀ c ∈ l, c < 256) : Bs (w.alloc (.cells (u8s l) e fr)) (.slice (some ⟨w.heap.size, 0, none⟩) l.length l.length) l :=
  ⟨h8, _, _, rfl, fun _ => ⟨w.heap.size, 0, rfl, fun i hi => by rw [Nat.zero_add, cell_of_row _ _ _ (u8s l) e fr (heap_alloc_new w _), u8s_get l i hi]⟩⟩
theorem Hv.alloc {w : World} (h : Hv w) (o : Obj) : Hv (w.alloc o) := h.later ((Below.refl _ _).alloc (Nat.le_refl _) _)

theorem sum_9 (w : World) (hH : Hv w) : Calls Tryd.prog 14 #[.slice (some ⟨w.heap.size, 0, none⟩) 9 9] (w.alloc (.cells #[.int .u8 49, .int .u8 50, .int .u8 51, .int .u8 52, .int .u8 53, .int .u8 54, .int .u8 55, .int .u8 56, .int .u8 57] 5 (9, 10))) fun e w' => e = .returned (.int .u32 3421780262) ∧ Below (w.alloc (.cells #[.int .u8 49, .int .u8 50, .int .u8 51, .int .u8 52, .int .u8 53, .int .u8 54, .int .u8 55, .int .u8 56, .int .u8 57] 5 (9, 10))).heap.size (w.alloc (.cells #[.int .u8 49, .int .u8 50, .int .u8 51, .int .u8 52, .int .u8 53, .int .u8 54, .int .u8 55, .int .u8 56, .int .u8 57] 5 (9, 10))) w' := by
  have h := sum_any _ [49, 50, 51, 52, 53, 54, 55, 56, 57] _ (bs_new w [49, 50, 51, 52, 53, 54, 55, 56, 57] 5 (9, 10) (by decide)) (by decide) (hH.alloc _)
  have e : more 0 [49, 50, 51, 52, 53, 54, 55, 56, 57] = 3421780262 := by decide +kernel
  rw [e] at h
  exact h.mono fun e w' ⟨h1, h2⟩ => ⟨h1, h2 ▸ Below.refl _ _⟩
theorem sum_4 (w : World) (hH : Hv w) : Calls Tryd.prog 14 #[.slice (some ⟨w.heap.size, 0, none⟩) 4 4] (w.alloc (.cells #[.int .u8 49, .int .u8 50, .int .u8 51, .int .u8 52] 5 (4, 5))) fun e w' => e = .returned (.int .u32 (more 0 [49, 50, 51, 52] : Nat)) ∧ Below (w.alloc (.cells #[.int .u8 49, .int .u8 50, .int .u8 51, .int .u8 52] 5 (4, 5))).heap.size (w.alloc (.cells #[.int .u8 49, .int .u8 50, .int .u8 51, .int .u8 52] 5 (4, 5))) w' :=
  (sum_any _ [49, 50, 51, 52] _ (bs_new w [49, 50, 51, 52] 5 (4, 5) (by decide)) (by decide) (hH.alloc _)).mono fun e w' ⟨h1, h2⟩ => ⟨h1, h2 ▸ Below.refl _ _⟩
theorem more_5 (w : World) (hH : Hv w) : Calls Tryd.prog 16 #[.int .u32 (more 0 [49, 50, 51, 52] : Nat), .slice (some ⟨w.heap.size, 0, none⟩) 5 5] (w.alloc (.cells #[.int .u8 53, .int .u8 54, .int .u8 55, .int .u8 56, .int .u8 57] 5 (5, 6))) fun e w' => e = .returned (.int .u32 3421780262) ∧ Below (w.alloc (.cells #[.int .u8 53, .int .u8 54, .int .u8 55, .int .u8 56, .int .u8 57] 5 (5, 6))).heap.size (w.alloc (.cells #[.int .u8 53, .int .u8 54, .int .u8 55, .int .u8 56, .int .u8 57] 5 (5, 6))) w' := by
  have h := more_any (more 0 [49, 50, 51, 52]) (by decide +kernel) _ [53, 54, 55, 56, 57] _ (bs_new w [53, 54, 55, 56, 57] 5 (5, 6) (by decide)) (by decide) (hH.alloc _)
  have e : more (more 0 [49, 50, 51, 52]) [53, 54, 55, 56, 57] = 3421780262 := by decide +kernel
  rw [e] at h
  exact h.mono fun e w' ⟨h1, h2⟩ => ⟨h1, h2 ▸ Below.refl _ _⟩
theorem join_5 (w : World) (hH : Hv w) : Calls Tryd.prog 20 #[.int .u32 5, .int .u32 7, .int .i64 0] w fun e w' => e = .returned (.tuple #[.int .u32 2, .int .i64 0]) ∧ Below w.heap.size w w' :=
  join_yes 5 7 0 (by omega) (by omega) (by omega) w hH
theorem join_0 (w : World) (hH : Hv w) : Calls Tryd.prog 20 #[.int .u32 0, .int .u32 7, .int .i64 100] w fun e w' => e = .returned (.tuple #[.int .u32 7, .int .i64 0]) ∧ Below w.heap.size w w' := by
  have h := join_yes 0 7 100 (by omega) (by omega) (by omega) w hH
  rw [stps_zero] at h
  exact h
theorem parse_c (w : World) : Calls Tryd.prog 22 #[.string ⟨#[99, 98, 102, 52, 51, 57, 50, 54]⟩] w fun e w' => e = .returned (.tuple #[.int .u32 3421780262, .int .i64 0]) ∧ w = w' := by
  have h := parse_any ⟨#[99, 98, 102, 52, 51, 57, 50, 54]⟩ w
  have e : prsS (lst ⟨#[99, 98, 102, 52, 51, 57, 50, 54]⟩) = some 3421780262 := by decide +kernel
  rw [e] at h
  exact h
theorem hex_255 (w : World) : Calls Tryd.prog 24 #[.int .u32 255] w fun e w' => e = .returned (.string ⟨#[48, 48, 48, 48, 48, 48, 102, 102]⟩) ∧ Below w.heap.size w w' := by
  have h := hex_any 255 (by omega) w
  have e : hexs 255 = ⟨#[48, 48, 48, 48, 48, 48, 102, 102]⟩ := by decide +kernel
  rw [e] at h
  exact h

/-- Where the examples are looked at: the table lies in the block g. -/
structure WAt (w : World) (g : Nat) (wr : World) : Prop where
  blk : Blk wr g tab 34
  bel : Below w.heap.size w wr
  hv : Hv wr
  ge : w.heap.size ≤ g
theorem WAt.later {w wr w1 : World} {g : Nat} (h : WAt w g wr) (hb : Below wr.heap.size wr w1) : WAt w g w1 :=
  ⟨h.blk.later hb, h.bel.trans (hb.mono h.bel.size), h.hv.later hb, h.ge⟩
theorem WAt.alloc {w wr : World} {g : Nat} (h : WAt w g wr) (o : Obj) : WAt w g (wr.alloc o) := h.later ((Below.refl _ _).alloc (Nat.le_refl _) _)
theorem WAt.new {w w1 : World} (hb : Below w.heap.size w w1) (hH : Hv w) : WAt w w1.heap.size ((w1.alloc (.cells (fill (stps 8) 256 0) 34)).setRow w1.heap.size tab) := by
  refine ⟨Blk.row (heap_alloc_new w1 _), below_setRow (hb.alloc hb.size _) hb.size _, ?_, hb.size⟩
  intro i hi
  rw [cell_setRow_other _ _ _ _ (by have := hH.lt; have := hb.size; show 0 ≠ w1.heap.size; omega)]
  exact ((hH.later hb).alloc _) i hi
theorem WAt.c1 {w wr : World} {g : Nat} (h : WAt w g wr) : wr.cell? ⟨g, 1, none⟩ = some (.int .u32 1996959894) := h.blk.cell 1 _ (by unfold tab; rw [fill_get _ _ _ _ (by omega)]; rfl)
theorem WAt.c255 {w wr : World} {g : Nat} (h : WAt w g wr) : wr.cell? ⟨g, 255, none⟩ = some (.int .u32 755167117) := h.blk.cell 255 _ (by unfold tab; rw [fill_get _ _ _ _ (by omega)]; rfl)

set_option maxRecDepth 100000 in
theorem works_any (w : World) (hH : Hv w) :
    Calls Tryd.prog 13 #[] w fun e w' => e = .returned (.bool true) ∧ Below w.heap.size w w' := by
  have hz := (zero_of_info zero256).1
  have kc := fun (w : World) (C : Array Value) (n c : Nat) => Lib.run_convert_bytes_const (P := Tryd.prog) w 22 5 C n c Tryd.underlying22 Tryd.underlying5
  go_enter Tryd.func13, Tryd.ntmps13
  go_wp2_with (first
    | (go_at_call 26; refine (table_any _ hH).mono ?_; rintro e w1 ⟨rfl, hb1⟩; have Hw := Lib.hid (WAt.new hb1 hH))
    | (refine wpList_store_row rfl 34 _ _ rfl w1.heap.size tab rfl rfl 34 _ (heap_alloc_new w1 _) tab_hi tab_ho tab_one ?_))
  refine (join_5 _ Hw.out.hv).mono ?_
  rintro e w2 ⟨rfl, hb2⟩
  have Hw := Lib.hid (Hw.out.later hb2)
  go_wp2_with fail
  refine (join_0 _ Hw.out.hv).mono ?_
  rintro e w3 ⟨rfl, hb3⟩
  have Hw := Lib.hid (Hw.out.later hb3)
  go_wp2_with fail
  refine (parse_c _).mono ?_
  rintro e w' ⟨rfl, rfl⟩
  go_wp2_with fail
  refine (sum_9 _ Hw.out.hv).mono ?_
  rintro e w4 ⟨rfl, hb4⟩
  have Hw := Lib.hid ((Hw.out.alloc (.cells #[.int .u8 49, .int .u8 50, .int .u8 51, .int .u8 52, .int .u8 53, .int .u8 54, .int .u8 55, .int .u8 56, .int .u8 57] 5 (9, 10))).later hb4)
  go_wp2_with fail
  refine (sum_4 _ Hw.out.hv).mono ?_
  rintro e w5 ⟨rfl, hb5⟩
  have Hw := Lib.hid ((Hw.out.alloc (.cells #[.int .u8 49, .int .u8 50, .int .u8 51, .int .u8 52] 5 (4, 5))).later hb5)
  go_wp2_with fail
  refine (more_5 _ Hw.out.hv).mono ?_
  rintro e w6 ⟨rfl, hb6⟩
  have Hw := Lib.hid ((Hw.out.alloc (.cells #[.int .u8 53, .int .u8 54, .int .u8 55, .int .u8 56, .int .u8 57] 5 (5, 6))).later hb6)
  have hc1 := Hw.out.c1
  have hc255 := Hw.out.c255
  go_wp2_with fail
  refine (hex_255 _).mono ?_
  rintro e w7 ⟨rfl, hb7⟩
  have Hw := Lib.hid (Hw.out.later hb7)
  go_wp2_with fail
  go_ret
  exact ⟨rfl, Hw.out.bel⟩
end Go.Proofs.YtnpkdieblejliaaDoor.Crc
