/- The examples of the chapter: works returns true. -/
import Derived.Test.YtbedkblanefboaaDoorF11
import Derived.Lib.SlBytesConst
namespace Go.Proofs.YtbedkblanefboaaDoor.Frame
open Go.RowKit Go.ChangeShapes
open Crc (Hv more more_lt ret_u32)
set_option linter.unusedVariables false
set_option linter.unusedSimpArgs false

def c9 : List Nat := [49, 50, 51, 52, 53, 54, 55, 56, 57]
def r9 : List Nat := [0, 0, 0, 9, 203, 244, 57, 38, 49, 50, 51, 52, 53, 54, 55, 56, 57]
theorem rc9 : rc c9 = r9 := by decide +kernel
theorem make9 : makeL c9 = r9 ∧ makeE c9 = 0 := by decide +kernel
theorem c9_byt : Byt c9 := by unfold Byt; decide
theorem r9_byt : Byt r9 := by unfold Byt; decide
theorem look9 : lkE r9 0 = 0 ∧ restC r9 = c9 := by
  have h := rest_rc (c := c9) (by decide) c9_byt []
  rw [List.append_nil, rc9] at h
  refine ⟨?_, h.2⟩
  have e := lkE_in (b := r9) (k := 0) (by decide)
  rw [List.drop_zero, of_ok h.1] at e
  exact e
theorem look16 : lkE (r9.take 16) 0 = 10 := by decide +kernel
theorem chain9 : chain (r9 ++ [7]) = [c9] := by
  have h := chain_rcs [c9] (fun c hc => by rw [List.mem_singleton] at hc; subst hc; exact ⟨c9_byt, by decide⟩) [7]
  have e : rcs [c9] = r9 := by show rc c9 ++ [] = r9; rw [List.append_nil, rc9]
  rw [e, chain_no (r := [7]) (by decide +kernel)] at h
  exact h
theorem str_r9 : str r9 = ⟨#[0, 0, 0, 9, 203, 244, 57, 38, 49, 50, 51, 52, 53, 54, 55, 56, 57]⟩ := by decide +kernel
theorem str_c9 : str c9 = ⟨#[49, 50, 51, 52, 53, 54, 55, 56, 57]⟩ := by decide +kernel
theorem bs_frozen (w : World) (l : List Nat) (e : TypeId) (fr : Nat × Nat) (h8 : Byt l) : Bs (w.alloc (.cells (bv l).toArray e fr)) (· = w.heap.size) (.slice (some ⟨w.heap.size, 0, none⟩) l.length l.length) l :=
  ⟨h8, _, _, rfl, Nat.le_refl _, fun _ => ⟨w.heap.size, 0, rfl, rfl, fun i hi => by rw [Nat.zero_add, cell_of_row _ _ _ (bv l).toArray e fr (heap_alloc_new w _), List.getElem?_toArray, bv_at l i hi]⟩⟩

theorem make_is (F : Nat → Prop) (v : Value) (c r : List Nat) (er : Nat) (h1 : makeL c = r) (h2 : makeE c = er) (w : World) (hv : Bs w F v c) (hF : ∀ k, F k → k < w.heap.size) (hH : Hv w) :
    Calls Tryd.prog 12 #[v] w (JoinR w w.heap.size r (er : Nat)) := by subst h1 h2; exact make_any F v c w hv hF hH
/-- What is known of the world: the table, and that what was there is as it was. -/
structure Got (w wr : World) : Prop where
  hv : Hv wr
  bel : Below w.heap.size w wr
theorem Got.later {w wr w1 : World} (h : Got w wr) (hb : Below wr.heap.size wr w1) : Got w w1 := ⟨hv_later h.hv hb, h.bel.trans (hb.mono h.bel.size)⟩
theorem Got.alloc {w wr : World} (h : Got w wr) (o : Obj) : Got w (wr.alloc o) := h.later ((Below.refl _ _).alloc (Nat.le_refl _) _)
theorem next_is (F : Nat → Prop) (v : Value) (b : List Nat) (x : Int) (E : Nat) (X N : Int) (c : List Nat) (h1 : lkE b x = E) (h2 : lkX E x.toNat = X) (h3 : lkN E x.toNat (restC (b.drop x.toNat)) = N) (h4 : lkC E (restC (b.drop x.toNat)) = c) (w : World) (hv : Bs w F v b) (hF : ∀ k, F k → k < w.heap.size) (hH : Hv w) (hlen : b.length ≤ 100000000) :
    Calls Tryd.prog 18 #[v, .int .i64 x] w fun e w' => ∃ a cap, e = .returned (.tuple #[.agg #[.int .i64 X, .slice a c.length cap], .int .i64 N, .int .i64 (E : Nat)]) ∧ Mine w' w.heap.size (.slice a c.length cap) c ∧ Below w.heap.size w w' := by
  subst h1 h2 h3 h4
  refine (next_at F v b x w hv hF hH hlen).mono ?_
  rintro e w' ⟨u, rfl, hm, hb⟩
  obtain ⟨a, cap, rfl⟩ := hm.form
  exact ⟨a, cap, rfl, hm, hb⟩
theorem all_is (F : Nat → Prop) (v : Value) (b : List Nat) (L : List (List Nat)) (h : chain b = L) (w : World) (hv : Bs w F v b) (hF : ∀ k, F k → k < w.heap.size) (hH : Hv w) (hlen : b.length ≤ 100000000) :
    Calls Tryd.prog 20 #[v] w fun e w' => ∃ a cap, e = .returned (.tuple #[.slice a L.length cap, .int .i64 (tot L : Nat)]) ∧ Frs 32 w' w.heap.size (.slice a L.length cap) L ∧ Below w.heap.size w w' := by
  subst h
  refine (all_any F v b w hv hF hH hlen).mono ?_
  rintro e w' ⟨u, rfl, hm, hb⟩
  obtain ⟨zs, h1, h2⟩ := hm.ex
  obtain ⟨a, cap, rfl⟩ := rows_form h1
  exact ⟨a, cap, rfl, hm, hb⟩

set_option maxRecDepth 100000 in
set_option maxHeartbeats 1000000 in
theorem works_any (w : World) (hH : Hv w) :
    Calls Tryd.prog 11 #[] w fun e w' => e = .returned (.bool true) ∧ Below w.heap.size w w' := by
  have kc := fun (w : World) (C : Array Value) (n c : Nat) => Lib.run_convert_bytes_const (P := Tryd.prog) w 22 5 C n c Tryd.underlying22 Tryd.underlying5
  have G0 : Got w w := ⟨hH, Below.refl _ _⟩
  have G1 := Lib.hid (G0.alloc (.cells (bv c9).toArray 5 (9, 10)))
  have h9 := make_is (· = w.heap.size) (.slice (some ⟨w.heap.size, 0, none⟩) 9 9) c9 r9 0 make9.1 make9.2 (w.alloc (.cells (bv c9).toArray 5 (9, 10))) (bs_frozen w c9 5 (9, 10) c9_byt) (fun k hk => by rw [hk]; simp) G1.out.hv
  have H9 := Lib.hid h9
  clear h9
  go_enter Tryd.func11, Tryd.ntmps11
  go_wp2_with fail
  refine H9.out.mono ?_
  rintro e w1 ⟨v, rfl, hm, hb1⟩
  have G2 := Lib.hid (G1.out.later hb1)
  obtain ⟨a1, cap1, rfl⟩ := hm.form
  have hs1 := bs_str hm.bs
  rw [str_r9] at hs1
  have hm := Lib.hid hm
  go_wp2_with fail
  refine (next_is _ _ r9 0 0 0 17 c9 look9.1 rfl ?_ ?_ _ hm.out.bs (fun k hk => hk.2) G2.out.hv (by decide)).mono ?_
  · show lkN 0 0 (restC (r9.drop 0)) = 17
    rw [List.drop_zero, look9.2]; rfl
  · show lkC 0 (restC (r9.drop 0)) = c9
    rw [List.drop_zero, look9.2]; rfl
  rintro e w2 ⟨a2, cap2, rfl, hm2, hb2⟩
  have G3 := Lib.hid (G2.out.later hb2)
  have m3 := hm.out.later hb2
  have hcap : r9.length ≤ cap1 := by obtain ⟨_, _, _, e, h, _⟩ := m3.bs; injection e with _ _ e; omega
  have t16 : ∀ w, (Instr.slice 22 (.slice a1 r9.length cap1) none (some (.int .i64 16)) none).run Tryd.prog w = .ok (.slice a1 16 cap1) w := fun w => upto_run a1 r9.length cap1 16 (Nat.le_trans (by decide) hcap) w
  have hal : Below w2.heap.size w2 (w2.alloc (.cells #[.int .i64 0, .slice a2 c9.length cap2] 32)) := (Below.refl _ _).alloc (Nat.le_refl _) _
  have G4 := Lib.hid (G3.out.later hal)
  have B4 : Blk (w2.alloc (.cells #[.int .i64 0, .slice a2 c9.length cap2] 32)) w2.heap.size [.int .i64 0, .slice a2 c9.length cap2] 32 := heap_alloc_new w2 _
  have B4 := Lib.hid B4
  have m4 := m3.later hal
  have n4 := Lib.hid (hm2.later hal)
  have hu4 := m4.bs.upto 16 (by decide)
  have hN := Lib.hid (next_is _ _ (r9.take 16) 0 10 0 0 [] look16 rfl rfl rfl _ hu4 (fun k hk => hk.2) G4.out.hv (by decide))
  have m4 := Lib.hid m4
  clear hm2 m3 hu4
  go_wp2_with fail
  refine hN.out.mono ?_
  rintro e w5 ⟨a5, cap5, rfl, hm5, hb5⟩
  have G5 := Lib.hid (G4.out.later hb5)
  have B5 := Lib.hid (Blk.later B4.out hb5)
  have m5 := Lib.hid (m4.out.later hb5)
  have n5 := Lib.hid (n4.out.later hb5)
  clear hm5 hN B4 G4 m4 n4
  have hal6 : Below w5.heap.size w5 (w5.alloc (.cells #[.int .i64 0, .slice a5 0 cap5] 32)) := (Below.refl _ _).alloc (Nat.le_refl _) _
  have hal7 : Below (w5.alloc (.cells #[.int .i64 0, .slice a5 0 cap5] 32)).heap.size (w5.alloc (.cells #[.int .i64 0, .slice a5 0 cap5] 32)) ((w5.alloc (.cells #[.int .i64 0, .slice a5 0 cap5] 32)).alloc (.cells #[] 5)) := (Below.refl _ _).alloc (Nat.le_refl _) _
  have hown := World.ownsRow_made (e := 5) (size := 1) (w5.alloc (.cells #[.int .i64 0, .slice a5 0 cap5] 32)) #[] 0 (Nat.le_refl _) (Nat.zero_le _) rfl
  have hown : ((w5.alloc (.cells #[.int .i64 0, .slice a5 0 cap5] 32)).alloc (.cells #[] 5)).ownsRow (w5.heap.size + 1) 5 1 (.slice (some ⟨w5.heap.size + 1, 0, none⟩) 0 0) 0 [] := by
    rw [World.size_alloc] at hown; exact hown
  have HO := Lib.hid hown
  have hb7 := hal6.trans (hal7.mono (by simp))
  have G7 := Lib.hid (G5.out.later hb7)
  have m7 := Lib.hid (m5.out.later hb7)
  clear hown
  go_wp2_with (first
    | (at_builtin; refine wpList_append_b rfl _ _ rfl (w5.heap.size + 1) _ 0 [] rfl HO.out _ a1 r9.length cap1 r9 rfl m7.out.bs (by decide) (by simp) ?_; intro v8 w8 hown8 hg8 _; have hb8 := hb7.grown hg8 (by simp; omega) (fun k hk => by have := (own_lt HO.out k hk).1; omega); have m8 : Mine w8 (w5.heap.size + 1) v8 r9 := ⟨by simpa using hown8, r9_byt⟩; clear hown8 hg8; obtain ⟨a8, cap8, rfl⟩ := m8.form; have hal9 : Below w8.heap.size w8 (w8.alloc (.cells #[.int .u8 7] 5)) := (Below.refl _ _).alloc (Nat.le_refl _) _; have hb9 := hb8.trans (hal9.mono hb8.size); have m9 := Lib.hid (m8.later hal9); have bs9 := Lib.hid (bs_frozen w8 [7] 5 (0, 0) (by unfold Byt; decide)); clear m8)
    | (at_builtin; refine wpList_append_b rfl _ _ rfl (w5.heap.size + 1) _ r9.length (bv r9) rfl m9.out.own _ (some ⟨w8.heap.size, 0, none⟩) 1 1 [7] rfl bs9.out (by decide) (by have := hb8.size; simp; omega) ?_; intro v10 w10 hown10 hg10 _; have hb10 := hb9.grown hg10 hb9.size (fun k hk => by have := (own_lt m9.out.own k hk).1; omega); have m10 : Mine w10 (w5.heap.size + 1) v10 (r9 ++ [7]) := mine_app m9.out (by unfold Byt; decide) hown10; clear hown10 hg10; obtain ⟨a10, cap10, rfl⟩ := m10.form; have m10 := Lib.hid m10))
  have G10 := Lib.hid (G5.out.later hb10)
  refine (all_is _ (.slice a10 (r9.length + 1) cap10) (r9 ++ [7]) [c9] chain9 w10 m10.out.bs (fun k hk => hk.2) G10.out.hv (by decide)).mono ?_
  rintro e w11 ⟨a11, cap11, rfl, _, hb11⟩
  have hbz := hb10.trans (hb11.mono hb10.size)
  have G11 := Lib.hid (G10.out.later hb11)
  have B11 := Blk.later B5.out hbz
  have n11 := n5.out.later hbz
  have d0 := B11.cell 0 _ rfl
  have d1 := B11.cell 1 _ rfl
  have hs := bs_str n11.bs
  rw [str_c9] at hs
  go_wp2
  go_ret
  exact ⟨rfl, G11.out.bel⟩
end Go.Proofs.YtbedkblanefboaaDoor.Frame
