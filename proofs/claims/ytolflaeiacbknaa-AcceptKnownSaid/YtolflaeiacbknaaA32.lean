/- AcceptKnown: a text made of zeros; the walk. -/
import Derived.Test.YtolflaeiacbknaaA18
import Derived.OwnWalk
import Derived.Deep.RegionHeld3
namespace Go.Proofs.Ytolflaeiacbknaa.Acc
open Go.RowKit Go.Maps Go.Lib
open Bal (TB alloc_b)
set_option linter.unusedVariables false
set_option linter.unusedSimpArgs false
set_option maxRecDepth 100000

abbrev TU8 : TypeId := 5
abbrev TU8s : TypeId := 68
abbrev TSt : TypeId := 9
theorem made_rep (v : Value) (n : Nat) : (madeCells #[v] n).toList = List.replicate n v := by
  apply List.ext_getElem
  · simp [madeCells]
  · intro i h1 h2
    simp [madeCells, Nat.mod_one]
theorem push_size (l : List Int) : ∀ s : ByteArray, (l.foldl (fun (r : ByteArray) n => r.push (UInt8.ofNat n.toNat)) s).size = s.size + l.length := by
  induction l with
  | nil => intro s; rfl
  | cons c l ih =>
    intro s
    rw [List.foldl_cons, ih, ByteArray.size_push, List.length_cons]
    omega
theorem info_u8 : (Try.prog.info? TU8).map (fun i => (i.zero, i.size, i.bytes)) = some (some (.int .u8 0), 1, 1) := by kernel_rfl
theorem made_str {w : World} {base n : Nat} {v : Value} (hn : 0 < n) (h : w.ownsRow base TU8 1 v n (madeCells (Value.int .u8 0).cells (n * 1)).toList) :
    ∃ V : ByteArray, V.size = n ∧ (convert TU8s TSt v).run Try.prog w = .ok (.string V) w ∧ ∃ g cap, v = .slice (some ⟨g, 0, none⟩) n cap := by
  rw [Nat.mul_one, show (Value.int .u8 0).cells = #[Value.int .u8 0] from rfl, made_rep] at h
  rcases h.2 with ⟨_, h0⟩ | ⟨g, cap, cur, rfl, _, hg, h1, h2, h3, h4⟩
  · omega
  · refine ⟨((List.replicate n (0 : Int)).foldl (fun (r : ByteArray) n => r.push (UInt8.ofNat n.toNat)) ByteArray.empty), by rw [push_size, List.length_replicate]; exact Nat.zero_add n, ?_, g, cap, rfl⟩
    rw [run_convert_bytes_string w _ _ _ _ _ _ Try.underlying68 Try.underlying5 Try.underlying9]
    have hl : (loadCells ⟨g, 0, none⟩ (List.replicate n (Value.int .u8 0)).length).run Try.prog w = .ok (List.replicate n (Value.int .u8 0)).toArray w :=
      run_loadCells_list (P := Try.prog) w ⟨g, 0, none⟩ _ (fun j v hv => by
        rw [addr_add, Nat.zero_add]
        rw [← h4] at hv
        have hj := (List.getElem?_eq_some_iff.1 hv).1
        rw [List.length_take] at hj
        rw [List.getElem?_take_of_lt (by omega)] at hv
        rw [← hv]
        simp [World.cell?, hg])
    rw [List.length_replicate] at hl
    have e : List.replicate n (Value.int .u8 0) = (List.replicate n (0 : Int)).map (Value.int .u8) := by rw [List.map_replicate]
    rw [e] at hl
    rw [run_bytesToString w _ _ _ _ hl]
abbrev n7 : St := ⟨7, 0, 0, 0, []⟩
abbrev p1 : St := ⟨7, 5, 6, 0, []⟩
abbrev p2 : St := ⟨7, 5, 6, 2, []⟩
abbrev p3 (V : ByteArray) : St := ⟨7, 5, 6, 2, [⟨4095, 5, 6, V⟩]⟩
abbrev p4 : St := ⟨7, 5, 6, 4096, []⟩
theorem pro_no {s : St} {x y f c : Int} (h : proE s x y f = c) (hc : c ≠ 0) : proE s x y f = c ∧ proS s x y f = s ∧ proL s x y f = [] :=
  ⟨h, by unfold proS; rw [if_neg (by rw [h]; exact hc)], by unfold proL; rw [if_neg (by rw [h]; exact hc)]⟩
theorem acc_no {s : St} {x y k c : Int} {v : ByteArray} (h : accE s x y k v = c) (hc : c ≠ 0) : accE s x y k v = c ∧ accS s x y k v = s :=
  ⟨h, by unfold accS; rw [if_neg (by rw [h]; exact hc)]⟩
theorem kn1 : proE n7 0 0 0 = 2 ∧ proS n7 0 0 0 = n7 ∧ proL n7 0 0 0 = [] := pro_no (by decide +kernel) (by decide)
theorem kn2 : proE n7 1 7 0 = 2 ∧ proS n7 1 7 0 = n7 ∧ proL n7 1 7 0 = [] := pro_no (by decide +kernel) (by decide)
theorem kn3 : proE n7 5 6 4097 = 2 ∧ proS n7 5 6 4097 = n7 ∧ proL n7 5 6 4097 = [] := pro_no (by decide +kernel) (by decide)
theorem kn4 : proE n7 5 6 (-1) = 2 ∧ proS n7 5 6 (-1) = n7 ∧ proL n7 5 6 (-1) = [] := pro_no (by decide +kernel) (by decide)
theorem kn5 : proE n7 5 6 4096 = 0 ∧ proS n7 5 6 4096 = p1 ∧ proL n7 5 6 4096 = [] := by
  have h : proE n7 5 6 4096 = 0 := by decide +kernel
  exact ⟨h, by unfold proS; rw [if_pos h], by unfold proL; rw [if_pos h]; rfl⟩
theorem kn6 : proE p1 5 5 0 = 8 ∧ proS p1 5 5 0 = p1 ∧ proL p1 5 5 0 = [] := pro_no (by decide +kernel) (by decide)
theorem kn7 : forE 2 = 0 ∧ forS p1 2 = p2 := ⟨by decide, by unfold forS; rw [if_pos (by decide)]; rfl⟩
theorem kn8 : forE 1 = 0 ∧ forS p2 1 = p2 := ⟨by decide, by unfold forS; rw [if_pos (by decide)]; rfl⟩
theorem kn10 (V : ByteArray) : accE p2 1 0 4096 V = 2 ∧ accS p2 1 0 4096 V = p2 := acc_no (by unfold accE; rw [if_neg (by decide)]) (by decide)
theorem kn11 (V : ByteArray) : accE p2 1 0 (-1) V = 2 ∧ accS p2 1 0 (-1) V = p2 := acc_no (by unfold accE; rw [if_neg (by decide)]) (by decide)
theorem kn12 (V : ByteArray) (h : V.size = 65537) : accE p2 1 0 0 V = 11 ∧ accS p2 1 0 0 V = p2 := acc_no (by unfold accE; rw [if_pos (by decide), if_pos (by rw [h]; decide)]) (by decide)
theorem kn13 (V : ByteArray) (h : V.size = 65536) : accE p2 1 0 0 V = 8 ∧ accS p2 1 0 0 V = p2 := acc_no (by unfold accE; rw [if_pos (by decide), if_neg (by rw [h]; decide), if_pos (by decide +kernel)]) (by decide)
theorem kn14 : accE p2 5 6 1 ⟨#[]⟩ = 3 ∧ accS p2 5 6 1 ⟨#[]⟩ = p2 := acc_no (by decide +kernel) (by decide)
theorem kn15 (V : ByteArray) (h : V.size = 65536) : accE p2 5 6 4095 V = 0 ∧ accS p2 5 6 4095 V = p3 V := by
  have h0 : accE p2 5 6 4095 V = 0 := by unfold accE; rw [if_pos (by decide), if_neg (by rw [h]; decide), if_neg (by decide +kernel), if_neg (by decide)]
  exact ⟨h0, by unfold accS; rw [if_pos h0]; rfl⟩
theorem kn16 (V : ByteArray) : frM (p3 V).M 3 = [⟨4095, 5, 6, V⟩] := rfl
theorem kn17 (V : ByteArray) : forE 4097 = 2 ∧ forS (p3 V) 4097 = p3 V := ⟨by decide, by unfold forS; rw [if_neg (by decide)]⟩
theorem kn18 (V : ByteArray) : forE (-1) = 2 ∧ forS (p3 V) (-1) = p3 V := ⟨by decide, by unfold forS; rw [if_neg (by decide)]⟩
theorem kn19 (V : ByteArray) : forE 4096 = 0 ∧ forS (p3 V) 4096 = p4 := ⟨by decide, by unfold forS; rw [if_pos (by decide)]; rfl⟩
theorem kn20 : frM p4.M (-1) = [] := rfl
theorem box_keep {W W' : World} {sb mb b : Nat} {s : St} {c : Array Value} (x : Ax W sb mb s) (hg : W.heap[b]? = some (.cells c TB (0, 0))) (k : Keeps (fun k => k = sb ∨ k = mb) W W') : W'.heap[b]? = some (.cells c TB (0, 0)) := by
  refine (k.block _ (Array.getElem?_eq_some_iff.1 hg).1 ?_).trans hg
  rintro (rfl | rfl)
  · rw [x.box] at hg
    injection hg with hg
    injection hg with _ hg
    exact absurd hg (by decide)
  · obtain ⟨es, clock, hb, _⟩ := x.own
    rw [hb] at hg
    cases hg
structure KB (w : World) (sb mb : Nat) (s : St) (b : Nat) (W : World) : Prop where
  a : WAt w sb mb s W
  blk : W.heap[b]? = some (.cells #[.int .i64 5, .int .i64 6] TB (0, 0))
theorem KB.next {w W W' : World} {sb mb b : Nat} {s s' : St} (h : KB w sb mb s b W) (a : WAt w sb mb s' W') (k : Keeps (fun k => k = sb ∨ k = mb) W W') : KB w sb mb s' b W' := ⟨a, box_keep h.a.ax h.blk k⟩
theorem KB.cells {w W : World} {sb mb b : Nat} {s : St} (h : KB w sb mb s b W) : W.cell? ⟨b, 0, none⟩ = some (.int .i64 5) ∧ W.cell? ⟨b, 1, none⟩ = some (.int .i64 6) :=
  ⟨cell_of_row W b 0 _ TB _ h.blk, cell_of_row W b 1 _ TB _ h.blk⟩
theorem kb_new {w W : World} {sb mb : Nat} {s : St} (h : WAt w sb mb s W) : KB w sb mb s W.heap.size (W.alloc (.cells #[.int .i64 5, .int .i64 6] TB)) := ⟨h.alloc _, heap_alloc_new _ _⟩
structure K2 (w : World) (sb mb : Nat) (s : St) (b c : Nat) (W : World) : Prop where
  k : KB w sb mb s b W
  blk : W.heap[c]? = some (.cells #[.int .i64 1, .int .i64 0] TB (0, 0))
theorem K2.next {w W W' : World} {sb mb b c : Nat} {s s' : St} (h : K2 w sb mb s b c W) (a : WAt w sb mb s' W') (k : Keeps (fun k => k = sb ∨ k = mb) W W') : K2 w sb mb s' b c W' := ⟨h.k.next a k, box_keep h.k.a.ax h.blk k⟩
theorem K2.later {w W W' : World} {sb mb b c : Nat} {s s' : St} (h : K2 w sb mb s b c W) (a : WAt w sb mb s' W') (k : Below W.heap.size W W') : K2 w sb mb s' b c W' := h.next a (Keeps.of_below k)
theorem K2.cells {w W : World} {sb mb b c : Nat} {s : St} (h : K2 w sb mb s b c W) : W.cell? ⟨b, 0, none⟩ = some (.int .i64 5) ∧ W.cell? ⟨b, 1, none⟩ = some (.int .i64 6) ∧ W.cell? ⟨c, 0, none⟩ = some (.int .i64 1) ∧ W.cell? ⟨c, 1, none⟩ = some (.int .i64 0) :=
  ⟨h.k.cells.1, h.k.cells.2, cell_of_row W c 0 _ TB _ h.blk, cell_of_row W c 1 _ TB _ h.blk⟩
theorem k2_new {w W : World} {sb mb b : Nat} {s : St} (h : KB w sb mb s b W) : K2 w sb mb s b W.heap.size (W.alloc (.cells #[.int .i64 1, .int .i64 0] TB)) :=
  ⟨h.next (h.a.alloc _) ((Keeps.refl _ _).alloc _), heap_alloc_new _ _⟩
theorem K2.acc {w W : World} {sb mb b c : Nat} {s s' : St} {r : Int} (h : K2 w sb mb s b c W) (x y k : Int) (v : ByteArray) (hr : accE s x y k v = r ∧ accS s x y k v = s') :
    Calls Try.prog 19 #[.pointer (some ⟨sb, 0, none⟩), .agg #[.int .i64 x, .int .i64 y], .int .i64 k, .string v] W fun e W' => e = .returned (.int .i64 r) ∧ K2 w sb mb s' b c W' :=
  (h.k.a.accept x y k v hr.1 hr.2).mono fun e W' ⟨he, hA, hk⟩ => ⟨he, h.next hA hk⟩
theorem K2.forg {w W : World} {sb mb b c : Nat} {s s' : St} {r : Int} (h : K2 w sb mb s b c W) (u : Int) (hr : forE u = r ∧ forS s u = s') :
    Calls Try.prog 21 #[.pointer (some ⟨sb, 0, none⟩), .int .i64 u] W fun e W' => e = .returned (.int .i64 r) ∧ K2 w sb mb s' b c W' :=
  (h.k.a.forget u hr.1 hr.2).mono fun e W' ⟨he, hA, hk⟩ => ⟨he, h.next hA hk⟩
theorem K2.lst {w W : World} {sb mb b c : Nat} {s : St} {L : List Et} (h : K2 w sb mb s b c W) (q : Int) (n : Nat) (hL : frM s.M q = L) (hn : L.length = n) :
    Calls Try.prog 31 #[.pointer (some ⟨sb, 0, none⟩), .int .i64 q] W fun e W' => ∃ a cap, e = .returned (.slice a n cap) ∧ K2 w sb mb s b c W' := by
  refine (h.k.a.list q hL).mono ?_
  rintro e W' ⟨v, rfl, hO, hA, hb⟩
  obtain ⟨a, cap, rfl⟩ := rows_form hO
  rw [hn]
  exact ⟨a, cap, rfl, h.later hA hb⟩
set_option maxHeartbeats 8000000 in
theorem known_law (w : World) : Calls Try.prog 11 #[] w (Yes w) := by
  obtain ⟨i0, hi, hz0, hz1, hz2⟩ := info_p info_u8
  have HB8 := Lib.hid (fun W => new_bad 8 (by decide) W)
  have HB0 := Lib.hid (fun W => new_bad 0 (by decide) W)
  have HN := Lib.hid (fun W (hW : Below w.heap.size w W) => new_w 7 (by omega) w W hW)
  have HW := Lib.hid (fun W => works_any W)
  go_enter Try.func11, Try.ntmps11
  go_wp2_with fail
  go_at_call 14
  refine (HB8.out _).mono ?_
  rintro e w1 ⟨rfl, rfl⟩
  go_wp2_with fail
  go_at_call 14
  refine (HB0.out _).mono ?_
  rintro e w1 ⟨rfl, rfl⟩
  go_wp2_with fail
  go_at_call 14
  refine (HN.out _ (Below.refl _ _)).mono ?_
  rintro e w1 ⟨sb, mb, rfl, h1, _⟩
  have h1' : WAt w sb mb n7 w1 := h1
  clear h1 HB8 HB0 HN
  go_wp2_with (at_make; refine wpList_make_full _ rfl _ _ TU8s rfl w1.heap.size TU8 i0 (.int .u8 0) 1 Try.underlying68 hi hz0 hz1 _ _ _ _ 65537 rfl rfl rfl rfl (by rw [hz2]; decide) (by unfold maxLen; decide) (Nat.le_refl _) ?_; intro w2 hown hg1; have hb1 : Below w1.heap.size w1 w2 := (Below.refl _ _).grown hg1 (Nat.le_refl _) (fun _ h => by cases h); obtain ⟨V, hV, hcv, g, cap, hv⟩ := made_str (by decide) hown; rw [hv] at hcv; rw [hv]; have hV' := Lib.hid hV; have h2 := Lib.hid (h1'.later hb1); clear hown hg1 hb1 h1' hv hV hi hz0 hz1 hz2)
  have B0 := Lib.hid (kb_new h2.out)
  generalize w2.heap.size = bb at *
  obtain ⟨c0, c1⟩ := B0.out.cells
  go_wp2_with fail
  go_at_call 16
  refine (B0.out.a.promise 0 0 0 kn1.1 kn1.2.1 kn1.2.2).mono ?_
  rintro e u1 ⟨v1, rfl, hO, hA, hk⟩
  have B1 := Lib.hid (B0.out.next hA hk)
  obtain ⟨a1, q1, rfl⟩ := rows_form hO
  rw [show ([] : List Et).length = 0 from rfl]
  clear hO hA hk B0 c0 c1
  obtain ⟨c0, c1⟩ := B1.out.cells
  go_wp2_with fail
  go_at_call 16
  refine (B1.out.a.promise 1 7 0 kn2.1 kn2.2.1 kn2.2.2).mono ?_
  rintro e u2 ⟨v2, rfl, hO, hA, hk⟩
  have B2 := Lib.hid (B1.out.next hA hk)
  obtain ⟨a2, q2, rfl⟩ := rows_form hO
  rw [show ([] : List Et).length = 0 from rfl]
  clear hO hA hk B1 c0 c1
  obtain ⟨c0, c1⟩ := B2.out.cells
  go_wp2_with fail
  go_at_call 16
  refine (B2.out.a.promise 5 6 4097 kn3.1 kn3.2.1 kn3.2.2).mono ?_
  rintro e u3 ⟨v3, rfl, hO, hA, hk⟩
  have B3 := Lib.hid (B2.out.next hA hk)
  obtain ⟨a3, q3, rfl⟩ := rows_form hO
  rw [show ([] : List Et).length = 0 from rfl]
  clear hO hA hk B2 c0 c1
  obtain ⟨c0, c1⟩ := B3.out.cells
  go_wp2_with fail
  go_at_call 16
  refine (B3.out.a.promise 5 6 (-1) kn4.1 kn4.2.1 kn4.2.2).mono ?_
  rintro e u4 ⟨v4, rfl, hO, hA, hk⟩
  have B4 := Lib.hid (B3.out.next hA hk)
  obtain ⟨a4, q4, rfl⟩ := rows_form hO
  rw [show ([] : List Et).length = 0 from rfl]
  clear hO hA hk B3 c0 c1
  obtain ⟨c0, c1⟩ := B4.out.cells
  go_wp2_with fail
  go_at_call 16
  refine (B4.out.a.promise 5 6 4096 kn5.1 kn5.2.1 kn5.2.2).mono ?_
  rintro e u5 ⟨v5, rfl, hO, hA, hk⟩
  have B5 := Lib.hid (B4.out.next hA hk)
  obtain ⟨a5, q5, rfl⟩ := rows_form hO
  rw [show ([] : List Et).length = 0 from rfl]
  clear hO hA hk B4 c0 c1
  obtain ⟨c0, c1⟩ := B5.out.cells
  go_wp2_with fail
  go_at_call 16
  refine (B5.out.a.promise 5 5 0 kn6.1 kn6.2.1 kn6.2.2).mono ?_
  rintro e u6 ⟨v6, rfl, hO, hA, hk⟩
  have B6 := Lib.hid (B5.out.next hA hk)
  obtain ⟨a6, q6, rfl⟩ := rows_form hO
  rw [show ([] : List Et).length = 0 from rfl]
  clear hO hA hk B5 c0 c1
  obtain ⟨c0, c1⟩ := B6.out.cells
  go_wp2_with fail
  go_at_call 21
  refine (B6.out.a.forget 2 kn7.1 kn7.2).mono ?_
  rintro e u7 ⟨rfl, hA, hk⟩
  have B7 := Lib.hid (B6.out.next hA hk)
  clear hA hk B6 c0 c1
  obtain ⟨c0, c1⟩ := B7.out.cells
  go_wp2_with fail
  go_at_call 21
  refine (B7.out.a.forget 1 kn8.1 kn8.2).mono ?_
  rintro e u8 ⟨rfl, hA, hk⟩
  have B8 := Lib.hid (B7.out.next hA hk)
  clear hA hk B7 c0 c1
  obtain ⟨c0, c1⟩ := B8.out.cells
  go_wp2_with fail
  go_at_call 29
  refine (B8.out.a.base).mono ?_
  rintro e w' ⟨rfl, rfl⟩
  have D0 := Lib.hid ((k2_new B8.out).later ((k2_new B8.out).k.a.drew) (Below.refl _ _).drew)
  clear c0 c1 B8
  have hVx : (V.extract 1 V.size).size = 65536 := by rw [ByteArray.size_extract, hV'.out]; rfl
  have hVs := hV'.out
  rw [hVs] at hVx
  replace hVx := Lib.hid hVx
  go_wp2_with fail
  simp only [List.append_eq, List.cons_append, List.nil_append]
  generalize u8.heap.size = lb at *
  generalize u8.alloc (.cells #[.int .i64 1, .int .i64 0] TB) = U0 at *
  have HK : Hid (∀ s W, K2 w sb mb s bb lb W → W.cell? ⟨bb, 0, none⟩ = some (.int .i64 5) ∧ W.cell? ⟨bb, 1, none⟩ = some (.int .i64 6) ∧ W.cell? ⟨lb, 0, none⟩ = some (.int .i64 1) ∧ W.cell? ⟨lb, 1, none⟩ = some (.int .i64 0)) := Lib.hid fun s W h => h.cells
  go_region_held3 (fun W => W.cell? ⟨bb, 0, none⟩ = some (.int .i64 5) ∧ W.cell? ⟨bb, 1, none⟩ = some (.int .i64 6) ∧ W.cell? ⟨lb, 0, none⟩ = some (.int .i64 1) ∧ W.cell? ⟨lb, 1, none⟩ = some (.int .i64 0))
    ((first | exact HK.out _ _ D12.out | exact HK.out _ _ D11.out | exact HK.out _ _ D10.out | exact HK.out _ _ D9.out | exact HK.out _ _ D8.out | exact HK.out _ _ D7.out | exact HK.out _ _ D6.out | exact HK.out _ _ D5.out | exact HK.out _ _ D4.out | exact HK.out _ _ D3.out | exact HK.out _ _ D2.out | exact HK.out _ _ D1.out | exact HK.out _ _ D0.out | assumption))
    ((first
      | (go_at_call 19; have _ := D5; refine (D5.out.acc 5 6 4095 (V.extract 1 65537) (kn15 _ hVx.out)).mono ?_; rintro e t6 ⟨rfl, D6⟩; replace D6 := Lib.hid D6)
      | (go_at_call 19; have _ := D4; refine (D4.out.acc 5 6 1 ⟨#[]⟩ kn14).mono ?_; rintro e t5 ⟨rfl, D5⟩; replace D5 := Lib.hid D5)
      | (go_at_call 19; have _ := D3; refine (D3.out.acc 1 0 0 (V.extract 1 65537) (kn13 _ hVx.out)).mono ?_; rintro e t4 ⟨rfl, D4⟩; replace D4 := Lib.hid D4)
      | (go_at_call 19; have _ := D2; refine (D2.out.acc 1 0 0 V (kn12 V hV'.out)).mono ?_; rintro e t3 ⟨rfl, D3⟩; replace D3 := Lib.hid D3)
      | (go_at_call 19; have _ := D1; refine (D1.out.acc 1 0 (-1) V (kn11 V)).mono ?_; rintro e t2 ⟨rfl, D2⟩; replace D2 := Lib.hid D2)
      | (go_at_call 19; have _ := D0; refine (D0.out.acc 1 0 4096 V (kn10 V)).mono ?_; rintro e t1 ⟨rfl, D1⟩; replace D1 := Lib.hid D1)
      | (go_at_call 31; have _ := D10; refine (D10.out.lst (-1) 0 kn20 rfl).mono ?_; rintro e t11 ⟨la2, lc2, rfl, D11⟩; replace D11 := Lib.hid D11)
      | (go_at_call 31; refine (D6.out.lst 3 1 (kn16 _) rfl).mono ?_; rintro e t7 ⟨la, lc, rfl, D7⟩; replace D7 := Lib.hid D7)
      | (go_at_call 21; have _ := D9; refine (D9.out.forg 4096 (kn19 _)).mono ?_; rintro e t10 ⟨rfl, D10⟩; replace D10 := Lib.hid D10)
      | (go_at_call 21; have _ := D8; refine (D8.out.forg (-1) (kn18 _)).mono ?_; rintro e t9 ⟨rfl, D9⟩; replace D9 := Lib.hid D9)
      | (go_at_call 21; have _ := D7; refine (D7.out.forg 4097 (kn17 _)).mono ?_; rintro e t8 ⟨rfl, D8⟩; replace D8 := Lib.hid D8)
      | (go_at_call 13; refine (HW.out _).mono ?_; rintro e t12 ⟨rfl, hb12⟩; have D12 := Lib.hid (D11.out.later (D11.out.k.a.later hb12) hb12))))
  go_wp2
  go_ret
  exact ⟨rfl, D12.out.k.a.bel⟩
end Go.Proofs.Ytolflaeiacbknaa.Acc
