/- Disks of one's own with all their calls; the nil ones; works. -/
import Derived.Test.YtojeccmnhgcmcaaDoorH07
import Derived.Lib.SlBytesConst
namespace Go.Proofs.YtojeccmnhgcmcaaDoor.Dsk
open Go.RowKit Go.ChangeShapes _root_.Go.Proofs.YtojeccmnhgcmcaaDoor.Frame
open _root_.Go.Proofs.YtojeccmnhgcmcaaDoor.Crc (Hv more more_lt ret_u32)
set_option linter.unusedVariables false
set_option linter.unusedSimpArgs false
set_option maxRecDepth 100000

/-- A disk that was made since the world w. -/
structure Dk (w : World) (d : Nat) (F : Nat → Prop) (m : St) (W : World) : Prop where
  dx : Dx W d F m
  fr : ∀ k, F k → w.heap.size ≤ k
  hv : Hv W
  bel : Below w.heap.size w W
  h0 : 0 < w.heap.size
section
variable {w W W' : World} {d : Nat} {F G : Nat → Prop} {m m' : St}
theorem Dk.later (h : Dk w d F m W) (hb : Below W.heap.size W W') : Dk w d F m W' := ⟨h.dx.later hb, h.fr, h.hv.later hb, h.bel.trans (hb.mono h.bel.size), h.h0⟩
theorem Dk.alloc (h : Dk w d F m W) (o : Obj) : Dk w d F m (W.alloc o) := h.later ((Below.refl _ _).alloc (Nat.le_refl _) _)
theorem Dk.drew (h : Dk w d F m W) : Dk w d F m W.drew := h.later (Below.refl _ _).drew
/-- What stands beside a change of the blocks G. -/
theorem bel_keeps (h : Below w.heap.size w W) (hk : Keeps G W W') (hG : ∀ k, G k → w.heap.size ≤ k) : Below w.heap.size w W' := h.trans (hk.below h.size hG)
theorem Dk.beside (h : Dk w d F m W) (hk : Keeps G W W') (hG : ∀ k, G k → w.heap.size ≤ k) (hd : ∀ k, F k → ¬ G k) : Dk w d F m W' :=
  ⟨h.dx.beside hk hd, h.fr, _root_.Go.Proofs.YtojeccmnhgcmcaaDoor.Frame.Hv.keeps h.hv hk (fun e => by have := hG _ e; have := h.h0; omega), bel_keeps h.bel hk hG, h.h0⟩
theorem Dk.did (h : Dk w d F m W) (hD : Did W d F m' W') : Dk w d (More F W W') m' W' :=
  ⟨hD.dx, fun k hk => by rcases hk with hk | hk; exact h.fr k hk; exact Nat.le_trans h.bel.size hk.1, _root_.Go.Proofs.YtojeccmnhgcmcaaDoor.Frame.Hv.keeps h.hv hD.kp (fun e => by have := h.fr _ e; have := h.h0; omega), bel_keeps h.bel hD.kp h.fr, h.h0⟩
theorem Dk.ok (h : Dk w d F m W) : OkS m := h.dx.ok
theorem new_w (hH : Hv W) (hW : Below w.heap.size w W) (h0 : 0 < w.heap.size) :
    Calls Tryd.prog 13 #[] W fun e W' => ∃ d, e = .returned (.pointer (some ⟨d, 0, none⟩)) ∧ Dk w d (From W.heap.size W') newS W' ∧ Below W.heap.size W W' :=
  (new_any W).mono fun e W' ⟨d, he, hD, hb⟩ => ⟨d, he, ⟨hD, fun k hk => Nat.le_trans hW.size hk.1, hH.later hb, hW.trans (hb.mono hW.size), h0⟩, hb⟩
theorem Dk.app (h : Dk w d F m W) {v : Value} {c : List Nat} (hv : Bs W G v c) (hG : ∀ k, G k → k < W.heap.size) {E : Nat} (hE : appE m c = E) (hS : appS m c = m') :
    Calls Tryd.prog 15 #[.pointer (some ⟨d, 0, none⟩), v] W fun e W' => e = .returned (.int .i64 (E : Nat)) ∧ Dk w d (More F W W') m' W' ∧ Keeps F W W' := by
  subst hE hS
  exact (append_any h.dx hv hG h.hv).mono fun e W' ⟨he, hD⟩ => ⟨he, h.did hD, hD.kp⟩
theorem Dk.sync (h : Dk w d F m W) (hS : synS m = m') :
    Calls Tryd.prog 17 #[.pointer (some ⟨d, 0, none⟩)] W fun e W' => e = .returned (.tuple #[]) ∧ Dk w d (More F W W') m' W' ∧ Keeps F W W' := by
  subst hS
  exact (sync_any h.dx).mono fun e W' ⟨he, hD⟩ => ⟨he, h.did hD, hD.kp⟩
theorem Dk.tear (h : Dk w d F m W) (left : Int) (hS : torS m left = m') :
    Calls Tryd.prog 19 #[.pointer (some ⟨d, 0, none⟩), .int .i64 left] W fun e W' => e = .returned (.tuple #[]) ∧ Dk w d (More F W W') m' W' ∧ Keeps F W W' := by
  subst hS
  exact (tearD_any left h.dx h.hv).mono fun e W' ⟨he, hD⟩ => ⟨he, h.did hD, hD.kp⟩
theorem Dk.save (h : Dk w d F m W) {v : Value} {c : List Nat} (hv : Bs W G v c) (hG : ∀ k, G k → k < W.heap.size) (hc : c.length ≤ 9223372036854775807) {E : Nat} (hE : savE c = E) (hS : savS m c = m') :
    Calls Tryd.prog 21 #[.pointer (some ⟨d, 0, none⟩), v] W fun e W' => e = .returned (.int .i64 (E : Nat)) ∧ Dk w d (More F W W') m' W' ∧ Keeps F W W' := by
  subst hE hS
  exact (save_any h.dx hv hG hc).mono fun e W' ⟨he, hD⟩ => ⟨he, h.did hD, hD.kp⟩
theorem Dk.len (h : Dk w d F m W) {n : Nat} (hn : tot m.L = n) :
    Calls Tryd.prog 27 #[.pointer (some ⟨d, 0, none⟩)] W fun e W' => e = .returned (.int .i64 (n : Nat)) ∧ W = W' := by subst hn; exact len_any h.dx
theorem Dk.safes (h : Dk w d F m W) {n : Nat} (hn : safe m = n) :
    Calls Tryd.prog 29 #[.pointer (some ⟨d, 0, none⟩)] W fun e W' => e = .returned (.int .i64 (n : Nat)) ∧ W = W' := by subst hn; exact safe_any h.dx
theorem Dk.records (h : Dk w d F m W) {L : List (List Nat)} (hL : m.L = L) :
    Calls Tryd.prog 32 #[.pointer (some ⟨d, 0, none⟩)] W fun e W' => ∃ v, e = .returned v ∧ OwnL W.heap.size L v W' ∧ Below W.heap.size W W' := by subst hL; exact records_any h.dx h.hv
theorem Dk.snap (h : Dk w d F m W) :
    Calls Tryd.prog 25 #[.pointer (some ⟨d, 0, none⟩)] W fun e W' => ∃ v, e = .returned (.tuple #[v, .bool m.h]) ∧ Mine W' W.heap.size v m.S ∧ Below W.heap.size W W' := snap_any h.dx
theorem Dk.copy (h : Dk w d F m W) :
    Calls Tryd.prog 23 #[.pointer (some ⟨d, 0, none⟩)] W fun e W' => ∃ d', e = .returned (.pointer (some ⟨d', 0, none⟩)) ∧ Dk w d' (From W.heap.size W') m W' ∧ Dk w d F m W' ∧ Below W.heap.size W W' :=
  (copy_any h.dx).mono fun e W' ⟨d', he, hD, hb⟩ => ⟨d', he, ⟨hD, fun k hk => Nat.le_trans h.bel.size hk.1, h.hv.later hb, h.bel.trans (hb.mono h.bel.size), h.h0⟩, h.later hb, hb⟩
end
theorem OwnL.at_ {base : Nat} {L : List (List Nat)} {a : Option Addr} {n cap : Nat} {W : World} (h : OwnL base L (.slice a n cap) W) (i : Nat) (hi : i < L.length) :
    ∃ g a' cap', a = some ⟨g, 0, none⟩ ∧ base ≤ g ∧ g < W.heap.size ∧ W.cell? ⟨g, i, none⟩ = some (.slice a' (L.getD i []).length cap') ∧ Mine W base (.slice a' (L.getD i []).length cap') (L.getD i []) := by
  obtain ⟨xs, h1, h2⟩ := h.ex
  have hx : i < xs.length := by rw [h2.1]; exact hi
  have hm := h2.2 i _ (List.getElem?_eq_getElem hx)
  obtain ⟨a', cap', e⟩ := hm.form
  rcases h1.2 with ⟨_, h0⟩ | ⟨g, cap1, cur, hv, hbg, hg, _⟩
  · omega
  · injection hv with e1 e2 e3
    subst e1 e2 e3
    refine ⟨g, a', cap', rfl, hbg, (Array.getElem?_eq_some_iff.1 hg).1, ?_, by rw [← e]; exact hm⟩
    rw [h1.cellAt i (by omega), List.getElem?_eq_getElem hx, e]
theorem OwnL.later {base : Nat} {L : List (List Nat)} {v : Value} {W W' : World} (h : OwnL base L v W) (hb : Below W.heap.size W W') : OwnL base L v W' := by
  obtain ⟨xs, h1, h2⟩ := h.ex
  exact ⟨xs, rows_later h1 hb, h2.1, fun i v hv => (h2.2 i v hv).later hb⟩
theorem OwnL.form {base : Nat} {L : List (List Nat)} {v : Value} {W : World} (h : OwnL base L v W) : ∃ a cap, v = .slice a L.length cap := by
  obtain ⟨xs, h1, h2⟩ := h.ex
  exact rows_form h1

def Yes (w : World) (e : Ending) (w' : World) : Prop := e = .returned (.bool true) ∧ Below w.heap.size w w'
theorem str_a : str [97] = ⟨#[97]⟩ := by decide +kernel
theorem str_bc : str [98, 99] = ⟨#[98, 99]⟩ := by decide +kernel
theorem byt1 (a : Nat) (h : a < 256) : Byt [a] := by intro c hc; rw [List.mem_singleton] at hc; subst hc; exact h
set_option maxHeartbeats 1000000 in
theorem works_any (w : World) (hH : Hv w) : Calls Tryd.prog 12 #[] w (Yes w) := by
  have kc := fun (w : World) (C : Array Value) (n c : Nat) => Lib.run_convert_bytes_const (P := Tryd.prog) w 29 5 C n c Tryd.underlying29 Tryd.underlying5
  have hN := Lib.hid (new_w hH (Below.refl _ _) (hv_lt hH))
  go_enter Tryd.func12, Tryd.ntmps12
  go_wp2_with (go_at_call 13; refine hN.out.mono ?_; rintro e W1 ⟨d, rfl, D1, _⟩)
  have D1a := Lib.hid (D1.alloc (.cells (bv [97]).toArray TB (1, 2)))
  have b1 := Lib.hid (bs_frozen W1 [97] TB (1, 2) (byt1 97 (by decide)))
  clear D1
  refine (D1a.out.app b1.out (fun k hk => by rw [hk]; simp) (E := 0) (m' := ⟨[[97]], 0, [], false⟩) (by decide) rfl).mono ?_
  rintro e W2 ⟨rfl, D2, _⟩
  replace D2 := Lib.hid D2
  clear b1 D1a
  go_wp2_with fail
  refine (D2.out.sync (m' := ⟨[[97]], 1, [], false⟩) rfl).mono ?_
  rintro e W3 ⟨rfl, D3, _⟩
  clear D2
  have b3 := Lib.hid (bs_frozen W3 [98, 99] TB (2, 3) (by unfold Byt; decide))
  have D3a := Lib.hid (D3.alloc (.cells (bv [98, 99]).toArray TB (2, 3)))
  clear D3
  go_wp2_with fail
  refine (D3a.out.app b3.out (fun k hk => by rw [hk]; simp) (E := 0) (m' := ⟨[[97], [98, 99]], 1, [], false⟩) (by decide) rfl).mono ?_
  rintro e W4 ⟨rfl, D4, _⟩
  clear D3a b3
  have b4 := Lib.hid (bs_frozen W4 [100] TB (1, 2) (byt1 100 (by decide)))
  have D4a := Lib.hid (D4.alloc (.cells (bv [100]).toArray TB (1, 2)))
  clear D4
  go_wp2_with fail
  refine (D4a.out.app b4.out (fun k hk => by rw [hk]; simp) (E := 0) (m' := ⟨[[97], [98, 99], [100]], 1, [], false⟩) (by decide) rfl).mono ?_
  rintro e W5 ⟨rfl, D5, _⟩
  replace D5 := Lib.hid D5
  clear D4a b4
  go_wp2_with fail
  refine (D5.out.len (n := 28) rfl).mono ?_
  rintro e W6 ⟨rfl, rfl⟩
  go_wp2_with fail
  refine (D5.out.safes (n := 9) rfl).mono ?_
  rintro e W6 ⟨rfl, rfl⟩
  go_wp2_with fail
  refine (D5.out.tear 18 (m' := ⟨[[97], [98, 99]], 2, [], false⟩) rfl).mono ?_
  rintro e W6 ⟨rfl, D6, _⟩
  replace D6 := Lib.hid D6
  clear D5
  go_wp2_with fail
  refine (D6.out.records (L := [[97], [98, 99]]) rfl).mono ?_
  rintro e W7 ⟨v, rfl, hL, hb7⟩
  have D7 := Lib.hid (D6.out.later hb7)
  obtain ⟨a, cap, rfl⟩ := hL.form
  obtain ⟨g, a1, cap1, rfl, _, _, k0, m0⟩ := hL.at_ 0 (by decide)
  obtain ⟨g', a2, cap2, hg', _, _, k1, m1⟩ := hL.at_ 1 (by decide)
  injection hg' with hg'
  injection hg' with hg'
  subst hg'
  have s0 := bs_str m0.bs
  have s1 := bs_str m1.bs
  rw [show [[97], [98, 99]].getD 0 [] = [97] from rfl, str_a] at s0
  rw [show [[97], [98, 99]].getD 1 [] = [98, 99] from rfl, str_bc] at s1
  rw [show [[97], [98, 99]].getD 0 [] = [97] from rfl] at k0
  rw [show [[97], [98, 99]].getD 1 [] = [98, 99] from rfl] at k1
  rw [show [97].length = 1 from rfl] at s0 k0
  rw [show [98, 99].length = 2 from rfl] at s1 k1
  rw [show [[97], [98, 99]].length = 2 from rfl]
  clear m0 m1 hL D6 hb7
  have b7 := Lib.hid (bs_frozen W7 [115] TB (1, 2) (byt1 115 (by decide)))
  have D7a := Lib.hid (D7.out.alloc (.cells (bv [115]).toArray TB (1, 2)))
  go_wp2_with fail
  refine (D7.out.len (n := 19) rfl).mono ?_
  rintro e W8 ⟨rfl, rfl⟩
  go_wp2_with fail
  refine (D7.out.safes (n := 19) rfl).mono ?_
  rintro e W8 ⟨rfl, rfl⟩
  go_wp2_with fail
  refine (D7a.out.save b7.out (fun k hk => by rw [hk]; simp) (by decide) (E := 0) (m' := ⟨[], 0, [115], true⟩) (by decide) rfl).mono ?_
  rintro e W8 ⟨rfl, D8, _⟩
  replace D8 := Lib.hid D8
  clear D7 D7a b7
  go_wp2_with fail
  refine (D8.out.len (n := 0) rfl).mono ?_
  rintro e W9 ⟨rfl, rfl⟩
  go_wp2
  go_ret
  exact ⟨rfl, D8.out.bel⟩
end Go.Proofs.YtojeccmnhgcmcaaDoor.Dsk
