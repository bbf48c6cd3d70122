/- A range as it comes in, with its lengths; the walk of DedupSizes. -/
import Derived.Test.YtgcpboailblhlaaD29
namespace Go.Proofs.Ytgcpboailblhlaa.Ded
open Go.RowKit Go.Lib Go.Shelf Go.ChangeShapes Go.WideShapes
open Rng (tx nameOk hasR okR tx_of)
open Eff (TE effOk)
set_option linter.unusedVariables false
set_option linter.unusedSimpArgs false
set_option maxRecDepth 100000

theorem sz_len (s : ByteArray) (h : s.size ≤ maxLen) : s.data.toList.length ≤ 9223372036854775807 := by
  rw [Array.length_toList]
  exact Nat.le_trans h (by unfold maxLen; omega)
section
variable {H : Type} {enc : TypeId × Value → H} {w : World} {base : Nat} {spare : Nat → Bool} {held : Bool}
theorem rng_partsz {fuel : Nat} {c0 c1 : Value} {x : DataW H × List MemPlace} (h : DataW.trod enc Try.prog w base spare held fuel TRg [c0, c1] = some x) :
    ∃ r : Rng.Rg, c0 = .string (tx r.f) ∧ c1 = .string (tx r.t) ∧ r.f.length ≤ 9223372036854775807 ∧ r.t.length ≤ 9223372036854775807 := by
  obtain ⟨f0, f1, hu, t0, t1, o0, o1⟩ := tg_struct
  obtain ⟨ys, m, _, rfl, _, hl, hf⟩ := DataW.trod_struct hu h
  have h0 := hf 0 f0 rfl
  have h1 := hf 1 f1 rfl
  have k0 : Try.prog.cellsOf 9 = 1 := by kernel_rfl
  rw [t0, o0, k0] at h0
  rw [t1, o1, k0] at h1
  have hl3 : ys.length = 2 := hl
  match ys, hl3 with
  | [y0, y1], _ =>
    have g0 : DataW.trod enc Try.prog w base spare held m 9 [c0] = some y0 := h0
    have g1 : DataW.trod enc Try.prog w base spare held m 9 [c1] = some y1 := h1
    obtain ⟨n0, e0, _, z0⟩ := DataW.trod_string Try.underlying9 g0
    obtain ⟨n1, e1, _, z1⟩ := DataW.trod_string Try.underlying9 g1
    cases e0; cases e1
    exact ⟨⟨n0.data.toList, n1.data.toList⟩, by rw [tx_of], by rw [tx_of], sz_len n0 z0, sz_len n1 z1⟩
theorem rng_openz {r : Reach} {b0 : Nat} {v : Value} {d : DataW H} {p : List MemPlace} (hv : Value.okWide Try.prog w r b0 TRg v) (h : DataW.Trod enc Try.prog w base spare held TRg v d p) : ∃ r : Rng.Rg, v = rgA r ∧ r.f.length ≤ 9223372036854775807 ∧ r.t.length ≤ 9223372036854775807 := by
  obtain ⟨cs, rfl, hsz⟩ := okWide_struct Try.underlying25 hv
  obtain ⟨c0, c1, rfl⟩ : ∃ c0 c1, cs = #[c0, c1] := by
    have hs : cs.size = 2 := hsz.trans tg_cells
    obtain ⟨l⟩ := cs
    have hl : l.length = 2 := hs
    match l, hl with
    | [c0, c1], _ => exact ⟨c0, c1, rfl⟩
  obtain ⟨fuel, hf⟩ := h
  obtain ⟨r, rfl, rfl, z⟩ := rng_partsz (show DataW.trod enc Try.prog w base spare held fuel TRg [c0, c1] = some (d, _) from hf)
  exact ⟨r, rfl, z⟩
end
/-- The boxes of an effect and of a range. -/
structure Eg (w : World) (e : Ef) (g : Rng.Rg) (W : World) : Prop where
  e : W.heap[w.heap.size]? = some (eBx e)
  g : W.heap[w.heap.size + 1]? = some (rgBx g)
  bel : Below w.heap.size w W
theorem Eg.later {w W W' : World} {e : Ef} {g : Rng.Rg} (h : Eg w e g W) (hb : Below W.heap.size W W') : Eg w e g W' := ⟨blk_later h.e hb, blk_later h.g hb, h.bel.trans (hb.mono h.bel.size)⟩
theorem Eg.new (w : World) (e : Ef) (g : Rng.Rg) : Eg w e g ((w.alloc (.cells #[.int .i64 e.s, .int .i64 e.t, .int .i64 e.p] TE)).alloc (.cells #[.string (tx g.f), .string (tx g.t)] TRg)) := by
  have h1 := heap_alloc_new w (.cells #[.int .i64 e.s, .int .i64 e.t, .int .i64 e.p] TE)
  have h2 := heap_alloc_new (w.alloc (.cells #[.int .i64 e.s, .int .i64 e.t, .int .i64 e.p] TE)) (.cells #[.string (tx g.f), .string (tx g.t)] TRg)
  rw [World.size_alloc] at h2
  exact ⟨blk_later h1 (alloc_b _ _), h2, (alloc_b w _).trans ((alloc_b _ _).mono (alloc_b w _).size)⟩
theorem Eg.cells {w W : World} {e : Ef} {g : Rng.Rg} (h : Eg w e g W) : W.cell? ⟨w.heap.size + 1, 0, none⟩ = some (.string (tx g.f)) ∧ W.cell? ⟨w.heap.size + 1, 1, none⟩ = some (.string (tx g.t)) :=
  ⟨cell_of_row _ _ 0 _ _ _ h.g, cell_of_row _ _ 1 _ _ _ h.g⟩
/-- What a Take of an empty table gives back. -/
def tkE (g : Rng.Rg) : Int := if okR g then 0 else 2
theorem rshow (b : Nat) (n : Int) (g : Rng.Rg) (h1 : g.f.length ≤ 9223372036854775807) (h2 : g.t.length ≤ 9223372036854775807) (W : World) (h : Rd W b n) :
    Calls Try.prog 15 #[.pointer (some ⟨b, 0, none⟩), rgA g] W fun e w' => e = .returned (.tuple #[.slice none 0 0, .int .i64 (tkE g)]) ∧ Below W.heap.size W w' := by
  unfold tkE
  cases hr : okR g
  · exact rtake_no b n g h1 h2 hr W
  · exact rtake_ok b n g h1 h2 hr W h
theorem pshow {B b : Nat} {n : Int} {w W : World} (g : Rng.Rg) (h : Wk B w b n [] W) :
    Calls Try.prog 14 #[.pointer (some ⟨b, 0, none⟩), rgA g] W fun e W' => ∃ v, e = .returned (.tuple #[v, .int .i64 (tkE g)]) ∧ Fs W' v [] ∧ Wk B w b n [] W' ∧ (∀ k o, W.heap[k]? = some o → k ≠ b → W'.heap[k]? = some o) := by
  unfold tkE
  cases hr : okR g
  · refine (h.takeno g hr).mono ?_
    rintro e W' ⟨rfl, hb, hk⟩
    exact ⟨_, rfl, (Fw.nil 0 _).fs, hk, fun k o ho _ => (hb.block _ (Array.getElem?_eq_some_iff.1 ho).1).trans ho⟩
  · refine (h.take g hr).mono ?_
    rintro e W' ⟨v, rfl, hF, hk, hbut⟩
    refine ⟨v, rfl, hF.fs, hk, fun k o ho hne => ?_⟩
    rw [hbut.block k (Array.getElem?_eq_some_iff.1 ho).1 hne (fun e => by cases e), ho]
set_option maxHeartbeats 1000000 in
theorem sizes_law (n : Int) (e : Ef) (g : Rng.Rg) (w : World) (_ : (Lit.int .i64 n).wf = true) (_ : True) (hg : g.f.length ≤ 9223372036854775807 ∧ g.t.length ≤ 9223372036854775807) :
    Calls Try.prog 3 #[.int .i64 n, efA e, rgA g] w fun r w' => r = .returned (.bool true) ∧ Below w.heap.size w w' := by
  have G0 := Eg.new w e g
  obtain ⟨c0, c1⟩ := G0.cells
  have HW := Lib.hid works_any
  replace G0 := Lib.hid G0
  obtain ⟨hf, ht⟩ := hg
  obtain ⟨S, hS⟩ : ∃ S, wrap64 (((tx g.f).size : Int) + ((tx g.t).size : Int)) = S := ⟨_, rfl⟩
  by_cases hL : 300 < S
  · have d0 : decide (300 < S) = true := decide_eq_true hL
    clear hL hf ht
    go_enter Try.func3, Try.ntmps3
    go_wp2_with fail
    refine (HW.out _).mono ?_
    rintro r w9 ⟨rfl, hb9⟩
    go_wp2
    go_ret
    exact ⟨rfl, G0.out.bel.trans (hb9.mono G0.out.bel.size)⟩
  · have d0 : decide (300 < S) = false := decide_eq_false hL
    clear hL
    by_cases hn : 0 ≤ n ∧ n ≤ 2048
    · have hT := Lib.hid (fun b W (h : Rd W b n) => rshow b n g hf ht W h)
      have N1 := Lib.hid (fun W => Wk.new W n hn.1 hn.2)
      have N2 := Lib.hid (fun W => rnew_ok n W hn.1 hn.2)
      have N3 := Lib.hid (fun (B b rb : Nat) (w W : World) (h : Wk B w b n [] W) (hr : Rd W rb n) => shows_any e hn.1 hn.2 h hr)
      obtain ⟨n0, n1⟩ := hn
      clear hf ht
      go_enter Try.func3, Try.ntmps3
      go_wp2_with fail
      refine (N1.out _).mono ?_
      rintro r W1 ⟨rfl, K⟩
      have G1 := Lib.hid (G0.out.later K.bel)
      have hlt := K.lt
      simp only [World.size_alloc] at K hlt
      have K1 := Lib.hid K
      clear K c0 c1
      go_wp2_with fail
      refine (N2.out _).mono ?_
      rintro r W2 ⟨rfl, R, hb⟩
      have K2 := Lib.hid (K1.out.later hb)
      have R2 := Lib.hid R
      have G2 := Lib.hid (G1.out.later hb)
      obtain ⟨c0, c1⟩ := G2.out.cells
      clear R hb K1 G1
      go_wp2_with fail
      refine (pshow g K2.out).mono ?_
      rintro r W3 ⟨v3, rfl, hF, K, hkeep⟩
      obtain ⟨a3, cap3, rfl, _⟩ := id hF
      have F3 := Lib.hid hF
      have K3 := Lib.hid K
      have R3 := Lib.hid (show Rd W3 W1.heap.size n from hkeep _ _ R2.out (by omega))
      have g3 : W3.heap[w.heap.size + 1]? = some (rgBx g) := hkeep _ _ G2.out.g (by omega)
      have e3 : W3.heap[w.heap.size]? = some (eBx e) := hkeep _ _ G2.out.e (by omega)
      have B3 : Below w.heap.size w W3 := (((alloc_b w (.cells #[.int .i64 e.s, .int .i64 e.t, .int .i64 e.p] TE)).trans ((alloc_b _ (.cells #[.string (tx g.f), .string (tx g.t)] TRg)).mono (alloc_b w _).size))).trans (K3.out.bel.mono (by omega))
      have G3' : Eg w e g W3 := ⟨e3, g3, B3⟩
      have G3 := Lib.hid G3'
      clear c0 c1
      obtain ⟨c0, c1⟩ := G3'.cells
      clear hF K hkeep K2 R2 G2 g3 e3 B3 G3'
      go_wp2_with fail
      refine (hT.out _ _ R3.out).mono ?_
      rintro r W4 ⟨rfl, hb⟩
      have F4 := Lib.hid (F3.out.later hb)
      have K4 := Lib.hid (K3.out.later hb)
      have R4 := Lib.hid (R3.out.later hb)
      have G4 := Lib.hid (G3.out.later hb)
      clear c0 c1
      obtain ⟨c0, c1, c2⟩ := ef_cells G4.out.e
      clear hb F3 K3 R3 G3
      go_wp2_with fail
      refine (N3.out _ _ _ _ _ K4.out R4.out).mono ?_
      rintro r W5 ⟨rfl, hb⟩
      have F5 := Lib.hid (F4.out.later hb)
      have G5 := Lib.hid (G4.out.later hb)
      clear hb F4 K4 R4 G4 c0 c1 c2
      go_wp2_with fail
      refine (equal_any _ _ [] [] _ F5.out (Fw.nil 0 _).fs (by simp) (by simp)).mono ?_
      rintro r W6 ⟨rfl, hb⟩
      rw [show eqF [] [] = true from decide_eq_true rfl]
      have G6 := Lib.hid (G5.out.later hb)
      clear hb F5 G5
      go_wp2_with fail
      refine (HW.out _).mono ?_
      rintro r W7 ⟨rfl, hb⟩
      have G7 := Lib.hid (G6.out.later hb)
      clear hb
      go_wp2
      go_ret
      exact ⟨rfl, G7.out.bel⟩
    · have N1 := Lib.hid (fun W => new_bad n W (by omega))
      have N2 := Lib.hid (fun W => rnew_bad n W (by omega))
      clear hn hf ht
      go_enter Try.func3, Try.ntmps3
      go_wp2_with fail
      refine (N1.out _).mono ?_
      rintro r W1 ⟨rfl, rfl⟩
      go_wp2_with fail
      refine (N2.out _).mono ?_
      rintro r W2 ⟨rfl, rfl⟩
      go_wp2_with fail
      refine (HW.out _).mono ?_
      rintro r w9 ⟨rfl, hb9⟩
      go_wp2
      go_ret
      exact ⟨rfl, G0.out.bel.trans (hb9.mono G0.out.bel.size)⟩
end Go.Proofs.Ytgcpboailblhlaa.Ded
