/- Tables as they are walked along; works. -/
import Derived.Test.YtbgjiokocjnjhaaD13
namespace Go.Proofs.Ytbgjiokocjnjhaa.Ded
open Go.RowKit Go.Lib Go.Shelf
open Rng (tx nameOk hasR okR)
open Eff (TE effOk)
set_option linter.unusedVariables false
set_option linter.unusedSimpArgs false
set_option maxRecDepth 100000

/-- A table on the way: what stood below B is as it was. -/
structure Wk (B : Nat) (w : World) (b : Nat) (n : Int) (L : List En) (W : World) : Prop where
  ex : ∃ v, Dx B W b v n L
  bel : Below B w W
variable {B : Nat} {w W : World} {b : Nat} {n : Int} {L : List En}
theorem Wk.le (h : Wk B w b n L W) : B ≤ W.heap.size := by
  obtain ⟨v, hd⟩ := h.ex
  have := hd.lt
  have := hd.hb
  omega
theorem Wk.later {W' : World} (h : Wk B w b n L W) (hb : Below W.heap.size W W') : Wk B w b n L W' := by
  have hle := h.le
  obtain ⟨v, hd⟩ := h.ex
  exact ⟨⟨v, hd.later hb⟩, h.bel.trans (hb.mono hle)⟩
theorem Wk.new (w : World) (n : Int) (h0 : 0 ≤ n) (h1 : n ≤ 2048) : Calls Try.prog 12 #[.int .i64 n] w fun e W => e = .returned (.tuple #[.pointer (some ⟨w.heap.size, 0, none⟩), .int .i64 0]) ∧ Wk w.heap.size w w.heap.size n [] W := by
  refine (new_ok n w h0 h1).mono ?_
  rintro e W ⟨b, rfl, rfl, hd, hb⟩
  exact ⟨rfl, ⟨_, hd⟩, hb⟩
/-- What is no row of entries stays. -/
def Fr (W W' : World) (b : Nat) : Prop := ∀ k o, W.heap[k]? = some o → k ≠ b → (∀ cur, o ≠ .cells cur TN (0, 0)) → W'.heap[k]? = some o
theorem Wk.put (h : Wk B w b n L W) (x : En) (hx : OkN x) (hg : getL L x.ef = none) (hl : (L.length : Int) < n) :
    Calls Try.prog 19 #[.pointer (some ⟨b, 0, none⟩), efA x.ef, .string (tx x.ky), rpA x] W fun e W' => e = .returned (.int .i64 0) ∧ Wk B w b n (insL L x) W' ∧ Fr W W' b := by
  have hle := h.le
  obtain ⟨v, hd⟩ := h.ex
  refine (put_ok x hd hle hx hg hl).mono ?_
  rintro e W' ⟨v', rfl, hd', hbut, _⟩
  refine ⟨rfl, ⟨⟨v', hd'⟩, hbut.below h.bel hd.lt hd.hb (fun j hj => (hd.row.lt j hj).1)⟩, fun k o ho hkb hne => ?_⟩
  rw [hbut.block k (Array.getElem?_eq_some_iff.1 ho).1 hkb (fun e => ?_), ho]
  obtain ⟨cur, hc⟩ := hd.row.cells k o e ho
  exact hne cur hc
theorem Wk.bad (h : Wk B w b n L W) (x : En) (hx : ¬ OkN x) :
    Calls Try.prog 19 #[.pointer (some ⟨b, 0, none⟩), efA x.ef, .string (tx x.ky), rpA x] W fun e W' => e = .returned (.int .i64 2) ∧ Wk B w b n L W' := by
  obtain ⟨v, hd⟩ := h.ex
  exact (put_bad x hd hx).mono fun e W' ⟨h1, h2⟩ => ⟨h1, h.later h2⟩
theorem Wk.have (h : Wk B w b n L W) (x y : En) (hx : OkN x) (hg : getL L x.ef = some y) :
    Calls Try.prog 19 #[.pointer (some ⟨b, 0, none⟩), efA x.ef, .string (tx x.ky), rpA x] W fun e W' => e = .returned (.int .i64 6) ∧ Below W.heap.size W W' ∧ Wk B w b n L W' := by
  obtain ⟨v, hd⟩ := h.ex
  exact (put_have x y hd hx hg).mono fun e W' ⟨h1, h2⟩ => ⟨h1, h2, h.later h2⟩
theorem Wk.full (h : Wk B w b n L W) (x : En) (hx : OkN x) (hg : getL L x.ef = none) (hl : (L.length : Int) = n) :
    Calls Try.prog 19 #[.pointer (some ⟨b, 0, none⟩), efA x.ef, .string (tx x.ky), rpA x] W fun e W' => e = .returned (.int .i64 4) ∧ Wk B w b n L W' := by
  obtain ⟨v, hd⟩ := h.ex
  exact (put_full x hd hx hg hl).mono fun e W' ⟨h1, h2⟩ => ⟨h1, h.later h2⟩
theorem Wk.get (h : Wk B w b n L W) (e : Ef) :
    Calls Try.prog 27 #[.pointer (some ⟨b, 0, none⟩), efA e] W fun r W' => r = .returned (.tuple #[rpA (orZ L e), .bool (hasB L e)]) ∧ Below W.heap.size W W' ∧ Wk B w b n L W' := by
  obtain ⟨v, hd⟩ := h.ex
  exact (get_any e hd).mono fun r W' ⟨h1, h2⟩ => ⟨h1, h2, h.later h2⟩
theorem Wk.key (h : Wk B w b n L W) (e : Ef) :
    Calls Try.prog 28 #[.pointer (some ⟨b, 0, none⟩), efA e] W fun r W' => r = .returned (.tuple #[.string (tx (orZ L e).ky), .bool (hasB L e)]) ∧ Below W.heap.size W W' ∧ Wk B w b n L W' := by
  obtain ⟨v, hd⟩ := h.ex
  exact (key_any e hd).mono fun r W' ⟨h1, h2⟩ => ⟨h1, h2, h.later h2⟩
theorem Wk.len (h : Wk B w b n L W) :
    Calls Try.prog 29 #[.pointer (some ⟨b, 0, none⟩)] W fun r W' => r = .returned (.int .i64 L.length) ∧ Below W.heap.size W W' ∧ Wk B w b n L W' := by
  obtain ⟨v, hd⟩ := h.ex
  exact (len_any hd).mono fun r W' ⟨h1, h2⟩ => ⟨h1, h2, h.later h2⟩
theorem Wk.room (h : Wk B w b n L W) :
    Calls Try.prog 31 #[.pointer (some ⟨b, 0, none⟩)] W fun r W' => r = .returned (.int .i64 (n - L.length)) ∧ Below W.heap.size W W' ∧ Wk B w b n L W' := by
  obtain ⟨v, hd⟩ := h.ex
  exact (room_any hd).mono fun r W' ⟨h1, h2⟩ => ⟨h1, h2, h.later h2⟩
theorem Wk.all (h : Wk B w b n L W) :
    Calls Try.prog 24 #[.pointer (some ⟨b, 0, none⟩)] W fun r W' => ∃ v', r = .returned v' ∧ Fw W.heap.size (effs L) v' W' ∧ Below W.heap.size W W' ∧ Wk B w b n L W' := by
  obtain ⟨v, hd⟩ := h.ex
  exact (all_any hd).mono fun r W' ⟨v', h1, h2, h3⟩ => ⟨v', h1, h2, h3, h.later h3⟩
theorem Wk.take (h : Wk B w b n L W) (r : Rng.Rg) (hr : okR r = true) :
    Calls Try.prog 14 #[.pointer (some ⟨b, 0, none⟩), rgA r] W fun e W' => ∃ v1, e = .returned (.tuple #[v1, .int .i64 0]) ∧ Fw W.heap.size (effs (ins r L)) v1 W' ∧ Wk B w b n (outs r L) W' ∧ But W W' b (.slice none 0 0) := by
  have hle := h.le
  obtain ⟨v, hd⟩ := h.ex
  refine (take_any r hd hle hr).mono ?_
  rintro e W' ⟨v1, v', rfl, hF, hd', hbut, h1, h2⟩
  exact ⟨v1, rfl, hF, ⟨⟨v', hd'⟩, hbut.below h.bel hd.lt hd.hb (fun j hj => by cases hj)⟩, hbut⟩
theorem Wk.takeno (h : Wk B w b n L W) (r : Rng.Rg) (hr : okR r = false) :
    Calls Try.prog 14 #[.pointer (some ⟨b, 0, none⟩), rgA r] W fun e W' => e = .returned (.tuple #[.slice none 0 0, .int .i64 2]) ∧ Below W.heap.size W W' ∧ Wk B w b n L W' := by
  obtain ⟨v, hd⟩ := h.ex
  exact (take_bad r hd hr).mono fun e W' ⟨h1, h2⟩ => ⟨h1, h2, h.later h2⟩
theorem Wk.copy (h : Wk B w b n L W) :
    Calls Try.prog 21 #[.pointer (some ⟨b, 0, none⟩)] W fun r W' => ∃ b', r = .returned (.pointer (some ⟨b', 0, none⟩)) ∧ Wk W.heap.size W b' n L W' ∧ Below W.heap.size W W' ∧ Wk B w b n L W' := by
  obtain ⟨v, hd⟩ := h.ex
  refine (copy_any hd).mono ?_
  rintro r W' ⟨b', v', rfl, _, hd', hb⟩
  exact ⟨b', rfl, ⟨⟨v', hd'⟩, hb⟩, hb, h.later hb⟩
theorem Wk.lt (h : Wk B w b n L W) : b < W.heap.size := by
  obtain ⟨v, hd⟩ := h.ex
  exact hd.lt
theorem But.cell {W W' : World} {b : Nat} (h : But W W' b (.slice none 0 0)) {k o : Nat} {u : Value} (hu : W.cell? ⟨k, o, none⟩ = some u) (hk : k ≠ b) : W'.cell? ⟨k, o, none⟩ = some u :=
  (World.cell?_of_block (h.block k (World.block_lt_of_cell? W _ hu) hk (fun e => by cases e))).trans hu
theorem effect_any (x y z : Int) (w : World) : Calls Try.prog 36 #[.int .i64 x, .int .i64 y, .int .i64 z] w fun e w' => e = .returned (efA ⟨x, y, z⟩) ∧ Below w.heap.size w w' := by
  go_enter Try.func36, Try.ntmps36
  go_wp2
  have hb : Below w.heap.size w (w.alloc (.cells #[.int .i64 x, .int .i64 y, .int .i64 z] TE)) := alloc_b _ _
  exact bodyPost_ret (v := efA ⟨x, y, z⟩) (by simp [results, Try.results36, go_sem]) rfl ⟨rfl, hb⟩
/-- A list of effects that was built. -/
theorem fs_built (w : World) (l : List Ef) (g : Nat) (c : Nat) (h : w.heap[g]? = some (.cells (flatE l).toArray TE (0, 0))) : Fs w (.slice (some ⟨g, 0, none⟩) l.length c) l := by
  refine ⟨_, c, rfl, fun _ => ⟨g, 0, rfl, fun i x hr => ?_⟩⟩
  have H : ∀ j, j < 3 → w.cell? ⟨g, 0 + i * 3 + j, none⟩ = (fc x)[j]? := fun j hj => by
    rw [Nat.zero_add, cell_of_row w g _ _ TE _ h, ← flatE_get hr hj]
    simp
  exact ⟨H 0 (by omega), H 1 (by omega), H 2 (by omega)⟩
abbrev x1 : En := ⟨0, 5, [], ⟨1, 0, 1⟩, [98]⟩
abbrev x2 : En := ⟨7, 0, [], ⟨1, 1, 1⟩, [100]⟩
abbrev x3 : En := ⟨0, 0, [], ⟨1, 0, 2⟩, [98]⟩
theorem ok1 : OkN x1 := ⟨by decide, by decide, by decide⟩
theorem ok2 : OkN x2 := ⟨by decide, by decide, by decide⟩
theorem ok3 : OkN x3 := ⟨by decide, by decide, by decide⟩
abbrev rac : Rng.Rg := ⟨[97], [99]⟩
theorem rac_ok : okR rac = true := by decide
theorem l1 : insL [] x1 = [x1] := by decide
theorem l2 : insL [x1] x2 = [x1, x2] := by decide
theorem l3 : insL [x1, x2] x3 = [x1, x3, x2] := by decide
theorem l4 : ins rac [x1, x3, x2] = [x1, x3] := by decide
theorem l5 : outs rac [x1, x3, x2] = [x2] := by decide
end Go.Proofs.Ytbgjiokocjnjhaa.Ded
