/- Get, Key, Len, Room. -/
import Derived.Test.YtbgjiokocjnjhaaD07
namespace Go.Proofs.Ytbgjiokocjnjhaa.Ded
open Go.RowKit Go.Lib Go.Shelf
open Rng (tx nameOk)
open Eff (TE)
set_option linter.unusedVariables false
set_option linter.unusedSimpArgs false
set_option maxRecDepth 100000
variable {base : Nat} {w : World} {b : Nat} {v : Value} {n : Int} {L : List En}

structure GAt (w0 : World) (e : Ef) (W : World) : Prop where
  box : W.heap[w0.heap.size]? = some (eBx e)
  res : W.heap[w0.heap.size + 1]? = some (.cells #[.int .i64 0, .int .i64 0, .string ⟨#[]⟩] TRp (0, 0))
  bel : Below w0.heap.size w0 W
theorem GAt.later {w0 W W' : World} {e : Ef} (h : GAt w0 e W) (hb : Below W.heap.size W W') : GAt w0 e W' :=
  ⟨(hb.block _ (Array.getElem?_eq_some_iff.1 h.box).1).trans h.box, (hb.block _ (Array.getElem?_eq_some_iff.1 h.res).1).trans h.res, h.bel.trans (hb.mono h.bel.size)⟩
theorem GAt.new (w : World) (e : Ef) : GAt w e ((w.alloc (.cells #[.int .i64 e.s, .int .i64 e.t, .int .i64 e.p] TE)).alloc (.cells #[.int .i64 0, .int .i64 0, .string ⟨#[]⟩] TRp)) := by
  have hb : Below w.heap.size w ((w.alloc (.cells #[.int .i64 e.s, .int .i64 e.t, .int .i64 e.p] TE)).alloc (.cells #[.int .i64 0, .int .i64 0, .string ⟨#[]⟩] TRp)) := (alloc_b _ _).alloc (by simp) _
  have h2 := heap_alloc_new (w.alloc (.cells #[.int .i64 e.s, .int .i64 e.t, .int .i64 e.p] TE)) (.cells #[.int .i64 0, .int .i64 0, .string ⟨#[]⟩] TRp)
  rw [World.size_alloc] at h2
  refine ⟨?_, h2, hb⟩
  rw [Below.heap_alloc _ _ _ (by simp)]
  exact heap_alloc_new _ _
abbrev rpA (x : En) : Value := .agg #[.int .i64 x.er, .int .i64 x.nm, .string (tx x.da)]
def Got (x : En) (h : Bool) (w : World) (r : Ending) (w' : World) : Prop := r = .returned (.tuple #[rpA x, .bool h]) ∧ Below w.heap.size w w'
def Keyd (x : En) (h : Bool) (w : World) (r : Ending) (w' : World) : Prop := r = .returned (.tuple #[.string (tx x.ky), .bool h]) ∧ Below w.heap.size w w'
theorem get_of (p : Value) (e : Ef) (x : En) (m : Bool) (w : World) (HF : ∀ W, Below w.heap.size w W → Calls Try.prog 62 #[p, efA e] W (Fnd x m W)) :
    Calls Try.prog 27 #[p, efA e] w (Got x m w) := by
  have G0 := GAt.new w e
  have H0 := Lib.hid (HF _ G0.bel)
  replace G0 := Lib.hid G0
  clear HF
  go_enter Try.func27, Try.ntmps27
  go_wp2_with (first
    | (go_at_call 62; refine H0.out.mono ?_; rintro r w2 ⟨rfl, hbel⟩; have G1 := G0.out.later hbel; clear hbel; have G2 := Lib.hid (G1.later (alloc_b _ (.cells (ec x).toArray TN))); clear G1)
    | (refine store_bx rfl TRp _ _ rfl (w.heap.size + 1) #[.int .i64 x.er, .int .i64 x.nm, .string (tx x.da)] _ rfl rfl G2.out.res size_TRp rfl (by simp [Value.oneCell']) ?_; intro w3 hs3; have hB := hs3.below G2.out.bel (by omega)))
  have d0 := cell_of_row w3 _ 0 _ TRp _ hs3.blk
  have d1 := cell_of_row w3 _ 1 _ TRp _ hs3.blk
  have d2 := cell_of_row w3 _ 2 _ TRp _ hs3.blk
  simp only [List.getElem?_toArray, List.getElem?_cons_zero, List.getElem?_cons_succ] at d0 d1 d2
  exact bodyPost_ret (v := .tuple #[rpA x, .bool m]) (by simp [results, Try.results27, go_sem, d0, d1, d2]) rfl ⟨rfl, hB⟩
theorem key_of (p : Value) (e : Ef) (x : En) (m : Bool) (w : World) (HF : ∀ W, Below w.heap.size w W → Calls Try.prog 62 #[p, efA e] W (Fnd x m W)) :
    Calls Try.prog 28 #[p, efA e] w (Keyd x m w) := by
  have hb0 : Below w.heap.size w (w.alloc (.cells #[.int .i64 e.s, .int .i64 e.t, .int .i64 e.p] TE)) := alloc_b _ _
  have H0 := Lib.hid (HF _ hb0)
  have HB := Lib.hid hb0
  clear HF hb0
  go_enter Try.func28, Try.ntmps28
  go_wp2_with (first
    | (go_at_call 62; refine H0.out.mono ?_; rintro r w2 ⟨rfl, hbel⟩; have G1 := Lib.hid ((HB.out.trans (hbel.mono HB.out.size)).alloc (by have := hbel.size; have := HB.out.size; omega) (.cells (ec x).toArray TN)); clear hbel))
  go_ret2
  exact ⟨rfl, G1.out⟩
theorem get_nv {p : Value} (e : Ef) (h : Nv p w) : Calls Try.prog 27 #[p, efA e] w (Got zEn false w) := get_of p e _ _ w fun W hW => find_nv p e W (h.later hW)
theorem key_nv {p : Value} (e : Ef) (h : Nv p w) : Calls Try.prog 28 #[p, efA e] w (Keyd zEn false w) := key_of p e _ _ w fun W hW => find_nv p e W (h.later hW)
theorem get_no (e : Ef) (h : Dx base w b v n L) (hg : getL L e = none) : Calls Try.prog 27 #[.pointer (some ⟨b, 0, none⟩), efA e] w (Got zEn false w) := get_of _ e _ _ w fun W hW => find_no e (h.later hW) hg
theorem key_no (e : Ef) (h : Dx base w b v n L) (hg : getL L e = none) : Calls Try.prog 28 #[.pointer (some ⟨b, 0, none⟩), efA e] w (Keyd zEn false w) := key_of _ e _ _ w fun W hW => find_no e (h.later hW) hg
theorem get_yes (e : Ef) (x : En) (h : Dx base w b v n L) (hg : getL L e = some x) : Calls Try.prog 27 #[.pointer (some ⟨b, 0, none⟩), efA e] w (Got x true w) := get_of _ e _ _ w fun W hW => find_yes e x (h.later hW) hg
theorem key_yes (e : Ef) (x : En) (h : Dx base w b v n L) (hg : getL L e = some x) : Calls Try.prog 28 #[.pointer (some ⟨b, 0, none⟩), efA e] w (Keyd x true w) := key_of _ e _ _ w fun W hW => find_yes e x (h.later hW) hg
/-- What is there of an effect. -/
def orZ (L : List En) (e : Ef) : En := (getL L e).getD zEn
theorem get_any (e : Ef) (h : Dx base w b v n L) : Calls Try.prog 27 #[.pointer (some ⟨b, 0, none⟩), efA e] w (Got (orZ L e) (hasB L e) w) := by
  unfold orZ hasB
  cases hg : getL L e with
  | none => exact get_no e h hg
  | some x => exact get_yes e x h hg
theorem key_any (e : Ef) (h : Dx base w b v n L) : Calls Try.prog 28 #[.pointer (some ⟨b, 0, none⟩), efA e] w (Keyd (orZ L e) (hasB L e) w) := by
  unfold orZ hasB
  cases hg : getL L e with
  | none => exact key_no e h hg
  | some x => exact key_yes e x h hg
theorem len_nv {p : Value} (h : Nv p w) : Calls Try.prog 29 #[p] w fun r w' => r = .returned (.int .i64 0) ∧ w = w' := by
  have HV := Lib.hid h.valid
  clear h
  go_enter Try.func29, Try.ntmps29
  go_wp2_with (go_at_call 37; refine HV.out.mono ?_; rintro r w2 ⟨rfl, rfl⟩)
  go_ret
  exact ⟨rfl, rfl⟩
theorem len_any (h : Dx base w b v n L) : Calls Try.prog 29 #[.pointer (some ⟨b, 0, none⟩)] w fun r w' => r = .returned (.int .i64 L.length) ∧ Below w.heap.size w w' := by
  have HV := Lib.hid h.valid
  obtain ⟨c0, c1, c2⟩ := h.cells
  obtain ⟨a, c, rfl⟩ := h.row.form
  have hB : Hid (∀ m, Below w.heap.size w (w.drewN m)) := Lib.hid fun m => ⟨rfl, rfl, rfl, Nat.le_refl _, fun _ _ => rfl⟩
  clear h
  go_enter Try.func29, Try.ntmps29
  go_wp2_with (go_at_call 37; refine HV.out.mono ?_; rintro r w2 ⟨rfl, rfl⟩)
  go_ret
  exact ⟨rfl, hB.out 0⟩
theorem room_nv {p : Value} (h : Nv p w) : Calls Try.prog 31 #[p] w fun r w' => r = .returned (.int .i64 0) ∧ Below w.heap.size w w' := by
  have HV := Lib.hid h.valid
  clear h
  go_enter Try.func31, Try.ntmps31
  go_wp2_with (go_at_call 37; refine HV.out.mono ?_; rintro r w2 ⟨rfl, rfl⟩)
  go_ret
  exact ⟨rfl, Below.refl _ _⟩
theorem room_any (h : Dx base w b v n L) : Calls Try.prog 31 #[.pointer (some ⟨b, 0, none⟩)] w fun r w' => r = .returned (.int .i64 (n - L.length)) ∧ Below w.heap.size w w' := by
  have HV := Lib.hid h.valid
  obtain ⟨c0, c1, c2⟩ := h.cells
  obtain ⟨a, c, rfl⟩ := h.row.form
  have hB : Hid (∀ m, Below w.heap.size w (w.drewN m)) := Lib.hid fun m => ⟨rfl, rfl, rfl, Nat.le_refl _, fun _ _ => rfl⟩
  have hl := h.len
  have hm := h.max
  have hw : IntKind.i64.wrap (n - (L.length : Int)) = n - (L.length : Int) := by rw [IntKind.wrap_i64]; omega
  clear h
  go_enter Try.func31, Try.ntmps31
  go_wp2_with (go_at_call 37; refine HV.out.mono ?_; rintro r w2 ⟨rfl, rfl⟩)
  go_quiet (fail)
  go_wp2
  go_ret
  exact ⟨rfl, hB.out _⟩
end Go.Proofs.Ytbgjiokocjnjhaa.Ded
