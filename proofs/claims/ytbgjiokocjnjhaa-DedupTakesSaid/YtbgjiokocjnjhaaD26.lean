/- DedupTakes: plain facts on what is taken and what stays, and what is known of the world behind Take. -/
import Derived.Test.YtbgjiokocjnjhaaD25
namespace Go.Proofs.Ytbgjiokocjnjhaa.Ded
open Go.RowKit Go.Lib Go.Shelf
open Rng (tx tx_of okR hasR bl nameOk)
open Eff (TE effOk)
set_option linter.unusedVariables false
set_option linter.unusedSimpArgs false
set_option maxRecDepth 100000
theorem in_has (r : Rng.Rg) (k : List UInt8) (h1 : okR r = true) (h2 : nameOk k = true) : hasR r k = inV r k := by
  have hk : k ≠ [] := by rintro rfl; exact absurd h2 (by decide)
  have e1 : (bl r.f k || r.f == k) = !bl k r.f := by
    have a := Rng.num_bl (max r.f.length k.length) r.f k (by omega) (by omega)
    have b := (Rng.num_bl (max r.f.length k.length) k r.f (by omega) (by omega)).1
    rw [a.1, b]
    by_cases c : r.f = k
    · have := a.2.1 c
      simp [c]
    · have h4 := fun d => c (a.2.2 d)
      have e : (r.f == k) = false := by simpa using c
      rw [e]
      by_cases h3 : Rng.num (max r.f.length k.length) r.f < Rng.num (max r.f.length k.length) k
      · rw [decide_eq_true h3, decide_eq_false (by omega)]
        rfl
      · rw [decide_eq_false h3, decide_eq_true (by have a := (Rng.num_bl (max r.f.length k.length) r.f k (by omega) (by omega)).2; have h5 : ¬ Rng.num (max r.f.length k.length) r.f = Rng.num (max r.f.length k.length) k := fun h => c (a.2 h); omega)]
        rfl
  have e2 : decide (Rng.cmpE 1 k r.t < 0) = (decide (r.t = []) || bl k r.t) := by
    unfold Rng.cmpE Rng.cmpS
    by_cases c : k = r.t
    · rw [if_pos c]
      have : r.t ≠ [] := c ▸ hk
      simp [← c, hk, Rng.bl_irrefl]
    · rw [if_neg c, if_neg hk]
      by_cases d : r.t = []
      · simp [d]
      · rw [if_neg d]
        cases bl k r.t <;> simp [d, c]
  unfold hasR inV
  rw [h1, h2, e1, e2]
  rfl
/-- A letter. -/
abbrev lt8 (i : Nat) : UInt8 := UInt8.ofNat (97 + i)
theorem one_ok : ∀ i : Nat, i < 26 → okR ⟨[lt8 i], []⟩ = true := by decide
theorem two_ok : ∀ i : Nat, i < 26 → ∀ j : Nat, j < 26 → i < j → okR ⟨[lt8 i], [lt8 j]⟩ = true := by decide
/-- What a list holds of a sorted one. -/
theorem ins_mem {r : Rng.Rg} {L : List En} {x : En} : x ∈ ins r L ↔ x ∈ L ∧ hasR r x.ky = true := List.mem_filter
theorem outs_mem {r : Rng.Rg} {L : List En} {x : En} : x ∈ outs r L ↔ x ∈ L ∧ hasR r x.ky = false := by
  rw [List.mem_filter]
  simp
theorem ins_srt {r : Rng.Rg} {L : List En} (h : SrtL L) : SrtL (ins r L) := h.filter _
theorem outs_srt {r : Rng.Rg} {L : List En} (h : SrtL L) : SrtL (outs r L) := h.filter _
theorem srt_one {L : List En} (h : SrtL L) {x y : En} (hx : x ∈ L) (hy : y ∈ L) (e : x.ef = y.ef) : x = y := by
  have a := (get_iff h).2 ⟨hx, e⟩
  have b := (get_iff h).2 ⟨hy, rfl⟩
  rw [a] at b
  exact Option.some.inj b
theorem outs_none {r : Rng.Rg} {L : List En} (h : SrtL L) {x : En} (hx : x ∈ ins r L) : getL (outs r L) x.ef = none := by
  rw [get_none]
  intro y hy e
  obtain ⟨h1, h2⟩ := ins_mem.1 hx
  obtain ⟨h3, h4⟩ := outs_mem.1 hy
  rw [srt_one h h3 h1 e, h2] at h4
  cases h4
theorem outs_some {r : Rng.Rg} {L : List En} (h : SrtL L) {x : En} (hx : x ∈ outs r L) : getL (outs r L) x.ef = some x := (get_iff (outs_srt h)).2 ⟨hx, rfl⟩
theorem ins_outs_len (r : Rng.Rg) (L : List En) : (ins r L).length + (outs r L).length = L.length := by
  induction L with
  | nil => rfl
  | cons x l ih =>
    simp only [ins, outs, List.filter_cons] at ih ⊢
    cases hasR r x.ky <;> simp <;> omega
theorem ins_outs (r : Rng.Rg) (L : List En) : ins r (outs r L) = [] := by
  rw [List.filter_eq_nil_iff]
  intro x hx
  rw [(outs_mem.1 hx).2]
  decide
theorem outs_outs (r : Rng.Rg) (L : List En) : outs r (outs r L) = outs r L := by
  rw [List.filter_eq_self]
  intro x hx
  rw [(outs_mem.1 hx).2]
  rfl
theorem srt_ord {L : List En} (h : SrtL L) {k : Nat} {x y : En} (hy : L[k]? = some y) (hx : L[k + 1]? = some x) : ordF y.ef x.ef < 0 := by
  have h1 := (List.getElem?_eq_some_iff.1 hx).1
  have h2 := srt_at h h1 (Nat.lt_succ_self k)
  rw [List.getElem?_eq_getElem h1] at hx
  rw [List.getElem?_eq_getElem (by omega)] at hy
  simp only [Option.some.injEq] at hx hy
  rw [hx, hy] at h2
  exact ord_neg.2 h2
/-- What is known of the list and the map, whatever the world is. -/
structure Pl (L : List En) (M : List (Ef × Mm)) : Prop where
  srt : SrtL L
  len : L.length = M.length
  mem : ∀ x ∈ L, ∃ m, getP M x.ef = some m ∧ enM m = x ∧ MmOk m ∧ OkN x ∧ WfE x.ef
theorem Fl.pl {B : Nat} {w W : World} {b mb : Nat} {n : Int} {L : List En} {M : List (Ef × Mm)} (h : Fl B w b n mb L M W) : Pl L M := by
  obtain ⟨v, hd⟩ := h.k.ex
  refine ⟨hd.srt, h.len, fun x hx => ?_⟩
  obtain ⟨k, hk⟩ := List.mem_iff_getElem?.1 hx
  obtain ⟨m, h1, h2, h3, h4, h5, _⟩ := h.memo hk
  exact ⟨m, h1, h2, h3, h4, h5⟩
/-- The world behind Take: the rest of the table, the map, what was taken, the box of the range. -/
structure Tk (w : World) (mb : Nat) (O : List En) (M : List (Ef × Mm)) (v1 : Value) (l : List Ef) (q : Nat) (r : Rng.Rg) (W : World) : Prop where
  k : Wk w.heap.size w w.heap.size 200 O W
  mp : MpIs W mb M
  a : Fs W v1 l
  rg : W.heap[q]? = some (rgBx r)
theorem Tk.later {w : World} {mb : Nat} {O : List En} {M : List (Ef × Mm)} {v1 : Value} {l : List Ef} {q : Nat} {r : Rng.Rg} {W W' : World} (h : Tk w mb O M v1 l q r W) (hb : Below W.heap.size W W') : Tk w mb O M v1 l q r W' :=
  ⟨h.k.later hb, h.mp.later hb, h.a.later hb, (hb.block _ (Array.getElem?_eq_some_iff.1 h.rg).1).trans h.rg⟩
/-- Take brings it about. -/
theorem take_tk {w V : World} {mb q : Nat} {L : List En} {M : List (Ef × Mm)} {r : Rng.Rg} (h : Fl w.heap.size w w.heap.size 200 mb L M V) (hr : okR r = true) (hq : V.heap[q]? = some (rgBx r)) (hqb : q ≠ w.heap.size) :
    Calls Try.prog 14 #[.pointer (some ⟨w.heap.size, 0, none⟩), rgA r] V fun e W' => ∃ a c, e = .returned (.tuple #[.slice a (ins r L).length c, .int .i64 0]) ∧ Tk w mb (outs r L) M (.slice a (ins r L).length c) (effs (ins r L)) q r W' := by
  refine (h.k.take r hr).mono ?_
  rintro e W' ⟨v1, rfl, hF, hk, hb⟩
  obtain ⟨a, c, e⟩ := hF.form
  rw [List.length_map] at e
  subst e
  exact ⟨a, c, rfl, hk, h.mp.kept (hb.block _ h.mp.lt h.ne (fun e => by cases e)), hF.fs, (hb.block _ (Array.getElem?_eq_some_iff.1 hq).1 hqb (fun e => by cases e)).trans hq⟩
end Go.Proofs.Ytbgjiokocjnjhaa.Ded
