/- Three stores apart from each other; a row of keys of the call's own. -/
import Derived.Test.YtiahjacjpakkdaaS30
namespace Go.Proofs.Ytiahjacjpakkdaa.Sto
open Go.RowKit Go.Lib
open Cnt (Ct cA OkC quietB appC)
open Rng (tx tx_of tx_size nameOk bl)
set_option linter.unusedVariables false
set_option linter.unusedSimpArgs false
set_option maxRecDepth 20000

/-- Three stores of the call's own that lie apart. -/
structure Kq3 (w : World) (sb b : Nat) (M : List En) (sb1 b1 : Nat) (N : List En) (sb2 b2 : Nat) (P : List En) (W : World) : Prop where
  s : Sw w W sb b M
  t : Sw w W sb1 b1 N
  u : Sw w W sb2 b2 P
  n1 : b ≠ b1
  n2 : b ≠ b2
  n3 : b1 ≠ b2
section
variable {w W W' : World} {sb b sb1 b1 sb2 b2 : Nat} {M N N' P : List En}
theorem Kq3.later (h : Kq3 w sb b M sb1 b1 N sb2 b2 P W) (hb : Below W.heap.size W W') : Kq3 w sb b M sb1 b1 N sb2 b2 P W' := ⟨h.s.later hb, h.t.later hb, h.u.later hb, h.n1, h.n2, h.n3⟩
theorem Kq3.swap (h : Kq3 w sb b M sb1 b1 N sb2 b2 P W) : Kq3 w sb b M sb2 b2 P sb1 b1 N W := ⟨h.s, h.u, h.t, h.n2, h.n1, Ne.symm h.n3⟩
theorem Kq3.step (h : Kq3 w sb b M sb1 b1 N sb2 b2 P W) (hx : Sx W' sb1 b1 N') (hg : W.grownBy W' (some b1)) : Kq3 w sb b M sb1 b1 N' sb2 b2 P W' :=
  ⟨h.s.other h.t h.n1 hg, h.t.step hx hg, h.u.other h.t (Ne.symm h.n3) hg, h.n1, h.n2, h.n3⟩
theorem Kq3.apT (h : Kq3 w sb b M sb1 b1 N sb2 b2 P W) (k : List UInt8) (ph n : Int) (hk : k.length ≤ maxLen) :
    Calls Try.prog 13 #[.pointer (some ⟨sb1, 0, none⟩), .string (tx k), .int .i64 ph, .int .i64 n] W fun e W' => e = .returned (.tuple #[.int .i64 (apR N k ph n).1, .int .i64 (apR N k ph n).2.1]) ∧ Kq3 w sb b M sb1 b1 (apR N k ph n).2.2 sb2 b2 P W' :=
  (ap_any k ph n W h.t.sx hk).mono fun e W' ⟨he, hx, hg⟩ => ⟨he, h.step hx hg⟩
theorem Kq3.putT (h : Kq3 w sb b M sb1 b1 N sb2 b2 P W) (k : List UInt8) (v u d l g : Int) :
    Calls Try.prog 16 #[.pointer (some ⟨sb1, 0, none⟩), .string (tx k), cA v u d l g] W fun e W' => e = .returned (.int .i64 (putE N k ⟨v, u, d, l, g⟩)) ∧ Kq3 w sb b M sb1 b1 (putS N k ⟨v, u, d, l, g⟩) sb2 b2 P W' :=
  (put_any k v u d l g W h.t.sx).mono fun e W' ⟨he, hx, hg⟩ => ⟨he, h.step hx hg⟩
theorem Kq3.remT (h : Kq3 w sb b M sb1 b1 N sb2 b2 P W) (k : List UInt8) (hk : k.length ≤ maxLen) :
    Calls Try.prog 17 #[.pointer (some ⟨sb1, 0, none⟩), .string (tx k)] W fun e W' => e = .returned (.int .i64 (if (getM N k).isSome then 0 else 5)) ∧ Kq3 w sb b M sb1 b1 (remM N k) sb2 b2 P W' :=
  (rem_any k W h.t.sx hk).mono fun e W' ⟨he, hx, hg⟩ => ⟨he, h.step hx hg⟩
/-- A row of texts of the call's own that lies apart from the stores. -/
structure Ro (w : World) (sb b sb1 b1 sb2 b2 g n : Nat) (W : World) : Prop where
  row : ∃ cs, W.heap[g]? = some (.cells cs TS (0, 0)) ∧ n ≤ cs.size
  ge : w.heap.size ≤ g
  d0 : g ≠ sb ∧ g ≠ b
  d1 : g ≠ sb1 ∧ g ≠ b1
  d2 : g ≠ sb2 ∧ g ≠ b2
variable {g n : Nat}
theorem Ro.cell (h : Ro w sb b sb1 b1 sb2 b2 g n W) (k : Nat) (hk : k < n) : (∃ v, W.cell? ⟨g, k, none⟩ = some v) ∧ W.frozen? ⟨g, k, none⟩ = false := by
  obtain ⟨cs, hc, hn⟩ := h.row
  refine ⟨⟨cs[k]'(by omega), ?_⟩, frozen_of_row W g k cs TS hc⟩
  rw [cell_of_row W g k cs TS _ hc]
  exact Array.getElem?_eq_getElem (by omega)
theorem set_grown (W : World) (g k : Nat) (v : Value) : W.grownBy (W.setCell ⟨g, k, none⟩ v) (some g) :=
  ⟨rfl, rfl, rfl, by simp [World.setCell], fun j hj hne => Below.heap_setCell W ⟨g, k, none⟩ v j (fun e => hne (by rw [e]))⟩
theorem Ro.set (h : Ro w sb b sb1 b1 sb2 b2 g n W) (k : Nat) (v : Value) : Ro w sb b sb1 b1 sb2 b2 g n (W.setCell ⟨g, k, none⟩ v) := by
  obtain ⟨cs, hc, hn⟩ := h.row
  exact ⟨⟨_, heap_setCell_same W g k cs TS v hc, by simpa using hn⟩, h.ge, h.d0, h.d1, h.d2⟩
theorem Sw.set {sb' b' : Nat} {M' : List En} (h : Sw w W sb' b' M') (hg : w.heap.size ≤ g) (h1 : g ≠ sb') (h2 : g ≠ b') (k : Nat) (v : Value) : Sw w (W.setCell ⟨g, k, none⟩ v) sb' b' M' :=
  ⟨h.sx.kept (set_grown W g k v) (fun e => h2 (by injection e with e; exact e.symm)) (fun e => h1 (by injection e with e; exact e.symm)), h.bel.grown (set_grown W g k v) h.bel.size (fun k e => by cases e; exact hg), h.ge⟩
theorem Kq3.set (h : Kq3 w sb b M sb1 b1 N sb2 b2 P W) (r : Ro w sb b sb1 b1 sb2 b2 g n W) (k : Nat) (v : Value) : Kq3 w sb b M sb1 b1 N sb2 b2 P (W.setCell ⟨g, k, none⟩ v) :=
  ⟨h.s.set r.ge r.d0.1 r.d0.2 k v, h.t.set r.ge r.d1.1 r.d1.2 k v, h.u.set r.ge r.d2.1 r.d2.2 k v, h.n1, h.n2, h.n3⟩
theorem Kq3.keysT (h : Kq3 w sb b M sb1 b1 N sb2 b2 P W) :
    Calls Try.prog 18 #[.pointer (some ⟨sb1, 0, none⟩)] W fun e W' => ∃ a cap, e = .returned (.slice a N.length cap) ∧ N.length ≤ cap ∧ cap ≤ 9223372036854775807 ∧ Kq3 w sb b M sb1 b1 N sb2 b2 P W' ∧ (0 < N.length → ∃ g, a = some ⟨g, 0, none⟩ ∧ Ro w sb b sb1 b1 sb2 b2 g N.length W') := by
  refine (keys_any W h.t.sx).mono ?_
  rintro e W' ⟨v, rfl, hrow, hb⟩
  have hK := h.later hb
  have l0 := h.s.sx.lt
  have l1 := h.t.sx.lt
  have l2 := h.u.sx.lt
  have hw := h.s.bel.size
  rcases hrow.2 with ⟨rfl, hz⟩ | ⟨g, cap, cur, rfl, hge, hg, h1, h2, h3, h4⟩
  · exact ⟨none, 0, by rw [hz], by omega, by omega, hK, fun h0 => by omega⟩
  · exact ⟨some ⟨g, 0, none⟩, cap, rfl, h1, h2, hK, fun _ => ⟨g, rfl, ⟨⟨cur, hg, by omega⟩, by omega, by omega, by omega, by omega⟩⟩⟩
end
end Go.Proofs.Ytiahjacjpakkdaa.Sto
