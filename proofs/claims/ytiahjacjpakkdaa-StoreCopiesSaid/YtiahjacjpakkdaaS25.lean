/- Lists of texts compared; the examples. -/
import Derived.Test.YtiahjacjpakkdaaS24
import Derived.Test.YtiahjacjpakkdaaS18
namespace Go.Proofs.Ytiahjacjpakkdaa.Sto
open Go.RowKit Go.Maps Go.Lib Go.Shelf
open Cnt (Ct cA OkC quietB appC)
open Rng (tx nameOk bl bl_eq bl_irrefl bl_trans)
set_option linter.unusedVariables false
set_option linter.unusedSimpArgs false
set_option maxRecDepth 20000

/-- A slice that reads as the texts L. -/
structure Str (W : World) (v : Value) (L : List (List UInt8)) : Prop where
  ex : ∃ a cap, v = .slice a L.length cap ∧ ∀ i (h : i < L.length), ∃ b off, a = some ⟨b, off, none⟩ ∧ b < W.heap.size ∧ W.cell? ⟨b, off + i, none⟩ = some (.string (tx L[i]))
theorem Str.later {W W' : World} {v : Value} {L : List (List UInt8)} (h : Str W v L) (hb : Below W.heap.size W W') : Str W' v L := by
  obtain ⟨a, cap, e, hc⟩ := h.ex
  refine ⟨a, cap, e, fun i hi => ?_⟩
  obtain ⟨b, off, h1, h2, h3⟩ := hc i hi
  exact ⟨b, off, h1, Nat.lt_of_lt_of_le h2 hb.size, (cell_same (p := ⟨b, off + i, none⟩) (hb.block b h2)).trans h3⟩
theorem row_str {W : World} {base : Nat} {v : Value} {L : List (List UInt8)} (h : W.ownsRow base TS 1 v L.length (strs L)) : Str W v L := by
  rcases h.2 with ⟨rfl, hz⟩ | ⟨g, cap, cur, rfl, _, hg, h1, h2, h3, h4⟩
  · exact ⟨none, 0, by rw [hz], fun i hi => by omega⟩
  · refine ⟨_, cap, rfl, fun i hi => ⟨g, 0, rfl, (Array.getElem?_eq_some_iff.1 hg).1, ?_⟩⟩
    rw [Nat.zero_add, cell_of_row W g i cur _ _ hg, ← Array.getElem?_toList]
    have h5 : cur.toList[i]? = (cur.toList.take (L.length * 1))[i]? := by rw [List.getElem?_take, if_pos (by omega)]
    rw [h5, h4]
    simp [strs, List.getElem?_map, List.getElem?_eq_getElem hi]
theorem same_eq (v1 v2 : Value) (L : List (List UInt8)) (w : World) (h1 : Str w v1 L) (h2 : Str w v2 L) (hlen : L.length ≤ 1000) :
    Calls Try.prog 30 #[v1, v2] w fun e w' => e = .returned (.bool true) ∧ Below w.heap.size w w' := by
  obtain ⟨a1, c1, rfl, k1⟩ := h1.ex
  obtain ⟨a2, c2, rfl, k2⟩ := h2.ex
  have H1 := Lib.hid (fun (W : World) (hb : Below w.heap.size w W) i (hi : i < L.length) => ((show Str W (.slice a1 L.length c1) L from h1.later hb).ex))
  have G1 : Hid (∀ (W : World), Below w.heap.size w W → ∀ i (hi : i < L.length), ∃ b off, a1 = some ⟨b, off, none⟩ ∧ W.cell? ⟨b, off + i, none⟩ = some (.string (tx L[i]))) := fun W hb i hi => by
    obtain ⟨b, off, e, hlt, hc⟩ := k1 i hi
    exact ⟨b, off, e, (cell_same (p := ⟨b, off + i, none⟩) (hb.block b hlt)).trans hc⟩
  have G2 : Hid (∀ (W : World), Below w.heap.size w W → ∀ i (hi : i < L.length), ∃ b off, a2 = some ⟨b, off, none⟩ ∧ W.cell? ⟨b, off + i, none⟩ = some (.string (tx L[i]))) := fun W hb i hi => by
    obtain ⟨b, off, e, hlt, hc⟩ := k2 i hi
    exact ⟨b, off, e, (cell_same (p := ⟨b, off + i, none⟩) (hb.block b hlt)).trans hc⟩
  clear H1 k1 k2 h1 h2
  go_enter Try.func30, Try.ntmps30
  go_wp2
  go_loopw [5] (fun i wr => ∃ k : Nat, k ≤ L.length ∧ i = .int .i64 k ∧ Below w.heap.size w wr) (fun i _ => L.length - (intOf i).toNat)
  case atStart => exact ⟨0, Nat.zero_le _, rfl, Below.refl _ _⟩
  case round =>
    obtain ⟨k, hk, rfl, hb⟩ := hrel
    by_cases hlt : k < L.length
    · obtain ⟨b1, o1, rfl, e1⟩ := G1.out wr hb k hlt
      obtain ⟨b2, o2, rfl, e2⟩ := G2.out wr hb k hlt
      generalize tx L[k] = s at *
      have hml : (k : Int) < (L.length : Int) := by omega
      clear G1 G2
      go_wp2
      go_region
      all_goals
        go_wp2
        go_roundw
        case rel => exact ⟨k + 1, by omega, by go_num, hb.drew⟩
        case measure => simp [intOf]; omega
    · obtain rfl : k = L.length := by omega
      clear G1 G2 hlt
      go_wp2
      go_ret
      exact ⟨rfl, hb⟩
end Go.Proofs.Ytiahjacjpakkdaa.Sto
