/- A slice of values, and a value, as they come in: what their reading tells. -/
import Derived.Test.YtnkmiigcglddmaaW21
import Derived.Deep.Slices
import Derived.Deep.Fields
import Derived.ChangeArms
import Derived.ChangeSame
import Derived.SizedLaws
import Derived.Lib.SmallJoins
namespace Go.Proofs.Ytnkmiigcglddmaa.Wire
open Go.RowKit Go.ChangeShapes Go.WideShapes
set_option linter.unusedVariables false
set_option linter.unusedSimpArgs false

abbrev TL : TypeId := 22
theorem tl_slice : Try.prog.underlying TL = some (.slice TV) := Try.underlying22
theorem tv_cells : Try.prog.cellsOf TV = 3 := by kernel_rfl
theorem tv_struct : ∃ f0 f1 f2 : Field, Try.prog.underlying TV = some (.struct #[f0, f1, f2]) ∧ f0.type = 5 ∧ f1.type = 29 ∧ f2.type = 9 ∧ f0.offset = 0 ∧ f1.offset = 1 ∧ f2.offset = 2 := ⟨_, _, _, Try.underlying31, rfl, rfl, rfl, rfl, rfl, rfl⟩
section
variable {H : Type} {enc : TypeId × Value → H} {w : World} {base : Nat} {spare : Nat → Bool} {held : Bool}
/-- The three parts of a value's cells. -/
theorem val_parts {fuel : Nat} {c0 c1 c2 : Value} {x : DataW H × List MemPlace} (h : DataW.trod enc Try.prog w base spare held fuel TV [c0, c1, c2] = some x) :
    ∃ (k n : Nat) (s : ByteArray), c0 = .int .u8 (k : Nat) ∧ c1 = .int .u64 (n : Nat) ∧ c2 = .string s ∧ k < 256 ∧ n < 18446744073709551616 ∧ s.size ∈ x.1.weights Try.prog TV ∧
      x.1 = .agg [.lit (.int .u8 (k : Nat)), .lit (.int .u64 (n : Nat)), .lit (.string s.data.toList)] ∧ x.2 = [] := by
  obtain ⟨f0, f1, f2, hu, t0, t1, t2, o0, o1, o2⟩ := tv_struct
  obtain ⟨ys, m, _, rfl, _, hl, hf⟩ := DataW.trod_struct hu h
  have h0 := hf 0 f0 rfl
  have h1 := hf 1 f1 rfl
  have h2 := hf 2 f2 rfl
  have k0 : Try.prog.cellsOf 5 = 1 := by kernel_rfl
  have k1 : Try.prog.cellsOf 29 = 1 := by kernel_rfl
  have k2 : Try.prog.cellsOf 9 = 1 := by kernel_rfl
  rw [t0, o0, k0] at h0
  rw [t1, o1, k1] at h1
  rw [t2, o2, k2] at h2
  have hl3 : ys.length = 3 := hl
  match ys, hl3 with
  | [y0, y1, y2], _ =>
    have g0 : DataW.trod enc Try.prog w base spare held m 5 [c0] = some y0 := h0
    have g1 : DataW.trod enc Try.prog w base spare held m 29 [c1] = some y1 := h1
    have g2 : DataW.trod enc Try.prog w base spare held m 9 [c2] = some y2 := h2
    obtain ⟨n0, e0, rfl, w0⟩ := DataW.trod_int Try.underlying5 g0
    obtain ⟨n1, e1, rfl, w1⟩ := DataW.trod_int Try.underlying29 g1
    obtain ⟨s, e2, rfl, _⟩ := DataW.trod_string Try.underlying9 g2
    cases e0; cases e1; cases e2
    have b0 := bounds_u8 w0
    have b1 := bounds_u64 w1
    have z0 : ((n0.toNat : Nat) : Int) = n0 := Int.toNat_of_nonneg b0.1
    have z1 : ((n1.toNat : Nat) : Int) = n1 := Int.toNat_of_nonneg b1.1
    refine ⟨n0.toNat, n1.toNat, s, by rw [z0], by rw [z1], rfl, by omega, by omega, ?_, by rw [z0, z1]; rfl, rfl⟩
    simp [DataW.weights, DataW.weightsEach, hu, t0, t1, t2]
theorem weights_in {d : DataW H} {e : TypeId} {n : Nat} : ∀ {l : List (DataW H)}, d ∈ l → n ∈ d.weights Try.prog e → n ∈ DataW.weightsAll Try.prog e l
  | x :: l, hd, hn => by
    rw [DataW.weightsAll, List.mem_append]
    rcases List.mem_cons.1 hd with rfl | hd
    · exact .inl hn
    · exact .inr (weights_in hd hn)
theorem vals_open {fuel : Nat} {cs : List Value} {x : DataW H × List MemPlace} (h : DataW.trod enc Try.prog w base spare held fuel TL cs = some x) (hz : ∀ n ∈ x.1.weights Try.prog TL, n ≤ reachBytes) :
    ∃ a len cap xs, cs = [.slice a len cap] ∧ IsVals w a len cap xs := by
  rcases Go.Deep.open_slice tl_slice h with ⟨rfl, _⟩ | ⟨⟨b, off, spot⟩, len, cap, m, n, D, Pl, rfl, _, hl, hm, hmm, rfl, hi⟩
  · exact ⟨none, 0, 0, [], rfl, rfl, ⟨Nat.le_refl _, Nat.zero_le _⟩, (fun x hx => absurd hx (by simp)), fun h0 => absurd h0 (by omega)⟩
  · have hlm : len ≤ m := by rw [hmm]; split <;> omega
    have hspot : 0 < len → spot = none := by
      intro h0
      obtain ⟨cs', hc, _⟩ := hi 0 (by omega)
      rw [tv_cells] at hc
      obtain ⟨_, hl3, hat⟩ := World.cells?_some hc
      have a0 := hat 0 (by omega)
      rw [List.getElem?_eq_getElem (by omega)] at a0
      simpa [Addr.add] using World.cell?_spot a0
    have hall : ∀ i, ∃ v : Val, i < len → v.ok ∧ spot = none ∧ b < w.heap.size ∧ w.cell? ⟨b, off + i * 3, none⟩ = some (.int .u8 (v.k : Nat)) ∧ w.cell? ⟨b, off + i * 3 + 1, none⟩ = some (.int .u64 (v.n : Nat)) ∧ w.cell? ⟨b, off + i * 3 + 2, none⟩ = some (.string v.s) := by
      intro i
      by_cases hlt : i < len
      · obtain ⟨cs', hc, ht⟩ := hi i (by omega)
        rw [tv_cells] at hc
        obtain ⟨_, hl3, hat⟩ := World.cells?_some hc
        match cs', hl3 with
        | [c0, c1, c2], _ =>
          have a0 := hat 0 (by omega)
          have a1 := hat 1 (by omega)
          have a2 := hat 2 (by omega)
          obtain rfl := hspot (by omega)
          rw [addr_add, addr_add] at a0 a1 a2
          obtain ⟨k, n', s, rfl, rfl, rfl, hk, hn, hs, _, _⟩ := val_parts ht
          refine ⟨⟨k, n', s⟩, fun _ => ⟨⟨hk, hn, ?_⟩, rfl, World.block_lt_of_cell? w _ a0, a0, a1, a2⟩⟩
          have := hz s.size (by
            simp only [DataW.weights, tl_slice]
            refine List.mem_cons_of_mem _ (List.mem_append.2 (.inl (weights_in (d := D i) ?_ hs)))
            exact List.mem_map.2 ⟨i, List.mem_range.2 hlt, rfl⟩)
          have := reachBytes_lt
          show s.size ≤ 140737488355328
          omega
      · exact ⟨zv, fun h => absurd h hlt⟩
    obtain ⟨f, hf⟩ := Classical.axiomOfChoice hall
    have hmx : cap ≤ 9223372036854775807 := hm
    have hg : ∀ i, i < len → ((List.range len).map f).getD i zv = f i := fun i hi => by
      rw [List.getD_eq_getElem?_getD, List.getElem?_map, List.getElem?_range hi]; rfl
    refine ⟨some ⟨b, off, spot⟩, len, cap, (List.range len).map f, rfl, by simp, ⟨hl, hmx⟩, fun x hx => ?_, fun h0 => ?_⟩
    · obtain ⟨i, hi, rfl⟩ := List.mem_map.1 hx
      exact (hf i (List.mem_range.1 hi)).1
    · obtain ⟨_, rfl, hb, _⟩ := hf 0 h0
      refine ⟨b, off, rfl, hb, fun i hi => ?_⟩
      rw [hg i hi]
      exact (hf i hi).2.2.2
end
end Go.Proofs.Ytnkmiigcglddmaa.Wire
