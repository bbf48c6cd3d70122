/- Lists whose contents are changed; how long the log gets; DiskReads. -/
import Derived.Test.YtojeccmnhgcmcaaDoorH17
namespace Go.Proofs.YtojeccmnhgcmcaaDoor.Dsk
open Go.RowKit Go.ChangeShapes Go.WideShapes _root_.Go.Proofs.YtojeccmnhgcmcaaDoor.Frame
open _root_.Go.Proofs.YtojeccmnhgcmcaaDoor.Crc (Hv more more_lt ret_u32)
set_option linter.unusedVariables false
set_option linter.unusedSimpArgs false
set_option maxRecDepth 100000

theorem step_tot {m : St} {t : Sq} {B : Nat} (ht : okC t.c) (hB : tot m.L ≤ B) : tot (stepS m t).L ≤ B + 108 := by
  unfold stepS
  split
  · unfold appS
    split
    · rename_i h0
      have hl : ¬ 65536 < t.c.length := fun hl => by rw [appE_long hl] at h0; omega
      have : t.c.length ≤ 100 := by rcases ht with h | h <;> omega
      show tot (m.L ++ [t.c]) ≤ _
      rw [tot_snoc]; omega
    · omega
  · split
    · show tot m.L ≤ _; omega
    · split
      · show tot (m.L.take _) ≤ _
        have := tot_take_le m.L (torK m t.x)
        omega
      · split
        · unfold savS
          split
          · omega
          · exact Nat.zero_le _
        · omega
theorem run_tot (S : Nat → Sq) : ∀ n : Nat, (∀ i, i < n → okC (S i).c) → tot (runS S n).L ≤ 108 * n
  | 0, _ => Nat.zero_le _
  | n + 1, h => by
    have h1 := run_tot S n fun i hi => h i (by omega)
    have h2 := step_tot (m := runS S n) (t := S n) (h n (by omega)) h1
    show tot (stepS (runS S n) (S n)).L ≤ _
    omega
/-- The list v holds slices of as many bytes as those of L, all of one's own, whatever the bytes are. -/
structure SomeL (base : Nat) (L : List (List Nat)) (v : Value) (W : World) : Prop where
  ex : ∃ xs, W.ownsRow base TSl 1 v L.length xs ∧ xs.length = L.length ∧ ∀ i u, xs[i]? = some u → Some' base (L.getD i []).length u W
theorem OwnL.some {base : Nat} {L : List (List Nat)} {v : Value} {W : World} (h : OwnL base L v W) : SomeL base L v W := by
  obtain ⟨xs, h1, h2⟩ := h.ex
  exact ⟨xs, h1, h2.1, fun i u hu => ⟨_, rfl, h2.2 i u hu⟩⟩
theorem some_put {w : World} {base n g : Nat} {v : Value} {cur : Array Value} (h : Some' base n v w) (hg : w.heap[g]? = some (.cells cur TB (0, 0))) (k : Nat) (y : Nat) (hy : y < 256) :
    Some' base n v (w.setCell ⟨g, k, none⟩ (.int .u8 (y : Nat))) := by
  obtain ⟨c, hc, hm⟩ := h.ex
  rcases hm.own.2 with ⟨e, h0⟩ | ⟨g', cap', cur', hv, hbg, hg', h1, h2, h3, h4⟩
  · exact ⟨c, hc, ⟨⟨hm.own.1, .inl ⟨e, h0⟩⟩, hm.h8⟩⟩
  · by_cases e : g' = g
    · subst e
      rw [hg] at hg'
      injection hg' with hg'
      injection hg' with hg' _ _
      subst hg'
      refine ⟨c.set k y, by rw [List.length_set]; exact hc, ⟨⟨by rw [bv_len, Nat.mul_one], .inr ⟨g', cap', cur.setIfInBounds k (.int .u8 (y : Nat)), by rw [List.length_set]; exact hv, hbg, heap_setCell_same w g' k cur TB _ hg, by rw [List.length_set]; exact h1, h2, by rw [Array.size_setIfInBounds]; exact h3, ?_⟩⟩, fun z hz => ?_⟩⟩
      · rw [List.length_set, Array.toList_setIfInBounds, ← bv_set1, ← h4, List.take_set]
      · rcases List.mem_or_eq_of_mem_set hz with hz | rfl
        · exact hm.h8 z hz
        · exact hy
    · exact ⟨c, hc, ⟨⟨hm.own.1, .inr ⟨g', cap', cur', hv, hbg, (Below.heap_setCell w _ _ g' e).trans hg', h1, h2, h3, h4⟩⟩, hm.h8⟩⟩
/-- What a loop keeps that changes the contents of the list v. -/
structure MutL (W0 : World) (base : Nat) (L : List (List Nat)) (v : Value) (W : World) : Prop where
  so : SomeL base L v W
  kp : Keeps (fun k => base ≤ k) W0 W
theorem MutL.at_ {W0 W : World} {base n cap : Nat} {a : Option Addr} {L : List (List Nat)} (h : MutL W0 base L (.slice a n cap) W) (i : Nat) (hi : i < L.length) :
    ∃ g a' cap', a = some ⟨g, 0, none⟩ ∧ W.cell? ⟨g, i, none⟩ = some (.slice a' (L.getD i []).length cap') ∧ (∀ k, k < (L.getD i []).length → ∃ g' x, a' = some ⟨g', 0, none⟩ ∧ x < 256 ∧ W.cell? ⟨g', k, none⟩ = some (.int .u8 (x : Nat)) ∧ W.frozen? ⟨g', k, none⟩ = false ∧
      ∀ y : Nat, y < 256 → MutL W0 base L (.slice a n cap) (W.setCell ⟨g', k, none⟩ (.int .u8 (y : Nat)))) := by
  obtain ⟨xs, h1, hxl, h2⟩ := h.so.ex
  have hx : i < xs.length := by omega
  have hm := h2 i _ (List.getElem?_eq_getElem hx)
  obtain ⟨c, hc, hmc⟩ := hm.ex
  obtain ⟨a', cap', e⟩ := hmc.form
  rcases h1.2 with ⟨_, h0⟩ | ⟨g, cap1, cur, hv, hbg, hg, _⟩
  · omega
  · injection hv with e1 e2 e3
    subst e1 e2 e3
    refine ⟨g, a', cap', rfl, ?_, fun k hk => ?_⟩
    · rw [h1.cellAt i (by omega), List.getElem?_eq_getElem hx, e, hc]
    · rw [e] at hmc
      obtain ⟨g', rfl, hb', hl', q1, q2⟩ := mine_at hmc k (by omega)
      obtain ⟨cur', hcur⟩ : ∃ cur', W.heap[g']? = some (.cells cur' TB (0, 0)) := by
        rcases hmc.own.2 with ⟨e', h0⟩ | ⟨g2, cap2, cur2, hv2, _, hg2, _⟩
        · cases e'
        · injection hv2 with e1 _ _
          injection e1 with e1
          injection e1 with e1 _
          subst e1
          exact ⟨cur2, hg2⟩
      refine ⟨g', _, rfl, byte_lt hmc.h8 k, q1, q2, fun y hy => ⟨⟨xs, ?_, hxl, fun j u hu => some_put (h2 j u hu) hcur k y hy⟩, h.kp.setCell (p := ⟨g', k, none⟩) (.inl hb') _⟩⟩
      refine rows_kept h1 fun q hq => Below.heap_setCell W _ _ q ?_
      rintro rfl
      have := rows_type h1 hq hcur
      exact absurd this (by decide)
theorem MutL.later {W0 W W' : World} {base : Nat} {L : List (List Nat)} {v : Value} (h : MutL W0 base L v W) (hb : Below W.heap.size W W') : MutL W0 base L v W' := by
  obtain ⟨xs, h1, hxl, h2⟩ := h.so.ex
  exact ⟨⟨xs, rows_later h1 hb, hxl, fun i u hu => by
    obtain ⟨c, hc, hm⟩ := (h2 i u hu).ex
    exact ⟨c, hc, hm.later hb⟩⟩, h.kp.later hb⟩
end Go.Proofs.YtojeccmnhgcmcaaDoor.Dsk
