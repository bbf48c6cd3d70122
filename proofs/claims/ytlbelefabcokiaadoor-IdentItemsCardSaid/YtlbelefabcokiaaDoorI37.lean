/- The document's ParseItem. -/
import Derived.Test.YtlbelefabcokiaaDoorI33
import Derived.Test.YtlbelefabcokiaaDoorI35
import Derived.Test.YtlbelefabcokiaaDoorI36
namespace Go.Proofs.YtlbelefabcokiaaDoor.Ident
open Go.RowKit Go.Lib
set_option linter.unusedVariables false
set_option linter.unusedSimpArgs false
set_option maxRecDepth 20000

/-- The result's box while the moves are tried. -/
structure YAt (w W : World) : Prop where
  rb : Kp w.heap.size (itB it0) W
  bel : Below w.heap.size w W
theorem YAt.later {w W W' : World} (h : YAt w W) (hb : Below W.heap.size W W') : YAt w W' := ⟨h.rb.later hb, below2 h.bel hb⟩
def b1N (i : Bool) : Nat := if i then 1 else 0
/-- The moves and ways that come ahead of a place. -/
def ahead (j d m : Nat) (i : Bool) : Prop := m < j ∨ (m = j ∧ b1N i < d)
theorem ahead_next {j d m : Nat} {i : Bool} (hd : d < 2) (h : ahead j (d + 1) m i) : ahead j d m i ∨ (m = j ∧ i = ((d : Int) == 1)) := by
  rcases h with h | ⟨h1, h2⟩
  · exact .inl (.inl h)
  · by_cases h3 : b1N i < d
    · exact .inl (.inr ⟨h1, h3⟩)
    · refine .inr ⟨h1, ?_⟩
      have hd2 : d = 0 ∨ d = 1 := by omega
      rcases hd2 with rfl | rfl <;> cases i <;> simp [b1N] at h2 h3 ⊢
theorem ahead_over {j m : Nat} {i : Bool} (h : ahead (j + 1) 0 m i) : ahead j 2 m i := by
  rcases h with h | ⟨h1, h2⟩
  · by_cases h3 : m < j
    · exact .inl h3
    · exact .inr ⟨by omega, by cases i <;> simp [b1N]⟩
  · omega
theorem cut_h (l : List UInt8) (k : Nat) : (tx l).extract 0 k = tx (l.take k) := by
  apply ByteArray.ext
  apply Array.ext'
  rw [ByteArray.data_extract]
  simp [tx]
theorem ref_parseI_none (l : List UInt8) (hl : l.length ≤ 300) (h : l.length < 2) (w : World) :
    Calls Tryd.prog 25 #[.string (tx l)] w fun e w' => e = .returned (.tuple #[itV (piX (pI l)), .int .i64 (piE (pI l))]) ∧ Below w.heap.size w w' := by
  have hz := tx_size l
  have hp := Lib.hid (pI_short l h)
  have Z0 := Lib.hid (show YAt w (w.alloc (.cells #[.int .i64 0, .int .i64 0, .int .i64 0, .int .i64 0, .bool false, .int .i64 0] TI)) from ⟨kp_new w _ _, alloc_b _ _⟩)
  have r0 : IntKind.i64.wrap ((l.length : Int) - 2) = (l.length : Int) - 2 := wr (by omega) (by omega)
  have d0 : decide ((l.length : Int) - 2 < 0) = true := by simp; omega
  generalize hs : tx l = s at *
  clear hs h
  go_enter Tryd.func25, Tryd.ntmps25
  obtain ⟨y0, y1, y2, y3, y4, y5, fz⟩ := ib_cells Z0.out.rb
  go_wp2
  exact bodyPost_ret (res6e Tryd.results25 _ _ w.heap.size rfl Z0.out.rb) rfl ⟨by rw [hp.out]; rfl, Z0.out.bel⟩
theorem ref_parseI_bad (l : List UInt8) (k k1 : Nat) (hk : l.length = k + 2) (hk1 : k + 1 = k1) (hl : l.length ≤ 300) (h0 : k < l.length) (h1 : k1 < l.length) (h : (l[k]).toNat ≠ 64 ∨ (l[k1]).toNat < 49 ∨ 55 < (l[k1]).toNat) (w : World) :
    Calls Tryd.prog 25 #[.string (tx l)] w fun e w' => e = .returned (.tuple #[itV (piX (pI l)), .int .i64 (piE (pI l))]) ∧ Below w.heap.size w w' := by
  have hz := tx_size l
  have hp := Lib.hid (show pI l = none by subst hk1; exact pI_bad l k hk h)
  have Z0 := Lib.hid (show YAt w (w.alloc (.cells #[.int .i64 0, .int .i64 0, .int .i64 0, .int .i64 0, .bool false, .int .i64 0] TI)) from ⟨kp_new w _ _, alloc_b _ _⟩)
  have r0 : IntKind.i64.wrap ((l.length : Int) - 2) = (k : Int) := by rw [wr (by omega) (by omega)]; omega
  have r1 : IntKind.i64.wrap ((k : Int) + 1) = (k1 : Int) := by rw [wr (by omega) (by omega)]; omega
  have hks : k < (tx l).size := by omega
  have hks1 : k1 < (tx l).size := by omega
  have g0 : (tx l)[k]'hks = l[k] := tx_get l k hks
  have g1 : (tx l)[k1]'hks1 = l[k1] := tx_get l k1 hks1
  replace h : ((tx l)[k]'hks).toNat ≠ 64 ∨ ((tx l)[k1]'hks1).toNat < 49 ∨ 55 < ((tx l)[k1]'hks1).toNat := by rw [g0, g1]; exact h
  clear g0 g1
  generalize hs : tx l = s at *
  have hc : ((((s[k]'hks).toNat : Int) != 64) = true) ∨ ((((s[k]'hks).toNat : Int) != 64) = false ∧ decide (((s[k1]'hks1).toNat : Int) < 49) = true) ∨ ((((s[k]'hks).toNat : Int) != 64) = false ∧ decide (((s[k1]'hks1).toNat : Int) < 49) = false ∧ decide (55 < ((s[k1]'hks1).toNat : Int)) = true) := by
    by_cases c1 : (s[k]'hks).toNat = 64
    · by_cases c2 : (s[k1]'hks1).toNat < 49
      · exact .inr (.inl ⟨by simp; omega, by simp; omega⟩)
      · exact .inr (.inr ⟨by simp; omega, by simp; omega, by simp; omega⟩)
    · exact .inl (by simp; omega)
  replace hk := Lib.hid hk
  replace hk1 := Lib.hid hk1
  clear hs h
  obtain ⟨y0, y1, y2, y3, y4, y5, fz⟩ := ib_cells Z0.out.rb
  rcases hc with c1 | ⟨c1, c2⟩ | ⟨c1, c2, c3⟩
  all_goals
    go_enter Tryd.func25, Tryd.ntmps25
    go_wp2
    exact bodyPost_ret (res6e Tryd.results25 _ _ w.heap.size rfl Z0.out.rb) rfl ⟨by rw [hp.out]; rfl, Z0.out.bel⟩
end Go.Proofs.YtlbelefabcokiaaDoor.Ident
