/- The document's Name; the walk of IdentOrders. -/
import Derived.Test.YtlbelefabcokiaaDoorI24
namespace Go.Proofs.YtlbelefabcokiaaDoor.Ident
open Go.RowKit Go.Lib
set_option linter.unusedVariables false
set_option linter.unusedSimpArgs false
set_option maxRecDepth 20000

/-- What go's test of a byte says. -/
theorem good_cases (c : UInt8) : (goodB c = true ∧ decide ((c.toNat : Int) < 97) = false ∧ decide (122 < (c.toNat : Int)) = false) ∨
    (goodB c = true ∧ decide ((c.toNat : Int) < 97) = true ∧ decide ((c.toNat : Int) < 48) = false ∧ decide (57 < (c.toNat : Int)) = false) ∨
    (goodB c = false ∧ decide ((c.toNat : Int) < 97) = true ∧ decide ((c.toNat : Int) < 48) = true) ∨
    (goodB c = false ∧ decide ((c.toNat : Int) < 97) = true ∧ decide ((c.toNat : Int) < 48) = false ∧ decide (57 < (c.toNat : Int)) = true) ∨
    (goodB c = false ∧ decide ((c.toNat : Int) < 97) = false ∧ decide (122 < (c.toNat : Int)) = true ∧ decide ((c.toNat : Int) < 48) = false ∧ decide (57 < (c.toNat : Int)) = true) := by
  unfold goodB badR
  generalize c.toNat = n
  simp only [Bool.not_eq_true', Bool.not_eq_false', Bool.and_eq_true, Bool.and_eq_false_iff, Bool.or_eq_true, Bool.or_eq_false_iff, decide_eq_true_iff, decide_eq_false_iff_not]
  omega
theorem ref_name (l : List UInt8) (hl : l.length ≤ 100000000) (w : World) :
    Calls Tryd.prog 33 #[.string (tx l)] w fun e w' => e = .returned (.bool (nameOk l)) ∧ w = w' := by
  have hz := tx_size l
  have hget : ∀ (k : Nat) (h : k < (tx l).size) (h2 : k < l.length), (tx l)[k]'h = l[k]'h2 := fun k h _ => tx_get l k h
  have hN : ∀ k : Nat, (h : k < l.length) → (l.take k).all goodB = true → goodB l[k] = true → (l.take (k + 1)).all goodB = true := by
    intro k h h1 h2
    rw [List.take_succ_eq_append_getElem h, List.all_append, h1]
    simp [h2]
  have hF : ∀ k : Nat, (h : k < l.length) → goodB l[k] = false → nameOk l = false := by
    intro k h h2
    unfold nameOk
    have : l.all goodB = false := by
      rw [List.all_eq_false]
      exact ⟨l[k], List.getElem_mem h, by simp [h2]⟩
    rw [this, Bool.and_false]
  have hE : (l.take l.length).all goodB = true → nameOk l = decide (1 ≤ l.length ∧ l.length ≤ 16) := by
    intro h
    rw [List.take_length] at h
    unfold nameOk
    rw [h, Bool.and_true]
  generalize hs : tx l = s at *
  have HG := Lib.hid hget
  replace hN := Lib.hid hN
  replace hF := Lib.hid hF
  replace hE := Lib.hid hE
  clear hget hs
  go_enter Tryd.func33, Tryd.ntmps33
  go_wp2
  go_loop [3] (fun i => ∃ k : Nat, k ≤ l.length ∧ i = .int .i64 k ∧ (l.take k).all goodB = true) (fun i => l.length - (intOf i).toNat)
  case atStart => exact ⟨0, Nat.zero_le _, rfl, rfl⟩
  case round =>
    obtain ⟨k, hk, rfl, hall⟩ := hrel
    replace hall := Lib.hid hall
    by_cases hlt : k < l.length
    · have hks : k < s.size := by omega
      have hg := good_cases (s[k]'hks)
      have hgk := Lib.hid (HG.out k hks hlt)
      rcases hg with ⟨h1, b1, b2⟩ | ⟨h1, b1, b2, b3⟩ | ⟨h1, b1, b2⟩ | ⟨h1, b1, b2, b3⟩ | ⟨h1, b1, b2, b3, b4⟩
      · rw [hgk.out] at h1
        have hn := Lib.hid (hN.out k hlt hall.out h1)
        clear h1
        go_wp2
        go_round
        case rel => exact ⟨k + 1, by omega, by go_num, hn.out⟩
        case measure => simp [intOf]; omega
      · rw [hgk.out] at h1
        have hn := Lib.hid (hN.out k hlt hall.out h1)
        clear h1
        go_wp2
        go_round
        case rel => exact ⟨k + 1, by omega, by go_num, hn.out⟩
        case measure => simp [intOf]; omega
      all_goals
        rw [hgk.out] at h1
        have hn := Lib.hid (hF.out k hlt h1)
        clear h1
        go_wp2
        go_ret
        exact ⟨by rw [hn.out]; rfl, rfl⟩
    · obtain rfl : k = l.length := by omega
      have hn := Lib.hid (hE.out hall.out)
      clear hlt
      by_cases h1 : 1 ≤ l.length
      · by_cases h2 : l.length ≤ 16
        · have d1 : decide ((1 : Int) ≤ (l.length : Int)) = true := by simp; omega
          have d2 : decide ((l.length : Int) ≤ 16) = true := by simp; omega
          have hr := Lib.hid (show nameOk l = true by rw [hn.out, decide_eq_true ⟨h1, h2⟩])
          clear hn h1 h2
          go_wp2
          go_ret
          exact ⟨by rw [hr.out]; rfl, rfl⟩
        · have d1 : decide ((1 : Int) ≤ (l.length : Int)) = true := by simp; omega
          have d2 : decide ((l.length : Int) ≤ 16) = false := by simp; omega
          have hr := Lib.hid (show nameOk l = false by rw [hn.out, decide_eq_false (fun h => h2 h.2)])
          clear hn h1 h2
          go_wp2
          go_ret
          exact ⟨by rw [hr.out]; rfl, rfl⟩
      · have d1 : decide ((1 : Int) ≤ (l.length : Int)) = false := by simp; omega
        have hr := Lib.hid (show nameOk l = false by rw [hn.out, decide_eq_false (fun h => h1 h.1)])
        clear hn h1
        go_wp2
        go_ret
        exact ⟨by rw [hr.out]; rfl, rfl⟩

theorem orders_go (l : List UInt8) (hl : ¬ 300 < l.length) (a b p x y z : Int) (w : World) (hH : Hv w) :
    Calls Tryd.prog 6 #[.string (tx l), .agg #[.int .i64 a, .int .i64 b, .int .i64 p], .agg #[.int .i64 x, .int .i64 y, .int .i64 z]] w fun e w' => e = .returned (.bool true) ∧ Below w.heap.size w w' := by
  have O0 := oat_new w a b p x y z
  have hz := tx_size l
  have hN := Lib.hid (fun W => name_any l W)
  have hR := Lib.hid (fun W => ref_name l (by omega) W)
  have hO := Lib.hid (fun W => order_any a b p x y z W)
  have hQ := Lib.hid (fun W => ref_order a b p x y z W)
  have d1 : decide (300 < (l.length : Int)) = false := by simp; omega
  have HE : Hid (∀ W, OAt w a b p x y z W → W.cell? ⟨w.heap.size, 0, none⟩ = some (.int .i64 a) ∧ W.cell? ⟨w.heap.size, 1, none⟩ = some (.int .i64 b) ∧ W.cell? ⟨w.heap.size, 2, none⟩ = some (.int .i64 p) ∧
    W.cell? ⟨w.heap.size + 1, 0, none⟩ = some (.int .i64 x) ∧ W.cell? ⟨w.heap.size + 1, 1, none⟩ = some (.int .i64 y) ∧ W.cell? ⟨w.heap.size + 1, 2, none⟩ = some (.int .i64 z) ∧ OAt w a b p x y z W) := fun W h => h.cells
  have HW : Hid (∀ W, OAt w a b p x y z W → Hv W) := fun W h => hH.later h.bel
  generalize nameOk l = nm at *
  generalize ordV a b p x y z = od at *
  generalize l.length = ll at *
  generalize tx l = s at *
  clear hl
  have hq : (nm == nm) = true := by cases nm <;> rfl
  have hq2 : (od == od) = true := by simp
  go_enter Tryd.func6, Tryd.ntmps6
  go_wp2
  go_region_held3 (fun W => W.cell? ⟨w.heap.size, 0, none⟩ = some (.int .i64 a) ∧ W.cell? ⟨w.heap.size, 1, none⟩ = some (.int .i64 b) ∧ W.cell? ⟨w.heap.size, 2, none⟩ = some (.int .i64 p) ∧
    W.cell? ⟨w.heap.size + 1, 0, none⟩ = some (.int .i64 x) ∧ W.cell? ⟨w.heap.size + 1, 1, none⟩ = some (.int .i64 y) ∧ W.cell? ⟨w.heap.size + 1, 2, none⟩ = some (.int .i64 z) ∧ OAt w a b p x y z W)
    ((first | exact HE.out _ O0.drew | exact HE.out _ (by assumption) | assumption))
    (first
      | (go_at_call 32; refine (hN.out _).mono ?_; rintro e w1 ⟨rfl, hb1⟩; have O1 := O0.drew.later hb1)
      | (go_at_call 33; refine (hR.out _).mono ?_; rintro e w2 ⟨rfl, rfl⟩)
      | (go_at_call 34; refine (hO.out _).mono ?_; rintro e w3 ⟨rfl, hb3⟩; have O3 := O1.later hb3)
      | (go_at_call 35; refine (hQ.out _).mono ?_; rintro e w4 ⟨rfl, hb4⟩; have O4 := O3.later hb4)
      | (go_at_call 15; refine (works_any _ (HW.out _ O4)).mono ?_; rintro e w5 ⟨rfl, hb5⟩; have O5 := O4.later hb5))
  go_wp2
  go_ret
  exact ⟨rfl, OAt.bel (by assumption)⟩
theorem orders_long (l : List UInt8) (hl : 300 < l.length) (a b p x y z : Int) (w : World) (hH : Hv w) :
    Calls Tryd.prog 6 #[.string (tx l), .agg #[.int .i64 a, .int .i64 b, .int .i64 p], .agg #[.int .i64 x, .int .i64 y, .int .i64 z]] w fun e w' => e = .returned (.bool true) ∧ Below w.heap.size w w' := by
  have O0 := oat_new w a b p x y z
  have hz := tx_size l
  have d1 : decide (300 < (l.length : Int)) = true := by simp; omega
  have HW := Lib.hid (hH.later O0.bel)
  generalize l.length = ll at *
  generalize tx l = s at *
  clear hl
  go_enter Tryd.func6, Tryd.ntmps6
  go_wp2_with fail
  refine (works_any _ HW.out).mono ?_
  rintro e w1 ⟨rfl, hb1⟩
  have B1 := below2 O0.bel hb1
  go_wp2
  go_ret
  exact ⟨rfl, B1⟩
theorem w_identOrders (s : ByteArray) (a b p x y z : Int) (w : World) (w0 : s.size ≤ maxLen) (w1 : True) (w2 : True) (hH : Hv w) :
    Calls Tryd.prog 6 #[.string s, .agg #[.int .i64 a, .int .i64 b, .int .i64 p], .agg #[.int .i64 x, .int .i64 y, .int .i64 z]] w fun e w' => e = .returned (.bool true) ∧ Below w.heap.size w w' := by
  rw [← tx_of s]
  generalize s.data.toList = l
  by_cases h : 300 < l.length
  · exact orders_long l h a b p x y z w hH
  · exact orders_go l h a b p x y z w hH
end Go.Proofs.YtlbelefabcokiaaDoor.Ident
