/- Which effects are valid, and their texts: within, CheckEffect, Effect. -/
import Derived.Test.YtllhgjenkchniaaDoorI02
import Derived.Deep.RegionHeld3
import Derived.Deep.RegionWith
import Derived.BigQuiet
import Derived.Deep.QuietTactic
import Derived.OpenShut
namespace Go.Proofs.YtllhgjenkchniaaDoor.Ident
open Go.RowKit Go.Lib
set_option linter.unusedVariables false
set_option linter.unusedSimpArgs false

theorem within_any (n lo hi : Int) (w : World) :
    Calls Tryd.prog 44 #[.int .i64 n, .int .i64 lo, .int .i64 hi] w fun e w' => e = .returned (.bool (decide (lo ≤ n ∧ n ≤ hi))) ∧ w = w' := by
  by_cases h1 : lo ≤ n
  · have b1 : decide (lo ≤ n) = true := by simpa using h1
    go_enter Tryd.func44, Tryd.ntmps44
    go_wp2
    go_ret
    exact ⟨by simp [h1], rfl⟩
  · have b1 : decide (lo ≤ n) = false := by simpa using h1
    go_enter Tryd.func44, Tryd.ntmps44
    go_wp2
    go_ret
    exact ⟨by simp [h1], rfl⟩

abbrev TE : TypeId := 23
/-- An effect as a value. -/
def effV (a b p : Int) : Value := .agg #[.int .i64 a, .int .i64 b, .int .i64 p]
def okE (a b p : Int) : Int := if effOk a b p then 0 else 2
theorem check_any (a b p : Int) (w : World) :
    Calls Tryd.prog 18 #[.agg #[.int .i64 a, .int .i64 b, .int .i64 p]] w fun e w' => e = .returned (.int .i64 (okE a b p)) ∧ Below w.heap.size w w' := by
  have hb : Below w.heap.size w (w.alloc (.cells #[.int .i64 a, .int .i64 b, .int .i64 p] TE)) := (Below.refl _ _).alloc (Nat.le_refl _) _
  by_cases h1 : 1 ≤ a ∧ a ≤ 9999
  · have b1 : decide (1 ≤ a ∧ a ≤ 9999) = true := by simpa using h1
    by_cases h2 : 0 ≤ b ∧ b ≤ 7
    · have b2 : decide (0 ≤ b ∧ b ≤ 7) = true := by simpa using h2
      by_cases h3 : 1 ≤ p ∧ p ≤ 3
      · have b3 : decide (1 ≤ p ∧ p ≤ 3) = true := by simpa using h3
        have e : okE a b p = 0 := if_pos (by unfold effOk; omega)
        rw [e]
        go_enter Tryd.func18, Tryd.ntmps18
        go_wp2_with (go_at_call 44; refine (within_any _ _ _ _).mono ?_; rintro e w' ⟨rfl, rfl⟩)
        go_ret
        exact ⟨rfl, hb⟩
      · have b3 : decide (1 ≤ p ∧ p ≤ 3) = false := by simp; omega
        have e : okE a b p = 2 := if_neg (by unfold effOk; omega)
        rw [e]
        go_enter Tryd.func18, Tryd.ntmps18
        go_wp2_with (go_at_call 44; refine (within_any _ _ _ _).mono ?_; rintro e w' ⟨rfl, rfl⟩)
        go_ret
        exact ⟨rfl, hb⟩
    · have b2 : decide (0 ≤ b ∧ b ≤ 7) = false := by simp; omega
      have e : okE a b p = 2 := if_neg (by unfold effOk; omega)
      rw [e]
      go_enter Tryd.func18, Tryd.ntmps18
      go_wp2_with (go_at_call 44; refine (within_any _ _ _ _).mono ?_; rintro e w' ⟨rfl, rfl⟩)
      go_ret
      exact ⟨rfl, hb⟩
  · have b1 : decide (1 ≤ a ∧ a ≤ 9999) = false := by simp; omega
    have e : okE a b p = 2 := if_neg (by unfold effOk; omega)
    rw [e]
    go_enter Tryd.func18, Tryd.ntmps18
    go_wp2_with (go_at_call 44; refine (within_any _ _ _ _).mono ?_; rintro e w' ⟨rfl, rfl⟩)
    go_ret
    exact ⟨rfl, hb⟩

/-- A box with an effect, and what was there ahead of it. -/
structure Box3 (w : World) (q : Nat) (a b p : Int) (w' : World) : Prop where
  blk : w'.heap[q]? = some (.cells #[.int .i64 a, .int .i64 b, .int .i64 p] TE (0, 0))
  bel : Below w.heap.size w w'
  hv : Hv w'
theorem Box3.lt {w w' : World} {q : Nat} {a b p : Int} (h : Box3 w q a b p w') : q < w'.heap.size := (Array.getElem?_eq_some_iff.1 h.blk).1
theorem Box3.later {w w' w2 : World} {q : Nat} {a b p : Int} (h : Box3 w q a b p w') (hb : Below w'.heap.size w' w2) : Box3 w q a b p w2 :=
  ⟨(hb.block q h.lt).trans h.blk, h.bel.trans (hb.mono h.bel.size), h.hv.later hb⟩
theorem Box3.drew {w w' : World} {q : Nat} {a b p : Int} (h : Box3 w q a b p w') : Box3 w q a b p w'.drew := h.later (Below.refl _ _).drew
theorem Box3.cells {w w' : World} {q : Nat} {a b p : Int} (h : Box3 w q a b p w') :
    w'.cell? ⟨q, 0, none⟩ = some (.int .i64 a) ∧ w'.cell? ⟨q, 1, none⟩ = some (.int .i64 b) ∧ w'.cell? ⟨q, 2, none⟩ = some (.int .i64 p) ∧ Box3 w q a b p w' :=
  ⟨cell_of_row w' q 0 _ TE _ h.blk, cell_of_row w' q 1 _ TE _ h.blk, cell_of_row w' q 2 _ TE _ h.blk, h⟩
theorem box3_new {w : World} (hH : Hv w) (a b p : Int) : Box3 w w.heap.size a b p (w.alloc (.cells #[.int .i64 a, .int .i64 b, .int .i64 p] TE)) :=
  ⟨heap_alloc_new _ _, (Below.refl _ _).alloc (Nat.le_refl _) _, hH.later ((Below.refl _ _).alloc (Nat.le_refl _) _)⟩

theorem effect_bad (a b p : Int) (h : ¬ effOk a b p) (w : World) :
    Calls Tryd.prog 14 #[.agg #[.int .i64 a, .int .i64 b, .int .i64 p]] w fun e w' => e = .returned (.tuple #[.string (tx []), .int .i64 2]) ∧ Below w.heap.size w w' := by
  have hb : Below w.heap.size w (w.alloc (.cells #[.int .i64 a, .int .i64 b, .int .i64 p] TE)) := (Below.refl _ _).alloc (Nat.le_refl _) _
  have e : okE a b p = 2 := if_neg h
  have hc := fun w => check_any a b p w
  rw [e] at hc
  replace hc := Lib.hid hc
  go_enter Tryd.func14, Tryd.ntmps14
  go_wp2_with (go_at_call 18; refine (hc.out _).mono ?_; rintro e w' ⟨rfl, hb2⟩)
  go_ret2
  exact ⟨rfl, hb.trans (hb2.mono hb.size)⟩
theorem dec_len_lt (a : Nat) (h : a ≤ 9999) : (decDigits a).length ≤ 4 := by
  rw [decDigits_length]
  by_cases h1 : a < 10
  · rw [nDigits_small h1]; omega
  · by_cases h2 : a < 100
    · rw [nDigits_unique 1 a (by omega) (by omega)]; omega
    · by_cases h3 : a < 1000
      · rw [nDigits_unique 2 a (by omega) (by omega)]; omega
      · rw [nDigits_unique 3 a (by omega) (by omega)]; omega
theorem effect_ok1 (a b : Nat) (ha1 : 1 ≤ a) (ha : a ≤ 9999) (hb : b ≤ 7) (w : World) (hH : Hv w) :
    Calls Tryd.prog 14 #[.agg #[.int .i64 a, .int .i64 b, .int .i64 1]] w fun e w' => e = .returned (.tuple #[.string (tx (effT a b 1)), .int .i64 0]) ∧ Below w.heap.size w w' := by
  have e : okE a b 1 = 0 := if_pos (by unfold effOk; omega)
  have hc := fun w => check_any a b 1 w
  rw [e] at hc
  replace hc := Lib.hid hc
  have hx := box3_new hH a b 1
  have hla := dec_len_lt a (by omega)
  have hlb := dec_len_lt b (by omega)
  rw [← tx_size] at hla hlb
  have hT : tx (decDigits a) ++ tx [47] ++ tx (decDigits b) ++ tx [47] ++ tx [letB 1] = tx (effT a b 1) := by
    rw [tx_app, tx_app, tx_app, tx_app]
    simp [effT, List.append_assoc]
  replace hT := Lib.hid hT
  have hIa := fun w hH => itoa_any a (by omega) w hH
  have hIb := fun w hH => itoa_any b (by omega) w hH
  replace hIa := Lib.hid hIa
  replace hIb := Lib.hid hIb
  generalize hA : tx (decDigits a) = A at *
  generalize hB : tx (decDigits b) = B at *
  clear hA hB e
  have hsl : ∀ w : World, (Instr.slice 9 (.string ⟨#[102, 117, 114]⟩) (some (.int .i64 0)) (some (.int .i64 1)) none).run Tryd.prog w = .ok (.string (tx [letB 1])) w := fun w => by
    rw [run_slice_string _ _ _ _ _ _ _ Tryd.underlying9 (by decide) (by decide) (by decide)]
    rfl

  have hw0 : IntKind.i64.wrap (1 - 1) = 0 := rfl
  have hw1 : IntKind.i64.wrap 0 = 0 := rfl
  have hsz : (tx [letB 1]).size = 1 := rfl
  have m1 : ¬ 9223372036854775807 < A.size + 1 := by omega
  have m2 : ¬ 9223372036854775807 < A.size + 1 + B.size := by omega
  have m3 : ¬ 9223372036854775807 < A.size + 1 + B.size + 1 := by omega
  have m4 : ¬ 9223372036854775807 < A.size + 1 + B.size + 1 + 1 := by omega
  go_enter Tryd.func14, Tryd.ntmps14
  go_wp2_with (go_at_call 18; refine (hc.out _).mono ?_; rintro e w1 ⟨rfl, hb2⟩)
  have hx1 := hx.later hb2
  have HE : Hid (∀ w', Box3 w w.heap.size a b 1 w' → w'.cell? ⟨w.heap.size, 0, none⟩ = some (.int .i64 a) ∧ w'.cell? ⟨w.heap.size, 1, none⟩ = some (.int .i64 b) ∧ w'.cell? ⟨w.heap.size, 2, none⟩ = some (.int .i64 1) ∧ Box3 w w.heap.size a b 1 w') := fun w' h => h.cells
  clear hb2 hx hc
  go_region_held3 (fun w' => w'.cell? ⟨w.heap.size, 0, none⟩ = some (.int .i64 a) ∧ w'.cell? ⟨w.heap.size, 1, none⟩ = some (.int .i64 b) ∧ w'.cell? ⟨w.heap.size, 2, none⟩ = some (.int .i64 1) ∧ Box3 w w.heap.size a b 1 w')
    ((first | exact HE.out _ hx1.drew | exact HE.out _ (by assumption) | exact HE.out _ (Box3.later hx1.drew (by assumption)) | assumption))
    (first
      | (go_at_call_of 39 (Value.int .i64 a); refine (hIa.out _ hx1.drew.hv).mono ?_; rintro e w2 ⟨rfl, hb3⟩; have hx2 := hx1.drew.later hb3)
      | (go_at_call_of 39 (Value.int .i64 b); refine (hIb.out _ hx2.hv).mono ?_; rintro e w3 ⟨rfl, hb4⟩; have hx3 := hx2.later hb4))
  go_wp2
  go_ret2
  exact ⟨congrArg (fun s => Ending.returned (.tuple #[.string s, .int .i64 0])) hT.out, Box3.bel (by assumption)⟩
theorem effect_ok2 (a b : Nat) (ha1 : 1 ≤ a) (ha : a ≤ 9999) (hb : b ≤ 7) (w : World) (hH : Hv w) :
    Calls Tryd.prog 14 #[.agg #[.int .i64 a, .int .i64 b, .int .i64 2]] w fun e w' => e = .returned (.tuple #[.string (tx (effT a b 2)), .int .i64 0]) ∧ Below w.heap.size w w' := by
  have e : okE a b 2 = 0 := if_pos (by unfold effOk; omega)
  have hc := fun w => check_any a b 2 w
  rw [e] at hc
  replace hc := Lib.hid hc
  have hx := box3_new hH a b 2
  have hla := dec_len_lt a (by omega)
  have hlb := dec_len_lt b (by omega)
  rw [← tx_size] at hla hlb
  have hT : tx (decDigits a) ++ tx [47] ++ tx (decDigits b) ++ tx [47] ++ tx [letB 2] = tx (effT a b 2) := by
    rw [tx_app, tx_app, tx_app, tx_app]
    simp [effT, List.append_assoc]
  replace hT := Lib.hid hT
  have hIa := fun w hH => itoa_any a (by omega) w hH
  have hIb := fun w hH => itoa_any b (by omega) w hH
  replace hIa := Lib.hid hIa
  replace hIb := Lib.hid hIb
  generalize hA : tx (decDigits a) = A at *
  generalize hB : tx (decDigits b) = B at *
  clear hA hB e
  have hsl : ∀ w : World, (Instr.slice 9 (.string ⟨#[102, 117, 114]⟩) (some (.int .i64 1)) (some (.int .i64 2)) none).run Tryd.prog w = .ok (.string (tx [letB 2])) w := fun w => by
    rw [run_slice_string _ _ _ _ _ _ _ Tryd.underlying9 (by decide) (by decide) (by decide)]
    rfl

  have hw0 : IntKind.i64.wrap (2 - 1) = 1 := rfl
  have hw1 : IntKind.i64.wrap 1 = 1 := rfl
  have hsz : (tx [letB 2]).size = 1 := rfl
  have m1 : ¬ 9223372036854775807 < A.size + 1 := by omega
  have m2 : ¬ 9223372036854775807 < A.size + 1 + B.size := by omega
  have m3 : ¬ 9223372036854775807 < A.size + 1 + B.size + 1 := by omega
  have m4 : ¬ 9223372036854775807 < A.size + 1 + B.size + 1 + 1 := by omega
  go_enter Tryd.func14, Tryd.ntmps14
  go_wp2_with (go_at_call 18; refine (hc.out _).mono ?_; rintro e w1 ⟨rfl, hb2⟩)
  have hx1 := hx.later hb2
  have HE : Hid (∀ w', Box3 w w.heap.size a b 2 w' → w'.cell? ⟨w.heap.size, 0, none⟩ = some (.int .i64 a) ∧ w'.cell? ⟨w.heap.size, 1, none⟩ = some (.int .i64 b) ∧ w'.cell? ⟨w.heap.size, 2, none⟩ = some (.int .i64 2) ∧ Box3 w w.heap.size a b 2 w') := fun w' h => h.cells
  clear hb2 hx hc
  go_region_held3 (fun w' => w'.cell? ⟨w.heap.size, 0, none⟩ = some (.int .i64 a) ∧ w'.cell? ⟨w.heap.size, 1, none⟩ = some (.int .i64 b) ∧ w'.cell? ⟨w.heap.size, 2, none⟩ = some (.int .i64 2) ∧ Box3 w w.heap.size a b 2 w')
    ((first | exact HE.out _ hx1.drew | exact HE.out _ (by assumption) | exact HE.out _ (Box3.later hx1.drew (by assumption)) | assumption))
    (first
      | (go_at_call_of 39 (Value.int .i64 a); refine (hIa.out _ hx1.drew.hv).mono ?_; rintro e w2 ⟨rfl, hb3⟩; have hx2 := hx1.drew.later hb3)
      | (go_at_call_of 39 (Value.int .i64 b); refine (hIb.out _ hx2.hv).mono ?_; rintro e w3 ⟨rfl, hb4⟩; have hx3 := hx2.later hb4))
  go_wp2
  go_ret2
  exact ⟨congrArg (fun s => Ending.returned (.tuple #[.string s, .int .i64 0])) hT.out, Box3.bel (by assumption)⟩
theorem effect_ok3 (a b : Nat) (ha1 : 1 ≤ a) (ha : a ≤ 9999) (hb : b ≤ 7) (w : World) (hH : Hv w) :
    Calls Tryd.prog 14 #[.agg #[.int .i64 a, .int .i64 b, .int .i64 3]] w fun e w' => e = .returned (.tuple #[.string (tx (effT a b 3)), .int .i64 0]) ∧ Below w.heap.size w w' := by
  have e : okE a b 3 = 0 := if_pos (by unfold effOk; omega)
  have hc := fun w => check_any a b 3 w
  rw [e] at hc
  replace hc := Lib.hid hc
  have hx := box3_new hH a b 3
  have hla := dec_len_lt a (by omega)
  have hlb := dec_len_lt b (by omega)
  rw [← tx_size] at hla hlb
  have hT : tx (decDigits a) ++ tx [47] ++ tx (decDigits b) ++ tx [47] ++ tx [letB 3] = tx (effT a b 3) := by
    rw [tx_app, tx_app, tx_app, tx_app]
    simp [effT, List.append_assoc]
  replace hT := Lib.hid hT
  have hIa := fun w hH => itoa_any a (by omega) w hH
  have hIb := fun w hH => itoa_any b (by omega) w hH
  replace hIa := Lib.hid hIa
  replace hIb := Lib.hid hIb
  generalize hA : tx (decDigits a) = A at *
  generalize hB : tx (decDigits b) = B at *
  clear hA hB e
  have hsl : ∀ w : World, (Instr.slice 9 (.string ⟨#[102, 117, 114]⟩) (some (.int .i64 2)) (some (.int .i64 3)) none).run Tryd.prog w = .ok (.string (tx [letB 3])) w := fun w => by
    rw [run_slice_string _ _ _ _ _ _ _ Tryd.underlying9 (by decide) (by decide) (by decide)]
    rfl

  have hw0 : IntKind.i64.wrap (3 - 1) = 2 := rfl
  have hw1 : IntKind.i64.wrap 2 = 2 := rfl
  have hsz : (tx [letB 3]).size = 1 := rfl
  have m1 : ¬ 9223372036854775807 < A.size + 1 := by omega
  have m2 : ¬ 9223372036854775807 < A.size + 1 + B.size := by omega
  have m3 : ¬ 9223372036854775807 < A.size + 1 + B.size + 1 := by omega
  have m4 : ¬ 9223372036854775807 < A.size + 1 + B.size + 1 + 1 := by omega
  go_enter Tryd.func14, Tryd.ntmps14
  go_wp2_with (go_at_call 18; refine (hc.out _).mono ?_; rintro e w1 ⟨rfl, hb2⟩)
  have hx1 := hx.later hb2
  have HE : Hid (∀ w', Box3 w w.heap.size a b 3 w' → w'.cell? ⟨w.heap.size, 0, none⟩ = some (.int .i64 a) ∧ w'.cell? ⟨w.heap.size, 1, none⟩ = some (.int .i64 b) ∧ w'.cell? ⟨w.heap.size, 2, none⟩ = some (.int .i64 3) ∧ Box3 w w.heap.size a b 3 w') := fun w' h => h.cells
  clear hb2 hx hc
  go_region_held3 (fun w' => w'.cell? ⟨w.heap.size, 0, none⟩ = some (.int .i64 a) ∧ w'.cell? ⟨w.heap.size, 1, none⟩ = some (.int .i64 b) ∧ w'.cell? ⟨w.heap.size, 2, none⟩ = some (.int .i64 3) ∧ Box3 w w.heap.size a b 3 w')
    ((first | exact HE.out _ hx1.drew | exact HE.out _ (by assumption) | exact HE.out _ (Box3.later hx1.drew (by assumption)) | assumption))
    (first
      | (go_at_call_of 39 (Value.int .i64 a); refine (hIa.out _ hx1.drew.hv).mono ?_; rintro e w2 ⟨rfl, hb3⟩; have hx2 := hx1.drew.later hb3)
      | (go_at_call_of 39 (Value.int .i64 b); refine (hIb.out _ hx2.hv).mono ?_; rintro e w3 ⟨rfl, hb4⟩; have hx3 := hx2.later hb4))
  go_wp2
  go_ret2
  exact ⟨congrArg (fun s => Ending.returned (.tuple #[.string s, .int .i64 0])) hT.out, Box3.bel (by assumption)⟩
theorem effect_ok (a b p : Nat) (h : effOk a b p) (w : World) (hH : Hv w) :
    Calls Tryd.prog 14 #[.agg #[.int .i64 a, .int .i64 b, .int .i64 p]] w fun e w' => e = .returned (.tuple #[.string (tx (effT a b p)), .int .i64 0]) ∧ Below w.heap.size w w' := by
  obtain ⟨h1, h2, h3, h4, h5, h6⟩ := h
  have hp : p = 1 ∨ p = 2 ∨ p = 3 := by omega
  rcases hp with rfl | rfl | rfl
  · exact effect_ok1 a b (by omega) (by omega) (by omega) w hH
  · exact effect_ok2 a b (by omega) (by omega) (by omega) w hH
  · exact effect_ok3 a b (by omega) (by omega) (by omega) w hH
/-- The text of an effect, or none. -/
def effS (a b p : Int) : List UInt8 := if effOk a b p then effT a.toNat b.toNat p.toNat else []
theorem effect_any (a b p : Int) (w : World) (hH : Hv w) :
    Calls Tryd.prog 14 #[.agg #[.int .i64 a, .int .i64 b, .int .i64 p]] w fun e w' => e = .returned (.tuple #[.string (tx (effS a b p)), .int .i64 (okE a b p)]) ∧ Below w.heap.size w w' := by
  by_cases h : effOk a b p
  · have h' := h
    obtain ⟨h1, h2, h3, h4, h5, h6⟩ := h'
    obtain ⟨x, rfl⟩ := Int.eq_ofNat_of_zero_le (show 0 ≤ a by omega)
    obtain ⟨y, rfl⟩ := Int.eq_ofNat_of_zero_le (show 0 ≤ b by omega)
    obtain ⟨z, rfl⟩ := Int.eq_ofNat_of_zero_le (show 0 ≤ p by omega)
    rw [show effS x y z = effT x y z from if_pos h, show okE x y z = 0 from if_pos h]
    exact effect_ok x y z h w hH
  · rw [show effS a b p = [] from if_neg h, show okE a b p = 2 from if_neg h]
    exact effect_bad a b p h w
end Go.Proofs.YtllhgjenkchniaaDoor.Ident
