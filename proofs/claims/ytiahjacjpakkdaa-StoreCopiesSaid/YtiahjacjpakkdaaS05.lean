/- Names at this program: the text of bytes, ident.Name and the document's Name. -/
import Derived.Test.YtiahjacjpakkdaaChecked
import Derived.Lib.Strings
import Derived.Shelf.LaysC
import Derived.Shelf.LaysM
import Derived.Shelf.Small.Wraps
import Derived.Shelf.GgClosure.StringsRunes
import Derived.WalkKit
import Derived.WalkLawsBesides
import Derived.Lib.Hide
import Derived.BigCall
import Derived.BigGuard
import Derived.Below
namespace Go.Proofs.Ytiahjacjpakkdaa.Rng
open Go.RowKit Go.Lib
set_option linter.unusedVariables false
set_option linter.unusedSimpArgs false
set_option maxRecDepth 20000

def has_lays_ren : Go.Shelf.Ren := ⟨fun | 17 => 42 | 15 => 59 | 20 => 70 | n => n, fun | 9 => 9 | 23 => 80 | 4 => 4 | 3 => 3 | 0 => 0 | 21 => 21 | n => n, fun | n => n⟩
theorem has_lays : Go.Proofs.LaysGw.n17 Try.prog has_lays_ren := {
  mixed := by kernel_rfl
  f15 := Try.func59.trans (congrArg some (by kernel_rfl))
  f17 := Try.func42.trans (congrArg some (by kernel_rfl))
  f20 := Try.func70.trans (congrArg some (by kernel_rfl))
  t0 := Try.underlying0
  a0 := Try.isAgg0
  z0 := Try.sizeOf0
  v0 := Try.zeroValue0
  i0 := by kernel_rfl
  t3 := Try.underlying3
  a3 := Try.isAgg3
  z3 := Try.sizeOf3
  v3 := Try.zeroValue3
  i3 := by kernel_rfl
  t4 := Try.underlying4
  a4 := Try.isAgg4
  z4 := Try.sizeOf4
  v4 := Try.zeroValue4
  i4 := by kernel_rfl
  t9 := Try.underlying9
  a9 := Try.isAgg9
  z9 := Try.sizeOf9
  v9 := Try.zeroValue9
  i9 := by kernel_rfl
  t21 := Try.underlying21
  a21 := Try.isAgg21
  z21 := Try.sizeOf21
  v21 := Try.zeroValue21
  i21 := by kernel_rfl
  t23 := Try.underlying80
  a23 := Try.isAgg80
  z23 := Try.sizeOf80
  v23 := Try.zeroValue80
  i23 := by kernel_rfl }


theorem more_b {w w1 w2 : World} {B : Nat} (h : Below B w w1) (k : Below w1.heap.size w1 w2) (hB : B ≤ w1.heap.size) : Below B w w2 := h.trans (k.mono hB)
/-- The text of bytes. -/
def tx (l : List UInt8) : ByteArray := ⟨l.toArray⟩
theorem tx_list (l : List UInt8) : (tx l).data.toList = l := by simp [tx]
theorem tx_size (l : List UInt8) : (tx l).size = l.length := by simp [tx, ByteArray.size]
theorem tx_of (s : ByteArray) : tx s.data.toList = s := by
  apply ByteArray.ext
  simp [tx]
theorem tx_app (l m : List UInt8) : tx l ++ tx m = tx (l ++ m) := by
  apply ByteArray.ext
  rw [ByteArray.data_append]
  simp [tx]

theorem tx_get (l : List UInt8) (k : Nat) (h : k < (tx l).size) : (tx l)[k] = l[k]'(by rw [tx_size] at h; exact h) := by
  show (tx l).data[k] = _
  simp [tx]
theorem within_any (n lo hi : Int) (w : World) :
    Calls Try.prog 41 #[.int .i64 n, .int .i64 lo, .int .i64 hi] w fun e w' => e = .returned (.bool (decide (lo ≤ n ∧ n ≤ hi))) ∧ w = w' := by
  by_cases h1 : lo ≤ n
  · have b1 : decide (lo ≤ n) = true := by simpa using h1
    go_enter Try.func41, Try.ntmps41
    go_wp2
    go_ret
    exact ⟨by simp [h1], rfl⟩
  · have b1 : decide (lo ≤ n) = false := by simpa using h1
    go_enter Try.func41, Try.ntmps41
    go_wp2
    go_ret
    exact ⟨by simp [h1], rfl⟩

/-- The runes that no name has. -/
def badR (r : Nat) : Bool := (decide (r < 97) || decide (122 < r)) && (decide (r < 48) || decide (57 < r))
def goodB (c : UInt8) : Bool := !badR c.toNat
def nameOk (l : List UInt8) : Bool := decide (1 ≤ l.length ∧ l.length ≤ 16) && l.all goodB
theorem badR_big {r : Nat} (h : 128 ≤ r) : badR r = true := by unfold badR; simp; omega
theorem goodB_lt {c : UInt8} (h : goodB c = true) : c.toNat < 128 := by
  rcases Nat.lt_or_ge c.toNat 128 with h1 | h1
  · exact h1
  · unfold goodB at h; rw [badR_big h1] at h; cases h
theorem tx_get! (l : List UInt8) (k : Nat) (h : k < l.length) : (tx l).get! k = l[k] := by
  have e : (tx l).get! k = l.toArray[k]! := rfl
  rw [e, getElem!_pos l.toArray k (by simpa using h)]
  simp
theorem dec_low (l : List UInt8) (k : Nat) (h : k < l.length) (ha : l[k].toNat < 128) : Utf8.decode (tx l) k = (l[k].toNat, 1) := by
  have e : ((tx l).get! (k + 0)).toNat = l[k].toNat := by rw [Nat.add_zero, tx_get! l k h]
  unfold Utf8.decode
  simp only [e]
  rw [if_pos ha]
theorem dec_high (l : List UInt8) (k : Nat) (h : k < l.length) (ha : ¬ l[k].toNat < 128) : 128 ≤ (Utf8.decode (tx l) k).1 := by
  have e : ((tx l).get! (k + 0)).toNat = l[k].toNat := by rw [Nat.add_zero, tx_get! l k h]
  unfold Utf8.decode
  simp only [e]
  rw [if_neg ha]
  have he : (Utf8.runeError : Nat) = 65533 := rfl
  split
  · split
    · assumption
    · rw [he]; omega
  · split
    · split
      · rename_i hh
        rw [Bool.and_eq_true, decide_eq_true_iff] at hh
        show 128 ≤ _
        omega
      · rw [he]; omega
    · split
      · split
        · rename_i hh
          rw [Bool.and_eq_true, decide_eq_true_iff] at hh
          show 128 ≤ _
          omega
        · rw [he]; omega
      · rw [he]; omega
theorem idx_all_good (l : List UInt8) : ∀ f k : Nat, l.length ≤ k + f → (0 ≤ idxFuncFrom badR true (tx l) f k ↔ (l.drop k).all goodB = false) := by
  intro f
  induction f with
  | zero =>
    intro k hk
    rw [List.drop_eq_nil_of_le (by omega)]
    simp [idxFuncFrom]
  | succ f ih =>
    intro k hk
    unfold idxFuncFrom
    by_cases h : k < l.length
    · rw [if_pos (by rw [tx_size]; exact h), List.drop_eq_getElem_cons h, List.all_cons]
      cases hg : goodB l[k] with
      | true =>
        have hlt := goodB_lt hg
        rw [dec_low l k h hlt]
        unfold goodB at hg
        rw [Bool.not_eq_true'] at hg
        simp only [hg]
        rw [if_neg (by simp), ih (k + 1) (by omega)]
        simp
      | false =>
        have hb : badR (Utf8.decode (tx l) k).1 = true := by
          by_cases ha : l[k].toNat < 128
          · rw [dec_low l k h ha]
            unfold goodB at hg
            rw [Bool.not_eq_false'] at hg
            exact hg
          · exact badR_big (dec_high l k h ha)
        rw [if_pos hb]
        simp
    · rw [if_neg (by rw [tx_size]; exact h), List.drop_eq_nil_of_le (by omega)]
      simp
theorem idx_good (l : List UInt8) : decide (0 ≤ idxFunc badR true (tx l)) = !l.all goodB := by
  have h := idx_all_good l (tx l).size 0 (by rw [tx_size]; omega)
  rw [List.drop_zero] at h
  unfold idxFunc
  cases ha : l.all goodB
  · simpa using h.2 ha
  · rw [ha] at h
    simp at h
    simpa using h

theorem bad_any (x : Nat) (hx : x ≤ 1114111) (W : World) : Calls Try.prog 43 #[.int .i32 (x : Nat)] W fun e w' => e = .returned (.bool (badR x)) ∧ ∃ q, w' = W.drewN q := by
  have key : ∀ a b c d : Bool, a = decide (x < 97) → b = decide (122 < x) → c = decide (x < 48) → d = decide (57 < x) → badR x = ((a || b) && (c || d)) := by rintro a b c d rfl rfl rfl rfl; rfl
  by_cases h1 : x < 97
  · by_cases h3 : x < 48
    · have b1 : decide ((x : Int) < 97) = true := by simp; omega
      have b3 : decide ((x : Int) < 48) = true := by simp; omega
      have hr := Lib.hid (show badR x = true by unfold badR; simp; omega)
      go_enter Try.func43, Try.ntmps43
      go_wp2
      go_ret
      exact ⟨by rw [hr.out]; rfl, 0, rfl⟩
    · by_cases h4 : 57 < x
      · have b1 : decide ((x : Int) < 97) = true := by simp; omega
        have b3 : decide ((x : Int) < 48) = false := by simp; omega
        have b4 : decide (57 < (x : Int)) = true := by simp; omega
        have hr := Lib.hid (show badR x = true by unfold badR; simp; omega)
        go_enter Try.func43, Try.ntmps43
        go_wp2
        go_ret
        exact ⟨by rw [hr.out]; rfl, 0, rfl⟩
      · have b1 : decide ((x : Int) < 97) = true := by simp; omega
        have b3 : decide ((x : Int) < 48) = false := by simp; omega
        have b4 : decide (57 < (x : Int)) = false := by simp; omega
        have hr := Lib.hid (show badR x = false by unfold badR; simp; omega)
        go_enter Try.func43, Try.ntmps43
        go_wp2
        go_ret
        exact ⟨by rw [hr.out]; rfl, 0, rfl⟩
  · by_cases h2 : 122 < x
    · have b1 : decide ((x : Int) < 97) = false := by simp; omega
      have b2 : decide (122 < (x : Int)) = true := by simp; omega
      have b3 : decide ((x : Int) < 48) = false := by simp; omega
      have b4 : decide (57 < (x : Int)) = true := by simp; omega
      have hr := Lib.hid (show badR x = true by unfold badR; simp; omega)
      go_enter Try.func43, Try.ntmps43
      go_wp2
      go_ret
      exact ⟨by rw [hr.out]; rfl, 0, rfl⟩
    · have b1 : decide ((x : Int) < 97) = false := by simp; omega
      have b2 : decide (122 < (x : Int)) = false := by simp; omega
      have hr := Lib.hid (show badR x = false by unfold badR; simp; omega)
      go_enter Try.func43, Try.ntmps43
      go_wp2
      go_ret
      exact ⟨by rw [hr.out]; rfl, 0, rfl⟩
theorem has_any (l : List UInt8) (w : World) : Calls Try.prog 42 #[.string (tx l), .func (.func 43) #[] #[]] w fun e w' => e = .returned (.bool (!l.all goodB)) ∧ Below w.heap.size w w' := by
  rw [← idx_good]
  exact Any.strings_ContainsFunc_runes has_lays 43 #[] (enters_of Try.func43 (by kernel_rfl) rfl) badR (tx l) w (fun W x hx hb => bad_any x hx W)
theorem name_any (l : List UInt8) (w : World) :
    Calls Try.prog 25 #[.string (tx l)] w fun e w' => e = .returned (.bool (nameOk l)) ∧ Below w.heap.size w w' := by
  have hz := tx_size l
  by_cases h : 1 ≤ l.length ∧ l.length ≤ 16
  · have b1 : decide (1 ≤ ((l.length : Nat) : Int) ∧ ((l.length : Nat) : Int) ≤ 16) = true := by simp; omega
    have hr := Lib.hid (show nameOk l = l.all goodB by unfold nameOk; rw [decide_eq_true h]; simp)
    have hA := Lib.hid (fun W => has_any l W)
    generalize l.all goodB = x at *
    cases x
    all_goals
      go_enter Try.func25, Try.ntmps25
      go_wp2_with (first
        | (go_at_call 41; refine (within_any _ _ _ _).mono ?_; rintro e w' ⟨rfl, rfl⟩)
        | (go_at_call 42; refine (hA.out _).mono ?_; rintro e w1 ⟨rfl, hb⟩))
      go_ret
      exact ⟨by rw [hr.out]; rfl, hb⟩
  · have b1 : decide (1 ≤ ((l.length : Nat) : Int) ∧ ((l.length : Nat) : Int) ≤ 16) = false := by simp; omega
    have hr := Lib.hid (show nameOk l = false by unfold nameOk; rw [decide_eq_false h]; simp)
    go_enter Try.func25, Try.ntmps25
    go_wp2_with (go_at_call 41; refine (within_any _ _ _ _).mono ?_; rintro e w' ⟨rfl, rfl⟩)
    go_ret
    exact ⟨by rw [hr.out]; rfl, Below.refl _ _⟩
end Go.Proofs.Ytiahjacjpakkdaa.Rng
