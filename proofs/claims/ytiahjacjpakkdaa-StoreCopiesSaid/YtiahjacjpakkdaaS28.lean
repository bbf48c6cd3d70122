/- Steps that are looked at. -/
import Derived.Test.YtiahjacjpakkdaaS27
namespace Go.Proofs.Ytiahjacjpakkdaa.Sto
open Go.RowKit Go.Lib
open Cnt (Ct cA OkC quietB appC)
open Rng (tx tx_of tx_size nameOk bl)
set_option linter.unusedVariables false
set_option linter.unusedSimpArgs false
set_option maxRecDepth 20000

def stOk (s : Sp) : Bool := decide (s.k.length ≤ 40) && decide (s.r.f.length ≤ 40) && decide (s.r.t.length ≤ 40)
def shortB (S : Nat → Sp) (len : Nat) : Bool := decide (len ≤ 120) && (List.range len).all fun i => stOk (S i)
theorem short_t {S : Nat → Sp} {len : Nat} (h1 : len ≤ 120) (h2 : ∀ i, i < len → stOk (S i) = true) : shortB S len = true := by
  unfold shortB
  rw [decide_eq_true h1, Bool.true_and, List.all_eq_true]
  exact fun i hi => h2 i (List.mem_range.1 hi)
theorem short_f {S : Nat → Sp} {len i : Nat} (hi : i < len) (h : stOk (S i) = false) : shortB S len = false := by
  unfold shortB
  rw [Bool.and_eq_false_iff]
  right
  rw [List.all_eq_false]
  exact ⟨i, List.mem_range.2 hi, by rw [h]; simp⟩
theorem short_any (a : Option Addr) (len cap : Nat) (S : Nat → Sp) (w : World) (h : IsSt w a len cap S) :
    Calls Try.prog 10 #[.slice a len cap] w fun e w' => e = .returned (.bool (shortB S len)) ∧ w = w' := by
  by_cases h1 : len ≤ 120
  · have hd : decide (120 < (len : Int)) = false := by simp; omega
    have hmc := h.fit
    have hc := Lib.hid (fun (k : Nat) (hk : k < len) => (show ∃ b off, a = some ⟨b, off, none⟩ ∧ Sc w b (off + k * 11) (S k) by
      obtain ⟨b, off, e, _, hh⟩ := h.cell (by omega)
      exact ⟨b, off, e, hh k hk⟩))
    have hT := Lib.hid (fun hh => short_t (S := S) h1 hh)
    have hF := Lib.hid (fun i hi hh => short_f (S := S) (len := len) (i := i) hi hh)
    generalize shortB S len = z at *
    clear h
    go_enter Try.func10, Try.ntmps10
    go_wp2
    go_loop [3] (fun i => ∃ k : Nat, k ≤ len ∧ i = .int .i64 k ∧ ∀ i, i < k → stOk (S i) = true) (fun i => len - (intOf i).toNat)
    case atStart => exact ⟨0, Nat.zero_le _, rfl, fun i hi => absurd hi (Nat.not_lt_zero i)⟩
    case round =>
      obtain ⟨k, hk, rfl, hall⟩ := hrel
      replace hall := Lib.hid hall
      by_cases hlt : k < len
      · obtain ⟨b, off, rfl, x⟩ := hc.out k hlt
        have e1 := x.c1
        have e9 := x.c9
        have e10 := x.c10
        have z1 := tx_size (S k).k
        have z2 := tx_size (S k).r.f
        have z3 := tx_size (S k).r.t
        have hFk := Lib.hid (hF.out k hlt)
        have hok : Hid (stOk (S k) = (decide ((tx (S k).k).size ≤ 40) && decide ((tx (S k).r.f).size ≤ 40) && decide ((tx (S k).r.t).size ≤ 40))) := by rw [z1, z2, z3]; rfl
        generalize tx (S k).k = s1 at *
        generalize tx (S k).r.f = s2 at *
        generalize tx (S k).r.t = s3 at *
        have hml : (k : Int) < (len : Int) := by omega
        clear x z1 z2 z3 hF hc
        by_cases y1 : s1.size ≤ 40
        · have b1 : decide (40 < (s1.size : Int)) = false := by simp; omega
          by_cases y2 : s2.size ≤ 40
          · have b2 : decide (40 < (s2.size : Int)) = false := by simp; omega
            by_cases y3 : s3.size ≤ 40
            · have b3 : decide (40 < (s3.size : Int)) = false := by simp; omega
              have hk1 := Lib.hid (show stOk (S k) = true by rw [hok.out, decide_eq_true y1, decide_eq_true y2, decide_eq_true y3]; rfl)
              clear hok y1 y2 y3
              go_wp2
              go_round
              case rel =>
                refine ⟨k + 1, by omega, by go_num, fun i hi => ?_⟩
                rcases Nat.lt_or_ge i k with hik | hik
                · exact hall.out i hik
                · obtain rfl : i = k := by omega
                  exact hk1.out
              case measure => simp [intOf]; omega
            · have b3 : decide (40 < (s3.size : Int)) = true := by simp; omega
              have hz := Lib.hid (hFk.out (by rw [hok.out, decide_eq_false y3, Bool.and_false]))
              clear hok y1 y2 y3 hFk
              go_wp2
              go_ret
              exact ⟨by rw [hz.out]; rfl, rfl⟩
          · have b2 : decide (40 < (s2.size : Int)) = true := by simp; omega
            have hz := Lib.hid (hFk.out (by rw [hok.out, decide_eq_false y2, Bool.and_false, Bool.false_and]))
            clear hok y1 y2 hFk
            go_wp2
            go_ret
            exact ⟨by rw [hz.out]; rfl, rfl⟩
        · have b1 : decide (40 < (s1.size : Int)) = true := by simp; omega
          have hz := Lib.hid (hFk.out (by rw [hok.out, decide_eq_false y1, Bool.false_and, Bool.false_and]))
          clear hok y1 hFk
          go_wp2
          go_ret
          exact ⟨by rw [hz.out]; rfl, rfl⟩
      · obtain rfl : k = len := by omega
        have hz := Lib.hid (hT.out hall.out)
        clear hlt hc hF hT hall
        go_wp2
        go_ret
        exact ⟨by rw [hz.out]; rfl, rfl⟩
  · have hd : decide (120 < (len : Int)) = true := by simp; omega
    have hz := Lib.hid (show shortB S len = false by unfold shortB; rw [decide_eq_false h1]; rfl)
    clear h
    go_enter Try.func10, Try.ntmps10
    go_wp2
    go_ret
    exact ⟨by rw [hz.out]; rfl, rfl⟩
/-! What steps make of a store. -/
def remM (M : List En) (k : List UInt8) : List En := if (getM M k).isSome then delM M k else M
def stepM (M : List En) (s : Sp) : List En := if s.d = 0 then putS M s.k s.c else if s.d = 1 then (apR M s.k s.p s.n).2.2 else if s.d = 2 then remM M s.k else M
def fillM (S : Nat → Sp) : Nat → List En
  | 0 => []
  | k + 1 => stepM (fillM S k) (S k)
theorem rem_any {sb b : Nat} {M : List En} (k : List UInt8) (w : World) (x : Sx w sb b M) (hk : k.length ≤ maxLen) :
    Calls Try.prog 17 #[.pointer (some ⟨sb, 0, none⟩), .string (tx k)] w fun e w' => e = .returned (.int .i64 (if (getM M k).isSome then 0 else 5)) ∧ Sx w' sb b (remM M k) ∧ w.grownBy w' (some b) := by
  unfold remM
  cases hr : getM M k with
  | none =>
    refine (rem_no k w x hk hr).mono ?_
    rintro e w' ⟨rfl, hb⟩
    exact ⟨rfl, x.later hb, (grown_b hb).but _⟩
  | some c =>
    refine (rem_yes k c w x hk hr).mono ?_
    rintro e w' ⟨rfl, hx, hg⟩
    exact ⟨rfl, hx, hg⟩
end Go.Proofs.Ytiahjacjpakkdaa.Sto
