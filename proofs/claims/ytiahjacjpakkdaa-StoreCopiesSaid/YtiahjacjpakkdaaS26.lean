/- A store of the call's own; the examples. -/
import Derived.Test.YtiahjacjpakkdaaS25
namespace Go.Proofs.Ytiahjacjpakkdaa.Sto
open Go.RowKit Go.Maps Go.Lib Go.Shelf
open Cnt (Ct cA OkC quietB appC)
open Rng (tx nameOk bl bl_eq bl_irrefl bl_trans)
set_option linter.unusedVariables false
set_option linter.unusedSimpArgs false
set_option maxRecDepth 20000

/-- A store that the call has made: all that has turned since w lies in new blocks. -/
structure Sw (w w' : World) (sb b : Nat) (M : List En) : Prop where
  sx : Sx w' sb b M
  bel : Below w.heap.size w w'
  ge : w.heap.size ≤ b
theorem Sw.step {w W W' : World} {sb b : Nat} {M N : List En} (h : Sw w W sb b M) (hx : Sx W' sb b N) (hg : W.grownBy W' (some b)) : Sw w W' sb b N :=
  ⟨hx, h.bel.grown hg h.bel.size (fun k e => by cases e; exact h.ge), h.ge⟩
theorem Sw.later {w W W' : World} {sb b : Nat} {M : List En} (h : Sw w W sb b M) (hb : Below W.heap.size W W') : Sw w W' sb b M := ⟨h.sx.later hb, h.bel.trans (hb.mono h.bel.size), h.ge⟩
/-- Another store's step. -/
theorem Sw.other {w W W' : World} {sb b sb' b' : Nat} {M N : List En} (h : Sw w W sb b M) (g : Sw w W sb' b' N) (hne : b ≠ b') (hg : W.grownBy W' (some b')) : Sw w W' sb b M :=
  ⟨h.sx.other g.sx hne hg, h.bel.grown hg h.bel.size (fun k e => by cases e; exact g.ge), h.ge⟩
/-- What Apply says and makes. -/
def apR (M : List En) (k : List UInt8) (ph n : Int) : Int × Int × List En := match getM M k with
  | none => (0, 5, M)
  | some c => if (appC c ph n).2 = 0 then ((appC c ph n).1.v, 0, putM M k (appC c ph n).1) else (0, (appC c ph n).2, M)
theorem ap_any {sb b : Nat} {M : List En} (k : List UInt8) (ph n : Int) (w : World) (x : Sx w sb b M) (hk : k.length ≤ maxLen) :
    Calls Try.prog 13 #[.pointer (some ⟨sb, 0, none⟩), .string (tx k), .int .i64 ph, .int .i64 n] w fun e w' => e = .returned (.tuple #[.int .i64 (apR M k ph n).1, .int .i64 (apR M k ph n).2.1]) ∧ Sx w' sb b (apR M k ph n).2.2 ∧ w.grownBy w' (some b) := by
  unfold apR
  cases hr : getM M k with
  | none =>
    refine (ap_no k ph n w x hk hr).mono ?_
    rintro e w' ⟨rfl, hb⟩
    exact ⟨rfl, x.later hb, (grown_b hb).but _⟩
  | some c =>
    obtain ⟨v, u, d, l, g⟩ := c
    dsimp only
    cases ha : appC ⟨v, u, d, l, g⟩ ph n with
    | mk cc z =>
      obtain ⟨x0, x1, x2, x3, x4⟩ := cc
      by_cases hz : z = 0
      · subst hz
        simp only [if_true]
        exact ap_yes k v u d l g ph n x0 x1 x2 x3 x4 w x hr ha
      · simp only [if_neg hz]
        refine (ap_err k v u d l g ph n x0 x1 x2 x3 x4 z w x hk hr ha hz).mono ?_
        rintro e w' ⟨rfl, hb⟩
        exact ⟨rfl, x.later hb, (grown_b hb).but _⟩
def m1 : List En := [([97], ⟨5, 0, 0, 0, 10⟩)]
def m2 : List En := [([97], ⟨5, 0, 0, 0, 10⟩), ([109], ⟨0, 0, 0, 0, 3⟩)]
def m3 : List En := [([97], ⟨8, 3, 0, 0, 10⟩), ([109], ⟨0, 0, 0, 0, 3⟩)]
theorem p1 : putE [] [97] ⟨5, 0, 0, 0, 10⟩ = 0 ∧ putS [] [97] ⟨5, 0, 0, 0, 10⟩ = m1 := by decide
theorem p2 : putE m1 [109] ⟨0, 0, 0, 0, 3⟩ = 0 ∧ putS m1 [109] ⟨0, 0, 0, 0, 3⟩ = m2 := by decide
theorem p3 : putE m2 [97] ⟨0, 0, 0, 0, 0⟩ = 6 ∧ putS m2 [97] ⟨0, 0, 0, 0, 0⟩ = m2 := by decide
theorem a1 : apR m2 [97] 1 3 = (8, 0, m3) := by decide
theorem a2 : apR m3 [97] 1 (-6) = (0, 7, m3) := by decide
theorem a3 : apR m3 [97] 2 3 = (5, 0, m2) := by decide
theorem n1 : Rng.okR ⟨[98], []⟩ = true ∧ inM m2 ⟨[98], []⟩ = [[109]] := by decide
theorem s1 : sumV m2 = 5 ∧ sumE m2 = 0 := by decide
theorem q1 : quietM m2 = true := by decide
theorem tx97 : tx [97] = ⟨#[97]⟩ := rfl
theorem tx98 : tx [98] = ⟨#[98]⟩ := rfl
theorem tx109 : tx [109] = ⟨#[109]⟩ := rfl
theorem tx0 : tx [] = ⟨#[]⟩ := rfl
set_option maxHeartbeats 4000000 in
theorem works_any (w : World) : Calls Try.prog 11 #[] w fun e w' => e = .returned (.bool true) ∧ Below w.heap.size w w' := by
  have P1 : Hid (∀ (W : World) sb b, Sw w W sb b [] → Calls Try.prog 16 #[.pointer (some ⟨sb, 0, none⟩), .string ⟨#[97]⟩, cA 5 0 0 0 10] W fun e w' => e = .returned (.int .i64 0) ∧ Sx w' sb b m1 ∧ W.grownBy w' (some b)) := fun W sb b h => by
    have := put_any [97] 5 0 0 0 10 W h.sx
    rw [p1.1, p1.2, tx97] at this
    exact this
  have P2 : Hid (∀ (W : World) sb b, Sw w W sb b m1 → Calls Try.prog 16 #[.pointer (some ⟨sb, 0, none⟩), .string ⟨#[109]⟩, cA 0 0 0 0 3] W fun e w' => e = .returned (.int .i64 0) ∧ Sx w' sb b m2 ∧ W.grownBy w' (some b)) := fun W sb b h => by
    have := put_any [109] 0 0 0 0 3 W h.sx
    rw [p2.1, p2.2, tx109] at this
    exact this
  have P3 : Hid (∀ (W : World) sb b, Sw w W sb b m2 → Calls Try.prog 16 #[.pointer (some ⟨sb, 0, none⟩), .string ⟨#[97]⟩, cA 0 0 0 0 0] W fun e w' => e = .returned (.int .i64 6) ∧ Sx w' sb b m2 ∧ W.grownBy w' (some b)) := fun W sb b h => by
    have := put_any [97] 0 0 0 0 0 W h.sx
    rw [p3.1, p3.2, tx97] at this
    exact this
  have A1 : Hid (∀ (W : World) sb b, Sw w W sb b m2 → Calls Try.prog 13 #[.pointer (some ⟨sb, 0, none⟩), .string ⟨#[97]⟩, .int .i64 1, .int .i64 3] W fun e w' => e = .returned (.tuple #[.int .i64 8, .int .i64 0]) ∧ Sx w' sb b m3 ∧ W.grownBy w' (some b)) := fun W sb b h => by
    have := ap_any [97] 1 3 W h.sx (by unfold maxLen; decide)
    rw [a1, tx97] at this
    exact this
  have A2 : Hid (∀ (W : World) sb b, Sw w W sb b m3 → Calls Try.prog 13 #[.pointer (some ⟨sb, 0, none⟩), .string ⟨#[97]⟩, .int .i64 1, .int .i64 (-6)] W fun e w' => e = .returned (.tuple #[.int .i64 0, .int .i64 7]) ∧ Sx w' sb b m3 ∧ W.grownBy w' (some b)) := fun W sb b h => by
    have := ap_any [97] 1 (-6) W h.sx (by unfold maxLen; decide)
    rw [a2, tx97] at this
    exact this
  have A3 : Hid (∀ (W : World) sb b, Sw w W sb b m3 → Calls Try.prog 13 #[.pointer (some ⟨sb, 0, none⟩), .string ⟨#[97]⟩, .int .i64 2, .int .i64 3] W fun e w' => e = .returned (.tuple #[.int .i64 5, .int .i64 0]) ∧ Sx w' sb b m2 ∧ W.grownBy w' (some b)) := fun W sb b h => by
    have := ap_any [97] 2 3 W h.sx (by unfold maxLen; decide)
    rw [a3, tx97] at this
    exact this
  have N1 : Hid (∀ (W : World) sb b, Sw w W sb b m2 → Calls Try.prog 14 #[.pointer (some ⟨sb, 0, none⟩), .agg #[.string ⟨#[98]⟩, .string ⟨#[]⟩]] W fun e w' => ∃ v, e = .returned (.tuple #[v, .int .i64 0]) ∧ Str w' v [[109]] ∧ Below W.heap.size W w') := fun W sb b h => by
    have := (in_go ⟨[98], []⟩ W h.sx n1.1).mono (R' := fun e w' => ∃ v, e = .returned (.tuple #[v, .int .i64 0]) ∧ Str w' v (inM m2 ⟨[98], []⟩) ∧ Below W.heap.size W w') (fun e w' ⟨v, h1, h2, h3⟩ => ⟨v, h1, row_str h2, h3⟩)
    rw [n1.2, tx98, tx0] at this
    exact this
  have S1 : Hid (∀ (W : World) sb b, Sw w W sb b m2 → Calls Try.prog 15 #[.pointer (some ⟨sb, 0, none⟩)] W fun e w' => e = .returned (.tuple #[.int .i64 5, .int .i64 0]) ∧ Below W.heap.size W w') := fun W sb b h => by
    have := sum_any W h.sx
    rw [s1.1, s1.2] at this
    exact this
  have Q1 : Hid (∀ (W : World) sb b, Sw w W sb b m2 → Calls Try.prog 20 #[.pointer (some ⟨sb, 0, none⟩)] W fun e w' => e = .returned (.bool true) ∧ Below W.heap.size W w') := fun W sb b h => by
    have := quiet_any W h.sx
    rw [q1] at this
    exact this
  have E1 : Hid (∀ (W : World) v v', Str W v [[109]] → Str W v' [[109]] → Calls Try.prog 30 #[v, v'] W fun e w' => e = .returned (.bool true) ∧ Below W.heap.size W w') := fun W v v' h1 h2 => same_eq v v' [[109]] W h1 h2 (by decide)
  go_enter Try.func11, Try.ntmps11
  go_wp2_with fail
  refine (new_any _).mono ?_
  rintro e x1 ⟨sb, b, rfl, hx, hsb, hbg, hb⟩
  have hw1 : Sw w x1 sb b [] := ⟨hx, hb, hbg⟩
  go_wp2_with fail
  refine (P1.out _ _ _ hw1).mono ?_
  rintro e x2 ⟨rfl, hx2, hg2⟩
  have hw2 := hw1.step hx2 hg2
  clear hw1 hx hb hx2 hg2
  go_wp2_with fail
  refine (P2.out _ _ _ hw2).mono ?_
  rintro e x3 ⟨rfl, hx3, hg3⟩
  have hw3 := hw2.step hx3 hg3
  clear hw2 hx3 hg3
  go_wp2_with fail
  refine (P3.out _ _ _ hw3).mono ?_
  rintro e x4 ⟨rfl, hx4, hg4⟩
  have hw4 := hw3.step hx4 hg4
  clear hw3 hx4 hg4
  go_wp2_with fail
  refine (A1.out _ _ _ hw4).mono ?_
  rintro e x5 ⟨rfl, hx5, hg5⟩
  have hw5 := hw4.step hx5 hg5
  clear hw4 hx5 hg5
  go_wp2_with fail
  refine (A2.out _ _ _ hw5).mono ?_
  rintro e x6 ⟨rfl, hx6, hg6⟩
  have hw6 := hw5.step hx6 hg6
  clear hw5 hx6 hg6
  go_wp2_with fail
  refine (A3.out _ _ _ hw6).mono ?_
  rintro e x7 ⟨rfl, hx7, hg7⟩
  have hw7 := hw6.step hx7 hg7
  clear hw6 hx7 hg7
  go_wp2_with fail
  refine (N1.out _ _ _ hw7).mono ?_
  rintro e x8 ⟨v, rfl, hst, hb8⟩
  have hw8 := hw7.later hb8
  clear hw7 hb8
  go_wp2_with fail
  refine (S1.out _ _ _ hw8).mono ?_
  rintro e x9 ⟨rfl, hb9⟩
  have hw9 := hw8.later hb9
  replace hst := hst.later hb9
  clear hw8 hb9
  go_wp2_with fail
  have hba := Cnt.alloc_b x9 (.cells #[.string ⟨#[109]⟩] 9)
  have hs2 : Str (x9.alloc (.cells #[.string ⟨#[109]⟩] 9)) (.slice (some ⟨x9.heap.size, 0, none⟩) 1 1) [[109]] := ⟨_, 1, rfl, fun i hi => ⟨x9.heap.size, 0, rfl, by simp, by
    obtain rfl : i = 0 := by simpa using hi
    exact cell_of_row _ _ 0 _ _ _ (heap_alloc_new x9 _)⟩⟩
  refine (E1.out _ _ _ (hst.later hba) hs2).mono ?_
  rintro e y1 ⟨rfl, hb10⟩
  have hwa := (hw9.later hba).later hb10
  clear hw9 hba hs2 hst hb10
  go_wp2_with fail
  refine (Q1.out _ _ _ hwa).mono ?_
  rintro e y2 ⟨rfl, hb11⟩
  have hwb := hwa.later hb11
  clear hwa hb11
  go_wp2_with fail
  go_ret
  exact ⟨rfl, hwb.bel⟩
end Go.Proofs.Ytiahjacjpakkdaa.Sto
