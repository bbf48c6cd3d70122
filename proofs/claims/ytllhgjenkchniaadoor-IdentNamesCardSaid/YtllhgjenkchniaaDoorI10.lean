/- Which items are valid, and their texts: CheckItem, Item. -/
import Derived.Test.YtllhgjenkchniaaDoorI09
namespace Go.Proofs.YtllhgjenkchniaaDoor.Ident
open Go.RowKit Go.Lib
set_option linter.unusedVariables false
set_option linter.unusedSimpArgs false
set_option maxRecDepth 20000

abbrev TI : TypeId := 33
def itV (x : It) : Value := .agg #[.int .i64 x.a, .int .i64 x.b, .int .i64 x.p, .int .i64 x.m, .bool x.i, .int .i64 x.g]
def itB (x : It) : Obj := .cells #[.int .i64 x.a, .int .i64 x.b, .int .i64 x.p, .int .i64 x.m, .bool x.i, .int .i64 x.g] TI (0, 0)
def ckI (x : It) : Int := if okIt x then 0 else 2
theorem checkI_any (a b p m : Int) (i : Bool) (g : Int) (w : World) :
    Calls Tryd.prog 24 #[.agg #[.int .i64 a, .int .i64 b, .int .i64 p, .int .i64 m, .bool i, .int .i64 g]] w fun e w' => e = .returned (.int .i64 (ckI ⟨a, b, p, m, i, g⟩)) ∧ Below w.heap.size w w' := by
  have hb : Below w.heap.size w (w.alloc (.cells #[.int .i64 a, .int .i64 b, .int .i64 p, .int .i64 m, .bool i, .int .i64 g] TI)) := (Below.refl _ _).alloc (Nat.le_refl _) _
  by_cases hg : 1 ≤ g ∧ g ≤ 7
  · have b1 : decide (1 ≤ g ∧ g ≤ 7) = true := by simpa using hg
    by_cases hm : m = 0
    · subst hm
      cases i with
      | false =>
        have hc := Lib.hid (fun W => check_any a b p W)
        have e : ckI ⟨a, b, p, 0, false, g⟩ = okE a b p := by
          unfold ckI okE
          by_cases ho : effOk a b p
          · rw [if_pos ho, if_pos ⟨hg.1, hg.2, .inl ⟨rfl, rfl, ho⟩⟩]
          · rw [if_neg ho, if_neg]
            rintro ⟨_, _, h | h⟩
            · exact ho h.2.2
            · have := h.1; simp only at this; omega
        rw [e]
        go_enter Tryd.func24, Tryd.ntmps24
        go_wp2_with (first
          | (go_at_call 44; refine (within_any _ _ _ _).mono ?_; rintro e w' ⟨rfl, rfl⟩)
          | (go_at_call 18; refine (hc.out _).mono ?_; rintro e w2 ⟨rfl, hb2⟩))
        go_ret
        exact ⟨rfl, hb.trans (hb2.mono hb.size)⟩
      | true =>
        have e : ckI ⟨a, b, p, 0, true, g⟩ = 2 := if_neg (by rintro ⟨_, _, h | h⟩ <;> simp at h)
        have b2 : decide (1 ≤ (0 : Int) ∧ (0 : Int) ≤ 64) = false := by decide
        rw [e]
        go_enter Tryd.func24, Tryd.ntmps24
        go_wp2_with (go_at_call 44; refine (within_any _ _ _ _).mono ?_; rintro e w' ⟨rfl, rfl⟩)
        go_ret
        exact ⟨rfl, hb⟩
    · have d1 : (m == 0) = false := by simpa using hm
      by_cases hm2 : 1 ≤ m ∧ m ≤ 64
      · have b2 : decide (1 ≤ m ∧ m ≤ 64) = true := by simpa using hm2
        by_cases hz : a = 0 ∧ b = 0 ∧ p = 0
        · obtain ⟨rfl, rfl, rfl⟩ := hz
          have e : ckI ⟨0, 0, 0, m, i, g⟩ = 0 := if_pos ⟨hg.1, hg.2, .inr ⟨hm2.1, hm2.2, rfl, rfl, rfl⟩⟩
          rw [e]
          go_enter Tryd.func24, Tryd.ntmps24
          go_wp2_with (go_at_call 44; refine (within_any _ _ _ _).mono ?_; rintro e w' ⟨rfl, rfl⟩)
          go_ret
          exact ⟨rfl, hb⟩
        · have e : ckI ⟨a, b, p, m, i, g⟩ = 2 := if_neg (by
            rintro ⟨_, _, h | h⟩
            · exact hm h.1
            · exact hz h.2.2)
          have hz2 : ((a == 0) && ((b == 0) && (p == 0))) = false := by simp; intro h1 h2 h3; exact hz ⟨h1, h2, h3⟩
          rw [e]
          go_enter Tryd.func24, Tryd.ntmps24
          go_wp2_with (go_at_call 44; refine (within_any _ _ _ _).mono ?_; rintro e w' ⟨rfl, rfl⟩)
          all_goals first
            | (go_ret; exact ⟨rfl, (Below.refl _ _).alloc (Nat.le_refl _) _⟩)
            | (exfalso; exact hz ⟨by assumption, by assumption, by assumption⟩)
            | (exfalso; exact hz (by simp_all))
      · have b2 : decide (1 ≤ m ∧ m ≤ 64) = false := by simp; omega
        have e : ckI ⟨a, b, p, m, i, g⟩ = 2 := if_neg (by
          rintro ⟨_, _, h | h⟩
          · exact hm h.1
          · exact hm2 ⟨h.1, h.2.1⟩)
        rw [e]
        go_enter Tryd.func24, Tryd.ntmps24
        go_wp2_with (go_at_call 44; refine (within_any _ _ _ _).mono ?_; rintro e w' ⟨rfl, rfl⟩)
        go_ret
        exact ⟨rfl, hb⟩
  · have b1 : decide (1 ≤ g ∧ g ≤ 7) = false := by simp; omega
    have e : ckI ⟨a, b, p, m, i, g⟩ = 2 := if_neg (fun h => hg ⟨h.1, h.2.1⟩)
    rw [e]
    go_enter Tryd.func24, Tryd.ntmps24
    go_wp2_with (go_at_call 44; refine (within_any _ _ _ _).mono ?_; rintro e w' ⟨rfl, rfl⟩)
    go_ret
    exact ⟨rfl, hb⟩
end Go.Proofs.YtllhgjenkchniaaDoor.Ident
