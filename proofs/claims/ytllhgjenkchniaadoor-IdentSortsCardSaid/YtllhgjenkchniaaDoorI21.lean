/- The document's CheckEffect, CheckItem, Number, FromNumber, Order, Name. -/
import Derived.Test.YtllhgjenkchniaaDoorI18
namespace Go.Proofs.YtllhgjenkchniaaDoor.Ident
open Go.RowKit Go.Lib
set_option linter.unusedVariables false
set_option linter.unusedSimpArgs false
set_option maxRecDepth 20000

theorem ok_yes {a b p : Int} (h : effOk a b p) : okE a b p = 0 := if_pos h
theorem ok_no {a b p : Int} (h : ¬ effOk a b p) : okE a b p = 2 := if_neg h
theorem ref_check (a b p : Int) (w : World) :
    Calls Tryd.prog 19 #[.agg #[.int .i64 a, .int .i64 b, .int .i64 p]] w fun e w' => e = .returned (.int .i64 (okE a b p)) ∧ Below w.heap.size w w' := by
  have hb : Below w.heap.size w (w.alloc (.cells #[.int .i64 a, .int .i64 b, .int .i64 p] TE)) := alloc_b _ _
  go_enter Tryd.func19, Tryd.ntmps19
  go_wp2
  all_goals
    go_ret
    refine ⟨ret_i64 ?_, hb⟩
    first
      | (show (2 : Int) = _; rw [ok_no (by unfold effOk; simp_all; omega)])
      | (show (0 : Int) = _; rw [ok_yes (by unfold effOk; simp_all; omega)])
      | (show (2 : Int) = _; rw [ok_no (by unfold effOk; simp_all)])
      | (show (0 : Int) = _; rw [ok_yes (by unfold effOk; simp_all)])

theorem ck_yes {x : It} (h : okIt x) : ckI x = 0 := if_pos h
theorem ck_no {x : It} (h : ¬ okIt x) : ckI x = 2 := if_neg h
theorem ck_eff (a b p g : Int) (h1 : 1 ≤ g) (h7 : g ≤ 7) : ckI ⟨a, b, p, 0, false, g⟩ = okE a b p := by
  by_cases ho : effOk a b p
  · rw [ok_yes ho, ck_yes ⟨h1, h7, .inl ⟨rfl, rfl, ho⟩⟩]
  · rw [ok_no ho, ck_no]
    rintro ⟨_, _, h | h⟩
    · exact ho h.2.2
    · have := h.1; simp only at this; omega
theorem ref_checkI (a b p m : Int) (i : Bool) (g : Int) (w : World) :
    Calls Tryd.prog 25 #[.agg #[.int .i64 a, .int .i64 b, .int .i64 p, .int .i64 m, .bool i, .int .i64 g]] w fun e w' => e = .returned (.int .i64 (ckI ⟨a, b, p, m, i, g⟩)) ∧ Below w.heap.size w w' := by
  by_cases hg : 1 ≤ g ∧ g ≤ 7
  · have b1 : decide (g < 1) = false := by simp; omega
    have b2 : decide (8 ≤ g) = false := by simp; omega
    by_cases hm : m = 0
    · subst hm
      cases i with
      | false =>
        rw [ck_eff a b p g hg.1 hg.2]
        have hb := alloc_b w (.cells #[.int .i64 a, .int .i64 b, .int .i64 p, .int .i64 0, .bool false, .int .i64 g] TI)
        have hc := Lib.hid (fun W => ref_check a b p W)
        go_enter Tryd.func25, Tryd.ntmps25
        go_wp2_with (go_at_call 19; refine (hc.out _).mono ?_; rintro e w2 ⟨rfl, hb2⟩)
        go_ret
        exact ⟨rfl, below2 hb hb2⟩
      | true =>
        rw [ck_no (by rintro ⟨_, _, h | h⟩ <;> simp at h)]
        go_enter Tryd.func25, Tryd.ntmps25
        go_wp2
        go_ret
        exact ⟨rfl, alloc_b _ _⟩
    · have d1 : (m == 0) = false := by simpa using hm
      by_cases hm2 : 1 ≤ m ∧ m ≤ 64
      · have b3 : decide (m < 1) = false := by simp; omega
        have b4 : decide (64 < m) = false := by simp; omega
        by_cases hz : a = 0 ∧ b = 0 ∧ p = 0
        · obtain ⟨rfl, rfl, rfl⟩ := hz
          rw [ck_yes ⟨hg.1, hg.2, .inr ⟨hm2.1, hm2.2, rfl, rfl, rfl⟩⟩]
          go_enter Tryd.func25, Tryd.ntmps25
          go_wp2
          go_ret
          exact ⟨rfl, alloc_b _ _⟩
        · rw [ck_no (by
            rintro ⟨_, _, h | h⟩
            · exact hm h.1
            · exact hz h.2.2)]
          go_enter Tryd.func25, Tryd.ntmps25
          go_wp2
          all_goals first
            | (go_ret; exact ⟨rfl, alloc_b _ _⟩)
            | (exfalso; exact hz ⟨by assumption, by assumption, by assumption⟩)
            | (exfalso; exact hz (by simp_all))
      · rw [ck_no (by
          rintro ⟨_, _, h | h⟩
          · exact hm h.1
          · exact hm2 ⟨h.1, h.2.1⟩)]
        go_enter Tryd.func25, Tryd.ntmps25
        go_wp2
        all_goals first
          | (go_ret; exact ⟨rfl, alloc_b _ _⟩)
          | (exfalso; simp_all; omega)
          | (exfalso; simp_all)
  · rw [ck_no (fun h => hg ⟨h.1, h.2.1⟩)]
    go_enter Tryd.func25, Tryd.ntmps25
    go_wp2
    all_goals first
      | (go_ret; exact ⟨rfl, alloc_b _ _⟩)
      | (exfalso; simp_all; omega)
      | (exfalso; simp_all)
end Go.Proofs.YtllhgjenkchniaaDoor.Ident
