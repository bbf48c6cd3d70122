/- The document's reader: valid, Fail, Left, End. -/
import Derived.Test.YtnkmiigcglddmaaW26
import Derived.Deep.RegionHeld3
namespace Go.Proofs.Ytnkmiigcglddmaa.Wire
open Go.RowKit Go.ChangeShapes
set_option linter.unusedVariables false
set_option linter.unusedSimpArgs false

theorem qvalid_any (p : Nat) (b : Bool) (w : World) (h : w.cell? ⟨p, 0, none⟩ = some (.bool b)) :
    Calls Try.prog 52 #[.pointer (some ⟨p, 0, none⟩)] w fun e w' => e = .returned (.bool b) ∧ w = w' := by
  go_enter Try.func52, Try.ntmps52
  go_wp2
  go_ret
  exact ⟨rfl, rfl⟩
theorem RdAt.qfailed {w : World} {p : Nat} {F : Nat → Prop} {v : Value} {st : Option (List Nat)} (h : RdAt TR' mkR w p F v st) :
    RdAt TR' mkR ((w.setCell ⟨p, 2, none⟩ (.bool true)).setCell ⟨p, 1, none⟩ (.slice none 0 0)) p F (.slice none 0 0) none ∧ Keeps F w ((w.setCell ⟨p, 2, none⟩ (.bool true)).setCell ⟨p, 1, none⟩ (.slice none 0 0)) := by
  refine ⟨h.turn (fun k hk => ?_) (by rw [set_size, set_size]; exact Nat.le_refl _) ?_ (Bs.nil _ _ _ _), ((Keeps.refl F w).setCell (p := ⟨p, 2, none⟩) (.inl h.fp) _).setCell (p := ⟨p, 1, none⟩) (.inl h.fp) _⟩
  · rw [set_other _ _ _ _ k hk, set_other _ _ _ _ k hk]
  · exact blk_set (blk_set h.blk 2 _) 1 _
theorem qfail_any (p : Nat) (F : Nat → Prop) (v : Value) (st : Option (List Nat)) (w : World) (h : RdAt TR' mkR w p F v st) :
    Calls Try.prog 57 #[.pointer (some ⟨p, 0, none⟩)] w (Took TR' mkR w p F (.tuple #[]) none) := by
  have hc := h.rmade
  have c1 := h.rrest
  have c2 := h.rfail
  have f1 := h.frozen 1
  have f2 := h.frozen 2
  have HF := Lib.hid h.qfailed
  obtain ⟨a, cap, hv, _⟩ := h.form
  subst hv
  clear h
  go_enter Try.func57, Try.ntmps57
  go_wp2_with (go_at_call 52; refine (qvalid_any p true _ hc).mono ?_; rintro e w' ⟨rfl, rfl⟩)
  go_end0
  exact ⟨rfl, ⟨_, HF.out.1⟩, HF.out.2⟩
theorem qleft_any (p : Nat) (F : Nat → Prop) (v : Value) (st : Option (List Nat)) (w : World) (h : RdAt TR' mkR w p F v st) :
    Calls Try.prog 26 #[.pointer (some ⟨p, 0, none⟩)] w fun e w' => e = .returned (.int .i64 ((st.getD []).length : Nat)) ∧ w = w' := by
  have hc := h.rmade
  have c1 := h.rrest
  have c2 := h.rfail
  obtain ⟨a, cap, hv, _⟩ := h.form
  subst hv
  clear h
  cases st with
  | none =>
    go_enter Try.func26, Try.ntmps26
    go_wp2_with (go_at_call 52; refine (qvalid_any p true _ hc).mono ?_; rintro e w' ⟨rfl, rfl⟩)
    go_ret
    exact ⟨rfl, rfl⟩
  | some l =>
    go_enter Try.func26, Try.ntmps26
    go_wp2_with (go_at_call 52; refine (qvalid_any p true _ hc).mono ?_; rintro e w' ⟨rfl, rfl⟩)
    go_ret
    exact ⟨rfl, rfl⟩
theorem qend_any (p : Nat) (F : Nat → Prop) (v : Value) (st : Option (List Nat)) (w : World) (h : RdAt TR' mkR w p F v st) :
    Calls Try.prog 28 #[.pointer (some ⟨p, 0, none⟩)] w fun e w' => e = .returned (.int .i64 (endE st)) ∧ w = w' := by
  have hc := h.rmade
  have c1 := h.rrest
  have c2 := h.rfail
  obtain ⟨a, cap, hv, _⟩ := h.form
  subst hv
  clear h
  cases st with
  | none =>
    have e1 : endE none = 10 := rfl
    rw [e1]
    clear e1
    go_enter Try.func28, Try.ntmps28
    go_wp2_with (go_at_call 52; refine (qvalid_any p true _ hc).mono ?_; rintro e w' ⟨rfl, rfl⟩)
    go_ret
    exact ⟨rfl, rfl⟩
  | some l =>
    cases l with
    | nil =>
      have e1 : endE (some []) = 0 := rfl
      have E1 := Lib.hid e1
      clear e1
      go_enter Try.func28, Try.ntmps28
      go_wp2_with (go_at_call 52; refine (qvalid_any p true _ hc).mono ?_; rintro e w' ⟨rfl, rfl⟩)
      go_ret
      exact ⟨rfl, rfl⟩
    | cons c l =>
      have e1 : endE (some (c :: l)) = 10 := rfl
      have E1 := Lib.hid e1
      clear e1
      have d1 : decide ((0 : Int) < (l.length : Int) + 1) = true := decide_eq_true (by omega)
      go_enter Try.func28, Try.ntmps28
      go_wp2_with (go_at_call 52; refine (qvalid_any p true _ hc).mono ?_; rintro e w' ⟨rfl, rfl⟩)
      go_ret
      exact ⟨rfl, rfl⟩

/-- The digits that were read are those of the number: or they are no number. -/
theorem On.same {l : List Nat} {k : Nat} (h8 : ∀ c ∈ l, c < 256) (h : On l k) (hk : k < l.length) (hk9 : k ≤ 9) (hd : l.getD k 0 < 128) :
    rdU l = if str (digs (low l (k + 1))) = str (l.take (k + 1)) then some (low l (k + 1), l.drop (k + 1)) else none := by
  have hs := h.stop hk hk9 hd
  have hn : low l (k + 1) < 18446744073709551616 := Nat.mod_lt _ (by omega)
  by_cases hb : lastB (l.getD k 0) k = true
  · rw [if_pos hb] at hs
    have h1 := (rdU_some h8 hs).1
    have h2 : digs (low l (k + 1)) = l.take (k + 1) := by
      have h3 : l.take (k + 1) ++ l.drop (k + 1) = digs (low l (k + 1)) ++ l.drop (k + 1) := by rw [List.take_append_drop]; exact h1
      exact (List.append_cancel_right h3).symm
    rw [hs, if_pos (by rw [h2])]
  · rw [if_neg hb] at hs
    rw [hs, if_neg]
    intro e
    have h2 := str_inj (digs_lt _) (fun c hc => h8 c (List.mem_of_mem_take hc)) e
    have h3 : l = digs (low l (k + 1)) ++ l.drop (k + 1) := by rw [h2, List.take_append_drop]
    have h4 := rdU_digs _ hn (l.drop (k + 1))
    rw [← h3, hs] at h4
    cases h4
theorem add_step (u d k : Nat) : IntKind.u64.wrap ((u : Int) + IntKind.u64.wrap ((d : Int) % 128 * 2 ^ (7 * k))) = (((u + d % 128 * 128 ^ k) % 18446744073709551616 : Nat) : Int) := by
  have e128 : 128 ^ k = 2 ^ (7 * k) := by rw [Nat.pow_mul]
  rw [e128]
  have e : ((d : Int) % 128 * 2 ^ (7 * k)) = ((d % 128 * 2 ^ (7 * k) : Nat) : Int) := by push_cast; rfl
  rw [e, IntKind.wrap_u64, IntKind.wrap_u64]
  generalize d % 128 * 2 ^ (7 * k) = y
  omega
theorem upto_at (a : Option Addr) (len cap hi : Nat) (x : Int) (hx : x = (hi : Int)) (h2 : hi ≤ cap) (w : World) :
    (Instr.slice 35 (.slice a len cap) none (some (.int .i64 x)) none).run Try.prog w = .ok (.slice a hi cap) w := by
  subst hx; exact upto_run a len cap hi h2 w
theorem tail_at (a : Option Addr) (len cap j : Nat) (x : Int) (hx : x = (j : Int)) (hj : j ≤ len) (w : World) :
    (Instr.slice 35 (.slice a len cap) (some (.int .i64 x)) none none).run Try.prog w = .ok (.slice (cutA a cap j) (len - j) (cap - j)) w := by
  subst hx; exact tail_run a len cap j hj w
theorem str_ne {a b : ByteArray} (h : a ≠ b) : (a.toList == b.toList) = false := by
  rw [ByteArray.toList_eq, ByteArray.toList_eq, beq_eq_false_iff_ne]
  intro e
  apply h
  cases a; cases b
  exact congrArg ByteArray.mk (Array.toList_inj.1 e)
theorem str_same {a b : ByteArray} (h : a = b) : (a.toList == b.toList) = true := by rw [h]; exact beq_self_eq_true _
end Go.Proofs.Ytnkmiigcglddmaa.Wire
