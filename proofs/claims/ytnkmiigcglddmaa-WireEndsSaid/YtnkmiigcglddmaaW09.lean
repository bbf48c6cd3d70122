/- A reader's methods: Read, valid, Fail, Left, End, Uint, Int, Text, Bool. -/
import Derived.Test.YtnkmiigcglddmaaW08
namespace Go.Proofs.Ytnkmiigcglddmaa.Wire
open Go.RowKit Go.ChangeShapes
set_option linter.unusedVariables false
set_option linter.unusedSimpArgs false

/-- The cells of the program's reader, of the document's. -/
def mkP (f : Bool) (v : Value) : Array Value := #[.bool true, .bool f, v]
def mkR (f : Bool) (v : Value) : Array Value := #[.bool true, v, .bool f]
abbrev TR : TypeId := 53
abbrev TR' : TypeId := 73
/-- A reader at block p: the bytes that are left, or none where it has failed. -/
structure RdAt (T : TypeId) (mk : Bool → Value → Array Value) (w : World) (p : Nat) (F : Nat → Prop) (v : Value) (st : Option (List Nat)) : Prop where
  blk : w.heap[p]? = some (.cells (mk st.isNone v) T (0, 0))
  bs : Bs w (fun k => F k ∧ k ≠ p) v (st.getD [])
  fp : F p
  lt : ∀ k, F k → k < w.heap.size
theorem RdAt.kept {T : TypeId} {mk : Bool → Value → Array Value} {w w' : World} {p : Nat} {F : Nat → Prop} {v : Value} {st : Option (List Nat)} (h : RdAt T mk w p F v st) (hs : Same F w w') (hz : w.heap.size ≤ w'.heap.size) : RdAt T mk w' p F v st :=
  ⟨(hs p h.fp).trans h.blk, h.bs.kept (fun k hk => hs k hk.1), h.fp, fun k hk => Nat.lt_of_lt_of_le (h.lt k hk) hz⟩
theorem RdAt.below {T : TypeId} {mk : Bool → Value → Array Value} {w w' : World} {p : Nat} {F : Nat → Prop} {v : Value} {st : Option (List Nat)} (h : RdAt T mk w p F v st) (hb : Below w.heap.size w w') : RdAt T mk w' p F v st :=
  h.kept (Same.of_below hb h.lt) hb.size
theorem RdAt.other {T : TypeId} {mk : Bool → Value → Array Value} {w w' : World} {p : Nat} {F G : Nat → Prop} {v : Value} {st : Option (List Nat)} (h : RdAt T mk w p F v st) (hb : Keeps G w w') (hd : ∀ k, F k → ¬ G k) : RdAt T mk w' p F v st :=
  h.kept (Same.of_keeps hb h.lt hd) hb.size
/-- Behind stores into the reader's own block. -/
theorem RdAt.turn {T : TypeId} {mk : Bool → Value → Array Value} {w w' : World} {p : Nat} {F : Nat → Prop} {v v' : Value} {st st' : Option (List Nat)} (h : RdAt T mk w p F v st) (hk : ∀ k, k ≠ p → w'.heap[k]? = w.heap[k]?) (hz : w.heap.size ≤ w'.heap.size)
    (hb : w'.heap[p]? = some (.cells (mk st'.isNone v') T (0, 0))) (hv : Bs w (fun k => F k ∧ k ≠ p) v' (st'.getD [])) : RdAt T mk w' p F v' st' :=
  ⟨hb, hv.kept (fun k hk' => hk k hk'.2), h.fp, fun k hk' => Nat.lt_of_lt_of_le (h.lt k hk') hz⟩
theorem RdAt.pmade {w : World} {p : Nat} {F : Nat → Prop} {v : Value} {st : Option (List Nat)} (h : RdAt TR mkP w p F v st) : w.cell? ⟨p, 0, none⟩ = some (.bool true) := blk_cell h.blk 0 _ rfl
theorem RdAt.pfail {w : World} {p : Nat} {F : Nat → Prop} {v : Value} {st : Option (List Nat)} (h : RdAt TR mkP w p F v st) : w.cell? ⟨p, 1, none⟩ = some (.bool st.isNone) := blk_cell h.blk 1 _ rfl
theorem RdAt.prest {w : World} {p : Nat} {F : Nat → Prop} {v : Value} {st : Option (List Nat)} (h : RdAt TR mkP w p F v st) : w.cell? ⟨p, 2, none⟩ = some v := blk_cell h.blk 2 _ rfl
theorem RdAt.rmade {w : World} {p : Nat} {F : Nat → Prop} {v : Value} {st : Option (List Nat)} (h : RdAt TR' mkR w p F v st) : w.cell? ⟨p, 0, none⟩ = some (.bool true) := blk_cell h.blk 0 _ rfl
theorem RdAt.rrest {w : World} {p : Nat} {F : Nat → Prop} {v : Value} {st : Option (List Nat)} (h : RdAt TR' mkR w p F v st) : w.cell? ⟨p, 1, none⟩ = some v := blk_cell h.blk 1 _ rfl
theorem RdAt.rfail {w : World} {p : Nat} {F : Nat → Prop} {v : Value} {st : Option (List Nat)} (h : RdAt TR' mkR w p F v st) : w.cell? ⟨p, 2, none⟩ = some (.bool st.isNone) := blk_cell h.blk 2 _ rfl
theorem RdAt.frozen {T : TypeId} {mk : Bool → Value → Array Value} {w : World} {p : Nat} {F : Nat → Prop} {v : Value} {st : Option (List Nat)} (h : RdAt T mk w p F v st) (i : Nat) : w.frozen? ⟨p, i, none⟩ = false := blk_frozen h.blk i
theorem RdAt.form {T : TypeId} {mk : Bool → Value → Array Value} {w : World} {p : Nat} {F : Nat → Prop} {v : Value} {st : Option (List Nat)} (h : RdAt T mk w p F v st) : ∃ a cap, v = .slice a (st.getD []).length cap ∧ (st.getD []).length ≤ cap := by
  obtain ⟨_, a, cap, hv, hc, _⟩ := h.bs; exact ⟨a, cap, hv, hc⟩
/-- A reading: what comes back, and what is left. -/
def stepR {α : Type} (z : α) (rd : List Nat → Option (α × List Nat)) : Option (List Nat) → α × Option (List Nat)
  | none => (z, none)
  | some l => match rd l with | some (x, r) => (x, some r) | none => (z, none)
theorem stepR_yes {α : Type} {z x : α} {rd : List Nat → Option (α × List Nat)} {l r : List Nat} (h : rd l = some (x, r)) : stepR z rd (some l) = (x, some r) := by simp [stepR, h]
theorem stepR_no {α : Type} {z : α} {rd : List Nat → Option (α × List Nat)} {l : List Nat} (h : rd l = none) : stepR z rd (some l) = (z, none) := by simp [stepR, h]
def Took (T : TypeId) (mk : Bool → Value → Array Value) (w : World) (p : Nat) (F : Nat → Prop) (x : Value) (st : Option (List Nat)) (e : Ending) (w' : World) : Prop :=
  e = .returned x ∧ (∃ v, RdAt T mk w' p F v st) ∧ Keeps F w w'

theorem rvalid_any (p : Nat) (b : Bool) (w : World) (h : w.cell? ⟨p, 0, none⟩ = some (.bool b)) :
    Calls Try.prog 51 #[.pointer (some ⟨p, 0, none⟩)] w fun e w' => e = .returned (.bool b) ∧ w = w' := by
  go_enter Try.func51, Try.ntmps51
  go_wp2
  go_ret
  exact ⟨rfl, rfl⟩
theorem rvalid_nil (w : World) : Calls Try.prog 51 #[.pointer none] w fun e w' => e = .returned (.bool false) ∧ w = w' := by
  go_enter Try.func51, Try.ntmps51
  go_wp2
  go_ret
  exact ⟨rfl, rfl⟩
theorem set_other (w : World) (p i : Nat) (u : Value) (k : Nat) (h : k ≠ p) : (w.setCell ⟨p, i, none⟩ u).heap[k]? = w.heap[k]? := Below.heap_setCell w ⟨p, i, none⟩ u k h
theorem set_size (w : World) (a : Addr) (u : Value) : (w.setCell a u).heap.size = w.heap.size := by simp [World.setCell]
/-- Behind Fail. -/
theorem RdAt.failed {w : World} {p : Nat} {F : Nat → Prop} {v : Value} {st : Option (List Nat)} (h : RdAt TR mkP w p F v st) :
    RdAt TR mkP ((w.setCell ⟨p, 1, none⟩ (.bool true)).setCell ⟨p, 2, none⟩ (.slice none 0 0)) p F (.slice none 0 0) none ∧ Keeps F w ((w.setCell ⟨p, 1, none⟩ (.bool true)).setCell ⟨p, 2, none⟩ (.slice none 0 0)) := by
  refine ⟨h.turn (fun k hk => ?_) (by rw [set_size, set_size]; exact Nat.le_refl _) ?_ (Bs.nil _ _ _ _), ((Keeps.refl F w).setCell (p := ⟨p, 1, none⟩) (.inl h.fp) _).setCell (p := ⟨p, 2, none⟩) (.inl h.fp) _⟩
  · rw [set_other _ _ _ _ k hk, set_other _ _ _ _ k hk]
  · exact blk_set (blk_set h.blk 1 _) 2 _
theorem fail_any (p : Nat) (F : Nat → Prop) (v : Value) (st : Option (List Nat)) (w : World) (h : RdAt TR mkP w p F v st) :
    Calls Try.prog 34 #[.pointer (some ⟨p, 0, none⟩)] w (Took TR mkP w p F (.tuple #[]) none) := by
  have hc := h.pmade
  have c1 := h.pfail
  have c2 := h.prest
  have f1 := h.frozen 1
  have f2 := h.frozen 2
  have hf := h.failed
  have HF := Lib.hid hf
  clear hf
  obtain ⟨a, cap, hv, _⟩ := h.form
  subst hv
  clear h
  go_enter Try.func34, Try.ntmps34
  go_wp2_with (go_at_call 51; refine (rvalid_any p true _ hc).mono ?_; rintro e w' ⟨rfl, rfl⟩)
  go_end0
  exact ⟨rfl, ⟨_, HF.out.1⟩, HF.out.2⟩
theorem left_any (p : Nat) (F : Nat → Prop) (v : Value) (st : Option (List Nat)) (w : World) (h : RdAt TR mkP w p F v st) :
    Calls Try.prog 25 #[.pointer (some ⟨p, 0, none⟩)] w fun e w' => e = .returned (.int .i64 ((st.getD []).length : Nat)) ∧ w = w' := by
  have hc := h.pmade
  have c2 := h.prest
  obtain ⟨a, cap, hv, _⟩ := h.form
  subst hv
  clear h
  go_enter Try.func25, Try.ntmps25
  go_wp2_with (go_at_call 51; refine (rvalid_any p true _ hc).mono ?_; rintro e w' ⟨rfl, rfl⟩)
  go_ret
  exact ⟨rfl, rfl⟩
/-- What End says: 0 is OK, 10 is ErrForm. -/
def endE (st : Option (List Nat)) : Int := if st = some [] then 0 else 10
theorem end_any (p : Nat) (F : Nat → Prop) (v : Value) (st : Option (List Nat)) (w : World) (h : RdAt TR mkP w p F v st) :
    Calls Try.prog 27 #[.pointer (some ⟨p, 0, none⟩)] w fun e w' => e = .returned (.int .i64 (endE st)) ∧ w = w' := by
  have hc := h.pmade
  have c1 := h.pfail
  have c2 := h.prest
  obtain ⟨a, cap, hv, _⟩ := h.form
  subst hv
  clear h
  cases st with
  | none =>
    have e1 : endE none = 10 := rfl
    rw [e1]
    clear e1
    go_enter Try.func27, Try.ntmps27
    go_wp2_with (go_at_call 51; refine (rvalid_any p true _ hc).mono ?_; rintro e w' ⟨rfl, rfl⟩)
    go_ret
    exact ⟨rfl, rfl⟩
  | some l =>
    cases l with
    | nil =>
      have e1 : endE (some []) = 0 := rfl
      have E1 := Lib.hid e1
      clear e1
      go_enter Try.func27, Try.ntmps27
      go_wp2_with (go_at_call 51; refine (rvalid_any p true _ hc).mono ?_; rintro e w' ⟨rfl, rfl⟩)
      go_ret
      exact ⟨rfl, rfl⟩
    | cons c l =>
      have e1 : endE (some (c :: l)) = 10 := rfl
      have E1 := Lib.hid e1
      clear e1
      have d1 : decide ((0 : Int) < (l.length : Int) + 1) = true := decide_eq_true (by omega)
      go_enter Try.func27, Try.ntmps27
      go_wp2_with (go_at_call 51; refine (rvalid_any p true _ hc).mono ?_; rintro e w' ⟨rfl, rfl⟩)
      go_ret
      exact ⟨rfl, rfl⟩

theorem take_u (p : Nat) (F : Nat → Prop) (v : Value) (st : Option (List Nat)) (w : World) (h : RdAt TR mkP w p F v st) (hl : (st.getD []).length ≤ 1000000000) :
    Calls Try.prog 60 #[.pointer (some ⟨p, 0, none⟩), .func (.func 61) #[] #[]] w (Took TR mkP w p F (encU (stepR 0 rdU st).1) (stepR 0 rdU st).2) := by
  have hc := h.pmade
  have c1 := h.pfail
  have c2 := h.prest
  have f2 := h.frozen 2
  have HH := Lib.hid h
  obtain ⟨X, hX⟩ : ∃ X, stepR 0 rdU st = X := ⟨_, rfl⟩
  rw [hX]
  have HX := Lib.hid hX
  clear hX
  cases st with
  | none =>
    obtain ⟨a, cap, hv, _⟩ := h.form
    subst hv
    clear h
    go_enter Try.func60, Try.ntmps60
    go_wp2_with (go_at_call 51; refine (rvalid_any p true _ hc).mono ?_; rintro e w' ⟨rfl, rfl⟩)
    go_ret
    have hx := HX.out
    subst hx
    exact ⟨rfl, ⟨_, HH.out⟩, Keeps.refl _ _⟩
  | some l =>
    have HFU := Lib.hid (first_u (fun k => F k ∧ k ≠ p) v l w h.bs hl)
    have HFA := Lib.hid (fail_any p F v (some l) w h)
    obtain ⟨a, cap, hv, hcap⟩ := h.form
    subst hv
    clear h
    go_enter Try.func60, Try.ntmps60
    go_wp2_with (first
      | (go_at_call 51; refine (rvalid_any p true _ hc).mono ?_; rintro e w' ⟨rfl, rfl⟩)
      | (go_at_call 61; fail))
    refine HFU.out.mono ?_
    rintro e w' ⟨x, j, ok, rfl, hj, hr, rfl⟩
    have HR := Lib.hid hr
    clear hr
    cases ok
    · have e1 : stepR 0 rdU (some l) = (0, none) := stepR_no (by simpa using HR.out)
      have E1 := Lib.hid e1
      clear e1
      unfold encU
      go_wp2_with (go_at_call 34; refine HFA.out.mono ?_; rintro e w1 ⟨rfl, hw1, hk1⟩)
      go_ret
      have hx := HX.out.symm.trans E1.out
      subst hx
      exact ⟨rfl, hw1, hk1⟩
    · have e1 : stepR 0 rdU (some l) = (x, some (l.drop j)) := stepR_yes (by simpa using HR.out)
      have E1 := Lib.hid e1
      clear e1
      have hm := fun w => tail_run a l.length cap j hj w
      have hj' : j ≤ l.length := hj
      unfold encU
      go_wp2
      go_ret
      have hx := HX.out.symm.trans E1.out
      subst hx
      refine ⟨rfl, ⟨_, HH.out.turn (fun k hk => set_other _ _ _ _ k hk) (by rw [set_size]; exact Nat.le_refl _) (blk_set HH.out.blk 2 _) (HH.out.bs.tail j hj)⟩, (Keeps.refl F w).setCell (p := ⟨p, 2, none⟩) (.inl HH.out.fp) _⟩
theorem ruint_any (p : Nat) (F : Nat → Prop) (v : Value) (st : Option (List Nat)) (w : World) (h : RdAt TR mkP w p F v st) (hl : (st.getD []).length ≤ 1000000000) :
    Calls Try.prog 35 #[.pointer (some ⟨p, 0, none⟩)] w (Took TR mkP w p F (encU (stepR 0 rdU st).1) (stepR 0 rdU st).2) := by
  have H := Lib.hid (take_u p F v st w h hl)
  clear h
  generalize encU (stepR 0 rdU st).1 = x at *
  generalize (stepR 0 rdU st).2 = st' at *
  go_enter Try.func35, Try.ntmps35
  go_wp2_with (go_at_call 60; refine H.out.mono ?_; rintro e w1 ⟨rfl, hw1, hk1⟩)
  go_ret
  exact ⟨rfl, hw1, hk1⟩

theorem take_i (p : Nat) (F : Nat → Prop) (v : Value) (st : Option (List Nat)) (w : World) (h : RdAt TR mkP w p F v st) (hl : (st.getD []).length ≤ 1000000000) :
    Calls Try.prog 62 #[.pointer (some ⟨p, 0, none⟩), .func (.func 63) #[] #[]] w (Took TR mkP w p F (encI (stepR 0 rdI st).1) (stepR 0 rdI st).2) := by
  have hc := h.pmade
  have c1 := h.pfail
  have c2 := h.prest
  have f2 := h.frozen 2
  have HH := Lib.hid h
  obtain ⟨X, hX⟩ : ∃ X, stepR 0 rdI st = X := ⟨_, rfl⟩
  rw [hX]
  have HX := Lib.hid hX
  clear hX
  cases st with
  | none =>
    obtain ⟨a, cap, hv, _⟩ := h.form
    subst hv
    clear h
    go_enter Try.func62, Try.ntmps62
    go_wp2_with (go_at_call 51; refine (rvalid_any p true _ hc).mono ?_; rintro e w' ⟨rfl, rfl⟩)
    go_ret
    have hx := HX.out
    subst hx
    exact ⟨rfl, ⟨_, HH.out⟩, Keeps.refl _ _⟩
  | some l =>
    have HFU := Lib.hid (first_i (fun k => F k ∧ k ≠ p) v l w h.bs hl)
    have HFA := Lib.hid (fail_any p F v (some l) w h)
    obtain ⟨a, cap, hv, hcap⟩ := h.form
    subst hv
    clear h
    go_enter Try.func62, Try.ntmps62
    go_wp2_with (first
      | (go_at_call 51; refine (rvalid_any p true _ hc).mono ?_; rintro e w' ⟨rfl, rfl⟩)
      | (go_at_call 63; fail))
    refine HFU.out.mono ?_
    rintro e w' ⟨x, j, ok, rfl, hj, hr, rfl⟩
    have HR := Lib.hid hr
    clear hr
    cases ok
    · have e1 : stepR 0 rdI (some l) = (0, none) := stepR_no (by simpa using HR.out)
      have E1 := Lib.hid e1
      clear e1
      unfold encI
      go_wp2_with (go_at_call 34; refine HFA.out.mono ?_; rintro e w1 ⟨rfl, hw1, hk1⟩)
      go_ret
      have hx := HX.out.symm.trans E1.out
      subst hx
      exact ⟨rfl, hw1, hk1⟩
    · have e1 : stepR 0 rdI (some l) = (x, some (l.drop j)) := stepR_yes (by simpa using HR.out)
      have E1 := Lib.hid e1
      clear e1
      have hm := fun w => tail_run a l.length cap j hj w
      have hj' : j ≤ l.length := hj
      unfold encI
      go_wp2
      go_ret
      have hx := HX.out.symm.trans E1.out
      subst hx
      refine ⟨rfl, ⟨_, HH.out.turn (fun k hk => set_other _ _ _ _ k hk) (by rw [set_size]; exact Nat.le_refl _) (blk_set HH.out.blk 2 _) (HH.out.bs.tail j hj)⟩, (Keeps.refl F w).setCell (p := ⟨p, 2, none⟩) (.inl HH.out.fp) _⟩
theorem rint_any (p : Nat) (F : Nat → Prop) (v : Value) (st : Option (List Nat)) (w : World) (h : RdAt TR mkP w p F v st) (hl : (st.getD []).length ≤ 1000000000) :
    Calls Try.prog 36 #[.pointer (some ⟨p, 0, none⟩)] w (Took TR mkP w p F (encI (stepR 0 rdI st).1) (stepR 0 rdI st).2) := by
  have H := Lib.hid (take_i p F v st w h hl)
  clear h
  generalize encI (stepR 0 rdI st).1 = x at *
  generalize (stepR 0 rdI st).2 = st' at *
  go_enter Try.func36, Try.ntmps36
  go_wp2_with (go_at_call 62; refine H.out.mono ?_; rintro e w1 ⟨rfl, hw1, hk1⟩)
  go_ret
  exact ⟨rfl, hw1, hk1⟩

theorem take_t (p : Nat) (F : Nat → Prop) (v : Value) (st : Option (List Nat)) (w : World) (h : RdAt TR mkP w p F v st) (hl : (st.getD []).length ≤ 1000000000) :
    Calls Try.prog 64 #[.pointer (some ⟨p, 0, none⟩), .func (.func 65) #[] #[]] w (Took TR mkP w p F (encT (stepR [] rdT st).1) (stepR [] rdT st).2) := by
  have hc := h.pmade
  have c1 := h.pfail
  have c2 := h.prest
  have f2 := h.frozen 2
  have HH := Lib.hid h
  obtain ⟨X, hX⟩ : ∃ X, stepR [] rdT st = X := ⟨_, rfl⟩
  rw [hX]
  have HX := Lib.hid hX
  clear hX
  cases st with
  | none =>
    obtain ⟨a, cap, hv, _⟩ := h.form
    subst hv
    clear h
    go_enter Try.func64, Try.ntmps64
    go_wp2_with (go_at_call 51; refine (rvalid_any p true _ hc).mono ?_; rintro e w' ⟨rfl, rfl⟩)
    go_ret
    have hx := HX.out
    subst hx
    exact ⟨rfl, ⟨_, HH.out⟩, Keeps.refl _ _⟩
  | some l =>
    have HFU := Lib.hid (first_t (fun k => F k ∧ k ≠ p) v l w h.bs hl)
    have HFA := Lib.hid (fail_any p F v (some l) w h)
    obtain ⟨a, cap, hv, hcap⟩ := h.form
    subst hv
    clear h
    go_enter Try.func64, Try.ntmps64
    go_wp2_with (first
      | (go_at_call 51; refine (rvalid_any p true _ hc).mono ?_; rintro e w' ⟨rfl, rfl⟩)
      | (go_at_call 65; fail))
    refine HFU.out.mono ?_
    rintro e w' ⟨x, j, ok, rfl, hj, hr, rfl⟩
    have HR := Lib.hid hr
    clear hr
    cases ok
    · have e1 : stepR [] rdT (some l) = ([], none) := stepR_no (by simpa using HR.out)
      have E1 := Lib.hid e1
      clear e1
      unfold encT
      go_wp2_with (go_at_call 34; refine HFA.out.mono ?_; rintro e w1 ⟨rfl, hw1, hk1⟩)
      go_ret
      have hx := HX.out.symm.trans E1.out
      subst hx
      exact ⟨rfl, hw1, hk1⟩
    · have e1 : stepR [] rdT (some l) = (x, some (l.drop j)) := stepR_yes (by simpa using HR.out)
      have E1 := Lib.hid e1
      clear e1
      have hm := fun w => tail_run a l.length cap j hj w
      have hj' : j ≤ l.length := hj
      unfold encT
      go_wp2
      go_ret
      have hx := HX.out.symm.trans E1.out
      subst hx
      refine ⟨rfl, ⟨_, HH.out.turn (fun k hk => set_other _ _ _ _ k hk) (by rw [set_size]; exact Nat.le_refl _) (blk_set HH.out.blk 2 _) (HH.out.bs.tail j hj)⟩, (Keeps.refl F w).setCell (p := ⟨p, 2, none⟩) (.inl HH.out.fp) _⟩
theorem rtext_any (p : Nat) (F : Nat → Prop) (v : Value) (st : Option (List Nat)) (w : World) (h : RdAt TR mkP w p F v st) (hl : (st.getD []).length ≤ 1000000000) :
    Calls Try.prog 37 #[.pointer (some ⟨p, 0, none⟩)] w (Took TR mkP w p F (encT (stepR [] rdT st).1) (stepR [] rdT st).2) := by
  have H := Lib.hid (take_t p F v st w h hl)
  clear h
  generalize encT (stepR [] rdT st).1 = x at *
  generalize (stepR [] rdT st).2 = st' at *
  go_enter Try.func37, Try.ntmps37
  go_wp2_with (go_at_call 64; refine H.out.mono ?_; rintro e w1 ⟨rfl, hw1, hk1⟩)
  go_ret
  exact ⟨rfl, hw1, hk1⟩

theorem take_b (p : Nat) (F : Nat → Prop) (v : Value) (st : Option (List Nat)) (w : World) (h : RdAt TR mkP w p F v st) (hl : (st.getD []).length ≤ 1000000000) :
    Calls Try.prog 66 #[.pointer (some ⟨p, 0, none⟩), .func (.func 67) #[] #[]] w (Took TR mkP w p F (encB (stepR false rdB st).1) (stepR false rdB st).2) := by
  have hc := h.pmade
  have c1 := h.pfail
  have c2 := h.prest
  have f2 := h.frozen 2
  have HH := Lib.hid h
  obtain ⟨X, hX⟩ : ∃ X, stepR false rdB st = X := ⟨_, rfl⟩
  rw [hX]
  have HX := Lib.hid hX
  clear hX
  cases st with
  | none =>
    obtain ⟨a, cap, hv, _⟩ := h.form
    subst hv
    clear h
    go_enter Try.func66, Try.ntmps66
    go_wp2_with (go_at_call 51; refine (rvalid_any p true _ hc).mono ?_; rintro e w' ⟨rfl, rfl⟩)
    go_ret
    have hx := HX.out
    subst hx
    exact ⟨rfl, ⟨_, HH.out⟩, Keeps.refl _ _⟩
  | some l =>
    have HFU := Lib.hid (first_b (fun k => F k ∧ k ≠ p) v l w h.bs hl)
    have HFA := Lib.hid (fail_any p F v (some l) w h)
    obtain ⟨a, cap, hv, hcap⟩ := h.form
    subst hv
    clear h
    go_enter Try.func66, Try.ntmps66
    go_wp2_with (first
      | (go_at_call 51; refine (rvalid_any p true _ hc).mono ?_; rintro e w' ⟨rfl, rfl⟩)
      | (go_at_call 67; fail))
    refine HFU.out.mono ?_
    rintro e w' ⟨x, j, ok, rfl, hj, hr, rfl⟩
    have HR := Lib.hid hr
    clear hr
    cases ok
    · have e1 : stepR false rdB (some l) = (false, none) := stepR_no (by simpa using HR.out)
      have E1 := Lib.hid e1
      clear e1
      unfold encB
      go_wp2_with (go_at_call 34; refine HFA.out.mono ?_; rintro e w1 ⟨rfl, hw1, hk1⟩)
      go_ret
      have hx := HX.out.symm.trans E1.out
      subst hx
      exact ⟨rfl, hw1, hk1⟩
    · have e1 : stepR false rdB (some l) = (x, some (l.drop j)) := stepR_yes (by simpa using HR.out)
      have E1 := Lib.hid e1
      clear e1
      have hm := fun w => tail_run a l.length cap j hj w
      have hj' : j ≤ l.length := hj
      unfold encB
      go_wp2
      go_ret
      have hx := HX.out.symm.trans E1.out
      subst hx
      refine ⟨rfl, ⟨_, HH.out.turn (fun k hk => set_other _ _ _ _ k hk) (by rw [set_size]; exact Nat.le_refl _) (blk_set HH.out.blk 2 _) (HH.out.bs.tail j hj)⟩, (Keeps.refl F w).setCell (p := ⟨p, 2, none⟩) (.inl HH.out.fp) _⟩
theorem rbool_any (p : Nat) (F : Nat → Prop) (v : Value) (st : Option (List Nat)) (w : World) (h : RdAt TR mkP w p F v st) (hl : (st.getD []).length ≤ 1000000000) :
    Calls Try.prog 38 #[.pointer (some ⟨p, 0, none⟩)] w (Took TR mkP w p F (encB (stepR false rdB st).1) (stepR false rdB st).2) := by
  have H := Lib.hid (take_b p F v st w h hl)
  clear h
  generalize encB (stepR false rdB st).1 = x at *
  generalize (stepR false rdB st).2 = st' at *
  go_enter Try.func38, Try.ntmps38
  go_wp2_with (go_at_call 66; refine H.out.mono ?_; rintro e w1 ⟨rfl, hw1, hk1⟩)
  go_ret
  exact ⟨rfl, hw1, hk1⟩
end Go.Proofs.Ytnkmiigcglddmaa.Wire
