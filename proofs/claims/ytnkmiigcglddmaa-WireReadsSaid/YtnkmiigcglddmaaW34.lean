/- The document's reader among the things; same; the walk of WireReads. -/
import Derived.Test.YtnkmiigcglddmaaW33
import Derived.Test.YtnkmiigcglddmaaW28
namespace Go.Proofs.Ytnkmiigcglddmaa.Wire
open Go.RowKit Go.ChangeShapes
set_option linter.unusedVariables false
set_option linter.unusedSimpArgs false

theorem h_qread (w0 W : World) (L : List Asrt) (F : Nat → Prop) (v : Value) (l : List Nat) (h : Has w0 W L) (hv : Bs W F v l) (hF : ∀ k, F k → k < W.heap.size) (hl : l.length ≤ 100000000) :
    Calls Try.prog 24 #[v] W fun e W' => ∃ p, e = .returned (.pointer (some ⟨p, 0, none⟩)) ∧ Has w0 W' (Rd TR' mkR p (some l) :: L) ∧ Below W.heap.size W W' :=
  (rread_any F v l W hv hF hl).mono fun e W' ⟨p, v', he, hr, hb⟩ => ⟨p, he, h.add hb (stable_rd _ _ _ _) ⟨v', hr⟩, hb⟩
theorem h_qfail (w0 W : World) (L : List Asrt) (p : Nat) (st : Option (List Nat)) (h : Has w0 W (Rd TR' mkR p st :: L)) :
    Calls Try.prog 57 #[.pointer (some ⟨p, 0, none⟩)] W (Hs w0 (.tuple #[]) (Rd TR' mkR p none :: L)) := by
  obtain ⟨F, ⟨v, hv⟩, hF, hst⟩ := h.step
  exact (qfail_any p F v st W hv).mono fun e W' ht => took_has hF hst ht
theorem h_qleft (w0 W : World) (L : List Asrt) (p : Nat) (st : Option (List Nat)) (h : Has w0 W (Rd TR' mkR p st :: L)) :
    Calls Try.prog 26 #[.pointer (some ⟨p, 0, none⟩)] W fun e W' => e = .returned (.int .i64 ((st.getD []).length : Nat)) ∧ W = W' := by
  obtain ⟨F, ⟨v, hv⟩, _⟩ := h.fst
  exact qleft_any p F v st W hv
theorem h_qend (w0 W : World) (L : List Asrt) (p : Nat) (st : Option (List Nat)) (h : Has w0 W (Rd TR' mkR p st :: L)) :
    Calls Try.prog 28 #[.pointer (some ⟨p, 0, none⟩)] W fun e W' => e = .returned (.int .i64 (endE st)) ∧ W = W' := by
  obtain ⟨F, ⟨v, hv⟩, _⟩ := h.fst
  exact qend_any p F v st W hv
theorem h_quint (w0 W : World) (L : List Asrt) (p : Nat) (st st' : Option (List Nat)) (x : Nat) (hx : stepR 0 rdU st = (x, st')) (h : Has w0 W (Rd TR' mkR p st :: L)) (hl : (st.getD []).length ≤ 1000000000) :
    Calls Try.prog 53 #[.pointer (some ⟨p, 0, none⟩)] W (Hs w0 (.int .u64 (x : Nat)) (Rd TR' mkR p st' :: L)) := by
  obtain ⟨F, ⟨v, hv⟩, hF, hst⟩ := h.step
  have := quint_any p F v st W hv hl
  rw [hx] at this
  exact this.mono fun e W' ht => took_has hF hst ht
theorem h_qint (w0 W : World) (L : List Asrt) (p : Nat) (st st' : Option (List Nat)) (x : Int) (hx : stepR 0 rdI st = (x, st')) (h : Has w0 W (Rd TR' mkR p st :: L)) (hl : (st.getD []).length ≤ 1000000000) :
    Calls Try.prog 54 #[.pointer (some ⟨p, 0, none⟩)] W (Hs w0 (.int .i64 x) (Rd TR' mkR p st' :: L)) := by
  obtain ⟨F, ⟨v, hv⟩, hF, hst⟩ := h.step
  have := qint_any p F v st W hv hl
  rw [hx] at this
  exact this.mono fun e W' ht => took_has hF hst ht
theorem h_qtext (w0 W : World) (L : List Asrt) (p : Nat) (st st' : Option (List Nat)) (x : List Nat) (hx : stepR [] rdT st = (x, st')) (h : Has w0 W (Rd TR' mkR p st :: L)) (hl : (st.getD []).length ≤ 1000000000) :
    Calls Try.prog 55 #[.pointer (some ⟨p, 0, none⟩)] W (Hs w0 (.string (str x)) (Rd TR' mkR p st' :: L)) := by
  obtain ⟨F, ⟨v, hv⟩, hF, hst⟩ := h.step
  have := qtext_any p F v st W hv hl
  rw [hx] at this
  exact this.mono fun e W' ht => took_has hF hst ht
theorem h_qbool (w0 W : World) (L : List Asrt) (p : Nat) (st st' : Option (List Nat)) (x : Bool) (hx : stepR false rdB st = (x, st')) (h : Has w0 W (Rd TR' mkR p st :: L)) (hl : (st.getD []).length ≤ 1000000000) :
    Calls Try.prog 56 #[.pointer (some ⟨p, 0, none⟩)] W (Hs w0 (.bool x) (Rd TR' mkR p st' :: L)) := by
  obtain ⟨F, ⟨v, hv⟩, hF, hst⟩ := h.step
  have := qbool_any p F v st W hv hl
  rw [hx] at this
  exact this.mono fun e W' ht => took_has hF hst ht
/-- What is left behind a reading of the kind k, or a failing. -/
def nx (k : Nat) (st : Option (List Nat)) : Option (List Nat) :=
  if k % 5 = 0 then (stepR 0 rdU st).2 else if k % 5 = 1 then (stepR 0 rdI st).2 else if k % 5 = 2 then (stepR [] rdT st).2 else if k % 5 = 3 then (stepR false rdB st).2 else none
theorem nx_left (k : Nat) (st : Option (List Nat)) : left (nx k st) ≤ left st := by
  unfold nx
  split
  · exact stepR_left (fun _ _ _ => rdU_len) st
  · split
    · exact stepR_left (fun _ _ _ => rdI_len) st
    · split
      · exact stepR_left (fun _ _ _ => rdT_len) st
      · split
        · exact stepR_left (fun _ _ _ => rdB_len) st
        · exact Nat.zero_le _
theorem fives (k : Nat) : k % 5 = 0 ∨ k % 5 = 1 ∨ k % 5 = 2 ∨ k % 5 = 3 ∨ k % 5 = 4 := by omega
theorem five_is (k j : Nat) (h : k % 5 = j) : ((k : Int) % 5 == 0) = decide (j = 0) ∧ ((k : Int) % 5 == 1) = decide (j = 1) ∧ ((k : Int) % 5 == 2) = decide (j = 2) ∧ ((k : Int) % 5 == 3) = decide (j = 3) ∧ ((k : Int) % 5 == 4) = decide (j = 4) := by
  have e : (k : Int) % 5 = (j : Int) := by omega
  rw [e]
  exact ⟨beq_int j 0, beq_int j 1, beq_int j 2, beq_int j 3, beq_int j 4⟩
set_option maxRecDepth 100000 in
set_option maxHeartbeats 4000000 in
theorem h_same (w0 W : World) (L : List Asrt) (p q : Nat) (st : Option (List Nat)) (k : Nat) (h : Has w0 W (Rd TR mkP p st :: Rd TR' mkR q st :: L)) (hk : k < 256) (hl : (st.getD []).length ≤ 1000000000) :
    Calls Try.prog 29 #[.pointer (some ⟨p, 0, none⟩), .pointer (some ⟨q, 0, none⟩), .int .u8 (k : Nat)] W (Hs w0 (.bool true) (Rd TR mkP p (nx k st) :: Rd TR' mkR q (nx k st) :: L)) := by
  have H := Lib.hid h
  clear h
  obtain ⟨Y, hY⟩ : ∃ Y, nx k st = Y := ⟨_, rfl⟩
  rw [hY]
  unfold nx at hY
  rcases fives k with hj | hj | hj | hj | hj
  · obtain ⟨d0, d1, d2, d3, d4⟩ := five_is k 0 hj
    rw [if_pos hj] at hY
    obtain ⟨a, t, HX⟩ : ∃ a t, stepR 0 rdU st = (a, t) := ⟨_, _, rfl⟩
    rw [HX] at hY
    have HX := Lib.hid HX
    have HY := Lib.hid (show t = Y from hY)
    clear hj hY
    go_enter Try.func29, Try.ntmps29
    go_wp2_with fail
    refine (h_ruint w0 _ _ p st _ _ HX.out H.out hl).mono ?_
    rintro e w1 ⟨rfl, h⟩
    have H := Lib.hid h.swap
    clear h
    go_wp2_with fail
    refine (h_quint w0 _ _ q st _ _ HX.out H.out hl).mono ?_
    rintro e w2 ⟨rfl, h⟩
    have H := Lib.hid h.swap
    clear h
    go_wp2_with fail
    refine (h_left w0 _ _ p _ H.out).mono ?_
    rintro e w' ⟨rfl, rfl⟩
    go_wp2_with fail
    refine (h_qleft w0 _ _ q _ H.out.swap).mono ?_
    rintro e w' ⟨rfl, rfl⟩
    go_wp2_with fail
    refine (h_end w0 _ _ p _ H.out).mono ?_
    rintro e w' ⟨rfl, rfl⟩
    go_wp2_with fail
    refine (h_qend w0 _ _ q _ H.out.swap).mono ?_
    rintro e w' ⟨rfl, rfl⟩
    go_wp2
    go_ret
    have hy := HY.out
    subst hy
    exact ⟨rfl, H.out⟩
  · obtain ⟨d0, d1, d2, d3, d4⟩ := five_is k 1 hj
    rw [if_neg (by rw [hj]; decide)] at hY
    rw [if_pos hj] at hY
    obtain ⟨a, t, HX⟩ : ∃ a t, stepR 0 rdI st = (a, t) := ⟨_, _, rfl⟩
    rw [HX] at hY
    have HX := Lib.hid HX
    have HY := Lib.hid (show t = Y from hY)
    clear hj hY
    go_enter Try.func29, Try.ntmps29
    go_wp2_with fail
    refine (h_rint w0 _ _ p st _ _ HX.out H.out hl).mono ?_
    rintro e w1 ⟨rfl, h⟩
    have H := Lib.hid h.swap
    clear h
    go_wp2_with fail
    refine (h_qint w0 _ _ q st _ _ HX.out H.out hl).mono ?_
    rintro e w2 ⟨rfl, h⟩
    have H := Lib.hid h.swap
    clear h
    go_wp2_with fail
    refine (h_left w0 _ _ p _ H.out).mono ?_
    rintro e w' ⟨rfl, rfl⟩
    go_wp2_with fail
    refine (h_qleft w0 _ _ q _ H.out.swap).mono ?_
    rintro e w' ⟨rfl, rfl⟩
    go_wp2_with fail
    refine (h_end w0 _ _ p _ H.out).mono ?_
    rintro e w' ⟨rfl, rfl⟩
    go_wp2_with fail
    refine (h_qend w0 _ _ q _ H.out.swap).mono ?_
    rintro e w' ⟨rfl, rfl⟩
    go_wp2
    go_ret
    have hy := HY.out
    subst hy
    exact ⟨rfl, H.out⟩
  · obtain ⟨d0, d1, d2, d3, d4⟩ := five_is k 2 hj
    rw [if_neg (by rw [hj]; decide)] at hY
    rw [if_neg (by rw [hj]; decide)] at hY
    rw [if_pos hj] at hY
    obtain ⟨a, t, HX⟩ : ∃ a t, stepR [] rdT st = (a, t) := ⟨_, _, rfl⟩
    rw [HX] at hY
    have HX := Lib.hid HX
    have HY := Lib.hid (show t = Y from hY)
    clear hj hY
    go_enter Try.func29, Try.ntmps29
    go_wp2_with fail
    refine (h_rtext w0 _ _ p st _ _ HX.out H.out hl).mono ?_
    rintro e w1 ⟨rfl, h⟩
    have H := Lib.hid h.swap
    clear h
    go_wp2_with fail
    refine (h_qtext w0 _ _ q st _ _ HX.out H.out hl).mono ?_
    rintro e w2 ⟨rfl, h⟩
    have H := Lib.hid h.swap
    clear h
    go_wp2_with fail
    refine (h_left w0 _ _ p _ H.out).mono ?_
    rintro e w' ⟨rfl, rfl⟩
    go_wp2_with fail
    refine (h_qleft w0 _ _ q _ H.out.swap).mono ?_
    rintro e w' ⟨rfl, rfl⟩
    go_wp2_with fail
    refine (h_end w0 _ _ p _ H.out).mono ?_
    rintro e w' ⟨rfl, rfl⟩
    go_wp2_with fail
    refine (h_qend w0 _ _ q _ H.out.swap).mono ?_
    rintro e w' ⟨rfl, rfl⟩
    go_wp2
    go_ret
    have hy := HY.out
    subst hy
    exact ⟨rfl, H.out⟩
  · obtain ⟨d0, d1, d2, d3, d4⟩ := five_is k 3 hj
    rw [if_neg (by rw [hj]; decide)] at hY
    rw [if_neg (by rw [hj]; decide)] at hY
    rw [if_neg (by rw [hj]; decide)] at hY
    rw [if_pos hj] at hY
    obtain ⟨a, t, HX⟩ : ∃ a t, stepR false rdB st = (a, t) := ⟨_, _, rfl⟩
    rw [HX] at hY
    have HX := Lib.hid HX
    have HY := Lib.hid (show t = Y from hY)
    clear hj hY
    go_enter Try.func29, Try.ntmps29
    go_wp2_with fail
    refine (h_rbool w0 _ _ p st _ _ HX.out H.out hl).mono ?_
    rintro e w1 ⟨rfl, h⟩
    have H := Lib.hid h.swap
    clear h
    go_wp2_with fail
    refine (h_qbool w0 _ _ q st _ _ HX.out H.out hl).mono ?_
    rintro e w2 ⟨rfl, h⟩
    have H := Lib.hid h.swap
    clear h
    go_wp2_with fail
    refine (h_left w0 _ _ p _ H.out).mono ?_
    rintro e w' ⟨rfl, rfl⟩
    go_wp2_with fail
    refine (h_qleft w0 _ _ q _ H.out.swap).mono ?_
    rintro e w' ⟨rfl, rfl⟩
    go_wp2_with fail
    refine (h_end w0 _ _ p _ H.out).mono ?_
    rintro e w' ⟨rfl, rfl⟩
    go_wp2_with fail
    refine (h_qend w0 _ _ q _ H.out.swap).mono ?_
    rintro e w' ⟨rfl, rfl⟩
    go_wp2
    go_ret
    have hy := HY.out
    subst hy
    exact ⟨rfl, H.out⟩
  · obtain ⟨d0, d1, d2, d3, d4⟩ := five_is k 4 hj
    rw [if_neg (by rw [hj]; decide), if_neg (by rw [hj]; decide), if_neg (by rw [hj]; decide), if_neg (by rw [hj]; decide)] at hY
    subst hY
    clear hj
    go_enter Try.func29, Try.ntmps29
    go_wp2_with fail
    refine (h_fail w0 _ _ p st H.out).mono ?_
    rintro e w1 ⟨rfl, h⟩
    have H := Lib.hid h.swap
    clear h
    go_wp2_with fail
    refine (h_qfail w0 _ _ q st H.out).mono ?_
    rintro e w2 ⟨rfl, h⟩
    have H := Lib.hid h.swap
    clear h
    go_wp2_with fail
    refine (h_left w0 _ _ p _ H.out).mono ?_
    rintro e w' ⟨rfl, rfl⟩
    go_wp2_with fail
    refine (h_qleft w0 _ _ q _ H.out.swap).mono ?_
    rintro e w' ⟨rfl, rfl⟩
    go_wp2_with fail
    refine (h_end w0 _ _ p _ H.out).mono ?_
    rintro e w' ⟨rfl, rfl⟩
    go_wp2_with fail
    refine (h_qend w0 _ _ q _ H.out.swap).mono ?_
    rintro e w' ⟨rfl, rfl⟩
    go_wp2
    go_ret
    exact ⟨rfl, H.out⟩
end Go.Proofs.Ytnkmiigcglddmaa.Wire
