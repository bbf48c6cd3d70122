/- The statements' own small functions: get, plain. -/
import Derived.Test.YtnkmiigcglddmaaW13
namespace Go.Proofs.Ytnkmiigcglddmaa.Wire
open Go.RowKit Go.ChangeShapes
set_option linter.unusedVariables false
set_option linter.unusedSimpArgs false

/-- What get reads: the number, the text, and what is left. -/
def gv (k : Nat) (st : Option (List Nat)) : Nat × List Nat × Option (List Nat) :=
  if k % 4 = 0 then ((stepR 0 rdU st).1, [], (stepR 0 rdU st).2)
  else if k % 4 = 1 then (u64 (stepR 0 rdI st).1, [], (stepR 0 rdI st).2)
  else if k % 4 = 2 then (0, (stepR [] rdT st).1, (stepR [] rdT st).2)
  else (if (stepR false rdB st).1 then 1 else 0, [], (stepR false rdB st).2)
theorem rdU_lt {l r : List Nat} {n : Nat} (h : rdU l = some (n, r)) : n < 18446744073709551616 := by
  rw [rdU] at h
  cases h2 : rdNum l with
  | none => rw [h2] at h; cases h
  | some x =>
    obtain ⟨m, r'⟩ := x
    rw [h2] at h
    dsimp only at h
    by_cases h3 : m < 18446744073709551616
    · rw [if_pos h3] at h; cases h; exact h3
    · rw [if_neg h3] at h; cases h
theorem stepI_in (st : Option (List Nat)) : I64 (stepR 0 rdI st).1 := by
  have h0 : I64 0 := by unfold I64; omega
  cases st with
  | none => exact h0
  | some l =>
    cases h : rdU l with
    | none => rw [stepR_no (by unfold rdI; rw [h]; rfl)]; exact h0
    | some x =>
      obtain ⟨n, r⟩ := x
      rw [stepR_yes (x := zag n) (r := r) (by unfold rdI; rw [h]; rfl)]
      exact zag_in (rdU_lt h)
/-- The two boxes of get, and the reader. -/
theorem Has.two {w0 W : World} {L : List Asrt} (h : Has w0 W L) (c1 c2 : Array Value) (t1 t2 : TypeId) : Has w0 ((W.alloc (.cells c1 t1)).alloc (.cells c2 t2)) (Bk (W.heap.size + 1) c2 t2 :: Bk W.heap.size c1 t1 :: L) := by
  have := (h.box c1 t1).box c2 t2
  rwa [World.size_alloc] at this
theorem Has.ret3 {w0 w1 : World} {L : List Asrt} {A : Asrt} {bx br : Nat} {cx cr : Array Value} {tx tr : TypeId} (h : Has w0 w1 (A :: Bk bx cx tx :: Bk br cr tr :: L)) (u0 u1 u2 : Value) :
    Has w0 (((w1.setCell ⟨br, 0, none⟩ u0).setCell ⟨br, 1, none⟩ u1).setCell ⟨br, 2, none⟩ u2) (A :: L) :=
  (((h.up3.poke 0 u0).poke 1 u1).poke 2 u2).drop.swap.drop
set_option maxRecDepth 100000 in
set_option maxHeartbeats 4000000 in
theorem h_get (w0 W : World) (L : List Asrt) (p : Nat) (st : Option (List Nat)) (k : Nat) (N : Nat) (S : List Nat) (st' : Option (List Nat)) (hg : gv k st = (N, S, st')) (h : Has w0 W (Rd TR mkP p st :: L)) (hk : k < 256) (hl : (st.getD []).length ≤ 1000000000) :
    Calls Try.prog 40 #[.pointer (some ⟨p, 0, none⟩), .int .u8 (k : Nat)] W (Hs w0 (.agg #[.int .u8 (k : Nat), .int .u64 (N : Nat), .string (str S)]) (Rd TR mkP p st' :: L)) := by
  have H := Lib.hid (h.two #[.int .u8 0, .int .u64 0, .string ⟨#[]⟩] #[.int .u8 (k : Nat), .int .u64 0, .string ⟨#[]⟩] TV TV).up3
  clear h
  unfold gv at hg
  have k4 : (k : Int) % 4 = ((k % 4 : Nat) : Int) := by omega
  rcases kinds k with hj | hj | hj | hj
  · obtain ⟨d0, d1, d2⟩ := kind_is k 0 hj
    rw [if_pos hj] at hg
    obtain ⟨a, t, HX⟩ : ∃ a t, stepR 0 rdU st = (a, t) := ⟨_, _, rfl⟩
    rw [HX] at hg
    have HX := Lib.hid HX
    have HG := Lib.hid hg
    clear hj k4 hg
    go_enter Try.func40, Try.ntmps40
    go_wp2_with fail
    refine (h_ruint w0 _ _ p st _ _ HX.out H.out hl).mono ?_
    rintro e w1 ⟨rfl, h⟩
    have b1 := h.swap.blk
    have b2 := h.up3.blk
    have c10 := blk_cell b1 0 _ rfl
    have c11 := blk_cell b1 1 _ rfl
    have c12 := blk_cell b1 2 _ rfl
    have f11 := blk_frozen b1 1
    have f12 := blk_frozen b1 2
    have c20 := blk_cell b2 0 _ rfl
    have c21 := blk_cell b2 1 _ rfl
    have c22 := blk_cell b2 2 _ rfl
    have f20 := blk_frozen b2 0
    have f21 := blk_frozen b2 1
    have f22 := blk_frozen b2 2
    have H := Lib.hid h
    clear h b1 b2
    go_wp2
    refine bodyPost_ret (v := .agg #[.int .u8 (k : Nat), .int .u64 (a : Nat), .string (⟨#[]⟩)]) (by simp [results, Try.results40, go_sem, c20, c21, c22, f20, f21, f22]) rfl ?_
    have hg := HG.out
    injection hg with g1 g2
    injection g2 with g2 g3
    subst g1 g2 g3
    exact ⟨rfl, (H.out.swap.poke 1 _).swap.ret3 _ _ _⟩
  · obtain ⟨d0, d1, d2⟩ := kind_is k 1 hj
    rw [if_neg (by rw [hj]; decide)] at hg
    rw [if_pos hj] at hg
    have hin := stepI_in st
    obtain ⟨a, t, HX⟩ : ∃ a t, stepR 0 rdI st = (a, t) := ⟨_, _, rfl⟩
    rw [HX] at hg hin
    have HX := Lib.hid HX
    have cv := conv_u64 hin
    clear hin
    have HG := Lib.hid hg
    clear hj k4 hg
    go_enter Try.func40, Try.ntmps40
    go_wp2_with fail
    refine (h_rint w0 _ _ p st _ _ HX.out H.out hl).mono ?_
    rintro e w1 ⟨rfl, h⟩
    have b1 := h.swap.blk
    have b2 := h.up3.blk
    have c10 := blk_cell b1 0 _ rfl
    have c11 := blk_cell b1 1 _ rfl
    have c12 := blk_cell b1 2 _ rfl
    have f11 := blk_frozen b1 1
    have f12 := blk_frozen b1 2
    have c20 := blk_cell b2 0 _ rfl
    have c21 := blk_cell b2 1 _ rfl
    have c22 := blk_cell b2 2 _ rfl
    have f20 := blk_frozen b2 0
    have f21 := blk_frozen b2 1
    have f22 := blk_frozen b2 2
    have H := Lib.hid h
    clear h b1 b2
    go_wp2
    refine bodyPost_ret (v := .agg #[.int .u8 (k : Nat), .int .u64 (u64 a : Nat), .string (⟨#[]⟩)]) (by simp [results, Try.results40, go_sem, c20, c21, c22, f20, f21, f22]) rfl ?_
    have hg := HG.out
    injection hg with g1 g2
    injection g2 with g2 g3
    subst g1 g2 g3
    exact ⟨rfl, (H.out.swap.poke 1 _).swap.ret3 _ _ _⟩
  · obtain ⟨d0, d1, d2⟩ := kind_is k 2 hj
    rw [if_neg (by rw [hj]; decide)] at hg
    rw [if_neg (by rw [hj]; decide)] at hg
    rw [if_pos hj] at hg
    obtain ⟨a, t, HX⟩ : ∃ a t, stepR [] rdT st = (a, t) := ⟨_, _, rfl⟩
    rw [HX] at hg
    have HX := Lib.hid HX
    have HG := Lib.hid hg
    clear hj k4 hg
    go_enter Try.func40, Try.ntmps40
    go_wp2_with fail
    refine (h_rtext w0 _ _ p st _ _ HX.out H.out hl).mono ?_
    rintro e w1 ⟨rfl, h⟩
    have b1 := h.swap.blk
    have b2 := h.up3.blk
    have c10 := blk_cell b1 0 _ rfl
    have c11 := blk_cell b1 1 _ rfl
    have c12 := blk_cell b1 2 _ rfl
    have f11 := blk_frozen b1 1
    have f12 := blk_frozen b1 2
    have c20 := blk_cell b2 0 _ rfl
    have c21 := blk_cell b2 1 _ rfl
    have c22 := blk_cell b2 2 _ rfl
    have f20 := blk_frozen b2 0
    have f21 := blk_frozen b2 1
    have f22 := blk_frozen b2 2
    have H := Lib.hid h
    clear h b1 b2
    go_wp2
    refine bodyPost_ret (v := .agg #[.int .u8 (k : Nat), .int .u64 0, .string (str a)]) (by simp [results, Try.results40, go_sem, c20, c21, c22, f20, f21, f22]) rfl ?_
    have hg := HG.out
    injection hg with g1 g2
    injection g2 with g2 g3
    subst g1 g2 g3
    exact ⟨rfl, (H.out.swap.poke 2 _).swap.ret3 _ _ _⟩
  · obtain ⟨d0, d1, d2⟩ := kind_is k 3 hj
    rw [if_neg (by rw [hj]; decide), if_neg (by rw [hj]; decide), if_neg (by rw [hj]; decide)] at hg
    obtain ⟨a, t, HX⟩ : ∃ a t, stepR false rdB st = (a, t) := ⟨_, _, rfl⟩
    rw [HX] at hg
    have HX := Lib.hid HX
    have HG := Lib.hid hg
    clear hj k4 hg
    cases a
    · go_enter Try.func40, Try.ntmps40
      go_wp2_with fail
      refine (h_rbool w0 _ _ p st _ _ HX.out H.out hl).mono ?_
      rintro e w1 ⟨rfl, h⟩
      have b1 := h.swap.blk
      have b2 := h.up3.blk
      have c10 := blk_cell b1 0 _ rfl
      have c11 := blk_cell b1 1 _ rfl
      have c12 := blk_cell b1 2 _ rfl
      have f11 := blk_frozen b1 1
      have f12 := blk_frozen b1 2
      have c20 := blk_cell b2 0 _ rfl
      have c21 := blk_cell b2 1 _ rfl
      have c22 := blk_cell b2 2 _ rfl
      have f20 := blk_frozen b2 0
      have f21 := blk_frozen b2 1
      have f22 := blk_frozen b2 2
      have H := Lib.hid h
      clear h b1 b2
      go_wp2
      refine bodyPost_ret (v := .agg #[.int .u8 (k : Nat), .int .u64 0, .string ⟨#[]⟩]) (by simp [results, Try.results40, go_sem, c20, c21, c22, f20, f21, f22]) rfl ?_
      have hg := HG.out
      injection hg with g1 g2
      injection g2 with g2 g3
      subst g1 g2 g3
      exact ⟨rfl, H.out.ret3 _ _ _⟩
    · go_enter Try.func40, Try.ntmps40
      go_wp2_with fail
      refine (h_rbool w0 _ _ p st _ _ HX.out H.out hl).mono ?_
      rintro e w1 ⟨rfl, h⟩
      have b1 := h.swap.blk
      have b2 := h.up3.blk
      have c10 := blk_cell b1 0 _ rfl
      have c11 := blk_cell b1 1 _ rfl
      have c12 := blk_cell b1 2 _ rfl
      have f11 := blk_frozen b1 1
      have f12 := blk_frozen b1 2
      have c20 := blk_cell b2 0 _ rfl
      have c21 := blk_cell b2 1 _ rfl
      have c22 := blk_cell b2 2 _ rfl
      have f20 := blk_frozen b2 0
      have f21 := blk_frozen b2 1
      have f22 := blk_frozen b2 2
      have H := Lib.hid h
      clear h b1 b2
      go_wp2
      refine bodyPost_ret (v := .agg #[.int .u8 (k : Nat), .int .u64 1, .string ⟨#[]⟩]) (by simp [results, Try.results40, go_sem, c20, c21, c22, f20, f21, f22]) rfl ?_
      have hg := HG.out
      injection hg with g1 g2
      injection g2 with g2 g3
      subst g1 g2 g3
      exact ⟨rfl, (H.out.swap.poke 1 _).swap.ret3 _ _ _⟩
/-- What plain leaves of a value. -/
def plN (k n : Nat) : Nat := if k % 4 = 2 then 0 else if k % 4 = 3 then n % 2 else n
def plS (k : Nat) (s : ByteArray) : ByteArray := if k % 4 = 2 then s else ⟨#[]⟩
theorem plain_any (k n : Nat) (s : ByteArray) (W : World) (hk : k < 256) (hn : n < 18446744073709551616) :
    Calls Try.prog 41 #[.agg #[.int .u8 (k : Nat), .int .u64 (n : Nat), .string s]] W (Quiet W (.agg #[.int .u8 (k : Nat), .int .u64 (plN k n : Nat), .string (plS k s)])) := by
  rcases kinds k with hj | hj | hj | hj
  · obtain ⟨d0, d1, d2⟩ := kind_is k 0 hj
    have d3 : ((k : Int) % 4 == 3) = false := by rw [beq_eq_false_iff_ne]; omega
    have e1 : plN k n = n := by unfold plN; rw [if_neg (by omega), if_neg (by omega)]
    have e2 : plS k s = ⟨#[]⟩ := by unfold plS; rw [if_neg (by omega)]
    rw [e1, e2]
    clear hj e1 e2
    go_enter Try.func41, Try.ntmps41
    go_wp2
    refine bodyPost_ret (v := .agg #[.int .u8 (k : Nat), .int .u64 (n : Nat), .string ⟨#[]⟩]) (by simp [results, Try.results41, go_sem]) rfl ?_
    exact ⟨rfl, ((Below.refl _ _).alloc (Nat.le_refl _) _).alloc (by simp) _⟩
  · obtain ⟨d0, d1, d2⟩ := kind_is k 1 hj
    have d3 : ((k : Int) % 4 == 3) = false := by rw [beq_eq_false_iff_ne]; omega
    have e1 : plN k n = n := by unfold plN; rw [if_neg (by omega), if_neg (by omega)]
    have e2 : plS k s = ⟨#[]⟩ := by unfold plS; rw [if_neg (by omega)]
    rw [e1, e2]
    clear hj e1 e2
    go_enter Try.func41, Try.ntmps41
    go_wp2
    refine bodyPost_ret (v := .agg #[.int .u8 (k : Nat), .int .u64 (n : Nat), .string ⟨#[]⟩]) (by simp [results, Try.results41, go_sem]) rfl ?_
    exact ⟨rfl, ((Below.refl _ _).alloc (Nat.le_refl _) _).alloc (by simp) _⟩
  · obtain ⟨d0, d1, d2⟩ := kind_is k 2 hj
    have e1 : plN k n = 0 := by unfold plN; rw [if_pos hj]
    have e2 : plS k s = s := by unfold plS; rw [if_pos hj]
    rw [e1, e2]
    clear hj e1 e2
    go_enter Try.func41, Try.ntmps41
    go_wp2
    refine bodyPost_ret (v := .agg #[.int .u8 (k : Nat), .int .u64 0, .string s]) (by simp [results, Try.results41, go_sem]) rfl ?_
    exact ⟨rfl, ((Below.refl _ _).alloc (Nat.le_refl _) _).alloc (by simp) _⟩
  · obtain ⟨d0, d1, d2⟩ := kind_is k 3 hj
    have d3 : ((k : Int) % 4 == 3) = true := by rw [beq_iff_eq]; omega
    have e1 : plN k n = n % 2 := by unfold plN; rw [if_neg (by omega), if_pos hj]
    have e2 : plS k s = ⟨#[]⟩ := by unfold plS; rw [if_neg (by omega)]
    rw [e1, e2]
    clear hj e1 e2
    go_enter Try.func41, Try.ntmps41
    go_wp2
    refine bodyPost_ret (v := .agg #[.int .u8 (k : Nat), .int .u64 ((n % 2 : Nat) : Int), .string ⟨#[]⟩]) (by simp [results, Try.results41, go_sem]) rfl ?_
    exact ⟨rfl, ((Below.refl _ _).alloc (Nat.le_refl _) _).alloc (by simp) _⟩
end Go.Proofs.Ytnkmiigcglddmaa.Wire
