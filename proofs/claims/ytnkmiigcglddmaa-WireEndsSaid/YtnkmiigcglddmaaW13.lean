/- The statements' own small functions: put, get, plain. -/
import Derived.Test.YtnkmiigcglddmaaW12
namespace Go.Proofs.Ytnkmiigcglddmaa.Wire
open Go.RowKit Go.ChangeShapes
set_option linter.unusedVariables false
set_option linter.unusedSimpArgs false

/-- A block that is known whole. -/
def Bk (b : Nat) (cs : Array Value) (t : TypeId) : Asrt := fun F w => w.heap[b]? = some (.cells cs t (0, 0)) ∧ F b ∧ ∀ k, F k → k < w.heap.size
theorem stable_bk (b : Nat) (cs : Array Value) (t : TypeId) : Stable (Bk b cs t) := fun F G w w' h hs hz hG hl => ⟨(hs b h.2.1).trans h.1, hG b h.2.1, hl⟩
theorem Has.box {w0 W : World} {L : List Asrt} (h : Has w0 W L) (cs : Array Value) (t : TypeId) : Has w0 (W.alloc (.cells cs t)) (Bk W.heap.size cs t :: L) :=
  h.add ((Below.refl _ _).alloc (Nat.le_refl _) _) (stable_bk _ _ _) ⟨World.alloc_heap_new W _, ⟨Nat.le_refl _, by simp⟩, fun k hk => hk.2⟩
theorem Has.blk {w0 W : World} {L : List Asrt} {b : Nat} {cs : Array Value} {t : TypeId} (h : Has w0 W (Bk b cs t :: L)) : W.heap[b]? = some (.cells cs t (0, 0)) := by
  obtain ⟨F, hF, _⟩ := h.fst; exact hF.1
theorem Has.poke {w0 W : World} {L : List Asrt} {b : Nat} {cs : Array Value} {t : TypeId} (h : Has w0 W (Bk b cs t :: L)) (i : Nat) (u : Value) : Has w0 (W.setCell ⟨b, i, none⟩ u) (Bk b (cs.setIfInBounds i u) t :: L) := by
  obtain ⟨F, ⟨h1, h2, h3⟩, hF, hst⟩ := h.step
  refine hst _ _ (stable_bk _ _ _) ⟨blk_set h1 i u, .inl h2, fun k hk => ?_⟩ ((Keeps.refl F W).setCell (p := ⟨b, i, none⟩) (.inl h2) u)
  rcases hk with hk | hk
  · rw [set_size]; exact h3 k hk
  · exact hk.2
theorem All.swap2 {A B C : Asrt} {L : List Asrt} {G : Nat → Prop} {w : World} (h : All (A :: B :: C :: L) G w) (hlt : ∀ k, G k → k < w.heap.size) : All (A :: C :: B :: L) G w := by
  obtain ⟨F, h1, hA, hS, hL⟩ := h
  exact ⟨F, h1, hA, hS, hL.swap fun k hk => hlt k hk.1⟩
theorem All.swap3 {A B C D : Asrt} {L : List Asrt} {G : Nat → Prop} {w : World} (h : All (A :: B :: C :: D :: L) G w) (hlt : ∀ k, G k → k < w.heap.size) : All (A :: B :: D :: C :: L) G w := by
  obtain ⟨F, h1, hA, hS, hL⟩ := h
  exact ⟨F, h1, hA, hS, hL.swap2 fun k hk => hlt k hk.1⟩
theorem Has.swap2 {w0 W : World} {A B C : Asrt} {L : List Asrt} (h : Has w0 W (A :: B :: C :: L)) : Has w0 W (A :: C :: B :: L) := ⟨h.bel, h.all.swap2 fun k hk => hk.2⟩
theorem Has.swap3 {w0 W : World} {A B C D : Asrt} {L : List Asrt} (h : Has w0 W (A :: B :: C :: D :: L)) : Has w0 W (A :: B :: D :: C :: L) := ⟨h.bel, h.all.swap3 fun k hk => hk.2⟩
/-- The third comes first. -/
theorem Has.up3 {w0 W : World} {A B C : Asrt} {L : List Asrt} (h : Has w0 W (A :: B :: C :: L)) : Has w0 W (C :: A :: B :: L) := h.swap2.swap
theorem Has.up4 {w0 W : World} {A B C D : Asrt} {L : List Asrt} (h : Has w0 W (A :: B :: C :: D :: L)) : Has w0 W (D :: A :: B :: C :: L) := h.swap3.up3
/-- The first becomes the third. -/
theorem Has.down3 {w0 W : World} {A B C : Asrt} {L : List Asrt} (h : Has w0 W (A :: B :: C :: L)) : Has w0 W (B :: C :: A :: L) := h.swap.swap2

abbrev TV : TypeId := 31
/-- A value of the statements. -/
def vl (k n : Nat) (s : ByteArray) : Value := .agg #[.int .u8 (k : Nat), .int .u64 (n : Nat), .string s]
def i64 (n : Nat) : Int := if n < 9223372036854775808 then (n : Int) else (n : Int) - 18446744073709551616
def u64 (a : Int) : Nat := if 0 ≤ a then a.toNat else (a + 18446744073709551616).toNat
theorem i64_in {n : Nat} (h : n < 18446744073709551616) : I64 (i64 n) := by unfold i64 I64; split <;> omega
theorem u64_lt {a : Int} (h : I64 a) : u64 a < 18446744073709551616 := by obtain ⟨h1, h2⟩ := h; unfold u64; split <;> omega
theorem i64_u64 {a : Int} (h : I64 a) : i64 (u64 a) = a := by obtain ⟨h1, h2⟩ := h; unfold i64 u64; split <;> split <;> omega
theorem u64_i64 {n : Nat} (h : n < 18446744073709551616) : u64 (i64 n) = n := by unfold i64 u64; split <;> split <;> omega
theorem conv_i64 {n : Nat} (h : n < 18446744073709551616) : IntKind.i64.wrap (n : Int) = i64 n := by have := IntKind.wrap_i64 (n : Int); unfold i64; split <;> omega
theorem conv_u64 {a : Int} (h : I64 a) : IntKind.u64.wrap a = (u64 a : Nat) := by obtain ⟨h1, h2⟩ := h; have := IntKind.wrap_u64 a; unfold u64; split <;> omega
/-- The bytes of a value. -/
def pv (k n : Nat) (s : ByteArray) : List Nat :=
  if k % 4 = 0 then digs n else if k % 4 = 1 then digs (zig (i64 n)) else if k % 4 = 2 then digs s.size ++ sb s else digs (if n % 2 = 1 then 1 else 0)
/-- Which of the four kinds. -/
theorem kinds (k : Nat) : k % 4 = 0 ∨ k % 4 = 1 ∨ k % 4 = 2 ∨ k % 4 = 3 := by omega
theorem beq_int (a b : Nat) : ((a : Int) == (b : Int)) = decide (a = b) := by rw [Bool.eq_iff_iff, beq_iff_eq, decide_eq_true_iff]; omega
theorem kind_is (k j : Nat) (h : k % 4 = j) : ((k : Int) % 4 == 0) = decide (j = 0) ∧ ((k : Int) % 4 == 1) = decide (j = 1) ∧ ((k : Int) % 4 == 2) = decide (j = 2) := by
  have e : (k : Int) % 4 = (j : Int) := by omega
  rw [e]
  exact ⟨beq_int j 0, beq_int j 1, beq_int j 2⟩
set_option maxRecDepth 100000 in
set_option maxHeartbeats 1000000 in
theorem h_put (w0 W : World) (L : List Asrt) (p : Nat) (l : List Nat) (k n : Nat) (s : ByteArray) (h : Has w0 W (Wr TW p l :: L)) (hk : k < 256) (hn : n < 18446744073709551616) (hs : s.size ≤ 100000000) (hl : l.length ≤ 100000000) :
    Calls Try.prog 39 #[.pointer (some ⟨p, 0, none⟩), .agg #[.int .u8 (k : Nat), .int .u64 (n : Nat), .string s]] W (Hs w0 (.tuple #[]) (Wr TW p (l ++ pv k n s) :: L)) := by
  have H := Lib.hid ((h.box #[.int .u8 (k : Nat), .int .u64 (n : Nat), .string s] TV).swap)
  have hpv : pv k n s = if k % 4 = 0 then digs n else if k % 4 = 1 then digs (zig (i64 n)) else if k % 4 = 2 then digs s.size ++ sb s else digs (if n % 2 = 1 then 1 else 0) := rfl
  clear h
  obtain ⟨X, hX⟩ : ∃ X, pv k n s = X := ⟨_, rfl⟩
  rw [hX] at hpv
  rw [hX]
  have HP := Lib.hid hpv
  clear hpv hX
  have k4 : (k : Int) % 4 = ((k % 4 : Nat) : Int) := by omega
  rcases kinds k with hj | hj | hj | hj
  · obtain ⟨d0, d1, d2⟩ := kind_is k 0 hj
    have HJ := Lib.hid hj
    clear hj k4
    go_enter Try.func39, Try.ntmps39
    go_wp2_with fail
    refine (h_uint w0 _ _ p l n H.out hn hl).mono ?_
    rintro e w1 ⟨rfl, h⟩
    have H := Lib.hid h.swap.drop
    clear h
    go_wp2_with fail
    go_end0
    have hp := HP.out
    rw [if_pos HJ.out] at hp
    exact ⟨rfl, by rw [hp]; exact H.out⟩
  · obtain ⟨d0, d1, d2⟩ := kind_is k 1 hj
    have HJ := Lib.hid hj
    have cv := conv_i64 hn
    have HI := Lib.hid (i64_in hn)
    clear hj k4
    go_enter Try.func39, Try.ntmps39
    go_wp2_with fail
    refine (h_int w0 _ _ p l (i64 n) H.out HI.out hl).mono ?_
    rintro e w1 ⟨rfl, h⟩
    have H := Lib.hid h.swap.drop
    clear h
    go_wp2_with fail
    go_end0
    have hp := HP.out
    rw [if_neg (by rw [HJ.out]; decide), if_pos HJ.out] at hp
    exact ⟨rfl, by rw [hp]; exact H.out⟩
  · obtain ⟨d0, d1, d2⟩ := kind_is k 2 hj
    have HJ := Lib.hid hj
    clear hj k4
    go_enter Try.func39, Try.ntmps39
    go_wp2_with fail
    refine (h_text w0 _ _ p l s H.out hl hs).mono ?_
    rintro e w1 ⟨rfl, h⟩
    have H := Lib.hid h.swap.drop
    clear h
    go_wp2_with fail
    go_end0
    have hp := HP.out
    rw [if_neg (by rw [HJ.out]; decide), if_neg (by rw [HJ.out]; decide), if_pos HJ.out] at hp
    exact ⟨rfl, by rw [hp]; exact H.out⟩
  · obtain ⟨d0, d1, d2⟩ := kind_is k 3 hj
    have HJ := Lib.hid hj
    have e2 : ((n : Int) % 2 == 1) = decide (n % 2 = 1) := by rw [Bool.eq_iff_iff, beq_iff_eq, decide_eq_true_iff]; omega
    clear hj k4
    go_enter Try.func39, Try.ntmps39
    go_wp2_with fail
    refine (h_bool w0 _ _ p l (decide (n % 2 = 1)) H.out hl).mono ?_
    rintro e w1 ⟨rfl, h⟩
    have H := Lib.hid h.swap.drop
    clear h
    go_wp2_with fail
    go_end0
    have hp := HP.out
    rw [if_neg (by rw [HJ.out]; decide), if_neg (by rw [HJ.out]; decide), if_neg (by rw [HJ.out]; decide)] at hp
    refine ⟨rfl, ?_⟩
    rw [hp]
    have := H.out
    by_cases hn2 : n % 2 = 1
    · simpa [hn2] using this
    · simpa [hn2] using this
end Go.Proofs.Ytnkmiigcglddmaa.Wire
