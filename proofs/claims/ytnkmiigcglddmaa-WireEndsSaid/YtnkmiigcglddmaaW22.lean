/- The statements' own write. -/
import Derived.Test.YtnkmiigcglddmaaW21
namespace Go.Proofs.Ytnkmiigcglddmaa.Wire
open Go.RowKit Go.ChangeShapes
set_option linter.unusedVariables false
set_option linter.unusedSimpArgs false

theorem Has.last2 {w0 W : World} {A B C : Asrt} {L : List Asrt} (h : Has w0 W (A :: B :: C :: L)) : Has w0 W (B :: A :: L) := h.swap2.swap.drop.swap
set_option maxRecDepth 100000 in
set_option maxHeartbeats 2000000 in
theorem h_write (w0 W : World) (L : List Asrt) (p q : Nat) (l m : List Nat) (k n : Nat) (s : ByteArray) (h : Has w0 W (Wr TW p l :: Wr TW' q m :: L)) (hk : k < 256) (hn : n < 18446744073709551616) (hs : s.size ≤ 100000000) (hl : l.length ≤ 100000000) (hm : m.length ≤ 100000000) :
    Calls Try.prog 16 #[.pointer (some ⟨p, 0, none⟩), .pointer (some ⟨q, 0, none⟩), .agg #[.int .u8 (k : Nat), .int .u64 (n : Nat), .string s]] W (Hs w0 (.tuple #[]) (Wr TW p (l ++ pv k n s) :: Wr TW' q (m ++ pv k n s) :: L)) := by
  have H := Lib.hid ((h.box #[.int .u8 (k : Nat), .int .u64 (n : Nat), .string s] TV).swap)
  have hpv : pv k n s = if k % 4 = 0 then digs n else if k % 4 = 1 then digs (zig (i64 n)) else if k % 4 = 2 then digs s.size ++ sb s else digs (if n % 2 = 1 then 1 else 0) := rfl
  clear h
  obtain ⟨X, hX⟩ : ∃ X, pv k n s = X := ⟨_, rfl⟩
  rw [hX] at hpv
  rw [hX]
  have HP := Lib.hid hpv
  clear hpv hX
  have k4 : (k : Int) % 4 = ((k % 4 : Nat) : Int) := by omega
  rcases kinds k with hj | hj | hj | hj
  · obtain ⟨d0, d1, d2⟩ := kind_is k 0 hj
    have HJ := Lib.hid hj
    clear hj k4
    go_enter Try.func16, Try.ntmps16
    go_wp2_with fail
    refine (h_uint w0 _ _ p l n H.out hn hl).mono ?_
    rintro e w1 ⟨rfl, h⟩
    have b1 := h.swap.blk
    have b10 := blk_cell b1 0 _ rfl
    have b11 := blk_cell b1 1 _ rfl
    have b12 := blk_cell b1 2 _ rfl
    have H := Lib.hid h.up3
    clear h b1
    go_wp2_with fail
    refine (h_wuint w0 _ _ q m n H.out hn hm).mono ?_
    rintro e w2 ⟨rfl, h⟩
    have H := Lib.hid h.last2
    clear h
    go_wp2_with fail
    go_end0
    have hp := HP.out
    rw [if_pos HJ.out] at hp
    exact ⟨rfl, by rw [hp]; exact H.out⟩
  · obtain ⟨d0, d1, d2⟩ := kind_is k 1 hj
    have HJ := Lib.hid hj
    have cv := conv_i64 hn
    have HI := Lib.hid (i64_in hn)
    clear hj k4
    go_enter Try.func16, Try.ntmps16
    go_wp2_with fail
    refine (h_int w0 _ _ p l (i64 n) H.out HI.out hl).mono ?_
    rintro e w1 ⟨rfl, h⟩
    have b1 := h.swap.blk
    have b10 := blk_cell b1 0 _ rfl
    have b11 := blk_cell b1 1 _ rfl
    have b12 := blk_cell b1 2 _ rfl
    have H := Lib.hid h.up3
    clear h b1
    go_wp2_with fail
    refine (h_wint w0 _ _ q m (i64 n) H.out HI.out hm).mono ?_
    rintro e w2 ⟨rfl, h⟩
    have H := Lib.hid h.last2
    clear h
    go_wp2_with fail
    go_end0
    have hp := HP.out
    rw [if_neg (by rw [HJ.out]; decide), if_pos HJ.out] at hp
    exact ⟨rfl, by rw [hp]; exact H.out⟩
  · obtain ⟨d0, d1, d2⟩ := kind_is k 2 hj
    have HJ := Lib.hid hj
    clear hj k4
    go_enter Try.func16, Try.ntmps16
    go_wp2_with fail
    refine (h_text w0 _ _ p l s H.out hl hs).mono ?_
    rintro e w1 ⟨rfl, h⟩
    have b1 := h.swap.blk
    have b10 := blk_cell b1 0 _ rfl
    have b11 := blk_cell b1 1 _ rfl
    have b12 := blk_cell b1 2 _ rfl
    have H := Lib.hid h.up3
    clear h b1
    go_wp2_with fail
    refine (h_wtext w0 _ _ q m s H.out hm hs).mono ?_
    rintro e w2 ⟨rfl, h⟩
    have H := Lib.hid h.last2
    clear h
    go_wp2_with fail
    go_end0
    have hp := HP.out
    rw [if_neg (by rw [HJ.out]; decide), if_neg (by rw [HJ.out]; decide), if_pos HJ.out] at hp
    exact ⟨rfl, by rw [hp]; exact H.out⟩
  · obtain ⟨d0, d1, d2⟩ := kind_is k 3 hj
    have HJ := Lib.hid hj
    have e2 : ((n : Int) % 2 == 1) = decide (n % 2 = 1) := by rw [Bool.eq_iff_iff, beq_iff_eq, decide_eq_true_iff]; omega
    have d3 : ((k : Int) % 4 == 3) = true := by rw [beq_iff_eq]; omega
    clear hj k4
    go_enter Try.func16, Try.ntmps16
    go_wp2_with fail
    refine (h_bool w0 _ _ p l (decide (n % 2 = 1)) H.out hl).mono ?_
    rintro e w1 ⟨rfl, h⟩
    have b1 := h.swap.blk
    have b10 := blk_cell b1 0 _ rfl
    have b11 := blk_cell b1 1 _ rfl
    have b12 := blk_cell b1 2 _ rfl
    have H := Lib.hid h.up3
    clear h b1
    go_wp2_with fail
    refine (h_wbool w0 _ _ q m (decide (n % 2 = 1)) H.out hm).mono ?_
    rintro e w2 ⟨rfl, h⟩
    have H := Lib.hid h.last2
    clear h
    go_wp2_with fail
    go_end0
    have hp := HP.out
    rw [if_neg (by rw [HJ.out]; decide), if_neg (by rw [HJ.out]; decide), if_neg (by rw [HJ.out]; decide)] at hp
    refine ⟨rfl, ?_⟩
    rw [hp]
    have := H.out
    by_cases hn2 : n % 2 = 1
    · simpa [hn2] using this
    · simpa [hn2] using this
end Go.Proofs.Ytnkmiigcglddmaa.Wire
