/- The examples of the chapter: works returns true. -/
import Derived.Test.YtnkmiigcglddmaaW11
namespace Go.Proofs.Ytnkmiigcglddmaa.Wire
open Go.RowKit Go.ChangeShapes
set_option linter.unusedVariables false
set_option linter.unusedSimpArgs false

theorem ex_bs (w : World) : Bs (w.alloc (.cells #[.int .u8 172, .int .u8 2, .int .u8 127, .int .u8 2, .int .u8 97, .int .u8 98, .int .u8 1] 5)) (New w (w.alloc (.cells #[.int .u8 172, .int .u8 2, .int .u8 127, .int .u8 2, .int .u8 97, .int .u8 98, .int .u8 1] 5))) (.slice (some ⟨w.heap.size, 0, none⟩) 7 7) exL := bs_new w exL (by decide)
theorem ex_bad (w : World) : Bs (w.alloc (.cells #[.int .u8 128, .int .u8 0] 5)) (New w (w.alloc (.cells #[.int .u8 128, .int .u8 0] 5))) (.slice (some ⟨w.heap.size, 0, none⟩) 2 2) [128, 0] := bs_new w [128, 0] (by decide)
theorem ow_bs {w : World} {F : Nat → Prop} {v : Value} {l : List Nat} (h : Ow v l F w) : Bs w F v l := (own_bs h.1 h.2.1).wide h.2.2.1
theorem s1 : stepR 0 rdU (some exL) = (300, some [127, 2, 97, 98, 1]) := by rfl
theorem s2 : stepR 0 rdI (some [127, 2, 97, 98, 1]) = (-64, some [2, 97, 98, 1]) := by rfl
theorem s3 : stepR [] rdT (some [2, 97, 98, 1]) = ([97, 98], some [1]) := by rfl
theorem s4 : stepR false rdB (some [1]) = (true, some []) := by rfl
theorem s5 : stepR 0 rdU (some [128, 0]) = (0, none) := by rfl
set_option maxRecDepth 100000 in
set_option maxHeartbeats 2000000 in
theorem works_any (w : World) : Calls Try.prog 13 #[] w fun e w' => e = .returned (.bool true) ∧ Below w.heap.size w w' := by
  have e9 := ex_digs
  go_enter Try.func13, Try.ntmps13
  have E9 := Lib.hid e9
  clear e9
  have H := Lib.hid (Has.start w)
  go_wp2_with fail
  refine (h_new w _ _ H.out).mono ?_
  rintro e w1 ⟨p, rfl, h⟩
  have H := Lib.hid h
  clear h
  go_wp2_with fail
  refine (h_uint w _ _ p _ 300 H.out (by omega) (by simp)).mono ?_
  rintro e w2 ⟨rfl, h⟩
  have H := Lib.hid h
  clear h
  go_wp2_with fail
  refine (h_int w _ _ p _ (-64) H.out (by unfold I64; omega) (by have := digs_ten 300 (by omega); simp; omega)).mono ?_
  rintro e w3 ⟨rfl, h⟩
  have H := Lib.hid h
  clear h
  go_wp2_with fail
  refine (h_text w _ _ p _ ⟨#[97, 98]⟩ H.out (by have := digs_ten 300 (by omega); have := digs_ten (zig (-64)) (by decide); simp; omega) (by decide)).mono ?_
  rintro e w4 ⟨rfl, h⟩
  have H := Lib.hid h
  clear h
  go_wp2_with fail
  refine (h_bool w _ _ p _ true H.out (by
    have h := E9.out
    have := congrArg List.length h
    have e : (digs 2 ++ sb ⟨#[97, 98]⟩) = (digs (ByteArray.size ⟨#[97, 98]⟩) ++ sb ⟨#[97, 98]⟩) := rfl
    rw [List.length_append] at this
    rw [e] at this
    have e7 : exL.length = 7 := rfl
    omega)).mono ?_
  rintro e w5 ⟨rfl, h⟩
  have h : Has w w5 [Wr TW p exL] := by
    rw [← E9.out]; exact h
  have H := Lib.hid h
  clear h
  go_wp2_with fail
  refine (h_bytes w _ _ p _ H.out (by decide)).mono ?_
  rintro e w6 ⟨a6, c6, rfl, h⟩
  obtain ⟨F6, hF6, _⟩ := (h.alloc (.cells #[.int .u8 172, .int .u8 2, .int .u8 127, .int .u8 2, .int .u8 97, .int .u8 98, .int .u8 1] 5)).fst
  have HE := Lib.hid (equal_any F6 _ _ _ exL exL _ (ow_bs hF6) (ex_bs w6))
  have H := Lib.hid (h.drop.alloc (.cells #[.int .u8 172, .int .u8 2, .int .u8 127, .int .u8 2, .int .u8 97, .int .u8 98, .int .u8 1] 5))
  clear h hF6
  go_wp2_with fail
  refine HE.out.mono ?_
  rintro e w' ⟨rfl, rfl⟩
  go_wp2_with fail
  refine (h_len w _ _ p _ H.out).mono ?_
  rintro e w' ⟨rfl, rfl⟩
  go_wp2_with fail
  refine (h_bytes w _ _ p _ H.out (by decide)).mono ?_
  rintro e w7 ⟨a7, c7, rfl, h⟩
  obtain ⟨F7, hF7, hF7'⟩ := h.fst
  have HR := Lib.hid (h_read w _ _ F7 _ exL h.drop.drop (ow_bs hF7) hF7' (by decide))
  clear h hF7 hF7'
  go_wp2_with fail
  refine HR.out.mono ?_
  rintro e w8 ⟨r, rfl, h, _⟩
  have HB := Lib.hid (ex_bad w8)
  have H := Lib.hid (h.alloc (.cells #[.int .u8 128, .int .u8 0] 5))
  clear h
  go_wp2_with fail
  refine (h_read w _ _ _ _ [128, 0] H.out HB.out (fun k hk => hk.2) (by decide)).mono ?_
  rintro e w9 ⟨b, rfl, h, _⟩
  have H := Lib.hid h.swap
  clear h
  go_wp2_with fail
  refine (h_ruint w _ _ r _ _ 300 s1 H.out (by decide)).mono ?_
  rintro e w10 ⟨rfl, h⟩
  have H := Lib.hid h
  clear h
  go_wp2_with fail
  refine (h_left w _ _ r _ H.out).mono ?_
  rintro e w' ⟨rfl, rfl⟩
  go_wp2_with fail
  refine (h_rint w _ _ r _ _ (-64) s2 H.out (by decide)).mono ?_
  rintro e w11 ⟨rfl, h⟩
  have H := Lib.hid h
  clear h
  go_wp2_with fail
  refine (h_rtext w _ _ r _ _ [97, 98] s3 H.out (by decide)).mono ?_
  rintro e w12 ⟨rfl, h⟩
  have H := Lib.hid h
  clear h
  have e3 : str [97, 98] = ⟨#[97, 98]⟩ := by rfl
  rw [e3]
  clear e3
  go_wp2_with fail
  refine (h_rbool w _ _ r _ _ true s4 H.out (by decide)).mono ?_
  rintro e w13 ⟨rfl, h⟩
  have H := Lib.hid h
  clear h
  go_wp2_with fail
  refine (h_end w _ _ r _ H.out).mono ?_
  rintro e w' ⟨rfl, rfl⟩
  have e4 : endE (some []) = 0 := rfl
  rw [e4]
  clear e4
  have H := Lib.hid H.out.swap
  go_wp2_with fail
  refine (h_ruint w _ _ b _ _ 0 s5 H.out (by decide)).mono ?_
  rintro e w14 ⟨rfl, h⟩
  have H := Lib.hid h
  clear h
  go_wp2_with fail
  refine (h_end w _ _ b _ H.out).mono ?_
  rintro e w' ⟨rfl, rfl⟩
  have e4 : endE none = 10 := rfl
  rw [e4]
  clear e4
  go_wp2_with fail
  go_ret
  exact ⟨rfl, H.out.bel⟩
end Go.Proofs.Ytnkmiigcglddmaa.Wire
