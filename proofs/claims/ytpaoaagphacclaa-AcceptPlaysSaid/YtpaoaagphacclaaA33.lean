/- The document's ballots at this seat: Check, Order (out of stage 10's texts). -/
import Derived.Test.YtpaoaagphacclaaA18
namespace Go.Proofs.Ytpaoaagphacclaa.Bal
open Go.RowKit Go.Lib
set_option linter.unusedVariables false
set_option linter.unusedSimpArgs false
set_option maxRecDepth 20000

theorem rcheck_any (r m n : Int) (w : World) :
    Calls Try.prog 55 #[.agg #[.int .i64 r, .int .i64 m], .int .i64 n] w fun e w' => e = .returned (.int .i64 (ckB r m n)) ∧ Below w.heap.size w w' := by
  have hx := bx_new w r m
  obtain ⟨c0, c1, _, _⟩ := hx.cells
  replace hx := Lib.hid hx.bel
  have hq := fun W => eq_b r m 0 0 W
  by_cases n1 : n < 1
  · have e := Lib.hid (show ckB r m n = 2 from if_neg (by rintro ⟨h, _⟩; omega))
    go_enter Try.func55, Try.ntmps55
    go_wp2
    go_ret
    exact ⟨by rw [e.out]; rfl, hx.out⟩
  by_cases n2 : 7 < n
  · have e := Lib.hid (show ckB r m n = 2 from if_neg (by rintro ⟨h, _⟩; omega))
    go_enter Try.func55, Try.ntmps55
    go_wp2
    go_ret
    exact ⟨by rw [e.out]; rfl, hx.out⟩
  have hn : 1 ≤ n ∧ n ≤ 7 := by omega
  by_cases hz : r = 0 ∧ m = 0
  · have e := Lib.hid (show ckB r m n = 0 from if_pos ⟨hn, .inl hz⟩)
    rw [eqB_t hz] at hq
    clear hn hz
    go_enter Try.func55, Try.ntmps55
    go_wp2
    go_ret
    exact ⟨by rw [e.out]; rfl, hx.out⟩
  rw [eqB_f hz] at hq
  by_cases h1 : 1 ≤ r
  · by_cases h2 : r ≤ 1073741824
    · by_cases h3 : 0 ≤ m
      · by_cases h4 : m < n
        · have e := Lib.hid (show ckB r m n = 0 from if_pos ⟨hn, .inr (by omega)⟩)
          clear hn hz
          go_enter Try.func55, Try.ntmps55
          go_wp2
          go_ret
          exact ⟨by rw [e.out]; rfl, hx.out⟩
        · have e := Lib.hid (show ckB r m n = 2 from if_neg (by rintro ⟨_, h | h⟩; exact hz h; omega))
          clear hn hz
          go_enter Try.func55, Try.ntmps55
          go_wp2
          go_ret
          exact ⟨by rw [e.out]; rfl, hx.out⟩
      · have e := Lib.hid (show ckB r m n = 2 from if_neg (by rintro ⟨_, h | h⟩; exact hz h; omega))
        clear hn hz
        go_enter Try.func55, Try.ntmps55
        go_wp2
        go_ret
        exact ⟨by rw [e.out]; rfl, hx.out⟩
    · have e := Lib.hid (show ckB r m n = 2 from if_neg (by rintro ⟨_, h | h⟩; exact hz h; omega))
      clear hn hz
      go_enter Try.func55, Try.ntmps55
      go_wp2
      go_ret
      exact ⟨by rw [e.out]; rfl, hx.out⟩
  · have e := Lib.hid (show ckB r m n = 2 from if_neg (by rintro ⟨_, h | h⟩; exact hz h; omega))
    clear hn hz
    go_enter Try.func55, Try.ntmps55
    go_wp2
    go_ret
    exact ⟨by rw [e.out]; rfl, hx.out⟩

theorem rorder_any (a b x y : Int) (w : World) :
    Calls Try.prog 44 #[.agg #[.int .i64 a, .int .i64 b], .agg #[.int .i64 x, .int .i64 y]] w fun e w' => e = .returned (.int .i64 (ordV a b x y)) ∧ Below w.heap.size w w' := by
  have O0 := oat_new w a b x y
  obtain ⟨c0, c1, c2, c3, _⟩ := O0.cells
  replace O0 := Lib.hid O0.bel
  have hq := fun W => eq_b a b x y W
  by_cases h1 : a < x
  · have e := Lib.hid (show ordV a b x y = -1 by unfold ordV fdV compareInt; simp [h1])
    go_enter Try.func44, Try.ntmps44
    go_wp2
    go_ret
    exact ⟨by rw [e.out]; rfl, O0.out⟩
  by_cases h2 : a = x
  · by_cases h3 : b < y
    · have e := Lib.hid (show ordV a b x y = -1 by unfold ordV fdV compareInt; simp [h2, h3])
      have d1 : (a == x) = true := by simpa using h2
      replace h2 := Lib.hid h2
      go_enter Try.func44, Try.ntmps44
      go_wp2
      go_ret
      exact ⟨by rw [e.out]; rfl, O0.out⟩
    · by_cases h4 : b = y
      · have e := Lib.hid (show ordV a b x y = 0 by unfold ordV fdV compareInt; simp [h2, h4])
        rw [eqB_t ⟨h2, h4⟩] at hq
        have d1 : (a == x) = true := by simpa using h2
        replace h2 := Lib.hid h2
        replace h4 := Lib.hid h4
        go_enter Try.func44, Try.ntmps44
        go_wp2
        go_ret
        exact ⟨by rw [e.out]; rfl, O0.out⟩
      · have h5 : y < b := by omega
        have e := Lib.hid (show ordV a b x y = 1 by unfold ordV fdV compareInt; simp [h2, h3, h5])
        rw [eqB_f (fun z => h4 z.2)] at hq
        have d1 : (a == x) = true := by simpa using h2
        replace h2 := Lib.hid h2
        clear h4 h5
        go_enter Try.func44, Try.ntmps44
        go_wp2
        go_ret
        exact ⟨by rw [e.out]; rfl, O0.out⟩
  · have h5 : x < a := by omega
    have e := Lib.hid (show ordV a b x y = 1 by unfold ordV fdV compareInt; simp [h1, h5])
    rw [eqB_f (fun z => h2 z.1)] at hq
    have d1 : (a == x) = false := by simpa using h2
    clear h2 h5
    go_enter Try.func44, Try.ntmps44
    go_wp2
    go_ret
    exact ⟨by rw [e.out]; rfl, O0.out⟩

end Go.Proofs.Ytpaoaagphacclaa.Bal
