/- The examples of the chapter: works returns true; the law's made. -/
import Derived.Test.YtabfpdlnljkgpaaDoorB06
namespace Go.Proofs.YtabfpdlnljkgpaaDoor.Bal
open Go.RowKit Go.Lib
set_option linter.unusedVariables false
set_option linter.unusedSimpArgs false
set_option maxRecDepth 20000

theorem below2 {w W W' : World} (h : Below w.heap.size w W) (hb : Below W.heap.size W W') : Below w.heap.size w W' := h.trans (hb.mono h.size)
theorem t_52 : tB 5 2 = [53, 46, 50] := by
  unfold tB
  rw [decDigits_one (by omega), decDigits_one (by omega)]
  decide
theorem x_next1 (w : World) : Calls Tryd.prog 12 #[.agg #[.int .i64 5, .int .i64 2], .int .i64 3] w fun e w' => e = .returned (.tuple #[.agg #[.int .i64 5, .int .i64 3], .int .i64 0]) ∧ Below w.heap.size w w' := by
  have h := next_any 5 2 3 w
  rw [show nxA 5 2 3 = 5 by decide, show nxB 5 2 3 = 3 by decide, show nxE 5 2 3 = 0 by decide] at h
  exact h
theorem x_next2 (w : World) : Calls Tryd.prog 12 #[.agg #[.int .i64 5, .int .i64 2], .int .i64 2] w fun e w' => e = .returned (.tuple #[.agg #[.int .i64 6, .int .i64 2], .int .i64 0]) ∧ Below w.heap.size w w' := by
  have h := next_any 5 2 2 w
  rw [show nxA 5 2 2 = 6 by decide, show nxB 5 2 2 = 2 by decide, show nxE 5 2 2 = 0 by decide] at h
  exact h
theorem x_number (w : World) : Calls Tryd.prog 25 #[.agg #[.int .i64 5, .int .i64 2], .int .i64 3] w fun e w' => e = .returned (.tuple #[.int .i64 15, .int .i64 0]) ∧ Below w.heap.size w w' := by
  have h := number_any 5 2 3 w
  rw [show nmV 5 2 3 = 15 by decide, show ckB 5 2 3 = 0 by decide] at h
  exact h
theorem x_from (w : World) : Calls Tryd.prog 27 #[.int .i64 16, .int .i64 3] w fun e w' => e = .returned (.tuple #[.agg #[.int .i64 6, .int .i64 0], .int .i64 0]) ∧ Below w.heap.size w w' := by
  have h := from_any 16 3 w
  rw [show fnA 16 3 = 6 by decide, show fnB 16 3 = 0 by decide, show fnE 16 3 = 0 by decide] at h
  exact h
theorem x_text (w : World) (hH : Hv w) : Calls Tryd.prog 21 #[.agg #[.int .i64 5, .int .i64 2]] w fun e w' => e = .returned (.tuple #[.string ⟨#[53, 46, 50]⟩, .int .i64 0]) ∧ Below w.heap.size w w' := by
  have h := text_ok 5 2 (by decide) w hH
  rw [t_52] at h
  exact h
theorem x_parse (w : World) (hH : Hv w) : Calls Tryd.prog 23 #[.string ⟨#[48, 53, 46, 50]⟩] w fun e w' => e = .returned (.tuple #[.agg #[.int .i64 0, .int .i64 0], .int .i64 10]) ∧ Below w.heap.size w w' := by
  have h := parse_any [48, 53, 46, 50] (by decide) w hH
  have hn : ∀ r m, ¬ IsT [48, 53, 46, 50] r m := by
    intro r m h
    obtain ⟨a, b⟩ := isT_read h
    rw [show atV (cutB [48, 53, 46, 50] 46).1 = 5 by decide] at a
    rw [show atV (cutB [48, 53, 46, 50] 46).2.1 = 2 by decide] at b
    subst a b
    have := h.2
    rw [show (5 : Int).toNat = 5 from rfl, show (2 : Int).toNat = 2 from rfl, t_52] at this
    simp at this
  obtain ⟨a, b, c⟩ := p_no hn
  rw [a, b, c] at h
  exact h
theorem x_order (w : World) : Calls Tryd.prog 16 #[.agg #[.int .i64 6, .int .i64 0], .agg #[.int .i64 5, .int .i64 3]] w fun e w' => e = .returned (.int .i64 1) ∧ Below w.heap.size w w' := by
  have h := order_any 6 0 5 3 w
  rw [show ordV 6 0 5 3 = 1 by decide] at h
  exact h
set_option maxHeartbeats 1000000 in
theorem works_any (w : World) (hH : Hv w) : Calls Tryd.prog 18 #[] w fun e w' => e = .returned (.bool true) ∧ Below w.heap.size w w' := by
  go_enter Tryd.func18, Tryd.ntmps18
  go_wp2_with fail
  refine (x_next1 _).mono ?_
  rintro e w1 ⟨rfl, hb1⟩
  have A1 := Lib.hid (bx_at hb1 5 3)
  clear hb1
  go_wp2_with fail
  refine (x_next2 _).mono ?_
  rintro e w2 ⟨rfl, hb2⟩
  have A2' := A1.out.later hb2
  have A2 := Lib.hid (A2'.alloc (.cells #[.int .i64 6, .int .i64 2] TB))
  have C2 := Lib.hid (bx_at A2'.bel 6 2)
  clear A1 hb2 A2'
  go_wp2_with fail
  refine (x_number _).mono ?_
  rintro e w3 ⟨rfl, hb3⟩
  have A3 := Lib.hid (A2.out.later hb3)
  have C3 := Lib.hid (C2.out.later hb3)
  clear A2 C2 hb3
  go_wp2_with fail
  refine (x_from _).mono ?_
  rintro e w4 ⟨rfl, hb4⟩
  have A4' := A3.out.later hb4
  have A4 := Lib.hid (A4'.alloc (.cells #[.int .i64 6, .int .i64 0] TB))
  have C4 := Lib.hid ((C3.out.later hb4).alloc (.cells #[.int .i64 6, .int .i64 0] TB))
  have D4 := Lib.hid (bx_at A4'.bel 6 0)
  clear A3 C3 hb4 A4'
  go_wp2_with fail
  refine (x_text _ (hH.later A4.out.bel)).mono ?_
  rintro e w5 ⟨rfl, hb5⟩
  have A5 := Lib.hid (A4.out.later hb5)
  have C5 := Lib.hid (C4.out.later hb5)
  have D5 := Lib.hid (D4.out.later hb5)
  clear A4 C4 D4 hb5
  go_wp2_with fail
  refine (x_parse _ (hH.later A5.out.bel)).mono ?_
  rintro e w6 ⟨rfl, hb6⟩
  have A6 := (A5.out.later hb6).alloc (.cells #[.int .i64 0, .int .i64 0] TB)
  have C6 := (C5.out.later hb6).alloc (.cells #[.int .i64 0, .int .i64 0] TB)
  have D6 := (D5.out.later hb6).alloc (.cells #[.int .i64 0, .int .i64 0] TB)
  obtain ⟨a0, a1, _, _⟩ := A6.cells
  obtain ⟨c0, c1, _, _⟩ := C6.cells
  obtain ⟨d0, d1, _, _⟩ := D6.cells
  have q1 := fun W => eq_b 5 3 5 3 W
  have q2 := fun W => eq_b 6 2 6 2 W
  have q3 := fun W => eq_b 6 0 6 0 W
  rw [eqB_t ⟨rfl, rfl⟩] at q1 q2 q3
  clear A5 C5 D5 hb6
  go_wp2_with fail
  refine (x_order _).mono ?_
  rintro e w7 ⟨rfl, hb7⟩
  have A7 := below2 A6.bel hb7
  go_wp2
  go_ret
  exact ⟨rfl, A7⟩

/-! What the law makes of a round and a node. -/
def mdA (r : Nat) : Int := ((r % 1073741825 : Nat) : Int)
def mdB (r k n : Nat) : Int := if r % 1073741825 = 0 then 0 else ((k % n : Nat) : Int)
theorem made_any (r k n : Nat) (hr : r < 4294967296) (hk : k < 256) (hn : 1 ≤ n ∧ n ≤ 7) (w : World) :
    Calls Tryd.prog 29 #[.int .u32 r, .int .u8 k, .int .i64 n] w fun e w' => e = .returned (.agg #[.int .i64 (mdA r), .int .i64 (mdB r k n)]) ∧ Below w.heap.size w w' := by
  have w1 : IntKind.i64.wrap (k : Int) = k := wr (by omega) (by omega)
  have hx0 := bx_new w 0 0
  obtain ⟨c0, c1, c2, c3⟩ := hx0.cells
  have e1 : (r : Int) % 1073741825 = ((r % 1073741825 : Nat) : Int) := by omega
  have hb : r % 1073741825 < 1073741825 := by omega
  unfold mdA mdB
  generalize r % 1073741825 = R at *
  have w2 : IntKind.i64.wrap (R : Int) = R := wr (by omega) (by omega)
  have hm1 : (k : Int).tmod (n : Int) = ((k % n : Nat) : Int) := by rw [← Int.ofNat_tmod]
  have hm2 : (k : Int) % (n : Int) = ((k % n : Nat) : Int) := (Int.natCast_emod _ _).symm
  have h6 : ¬ (n : Int) = 0 := by omega
  have h7 : ¬ n = 0 := by omega
  have h8 : ((n : Int) == 0) = false := by simpa using h6
  generalize k % n = g at *
  by_cases h0 : R = 0
  · subst h0
    clear hb
    go_enter Tryd.func29, Tryd.ntmps29
    go_wp2
    exact bodyPost_ret (res2 Tryd.results29 _ rfl hx0) rfl ⟨rfl, hx0.bel⟩
  · rw [if_neg h0]
    have d0 : ((R : Int) == 0) = false := by simp; omega
    have d1 : decide ((R : Int) = 0) = false := by simp; omega
    have hx := bx_new w R g
    clear hb
    go_enter Tryd.func29, Tryd.ntmps29
    go_wp2
    exact bodyPost_ret (res2 Tryd.results29 _ rfl hx) rfl ⟨rfl, hx.bel⟩
end Go.Proofs.YtabfpdlnljkgpaaDoor.Bal
