/- DiskAgain. -/
import Derived.Test.YtojeccmnhgcmcaaDoorH14
namespace Go.Proofs.YtojeccmnhgcmcaaDoor.Dsk
open Go.RowKit Go.ChangeShapes Go.WideShapes _root_.Go.Proofs.YtojeccmnhgcmcaaDoor.Frame
open _root_.Go.Proofs.YtojeccmnhgcmcaaDoor.Crc (Hv more more_lt ret_u32)
set_option linter.unusedVariables false
set_option linter.unusedSimpArgs false
set_option maxRecDepth 100000

theorem tor_tor {m : St} (h : OkS m) (x y : Int) : torS (torS m x) y = torS m x := by
  have hK := torK_le h x
  have e1 : (torS m x).L.length = torK m x := by show (m.L.take (torK m x)).length = _; rw [List.length_take]; omega
  have e2 : torK (torS m x) y = torK m x := by
    show torK m x + fitN ((m.L.take (torK m x)).drop (torK m x)) y.toNat = _
    rw [List.drop_eq_nil_of_le (by rw [List.length_take]; omega)]
    rfl
  show St.mk ((m.L.take (torK m x)).take (torK (torS m x) y)) (torK (torS m x) y) m.S m.h = St.mk (m.L.take (torK m x)) (torK m x) m.S m.h
  rw [e2, List.take_take, Nat.min_self]
theorem tor_syn {m : St} (x : Int) : torS (synS m) x = synS m := by
  have e2 : torK (synS m) x = m.L.length := by
    show m.L.length + fitN (m.L.drop m.L.length) x.toNat = _
    rw [List.drop_length]
    rfl
  show St.mk (m.L.take (torK (synS m) x)) (torK (synS m) x) m.S m.h = St.mk m.L m.L.length m.S m.h
  rw [e2, List.take_length]
theorem apart_new {F : Nat → Prop} {W W' : World} (h : ∀ k, F k → k < W.heap.size) : ∀ k, F k → ¬ From W.heap.size W' k := fun k hk h2 => by have := h k hk; have := h2.1; omega
theorem apart_more {F G : Nat → Prop} {W W' : World} (h : ∀ k, F k → k < W.heap.size) (hd : ∀ k, F k → ¬ G k) : ∀ k, F k → ¬ More G W W' k := fun k hk h2 => by
  rcases h2 with h2 | h2
  · exact hd k hk h2
  · have := h k hk; have := h2.1; omega
theorem apart_sym {F G : Nat → Prop} (hd : ∀ k, F k → ¬ G k) : ∀ k, G k → ¬ F k := fun k hk h => hd k h hk
set_option maxHeartbeats 4000000 in
theorem again_law (a : Option Addr) (len cap : Nat) (S : Nat → Sq) (x y : Int) (w : World) (h : IsSq w a len cap S) (_ : (Lit.int .i64 x).wf = true) (_ : (Lit.int .i64 y).wf = true) (hH : Hv w) :
    Calls Tryd.prog 6 #[.slice a len cap, .int .i64 x, .int .i64 y] w (Yes w) := by
  have HS := Lib.hid (short_any h (Below.refl _ _))
  have HW := Lib.hid (works_any w hH)
  have HF := Lib.hid (filled_any h (Below.refl _ _) hH (hv_lt hH))
  clear h hH
  generalize runS S len = m at *
  go_enter Tryd.func6, Tryd.ntmps6
  go_wp2_with fail
  refine HS.out.mono ?_
  rintro e W0 ⟨b, rfl, _, rfl⟩
  cases b with
  | false =>
    go_wp2_with (go_at_call 12; refine HW.out.mono ?_; rintro e W5 ⟨rfl, hb5⟩)
    go_ret
    exact ⟨rfl, hb5⟩
  | true =>
    clear HS HW
    go_wp2_with fail
    refine HF.out.mono ?_
    rintro e W1 ⟨d, rfl, D1, _⟩
    have hok := D1.ok
    go_wp2_with fail
    refine D1.copy.mono ?_
    rintro e W2 ⟨s, rfl, S2, D2, hb2⟩
    have ap1 := apart_new (W' := W2) D1.dx.lt
    have ap1 := Lib.hid ap1
    have lt1 := Lib.hid D1.dx.lt
    clear HF D1
    replace S2 := Lib.hid S2
    replace D2 := Lib.hid D2
    go_wp2_with fail
    refine (D2.out.tear x rfl).mono ?_
    rintro e W3 ⟨rfl, D3, K3⟩
    have S3 := Lib.hid (S2.out.beside K3 D2.out.fr (apart_sym ap1.out))
    have ap3 := Lib.hid (apart_more (W' := W3) S2.out.dx.lt (apart_sym ap1.out))
    replace D3 := Lib.hid D3
    clear K3 S2 D2 hb2
    go_wp2_with fail
    refine D3.out.copy.mono ?_
    rintro e W4 ⟨q, rfl, E4, D4, hb4⟩
    have S4 := Lib.hid (S3.out.later hb4)
    have apE := Lib.hid (apart_new (W' := W4) D3.out.dx.lt)
    have apES := Lib.hid (apart_new (W' := W4) S3.out.dx.lt)
    replace E4 := Lib.hid E4
    replace D4 := Lib.hid D4
    clear hb4 S3 D3
    go_wp2_with fail
    refine (D4.out.tear y (tor_tor hok x y)).mono ?_
    rintro e W5 ⟨rfl, D5, K5⟩
    have E5 := Lib.hid (E4.out.beside K5 D4.out.fr (apart_sym apE.out))
    have S5 := Lib.hid (S4.out.beside K5 D4.out.fr ap3.out)
    replace D5 := Lib.hid D5
    clear K5 E4 D4 S4
    go_wp2_with fail
    refine (equal_same D5.out E5.out).mono ?_
    rintro e W6 ⟨rfl, hb6⟩
    have S6 := Lib.hid (S5.out.later hb6)
    clear S5 D5 E5 hb6
    go_wp2_with fail
    refine (S6.out.sync rfl).mono ?_
    rintro e W7 ⟨rfl, S7, K7⟩
    replace S7 := Lib.hid S7
    clear S6 K7
    go_wp2_with fail
    refine S7.out.copy.mono ?_
    rintro e W8 ⟨t, rfl, T8, S8, hb8⟩
    have apT := Lib.hid (apart_new (W' := W8) S7.out.dx.lt)
    replace T8 := Lib.hid T8
    replace S8 := Lib.hid S8
    clear S7 hb8
    go_wp2_with fail
    refine (S8.out.tear x (tor_syn x)).mono ?_
    rintro e W9 ⟨rfl, S9, K9⟩
    have T9 := Lib.hid (T8.out.beside K9 S8.out.fr (apart_sym apT.out))
    replace S9 := Lib.hid S9
    clear K9 S8 T8
    go_wp2_with fail
    refine (equal_same S9.out T9.out).mono ?_
    rintro e W10 ⟨rfl, hb10⟩
    have S10 := Lib.hid (S9.out.later hb10)
    have HW10 := Lib.hid (works_any W10 S10.out.hv)
    clear S9 T9 hb10
    go_wp2_with fail
    refine HW10.out.mono ?_
    rintro e W11 ⟨rfl, hb11⟩
    have hb := Lib.hid (S10.out.bel.trans (hb11.mono S10.out.bel.size))
    clear HW10 S10 hb11
    go_wp2
    go_ret
    exact ⟨rfl, hb.out⟩
end Go.Proofs.YtojeccmnhgcmcaaDoor.Dsk
