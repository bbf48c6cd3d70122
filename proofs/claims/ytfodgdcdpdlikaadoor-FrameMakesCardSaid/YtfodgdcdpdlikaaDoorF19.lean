/- The walk of FrameMakes. -/
import Derived.Test.YtfodgdcdpdlikaaDoorF18
namespace Go.Proofs.YtfodgdcdpdlikaaDoor.Frame
open Go.RowKit Go.ChangeShapes
open Crc (Hv more more_lt ret_u32)
set_option linter.unusedVariables false
set_option linter.unusedSimpArgs false

/-- The tests at the head of FrameMakes, decided. -/
structure Dec (n m : Int) (b1 b2 b3 b4 b5 b6 : Bool) : Prop where
  d1 : decide ((2000 : Int) < n) = b1
  d2 : decide (n ≤ 65536) = b2
  d3 : decide ((65545 : Int) < n) = b3
  d4 : decide ((40 : Int) < m) = b4
  d5 : decide (m ≤ 10000) = b5
  d6 : decide ((10005 : Int) < m) = b6
theorem dec_bad (n m : Nat) (h : (2000 < n ∧ n ≤ 65536) ∨ 65545 < n ∨ (40 < m ∧ m ≤ 10000) ∨ 10005 < m) :
    (∃ b3 b4 b5 b6, Dec n m true true b3 b4 b5 b6) ∨ (∃ b4 b5 b6, Dec n m true false true b4 b5 b6) ∨ (∃ b6, Dec n m true false false true true b6) ∨ (∃ b2 b6, Dec n m false b2 false true true b6) ∨ Dec n m true false false true false true ∨ (∃ b2, Dec n m false b2 false true false true) := by
  by_cases h1 : 2000 < n ∧ n ≤ 65536
  · left
    exact ⟨_, _, _, _, ⟨by simp; omega, by simp; omega, rfl, rfl, rfl, rfl⟩⟩
  · right
    by_cases h2 : 65545 < n
    · left
      exact ⟨_, _, _, ⟨by simp; omega, by simp; omega, by simp; omega, rfl, rfl, rfl⟩⟩
    · right
      by_cases h3 : 2000 < n
      · by_cases h4 : 40 < m ∧ m ≤ 10000
        · left; exact ⟨_, ⟨by simp; omega, by simp; omega, by simp; omega, by simp; omega, by simp; omega, rfl⟩⟩
        · right; right; left; exact ⟨by simp; omega, by simp; omega, by simp; omega, by simp; omega, by simp; omega, by simp; omega⟩
      · by_cases h4 : 40 < m ∧ m ≤ 10000
        · right; left; exact ⟨_, _, ⟨by simp; omega, rfl, by simp; omega, by simp; omega, by simp; omega, rfl⟩⟩
        · right; right; right; exact ⟨_, ⟨by simp; omega, rfl, by simp; omega, by simp; omega, by simp; omega, by simp; omega⟩⟩
theorem dec_good (n m : Nat) (h : ¬ ((2000 < n ∧ n ≤ 65536) ∨ 65545 < n ∨ (40 < m ∧ m ≤ 10000) ∨ 10005 < m)) :
    (Dec n m true false false true false false) ∨ (∃ b5, Dec n m true false false false b5 false) ∨ (∃ b2, Dec n m false b2 false true false false) ∨ (∃ b2 b5, Dec n m false b2 false false b5 false) := by
  by_cases h3 : 2000 < n
  · by_cases h4 : 40 < m
    · left; exact ⟨by simp; omega, by simp; omega, by simp; omega, by simp; omega, by simp; omega, by simp; omega⟩
    · right; left; exact ⟨_, ⟨by simp; omega, by simp; omega, by simp; omega, by simp; omega, rfl, by simp; omega⟩⟩
  · by_cases h4 : 40 < m
    · right; right; left; exact ⟨_, ⟨by simp; omega, rfl, by simp; omega, by simp; omega, by simp; omega, by simp; omega⟩⟩
    · right; right; right; exact ⟨_, _, ⟨by simp; omega, rfl, by simp; omega, by simp; omega, rfl, by simp; omega⟩⟩
set_option maxRecDepth 100000 in
theorem makes_bad (a0 : Option Addr) (n cap0 : Nat) (a1 : Option Addr) (m cap1 : Nat) (w : World) (hH : Hv w) (h : (2000 < n ∧ n ≤ 65536) ∨ 65545 < n ∨ (40 < m ∧ m ≤ 10000) ∨ 10005 < m) :
    Calls Tryd.prog 3 #[.slice a0 n cap0, .slice a1 m cap1] w fun e w' => e = .returned (.bool true) ∧ Below w.heap.size w w' := by
  rcases dec_bad n m h with ⟨_, _, _, _, ⟨d1, d2, d3, d4, d5, d6⟩⟩ | ⟨_, _, _, ⟨d1, d2, d3, d4, d5, d6⟩⟩ | ⟨_, ⟨d1, d2, d3, d4, d5, d6⟩⟩ | ⟨_, _, ⟨d1, d2, d3, d4, d5, d6⟩⟩ | ⟨d1, d2, d3, d4, d5, d6⟩ | ⟨_, ⟨d1, d2, d3, d4, d5, d6⟩⟩
  all_goals
    replace h := Lib.hid h
    go_enter Tryd.func3, Tryd.ntmps3
    go_wp2_with (go_at_call 11; refine (works_any _ hH).mono ?_; rintro e w1 ⟨rfl, hb⟩)
    go_ret
    exact ⟨rfl, hb⟩
set_option maxRecDepth 100000 in
set_option maxHeartbeats 4000000 in
theorem makes_go (a0 : Option Addr) (cap0 : Nat) (a1 : Option Addr) (cap1 : Nat) (c : List Nat) (L : List (List Nat)) (w : World) (hc : Bs w (Old w) (.slice a0 c.length cap0) c) (hv : Bss w (Old w) (.slice a1 L.length cap1) L) (hH : Hv w)
    (h : ¬ ((2000 < c.length ∧ c.length ≤ 65536) ∨ 65545 < c.length ∨ (40 < L.length ∧ L.length ≤ 10000) ∨ 10005 < L.length)) :
    Calls Tryd.prog 3 #[.slice a0 c.length cap0, .slice a1 L.length cap1] w fun e w' => e = .returned (.bool true) ∧ Below w.heap.size w w' := by
  have hLn : L.length ≤ 10005 := by omega
  have hcn : c.length ≤ 65545 := by omega
  have HC := Lib.hid hc
  have HV := Lib.hid hv
  have hall := dec_good c.length L.length h
  replace h := Lib.hid h
  clear hc hv
  rcases hall with ⟨d1, d2, d3, d4, d5, d6⟩ | ⟨_, ⟨d1, d2, d3, d4, d5, d6⟩⟩ | ⟨_, ⟨d1, d2, d3, d4, d5, d6⟩⟩ | ⟨_, _, ⟨d1, d2, d3, d4, d5, d6⟩⟩
  all_goals
    go_enter Tryd.func3, Tryd.ntmps3
    go_wp2
    clear d1 d2 d3 d4 d5 d6
    go_loop [5] (fun i => ∃ k : Nat, k ≤ L.length ∧ i = .int .i64 k) (fun i => L.length - (intOf i).toNat)
    case atStart => exact ⟨0, Nat.zero_le _, rfl⟩
    case round =>
      obtain ⟨k, hk, rfl⟩ := hrel
      by_cases hlt : k < L.length
      · obtain ⟨b, off, s, eb, _, hs, hb⟩ := HV.out.at_ k hlt
        cases eb
        generalize L.getD k [] = d at *
        obtain ⟨_, a', cap', rfl, _⟩ := hb
        by_cases hlong : d.length ≤ 500
        · have hdl : decide ((500 : Int) < (d.length : Int)) = false := by simp; omega
          go_wp2
          go_round
          case rel => exact ⟨k + 1, by omega, by go_num⟩
          case measure => simp [intOf]; omega
        · have hdl : decide ((500 : Int) < (d.length : Int)) = true := by simp; omega
          replace hlong := Lib.hid hlong
          go_wp2_with (go_at_call 11; refine (works_any _ hH).mono ?_; rintro e w1 ⟨rfl, hb⟩)
          go_ret
          exact ⟨rfl, hb⟩
      · obtain rfl : k = L.length := by omega
        have M1 := Lib.hid (make_any _ (.slice a0 c.length cap0) c w HC.out (fun k hk => hk) hH)
        have M2 := Lib.hid (fun (w2 : World) (h2 : Below w.heap.size w w2) => rmake_any _ (.slice a0 c.length cap0) c w2 (HC.out.kept (Same.of_below h2 (fun k hk => hk))) (fun k hk => Nat.lt_of_lt_of_le hk h2.size))
        have J1 := Lib.hid (fun (w2 : World) (h2 : Below w.heap.size w w2) => join_any _ (.slice a1 L.length cap1) L w2 (HV.out.later (fun k hk => hk) h2) (fun k hk => Nat.lt_of_lt_of_le hk h2.size) (hv_later hH h2) (by omega))
        have J2 := Lib.hid (fun (w2 : World) (h2 : Below w.heap.size w w2) => rjoin_any _ (.slice a1 L.length cap1) L w2 (HV.out.later (fun k hk => hk) h2) (fun k hk => Nat.lt_of_lt_of_le hk h2.size) (by omega))
        generalize makeL c = RM at *
        generalize makeE c = EM at *
        generalize joinL L = RJ at *
        generalize joinE L = EJ at *
        go_wp2_with fail
        refine M1.out.mono ?_
        rintro e w1 ⟨v1, rfl, hm1, hb1⟩
        have bel1 : Below w.heap.size w w1 := hb1
        obtain ⟨x1, y1, rfl⟩ := hm1.form
        replace hm1 := Lib.hid hm1
        go_wp2_with fail
        refine (M2.out _ bel1).mono ?_
        rintro e w2 ⟨v2, rfl, hm2, hb2⟩
        have bel2 := bel1.trans (hb2.mono bel1.size)
        obtain ⟨x2, y2, rfl⟩ := hm2.form
        replace hm2 := Lib.hid hm2
        go_wp2_with fail
        refine (J1.out _ bel2).mono ?_
        rintro e w3 ⟨v3, rfl, hm3, hb3⟩
        have bel3 := bel2.trans (hb3.mono bel2.size)
        obtain ⟨x3, y3, rfl⟩ := hm3.form
        replace hm3 := Lib.hid hm3
        go_wp2_with fail
        refine (J2.out _ bel3).mono ?_
        rintro e w4 ⟨v4, rfl, hm4, hb4⟩
        have bel4 := bel3.trans (hb4.mono bel3.size)
        obtain ⟨x4, y4, rfl⟩ := hm4.form
        have q1 := bs_str ((hm1.out.later (hb2.trans ((hb3.trans (hb4.mono hb3.size)).mono hb2.size))).bs)
        have q2 := bs_str ((hm2.out.later (hb3.trans (hb4.mono hb3.size))).bs)
        have q3 := bs_str ((hm3.out.later hb4).bs)
        have q4 := bs_str hm4.bs
        have hc4 := HC.out.kept (Same.of_below bel4 (fun k hk => hk))
        have hH4 := hv_later hH bel4
        clear M1 M2 J1 J2 hb1 hb2 hb3 hb4
        go_wp2_with (first
          | (go_at_call 16; refine (size_is _ _ c _ hc4 (by omega)).mono ?_; rintro e w' ⟨rfl, rfl⟩)
          | (go_at_call 17; refine (ref_size_is _ _ c _ hc4 (by omega)).mono ?_; rintro e w' ⟨rfl, rfl⟩)
          | (go_at_call 11; refine (works_any _ hH4).mono ?_; rintro e w5 ⟨rfl, hb5⟩))
        go_ret
        exact ⟨rfl, bel4.trans (hb5.mono bel4.size)⟩
theorem w_frameMakes (a0 : Option Addr) (n cap0 : Nat) (c : List Nat) (a1 : Option Addr) (m cap1 : Nat) (L : List (List Nat)) (w : World) (w0 : Bs w (Old w) (.slice a0 n cap0) c) (w1 : L.length = m ∧ Bss w (Old w) (.slice a1 m cap1) L ∧ m ≤ 9223372036854775807) (hH : Hv w) :
    Calls Tryd.prog 3 #[.slice a0 n cap0, .slice a1 m cap1] w fun e w' => e = .returned (.bool true) ∧ Below w.heap.size w w' := by
  obtain ⟨rfl, hv, _⟩ := w1
  have hn : n = c.length := by obtain ⟨_, _, _, e, _⟩ := w0; injection e
  subst hn
  by_cases h : (2000 < c.length ∧ c.length ≤ 65536) ∨ 65545 < c.length ∨ (40 < L.length ∧ L.length ≤ 10000) ∨ 10005 < L.length
  · exact makes_bad a0 c.length cap0 a1 L.length cap1 w hH h
  · exact makes_go a0 cap0 a1 cap1 c L w w0 hv hH h
end Go.Proofs.YtfodgdcdpdlikaaDoor.Frame
