/- LearnRefuses. -/
import Derived.Test.YtaacnhhinhdinaaE21
namespace Go.Proofs.Ytaacnhhinhdinaa.Lrn
open Go.RowKit Go.Maps Go.Lib
open Bal (TB bOk ckB ordV eqB eqB_t eqB_f eq_b alloc_b)
set_option linter.unusedVariables false
set_option linter.unusedSimpArgs false
set_option maxRecDepth 100000

set_option maxHeartbeats 32000000 in
theorem refuses_go (a m : Nat) (w : World) (ha : a ≤ 255) (hm : m ≤ 65535) :
    Calls Try.prog 8 #[.int .u8 a, .int .u16 m] w (Yes w) := by
  obtain ⟨n, hn⟩ : ∃ n, n = 1 + a % 7 := ⟨_, rfl⟩
  have hn1 : 1 ≤ n := by omega
  have hn7 : n ≤ 7 := by omega
  have e1 : (a : Int).tmod 7 = ((a % 7 : Nat) : Int) := (Int.ofNat_tmod a 7).symm
  have e2 : IntKind.i64.wrap (1 + ((a % 7 : Nat) : Int)) = (n : Nat) := by rw [IntKind.wrap_i64]; omega
  have e3 : IntKind.u8.wrap ((a % 7 : Nat) : Int) = ((a % 7 : Nat) : Int) := by rw [IntKind.wrap_u8]; omega
  have e4 : IntKind.i64.wrap ((a % 7 : Nat) : Int) = ((a % 7 : Nat) : Int) := by rw [IntKind.wrap_i64]; omega
  generalize a % 7 = r7 at *
  have e5 : IntKind.i64.wrap (m : Int) = m := by rw [IntKind.wrap_i64]; omega
  obtain ⟨x1, h1⟩ : ∃ x : Int, x = ((n + m : Nat) : Int) := ⟨_, rfl⟩
  obtain ⟨x2, h2⟩ : ∃ x : Int, x = -1 - (m : Int) := ⟨_, rfl⟩
  obtain ⟨x3, h3⟩ : ∃ x : Int, x = 1073741825 + (m : Int) := ⟨_, rfl⟩
  obtain ⟨x4, h4⟩ : ∃ x : Int, x = -(m : Int) := ⟨_, rfl⟩
  obtain ⟨x5, h5⟩ : ∃ x : Int, x = 4096 + (m : Int) := ⟨_, rfl⟩
  obtain ⟨x6, h6⟩ : ∃ x : Int, x = ((m % 5 : Nat) : Int) := ⟨_, rfl⟩
  have g1 : IntKind.i64.wrap ((n : Int) + (m : Int)) = x1 := by rw [h1, IntKind.wrap_i64]; omega
  have g2 : IntKind.i64.wrap (-1 - (m : Int)) = x2 := by rw [h2, IntKind.wrap_i64]; omega
  have g3 : IntKind.i64.wrap (1073741825 + (m : Int)) = x3 := by rw [h3, IntKind.wrap_i64]; omega
  have g4 : IntKind.i64.wrap (-(m : Int)) = x4 := by rw [h4, IntKind.wrap_i64]; omega
  have g5 : IntKind.i64.wrap (4096 + (m : Int)) = x5 := by rw [h5, IntKind.wrap_i64]; omega
  have g6 : (m : Int).tmod 5 = x6 := by rw [h6]; exact (Int.ofNat_tmod m 5).symm
  have g7 : IntKind.i64.wrap x6 = x6 := by
    have : m % 5 < 5 := Nat.mod_lt _ (by decide)
    rw [h6, IntKind.wrap_i64]; omega
  have g8 : IntKind.i64.wrap (8 + (m : Int)) = 8 + (m : Int) := by rw [IntKind.wrap_i64]; omega
  have g9 : IntKind.i64.wrap (4097 + (m : Int)) = 4097 + (m : Int) := by rw [IntKind.wrap_i64]; omega
  have hok := fun (V : ByteArray) (hV : V.size = 65537) => trs_ok n m V ⟨hn1, hn7⟩ hV
  unfold trs at hok
  rw [← h1, ← h2, ← h3, ← h4, ← h5, ← h6] at hok
  replace hok := Lib.hid hok
  have H2 := Lib.hid (s5_bad n (u := x2) (by omega))
  have H9 := Lib.hid (s5_bad n (u := 4097 + (m : Int)) (by omega))
  have B1 := Lib.hid (fun W => new_bad (8 + (m : Int)) (by omega) W)
  have B2 := Lib.hid (fun W => new_bad x4 (by omega) W)
  clear h1 h2 h3 h4 h5 h6
  have HN := Lib.hid (new_w n (by omega) w w (Below.refl _ _))
  clear hn ha
  go_enter Try.func8, Try.ntmps8
  go_wp2_with fail
  go_at_call 12
  refine HN.out.mono ?_
  rintro e W1 ⟨sb, mb, rfl, hN1, _⟩
  have HF := Lib.hid (hN1.forget 5 (s5_new n).1 (s5_new n).2)
  clear hN1 HN
  go_wp2_with fail
  go_at_call 18
  refine HF.out.mono ?_
  rintro e W2 ⟨rfl, hA2, _⟩
  clear HF
  have hA3 := hA2.alloc (.cells #[.int .i64 1, .int .i64 0] TB)
  have hx3 := heap_alloc_new W2 (.cells #[.int .i64 1, .int .i64 0] TB)
  have HR := Lib.hid (fun W => rep_any 120 65537 W (by decide))
  clear hA2
  go_wp2_with fail
  generalize W2.alloc (.cells #[.int .i64 1, .int .i64 0] TB) = W3 at *
  generalize W2.heap.size = qb at *
  go_at_call 28
  refine (HR.out _).mono ?_
  rintro e W4 ⟨V, rfl, hV, hB4⟩
  have hx4 := (hB4.block _ (Array.getElem?_eq_some_iff.1 hx3).1).trans hx3
  have hA4 := hA3.later hB4
  have c0 := cell_of_row _ _ 0 _ TB _ hx4
  have c1 := cell_of_row _ _ 1 _ TB _ hx4
  clear hx3 hB4 hA3 HR hx4
  have hokV := Lib.hid (hok.out V hV)
  have hV' := Lib.hid hV
  clear hV hok
  go_wp2
  go_loopw [94] (fun i wr => ∃ j : Nat, j ≤ 14 ∧ i = .int .i64 j ∧ WAt w sb mb (s5 n) wr ∧ TrB wr W4.heap.size (trL x1 x2 x3 x4 x5 x6 V)) (fun i _ => 14 - nOf i)
  case atStart => exact ⟨0, Nat.zero_le _, rfl, hA4.alloc _, ⟨heap_alloc_new _ _⟩⟩
  case round =>
    clear c0 c1 hA4
    obtain ⟨j, hj, rfl, hA, hT⟩ := hrel
    by_cases hlt : j < 14
    · have i1 : 0 ≤ (j : Int) := by omega
      have i2 : (j : Int) < 14 := by omega
      have i3 : decide (j < 14) = true := by simp; omega
      have i4 : decide ((j : Int) < 14) = true := by simp; omega
      obtain ⟨t, ht⟩ : ∃ t, (trL x1 x2 x3 x4 x5 x6 V)[j]? = some t := ⟨_, List.getElem?_eq_getElem hlt⟩
      have hO := hokV.out t (List.mem_of_getElem? ht)
      obtain ⟨c0, c1, c2, c3, c4, c5⟩ := hT.cells ht
      have hoff : addB (s5 n) t.nd t.r t.m t.k t.v = false := by unfold addB; rw [decide_eq_false hO.off]; rfl
      have hos : addS (s5 n) t.nd t.r t.m t.k t.v = s5 n := by unfold addS; rw [if_neg hO.off]
      have HA := Lib.hid (fun W (h : WAt w sb mb (s5 n) W) => h.add t.nd t.r t.m t.k t.v hoff hO.e hos)
      have HL := Lib.hid (fun (h : t.k < 0 ∨ 4096 ≤ t.k ∨ 65536 < t.v.size ∨ t.k < 5) W (hW : WAt w sb mb (s5 n) W) => learn_ref t.k t.v W hW.ax (hO.l h).2 (hO.l h).1)
      clear hO ht hoff hos
      obtain ⟨nd, r, mm, k, v, te⟩ := t
      simp only at c0 c1 c2 c3 c4 c5 HA HL
      have hbx : TrB (wr.alloc (.cells #[.int .i64 nd, .int .i64 r, .int .i64 mm, .int .i64 k, .string v, .int .i64 te] TTr)) wr.heap.size [⟨nd, r, mm, k, v, te⟩] := ⟨heap_alloc_new _ _⟩
      obtain ⟨d0, d1, d2, d3, d4, d5⟩ := hbx.one
      have hA1 := hA.alloc (.cells #[.int .i64 nd, .int .i64 r, .int .i64 mm, .int .i64 k, .string v, .int .i64 te] TTr)
      have hT1 := hT.later (alloc_b wr (.cells #[.int .i64 nd, .int .i64 r, .int .i64 mm, .int .i64 k, .string v, .int .i64 te] TTr))
      clear hA hT
      go_wp2_with fail
      go_at_call 14
      refine (HA.out _ hA1).mono ?_
      rintro e w6 ⟨rfl, hA6, hk6⟩
      have hT6 := hA1.trb hk6 hT1
      have hb6 := hA1.trb hk6 hbx
      clear c0 c1 c2 c3 c4 c5 d0 d1 d2 d3 d4 d5 hA1 hT1 hbx hk6 HA
      obtain ⟨d0, d1, d2, d3, d4, d5⟩ := hb6.one
      simp only at d0 d1 d2 d3 d4 d5
      replace hT6 := Lib.hid hT6
      replace hA6 := Lib.hid hA6
      clear hb6
      generalize wr.heap.size = bb at *
      by_cases h1 : k < 0
      · have o1 : decide (k < 0) = true := decide_eq_true h1
        replace HL := Lib.hid (HL.out (.inl h1))
        clear h1
        go_wp2
        go_quiet ((go_at_call 16; exact q_left (HL.out _ (hA6.out.drewN _))))
        go_wp2
        go_roundw
        case rel => exact ⟨j + 1, by omega, by go_num, hA6.out.drewN _, hT6.out.later (below_drewN (Below.refl _ _) _)⟩
        case measure => simp [nOf]; omega
      · have o1 : decide (k < 0) = false := decide_eq_false h1
        by_cases h2 : 4096 ≤ k
        · have o2 : decide (4096 ≤ k) = true := decide_eq_true h2
          replace HL := Lib.hid (HL.out (.inr (.inl h2)))
          clear h1 h2
          go_wp2
          go_quiet ((go_at_call 16; exact q_left (HL.out _ (hA6.out.drewN _))))
          go_wp2
          go_roundw
          case rel => exact ⟨j + 1, by omega, by go_num, hA6.out.drewN _, hT6.out.later (below_drewN (Below.refl _ _) _)⟩
          case measure => simp [nOf]; omega
        · have o2 : decide (4096 ≤ k) = false := decide_eq_false h2
          by_cases h3 : 65536 < v.size
          · have o3 : decide (65536 < v.size) = true := decide_eq_true h3
            have o4 : decide ((65536 : Int) < (v.size : Int)) = true := decide_eq_true (by omega)
            replace HL := Lib.hid (HL.out (.inr (.inr (.inl h3))))
            clear h1 h2 h3
            go_wp2
            go_quiet ((go_at_call 16; exact q_left (HL.out _ (hA6.out.drewN _))))
            go_wp2
            go_roundw
            case rel => exact ⟨j + 1, by omega, by go_num, hA6.out.drewN _, hT6.out.later (below_drewN (Below.refl _ _) _)⟩
            case measure => simp [nOf]; omega
          · have o3 : decide (65536 < v.size) = false := decide_eq_false h3
            have o4 : decide ((65536 : Int) < (v.size : Int)) = false := decide_eq_false (by omega)
            by_cases h4 : k < 5
            · have o5 : decide (k < 5) = true := decide_eq_true h4
              replace HL := Lib.hid (HL.out (.inr (.inr (.inr h4))))
              clear h1 h2 h3 h4
              go_wp2
              go_quiet ((go_at_call 16; exact q_left (HL.out _ (hA6.out.drewN _))))
              go_wp2
              go_roundw
              case rel => exact ⟨j + 1, by omega, by go_num, hA6.out.drewN _, hT6.out.later (below_drewN (Below.refl _ _) _)⟩
              case measure => simp [nOf]; omega
            · have o5 : decide (k < 5) = false := decide_eq_false h4
              clear h1 h2 h3 h4 HL
              go_wp2
              go_quiet (fail)
              go_wp2
              go_roundw
              case rel => exact ⟨j + 1, by omega, by go_num, hA6.out.drewN _, hT6.out.later (below_drewN (Below.refl _ _) _)⟩
              case measure => simp [nOf]; omega
    · have hj14 : j = 14 := by omega
      subst hj14
      have hVx : (V.extract 1 V.size).size = 65536 := by rw [ByteArray.size_extract, hV'.out]; rfl
      have hVs := hV'.out
      clear hT hlt hokV
      go_wp2_with fail
      go_at_call 12
      refine (B1.out _).mono ?_
      rintro e w1 ⟨rfl, rfl⟩
      go_wp2_with fail
      go_at_call 12
      refine (B2.out _).mono ?_
      rintro e w1 ⟨rfl, rfl⟩
      go_wp2_with fail
      go_at_call 18
      refine (hA.forget x2 H2.out.1 H2.out.2).mono ?_
      rintro e w1 ⟨rfl, hA1, _⟩
      clear hA
      go_wp2_with fail
      go_at_call 18
      refine (hA1.forget _ H9.out.1 H9.out.2).mono ?_
      rintro e w2 ⟨rfl, hA2, _⟩
      clear hA1
      go_wp2_with fail
      go_at_call 18
      refine (hA2.forget 3 (s5_3 n).1 (s5_3 n).2).mono ?_
      rintro e w3 ⟨rfl, hA3, _⟩
      clear hA2
      go_wp2_with fail
      go_at_call 27
      refine (hA3.upto (s5_upto n)).mono ?_
      rintro e w4 ⟨rfl, rfl⟩
      go_wp2_with fail
      go_at_call 25
      refine (hA3.opens (s5_open n)).mono ?_
      rintro e w5 ⟨vO, rfl, hO5, hA5, _⟩
      obtain ⟨oa, oc, rfl⟩ := rows_form hO5
      rw [List.length_nil]
      clear hO5 hA3
      rw [hVs] at hVx
      go_wp2_with fail
      generalize V.extract 1 65537 = V1 at *
      obtain ⟨l1, l2⟩ := s6_learn n V1 (Nat.le_of_eq hVx)
      replace hVx := Lib.hid hVx
      go_at_call 16
      refine (hA5.learn 4095 V1 l1 l2).mono ?_
      rintro e w6 ⟨rfl, hA6, _⟩
      clear hA5 l1 l2 hVs
      go_wp2_with fail
      go_at_call 18
      refine (hA6.forget 4095 (s7_for n V1).1 (s7_for n V1).2).mono ?_
      rintro e w7 ⟨rfl, hA7, _⟩
      clear hA6
      go_wp2_with fail
      go_at_call 27
      refine (hA7.upto (s7_upto n V1)).mono ?_
      rintro e w8 ⟨rfl, rfl⟩
      go_wp2_with fail
      go_at_call 18
      refine (hA7.forget 4096 (s8_for n V1).1 (s8_for n V1).2).mono ?_
      rintro e w9 ⟨rfl, hA9, _⟩
      clear hA7
      go_wp2_with fail
      go_at_call 27
      refine (hA9.upto (s8_upto n)).mono ?_
      rintro e w10 ⟨rfl, rfl⟩
      go_wp2_with fail
      go_at_call 23
      refine (hA9.chosen 4095 (by decide) (s8_at n)).mono ?_
      rintro e w11 ⟨rfl, hA11, _⟩
      clear hA9
      go_wp2_with fail
      go_at_call 11
      refine (works_any _).mono ?_
      rintro e w12 ⟨rfl, hB12⟩
      have hbel := Lib.hid (hA11.bel.trans (hB12.mono hA11.bel.size))
      clear hA11 hB12
      go_wp2
      go_ret
      exact ⟨rfl, hbel.out⟩
theorem refuses_law (a0 a1 : Int) (w : World) (w0 : (Lit.int .u8 a0).wf = true) (w1 : (Lit.int .u16 a1).wf = true) :
    Calls Try.prog 8 #[.int .u8 a0, .int .u16 a1] w (Yes w) := by
  have b0 := bounds_u8 w0
  have b1 := bounds_u16 w1
  obtain ⟨a, rfl⟩ := Int.eq_ofNat_of_zero_le b0.1
  obtain ⟨b, rfl⟩ := Int.eq_ofNat_of_zero_le b1.1
  exact refuses_go a b w (by have := b0.2; omega) (by have := b1.2; omega)
end Go.Proofs.Ytaacnhhinhdinaa.Lrn
