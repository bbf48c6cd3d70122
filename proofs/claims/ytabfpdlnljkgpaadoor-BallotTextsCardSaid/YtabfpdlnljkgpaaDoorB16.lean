/- The document's Parse; the walk of BallotTexts. -/
import Derived.Test.YtabfpdlnljkgpaaDoorB15
namespace Go.Proofs.YtabfpdlnljkgpaaDoor.Bal
open Go.RowKit Go.Lib
set_option linter.unusedVariables false
set_option linter.unusedSimpArgs false
set_option maxRecDepth 20000

theorem wrp {x : Int} (h0 : -9223372036854775808 ≤ x) (h1 : x ≤ 9223372036854775807) : IntKind.i64.wrap x = x := wr h0 h1
def kI (b : Bool) : Int := if b then 1 else 0
/-- The result's box and the two numbers. -/
structure Rp (w : World) (x : Pp) (W : World) : Prop where
  res : Bx w w.heap.size 0 0 W
  row : W.heap[w.heap.size + 1]? = some (.cells #[.int .i64 x.a, .int .i64 x.b] 3 (0, 0))
theorem Rp.cells {w W : World} {x : Pp} (h : Rp w x W) : W.cell? ⟨w.heap.size + 1, 0, none⟩ = some (.int .i64 x.a) ∧ W.cell? ⟨w.heap.size + 1, 1, none⟩ = some (.int .i64 x.b) ∧ W.frozen? ⟨w.heap.size + 1, 0, none⟩ = false ∧ W.frozen? ⟨w.heap.size + 1, 1, none⟩ = false :=
  ⟨cell_of_row _ _ 0 _ _ _ h.row, cell_of_row _ _ 1 _ _ _ h.row, frozen_of_row _ _ 0 _ _ h.row, frozen_of_row _ _ 1 _ _ h.row⟩
theorem Rp.drew {w W : World} {x : Pp} (h : Rp w x W) : Rp w x W.drew := ⟨h.res.drew, h.row⟩
theorem Rp.later {w W W' : World} {x : Pp} (h : Rp w x W) (hb : Below W.heap.size W W') : Rp w x W' := ⟨h.res.later hb, (hb.block _ (Array.getElem?_eq_some_iff.1 h.row).1).trans h.row⟩
theorem Rp.alloc {w W : World} {x : Pp} (h : Rp w x W) (o : Obj) : Rp w x (W.alloc o) := h.later (alloc_b _ _)
theorem Rp.kk {w W : World} {x : Pp} (h : Rp w x W) (k : Bool) : Rp w ⟨x.a, x.b, k⟩ W := ⟨h.res, h.row⟩
theorem Rp.set0 {w W : World} {x : Pp} (h : Rp w x W) (v : Nat) : Rp w ⟨v, x.b, x.k⟩ (W.setCell ⟨w.heap.size + 1, 0, none⟩ (.int .i64 v)) := ⟨h.res.other (by omega) (by omega) _, heap_setCell_same W _ 0 _ _ _ h.row⟩
theorem Rp.set1 {w W : World} {x : Pp} (h : Rp w x W) (v : Nat) : Rp w ⟨x.a, v, x.k⟩ (W.setCell ⟨w.heap.size + 1, 1, none⟩ (.int .i64 v)) := ⟨h.res.other (by omega) (by omega) _, heap_setCell_same W _ 1 _ _ _ h.row⟩
theorem rp_new (w : World) : Rp w ⟨0, 0, false⟩ ((w.alloc (.cells #[.int .i64 0, .int .i64 0] TB)).alloc (.cells #[.int .i64 0, .int .i64 0] 3)) := by
  have hs : (w.alloc (.cells #[.int .i64 0, .int .i64 0] TB)).heap.size = w.heap.size + 1 := by show (w.heap.push _).size = _; rw [Array.size_push]
  refine ⟨(bx_new w 0 0).alloc _, ?_⟩
  rw [← hs]
  exact heap_alloc_new _ _
set_option maxHeartbeats 4000000 in
theorem rparse_any (l : List UInt8) (hl : l.length ≤ 1000) (w : World) :
    Calls Tryd.prog 24 #[.string (tx l)] w fun e w' => e = .returned (.tuple #[.agg #[.int .i64 (pA l), .int .i64 (pB l)], .int .i64 (pE l)]) ∧ Below w.heap.size w w' := by
  obtain ⟨N, hN⟩ : ∃ N, l.length = N := ⟨_, rfl⟩
  have hz : (tx l).size = N := (tx_size l).trans hN
  have hg : ∀ (n : Nat) (h : n < (tx l).size) (h2 : n < l.length), (tx l)[n]'h = l[n]'h2 := fun n h _ => tx_get l n h
  have hst := fun n h => st_succ l n h
  have hsb := fun n => st_b l n
  have hqq := fun t => tx_beq t l
  have hR := Lib.hid (rp_new w)
  have hG := Lib.hid hg
  have hS := Lib.hid hst
  have hB := Lib.hid hsb
  have hQ := Lib.hid hqq
  have hF : Hid (∀ R M : Nat, (∀ r m, IsT l r m → r = R ∧ m = M) → (if bOk 7 (R : Int) (M : Int) ∧ txS R M = l then (pA l = R ∧ pB l = M ∧ pE l = 0) else (pA l = 0 ∧ pB l = 0 ∧ pE l = 10))) := by
    intro R M hu
    split
    · rename_i hc
      obtain ⟨h1, h2⟩ := hc
      have : IsT l R M := ⟨h1, by rw [← h2]; exact (if_pos h1).symm⟩
      exact p_isT this
    · rename_i hc
      refine p_no (fun r m h => hc ?_)
      obtain ⟨rfl, rfl⟩ := hu r m h
      exact ⟨h.1, (if_pos h.1).trans h.2⟩
  have hU : Hid (∀ n, (n = N ∨ 20 < N) → ∀ r m, IsT l r m → r = ((st l n).a : Int) ∧ m = ((st l n).b : Int)) := by
    intro n hn r m h
    have := isT_short h
    have hn : n = l.length := by omega
    subst hn
    obtain ⟨h1, h2⟩ := st_tB h
    exact ⟨h1.symm, h2.symm⟩
  have h00 : Hid (st l 0 = ⟨0, 0, false⟩) := Lib.hid rfl
  clear hg hst hsb hqq
  generalize hs : tx l = s at *
  replace hN := Lib.hid hN
  replace hs := Lib.hid hs
  have r0 : IntKind.u8.wrap 0 = 0 := rfl
  go_enter Tryd.func24, Tryd.ntmps24
  go_wp2
  go_loopw [5, 6] (fun k i wr => ∃ n : Nat, n ≤ N ∧ i = .int .i64 n ∧ k = .int .i64 (kI (st l n).k) ∧ Rp w (st l n) wr) (fun _ i _ => N - (intOf i).toNat)
  case atStart => exact ⟨0, Nat.zero_le _, rfl, by rw [h00.out]; rfl, by rw [h00.out]; exact hR.out⟩
  case round =>
    obtain ⟨n, hn, rfl, rfl, hRr⟩ := hrel
    have hb := hB.out n
    by_cases hgo : n < N ∧ N ≤ 20
    · obtain ⟨hlt, h20⟩ := hgo
      have hlt2 : n < l.length := by rw [hN.out]; exact hlt
      have hst1 := hS.out n hlt2
      have hsk : n < s.size := by rw [hz]; exact hlt
      have hc0 := hG.out n hsk hlt2
      have e0 : (n : Int) < (N : Int) := by omega
      have e1 : (N : Int) ≤ 20 := by omega
      have e2 : (0 : Int) ≤ (n : Int) := by omega
      have e3 : (n : Int) < (s.size : Int) := by omega
      generalize l[n] = c at *
      have hc : (s[n]'hsk).toNat = c.toNat := by rw [hc0]
      clear hc0
      generalize st l n = x at *
      obtain ⟨a, b, kb⟩ := x
      obtain ⟨p0, p1, p2, p3⟩ := hRr.cells
      obtain ⟨z0, z1, z2, z3⟩ := hRr.drew.cells
      simp only at hb p0 p1 z0 z1
      have hcb : c.toNat < 256 := c.toNat_lt
      by_cases h46 : c = 46
      · have hst2 := Lib.hid (show st l (n + 1) = ⟨a, b, true⟩ by rw [hst1]; unfold stp; rw [if_pos h46])
        have hcn : c.toNat = 46 := by rw [h46]; rfl
        have hk2 := Lib.hid (hRr.kk true)
        generalize c.toNat = C at *
        clear hst1 h46 z0 z1 z2 z3
        go_wp2
        go_roundw
        case rel => exact ⟨n + 1, by omega, by go_num, (by first | (rw [hst2.out]; done) | (rw [hst2.out]; rfl)), by rw [hst2.out]; exact hk2.out⟩
        case measure => simp [intOf]; omega
      · have hcn : ¬ c.toNat = 46 := fun h => h46 (UInt8.toNat_inj.1 h)
        by_cases hd : isDig c = true
        · have hd2 : 48 ≤ c.toNat ∧ c.toNat ≤ 57 := by unfold isDig at hd; simpa using hd
          have hst2 := hst1
          unfold stp at hst2
          rw [if_neg h46, if_pos hd] at hst2
          clear hst1 h46 hd
          generalize c.toNat = C at *
          obtain ⟨d, hd3⟩ : ∃ d, C = 48 + d := ⟨C - 48, by omega⟩
          rw [show C - 48 = d by omega] at hst2
          have g1 : (48 : Int) ≤ (C : Int) := by omega
          have g2 : (C : Int) ≤ 57 := by omega
          have g3 : ¬ (C : Int) = 46 := by omega
          have g4 : ((C : Int) == 46) = false := by simpa using g3
          have g5 : IntKind.u8.wrap ((C : Int) - 48) = (d : Int) := by rw [IntKind.wrap_u8']; omega
          have g6 : IntKind.i64.wrap (d : Int) = d := wrp (by omega) (by omega)
          have g7 : decide ((48 : Int) ≤ (C : Int)) = true := by simpa using g1
          have g8 : IntKind.i64.wrap (10 * (a : Int)) = 10 * (a : Int) := wrp (by omega) (by omega)
          have g9 : IntKind.i64.wrap (10 * (b : Int)) = 10 * (b : Int) := wrp (by omega) (by omega)
          have g10 : IntKind.i64.wrap (10 * (a : Int) + (d : Int)) = ((10 * a + d : Nat) : Int) := by rw [wrp (by omega) (by omega)]; omega
          have g11 : IntKind.i64.wrap (10 * (b : Int) + (d : Int)) = ((10 * b + d : Nat) : Int) := by rw [wrp (by omega) (by omega)]; omega
          clear hcb hcn hd3 hd2
          have k0 : kI false = 0 := rfl
          have k1 : kI true = 1 := rfl
          cases kb with
          | false =>
            rw [if_neg (by simp)] at hst2
            simp only at hst2
            by_cases ha : a ≤ 1073741824
            · rw [if_pos ha] at hst2
              have ha2 : (a : Int) ≤ 1073741824 := by omega
              have hk2 := Lib.hid (hRr.drew.set0 (10 * a + d))
              generalize 10 * a + d = v at *
              replace hst2 := Lib.hid hst2
              clear hb ha
              go_wp2
              go_region
              go_wp2
              go_roundw
              case rel => exact ⟨n + 1, by omega, by go_num, (by first | (rw [hst2.out]; done) | (rw [hst2.out]; rfl)), by rw [hst2.out]; exact hk2.out⟩
              case measure => simp [intOf]; omega
            · rw [if_neg ha] at hst2
              have ha2 : ¬ (a : Int) ≤ 1073741824 := by omega
              have hk2 := Lib.hid hRr
              replace hst2 := Lib.hid hst2
              clear hb ha
              go_wp2
              go_roundw
              case rel => exact ⟨n + 1, by omega, by go_num, (by first | (rw [hst2.out]; done) | (rw [hst2.out]; rfl)), by rw [hst2.out]; exact hk2.out⟩
              case measure => simp [intOf]; omega
          | true =>
            rw [if_pos rfl] at hst2
            simp only at hst2
            by_cases ha : b ≤ 1073741824
            · rw [if_pos ha] at hst2
              have ha2 : (b : Int) ≤ 1073741824 := by omega
              have hk2 := Lib.hid (hRr.drew.set1 (10 * b + d))
              generalize 10 * b + d = v at *
              replace hst2 := Lib.hid hst2
              clear hb ha
              go_wp2
              go_region
              go_wp2
              go_roundw
              case rel => exact ⟨n + 1, by omega, by go_num, (by first | (rw [hst2.out]; done) | (rw [hst2.out]; rfl)), by rw [hst2.out]; exact hk2.out⟩
              case measure => simp [intOf]; omega
            · rw [if_neg ha] at hst2
              have ha2 : ¬ (b : Int) ≤ 1073741824 := by omega
              have hk2 := Lib.hid hRr
              replace hst2 := Lib.hid hst2
              clear hb ha
              go_wp2
              go_roundw
              case rel => exact ⟨n + 1, by omega, by go_num, (by first | (rw [hst2.out]; done) | (rw [hst2.out]; rfl)), by rw [hst2.out]; exact hk2.out⟩
              case measure => simp [intOf]; omega
        · have hd2 : ¬ (48 ≤ c.toNat ∧ c.toNat ≤ 57) := by unfold isDig at hd; simpa using hd
          have hst2 := hst1
          unfold stp at hst2
          rw [if_neg h46, if_neg hd] at hst2
          clear hst1 h46 hd
          generalize c.toNat = C at *
          have g4 : ((C : Int) == 46) = false := by simp; omega
          have g3 : ¬ (C : Int) = 46 := by omega
          have hk2 := Lib.hid hRr
          replace hst2 := Lib.hid hst2
          by_cases h48 : 48 ≤ C
          · have g1 : (48 : Int) ≤ (C : Int) := by omega
            have g2 : ¬ (C : Int) ≤ 57 := by omega
            clear hcb hcn hd2 h48 hb
            go_wp2
            go_roundw
            case rel => exact ⟨n + 1, by omega, by go_num, (by first | (rw [hst2.out]; done) | (rw [hst2.out]; rfl)), by rw [hst2.out]; exact hk2.out⟩
            case measure => simp [intOf]; omega
          · have g1 : ¬ (48 : Int) ≤ (C : Int) := by omega
            clear hcb hcn hd2 h48 hb
            go_wp2
            go_roundw
            case rel => exact ⟨n + 1, by omega, by go_num, (by first | (rw [hst2.out]; done) | (rw [hst2.out]; rfl)), by rw [hst2.out]; exact hk2.out⟩
            case measure => simp [intOf]; omega
    · have hfin := hF.out _ _ (hU.out n (by omega))
      generalize st l n = x at *
      obtain ⟨a, b, kb⟩ := x
      have hT := fun W => rtext_any (a : Int) (b : Int) W
      obtain ⟨p0, p1, p2, p3⟩ := hRr.drew.cells
      have hq := hQ.out (txS (a : Int) (b : Int))
      simp only at hb p0 p1 hfin
      have hsx : tx l = s := hs.out
      have hxb := bx_at hRr.res.bel (a : Int) (b : Int)
      have hxd := hxb.drew
      have hrd := (hRr.res.alloc (.cells #[.int .i64 (a : Int), .int .i64 (b : Int)] TB)).drew
      obtain ⟨i0, i1, _, _⟩ := hxd.cells
      replace hxd := Lib.hid hxd
      replace hrd := Lib.hid hrd
      clear hxb
      have HE : Hid (∀ W, Rp w ⟨a, b, kb⟩ W → W.cell? ⟨w.heap.size + 1, 0, none⟩ = some (.int .i64 (a : Int)) ∧ W.cell? ⟨w.heap.size + 1, 1, none⟩ = some (.int .i64 (b : Int)) ∧ Rp w ⟨a, b, kb⟩ W) := fun W h => ⟨h.cells.1, h.cells.2.1, h⟩
      have hsplit : (¬ (n : Int) < (N : Int)) ∨ ((n : Int) < (N : Int) ∧ ¬ (N : Int) ≤ 20) := by omega
      clear hgo hn hb
      by_cases hok : bOk 7 (a : Int) (b : Int)
      · rw [ck_ok hok (by omega)] at hT
        by_cases heq : txS (a : Int) (b : Int) = l
        · rw [if_pos ⟨hok, heq⟩] at hfin
          obtain ⟨f1, f2, f3⟩ := hfin
          rw [heq, hsx] at hT
          replace f1 := Lib.hid f1
          replace f2 := Lib.hid f2
          replace f3 := Lib.hid f3
          replace hT := Lib.hid hT
          clear hq hok heq hsx
          rcases hsplit with g1 | ⟨g1, g2⟩
          all_goals
            go_wp2
            go_region_held3 (fun W => W.cell? ⟨w.heap.size + 1, 0, none⟩ = some (.int .i64 (a : Int)) ∧ W.cell? ⟨w.heap.size + 1, 1, none⟩ = some (.int .i64 (b : Int)) ∧ Rp w ⟨a, b, kb⟩ W) ((first | exact HE.out _ hRr.drew | exact HE.out _ (hRr.drew.alloc _) | exact HE.out _ (hRr.alloc _).drew | exact HE.out _ (by assumption) | assumption)) (fail)
            go_wp2_with fail
            refine (hT.out _).mono ?_
            rintro e w2 ⟨rfl, hb2⟩
            have hx2 := hrd.out.later hb2
            have hy2 := hxd.out.later hb2
            obtain ⟨k0, k1, k2, k3⟩ := hx2.cells
            obtain ⟨j0, j1, _, _⟩ := hy2.cells
            clear hb2 hy2
            have hz2 := hx2.set (by omega) (a : Int) (b : Int)
            go_wp2
            exact bodyPost_ret (res2e Tryd.results24 _ rfl hz2) rfl ⟨by rw [f1.out, f2.out, f3.out]; rfl, hz2.bel⟩
        · rw [if_neg (fun h => heq h.2)] at hfin
          obtain ⟨f1, f2, f3⟩ := hfin
          rw [decide_eq_false heq] at hq
          replace f1 := Lib.hid f1
          replace f2 := Lib.hid f2
          replace f3 := Lib.hid f3
          generalize tx (txS (a : Int) (b : Int)) = t at *
          replace hT := Lib.hid hT
          clear hok heq hsx
          rcases hsplit with g1 | ⟨g1, g2⟩
          all_goals
            go_wp2
            go_region_held3 (fun W => W.cell? ⟨w.heap.size + 1, 0, none⟩ = some (.int .i64 (a : Int)) ∧ W.cell? ⟨w.heap.size + 1, 1, none⟩ = some (.int .i64 (b : Int)) ∧ Rp w ⟨a, b, kb⟩ W) ((first | exact HE.out _ hRr.drew | exact HE.out _ (hRr.drew.alloc _) | exact HE.out _ (hRr.alloc _).drew | exact HE.out _ (by assumption) | assumption)) (fail)
            go_wp2_with fail
            refine (hT.out _).mono ?_
            rintro e w2 ⟨rfl, hb2⟩
            have hx2 := hrd.out.later hb2
            obtain ⟨k0, k1, k2, k3⟩ := hx2.cells
            clear hb2
            have hz2 := hx2.set (by omega) 0 0
            go_wp2
            exact bodyPost_ret (res2e Tryd.results24 _ rfl hz2) rfl ⟨by rw [f1.out, f2.out, f3.out]; rfl, hz2.bel⟩
      · rw [ck_no hok] at hT
        rw [if_neg (fun h => hok h.1)] at hfin
        obtain ⟨f1, f2, f3⟩ := hfin
        replace f1 := Lib.hid f1
        replace f2 := Lib.hid f2
        replace f3 := Lib.hid f3
        generalize tx (txS (a : Int) (b : Int)) = t at *
        replace hT := Lib.hid hT
        clear hok hsx hq
        rcases hsplit with g1 | ⟨g1, g2⟩
        all_goals
          go_wp2
          go_region_held3 (fun W => W.cell? ⟨w.heap.size + 1, 0, none⟩ = some (.int .i64 (a : Int)) ∧ W.cell? ⟨w.heap.size + 1, 1, none⟩ = some (.int .i64 (b : Int)) ∧ Rp w ⟨a, b, kb⟩ W) ((first | exact HE.out _ hRr.drew | exact HE.out _ (hRr.drew.alloc _) | exact HE.out _ (hRr.alloc _).drew | exact HE.out _ (by assumption) | assumption)) (fail)
          go_wp2_with fail
          refine (hT.out _).mono ?_
          rintro e w2 ⟨rfl, hb2⟩
          have hx2 := hrd.out.later hb2
          obtain ⟨k0, k1, k2, k3⟩ := hx2.cells
          clear hb2
          have hz2 := hx2.set (by omega) 0 0
          go_wp2
          exact bodyPost_ret (res2e Tryd.results24 _ rfl hz2) rfl ⟨by rw [f1.out, f2.out, f3.out]; rfl, hz2.bel⟩

theorem texts_long (r m : Int) (l : List UInt8) (hl : 100 < l.length) (w : World) (hH : Hv w) :
    Calls Tryd.prog 5 #[.agg #[.int .i64 r, .int .i64 m], .string (tx l)] w fun e w' => e = .returned (.bool true) ∧ Below w.heap.size w w' := by
  have hx := bx_new w r m
  have hz := tx_size l
  generalize l.length = n at *
  generalize tx l = s at *
  have d1 : decide (100 < (n : Int)) = true := by simp; omega
  go_enter Tryd.func5, Tryd.ntmps5
  go_wp2_with fail
  refine (works_any _ (hH.later hx.bel)).mono ?_
  rintro e w1 ⟨rfl, hb1⟩
  have hz := below2 hx.bel hb1
  go_wp2
  go_ret
  exact ⟨rfl, hz⟩
theorem texts_go (r m : Int) (l : List UInt8) (hl : ¬ 100 < l.length) (w : World) (hH : Hv w) :
    Calls Tryd.prog 5 #[.agg #[.int .i64 r, .int .i64 m], .string (tx l)] w fun e w' => e = .returned (.bool true) ∧ Below w.heap.size w w' := by
  have hx := bx_new w r m
  obtain ⟨c0, c1, _, _⟩ := hx.cells
  have hT := fun W hW => text_any r m W hW
  have hU := fun W => rtext_any r m W
  have hP := fun W hW => parse_any l (by omega) W hW
  have hR := fun W => rparse_any l (by omega) W
  have hz := tx_size l
  have hq := tx_beq (txS r m) (txS r m)
  rw [decide_eq_true rfl] at hq
  generalize tx (txS r m) = t at *
  generalize ckB r m 7 = g at *
  generalize pA l = x at *
  generalize pB l = y at *
  generalize pE l = f at *
  have q1 := fun W => eq_b x y x y W
  rw [eqB_t ⟨rfl, rfl⟩] at q1
  generalize l.length = n at *
  generalize tx l = s at *
  have d1 : decide (100 < (n : Int)) = false := by simp; omega
  replace hT := Lib.hid hT
  replace hU := Lib.hid hU
  replace hP := Lib.hid hP
  replace hR := Lib.hid hR
  replace hx := Lib.hid hx
  clear hl
  go_enter Tryd.func5, Tryd.ntmps5
  go_wp2_with fail
  refine (hT.out _ (hH.later hx.out.bel)).mono ?_
  rintro e w1 ⟨rfl, hb1⟩
  have hx1 := hx.out.later hb1
  obtain ⟨d0, d2, _, _⟩ := hx1.cells
  clear c0 c1 hx hb1
  replace hx1 := Lib.hid hx1
  go_wp2_with fail
  refine (hU.out _).mono ?_
  rintro e w2 ⟨rfl, hb2⟩
  have hx2 := (hx1.out.later hb2).bel
  clear d0 d2 hx1 hb2
  go_wp2_with fail
  refine (hP.out _ (hH.later hx2)).mono ?_
  rintro e w3 ⟨rfl, hb3⟩
  have hx3 := below2 hx2 hb3
  have hy3 := bx_at hx3 x y
  clear hx2 hb3 hx3
  replace hy3 := Lib.hid hy3
  go_wp2_with fail
  refine (hR.out _).mono ?_
  rintro e w4 ⟨rfl, hb4⟩
  have hy4' := hy3.out.later hb4
  have hy4 := hy4'.alloc (.cells #[.int .i64 x, .int .i64 y] TB)
  have hz4 := bx_at hy4'.bel x y
  obtain ⟨d0, d1', _, _⟩ := hy4.cells
  obtain ⟨d2, d3, _, _⟩ := hz4.cells
  clear hy3 hb4 hy4' hz4
  replace hy4 := Lib.hid hy4
  go_wp2_with fail
  refine (works_any _ (hH.later hy4.out.bel)).mono ?_
  rintro e w5 ⟨rfl, hb5⟩
  have hz := below2 hy4.out.bel hb5
  go_wp2
  go_ret
  exact ⟨rfl, hz⟩
theorem w_ballotTexts (r m : Int) (s : ByteArray) (w : World) (w0 : True) (w1 : s.size ≤ maxLen) (hH : Hv w) :
    Calls Tryd.prog 5 #[.agg #[.int .i64 r, .int .i64 m], .string s] w fun e w' => e = .returned (.bool true) ∧ Below w.heap.size w w' := by
  rw [← tx_of s]
  generalize s.data.toList = l
  by_cases hl : 100 < l.length
  · exact texts_long r m l hl w hH
  · exact texts_go r m l hl w hH
end Go.Proofs.YtabfpdlnljkgpaaDoor.Bal
