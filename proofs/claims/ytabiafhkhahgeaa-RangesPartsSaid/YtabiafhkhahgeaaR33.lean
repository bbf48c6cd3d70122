/- RangesParts. -/
import Derived.Test.YtabiafhkhahgeaaR32
import Derived.Test.YtabiafhkhahgeaaR25
namespace Go.Proofs.Ytabiafhkhahgeaa.Rng
open Go.RowKit Go.Lib
set_option linter.unusedVariables false
set_option linter.unusedSimpArgs false
set_option maxRecDepth 100000

theorem ow_made (w : World) : Ow w.heap.size [] (.slice (some ⟨w.heap.size, 0, none⟩) 0 0) (w.alloc (.cells #[] TR)) := by
  refine ⟨rfl, .inr ⟨w.heap.size, 0, #[], rfl, Nat.le_refl _, ?_, Nat.le_refl _, by unfold maxLen; omega, rfl, rfl⟩⟩
  exact (MapKept.heap_alloc w _).1
theorem same_text (x y : List UInt8) : ((tx x).toList == (tx y).toList) = decide (x = y) := by rw [tx_l, tx_l, Bool.eq_iff_iff]; simp
set_option maxHeartbeats 8000000 in
theorem parts_ok (a b : Rg) (h1 : shortR a = true) (h2 : shortR b = true) (ha : okR a = true) (hb : okR b = true) (w : World) :
    Calls Try.prog 7 #[.agg #[.string (tx a.f), .string (tx a.t)], .agg #[.string (tx b.f), .string (tx b.t)]] w fun e w' => e = .returned (.bool true) ∧ Below w.heap.size w w' := by
  have hS := fun W => short_any a W
  have hQ := fun W => short_any b W
  rw [h1] at hS
  rw [h2] at hQ
  replace hS := Lib.hid hS
  replace hQ := Lib.hid hQ
  have hW := Lib.hid (fun W => works_any W)
  have hx := tw_new w (tx a.f) (tx a.t) (tx b.f) (tx b.t)
  have hM := fun W => meet_any a b W
  have hN := fun W => without_any a b W
  have hN2 : (withR a b).2 = 0 := by rw [withR_ok ha hb]
  have hM2 : (meetR a b).2.2 = 0 := by rw [meetR_err, ha, hb]; rfl
  rw [hN2] at hN
  rw [hM2] at hM
  replace hM := Lib.hid hM
  replace hN := Lib.hid hN
  have hl : (withR a b).1.length ≤ 2 := with_len a b
  obtain ⟨n1, n3, pos, idx, hp0, hpN, hch⟩ := parts_chain ha hb
  have hs0 : tx (pos 0) = tx a.f := by rw [hp0]
  have hsN : tx (pos (partsR a b).length) = tx a.t := by rw [hpN]
  unfold partsR at n1 n3 hsN hch
  obtain ⟨c0, c1, c2, c3, _⟩ := hx.cells
  clear h1 h2 ha hb hN2 hM2 hp0 hpN
  replace hs0 := Lib.hid hs0
  replace hsN := Lib.hid hsN
  generalize (withR a b).1 = L at *
  generalize (meetR a b).2.1 = mo at *
  generalize (meetR a b).1 = R at *
  generalize tx a.f = s at *
  generalize tx a.t = t at *
  generalize tx b.f = u at *
  generalize tx b.t = v at *
  generalize hrf : tx R.f = rf at *
  generalize hrt : tx R.t = rt at *
  replace hrf := Lib.hid hrf
  replace hrt := Lib.hid hrt
  cases mo
  · simp only [Bool.false_eq_true, if_false, List.append_nil] at n1 n3 hsN hch
    replace hM := Lib.hid (show ∀ W, Calls Try.prog 21 #[.agg #[.string s, .string t], .agg #[.string u, .string v]] W (fun e w' => e = .returned (.tuple #[.agg #[.string rf, .string rt], .bool false, .int .i64 0]) ∧ Below W.heap.size W w') from hM.out)
    go_enter Try.func7, Try.ntmps7
    go_wp2_with (first
      | (go_at_call_of 11 (Value.agg #[Value.string s, Value.string t]); refine (hS.out _).mono ?_; rintro e w1 ⟨rfl, hb1⟩; have hx1 := hx.later hb1; obtain ⟨d0, d1, d2, d3, _⟩ := hx1.cells)
      | (go_at_call_of 11 (Value.agg #[Value.string u, Value.string v]); refine (hQ.out _).mono ?_; rintro e w3 ⟨rfl, hb3⟩; have hx3 := hx1.later hb3; obtain ⟨e0, e1, e2, e3, _⟩ := hx3.cells)
      | (go_at_call 21; refine (hM.out _).mono ?_; rintro e w4 ⟨rfl, hb4⟩; have hx4 := (hx3.later hb4).later (alloc_b w4 (.cells #[.string rf, .string rt] TR)); obtain ⟨g0, g1, g2, g3, _⟩ := hx4.cells; have hr4 := B2.new w4 rf rt)
      | (go_at_call 23; refine (hN.out _).mono ?_; rintro e w5 ⟨vv, rfl, ho5, hb5⟩; obtain ⟨aa, cap, rfl⟩ := ho5.form; have hx5 := hx4.later hb5; have hr5 := hr4.later hb5; have rs5 := ho5.rs; have oE := ow_made w5)
      | (at_builtin; refine Stop.mk ?_))
    unfold Stop
    refine wpList_append_rgs rfl _ _ rfl w5.heap.size _ [] rfl oE aa L.length cap L rfl (rs5.later (alloc_b w5 (.cells #[] TR))) (by simp; omega) (alloc_b w5 (.cells #[] TR)).size ?_
    intro v6 w6 o6 hg6
    have hb6 : Below w5.heap.size w5 w6 := (alloc_b w5 (.cells #[] TR)).grown hg6 (alloc_b w5 (.cells #[] TR)).size (fun k e => (World.ownsRow.lt oE k e).1)
    rw [List.nil_append] at o6
    have hx6 := hx5.later hb6
    have hr6 := hr5.later hb6
    clear c0 c1 c2 c3 d0 d1 d2 d3 e0 e1 e2 e3 g0 g1 g2 g3 hx hx1 hx3 hx4 hr4 hb1 hb3 hb4 hb5 ho5 hS hQ hM hN oE hg6 rs5
    generalize w4.heap.size = q at *
    obtain ⟨g0, g1, g2, g3, _⟩ := hx6.cells
    obtain ⟨y0, y1, _, _⟩ := hr6.cells
    clear g0 g1 g2 g3 y0 y1
    obtain ⟨g0, g1, g2, g3, _⟩ := hx6.cells
    obtain ⟨az, cz, rfl⟩ := o6.form
    obtain ⟨_, hat⟩ := o6.rs.at_
    replace hch := Lib.hid hch
    have HA := Lib.hid hat
    clear hat
    go_wp2
    go_loop [11, 12] (fun at_ n => ∃ m : Nat, m ≤ L.length ∧ n = .int .i64 ((m : Int) + 1) ∧ at_ = .string (tx (pos m))) (fun _ n => L.length + 1 - (intOf n).toNat)
    case atStart => exact ⟨0, Nat.zero_le _, by simp, by rw [hs0.out]⟩
    case round =>
      obtain ⟨m, hm, rfl, rfl⟩ := hrel
      by_cases hlt : m < L.length
      · obtain ⟨r, hr1, hr2, hr3, hr4, hr5⟩ := hch.out m hlt
        have hi : idx m < L.length := (List.getElem?_eq_some_iff.1 hr1).1
        have hri : L[idx m] = r := by have := hr1; rw [List.getElem?_eq_getElem hi] at this; exact Option.some.inj this
        have hr4' : ∀ j (hj : j < idx m), L[j]'(by omega) ≠ r → True := fun _ _ _ => trivial
        have HF : Hid (∀ j (hj : j < L.length), j < idx m → L[j].f ≠ pos m) := fun j hj hlt2 => hr4 j hlt2 _ (List.getElem?_eq_getElem hj)
        have HP := Lib.hid (show L[idx m].f = pos m ∧ L[idx m].t = pos (m + 1) by rw [hri]; exact ⟨hr2, hr3⟩)
        have H5 := Lib.hid hr5
        clear hr1 hr2 hr3 hr4 hr5 hri hr4'
        have i1 : (m : Int) + 1 ≤ (L.length : Int) := by omega
        go_wp2
        go_loop [13, 14] (fun nx i => ∃ k : Nat, k ≤ L.length ∧ i = .int .i64 k ∧ nx = .int .i64 (if idx m < k then (idx m : Int) else -1)) (fun _ i => L.length - (intOf i).toNat)
        case atStart => exact ⟨0, Nat.zero_le _, rfl, rfl⟩
        case round =>
          obtain ⟨k, hk, rfl, rfl⟩ := hrel
          by_cases hl2 : k < L.length
          · obtain ⟨b0, off, rfl, p0, p1⟩ := HA.out k hl2
            have q1 := same_text L[k].f (pos m)
            have i2 : (k : Int) < (L.length : Int) := by omega
            rcases Nat.lt_trichotomy k (idx m) with hc | hc | hc
            · rw [decide_eq_false (HF.out k hl2 hc)] at q1
              rw [if_neg (show ¬ idx m < k by omega)]
              generalize tx L[k].f = xf at *
              generalize tx L[k].t = xt at *
              generalize tx (pos m) = xp at *
              go_wp2
              go_round
              case rel => exact ⟨k + 1, by omega, by go_num, by rw [if_neg (show ¬ idx m < k + 1 by omega)]⟩
              case measure => simp [intOf]; omega
            · subst hc
              rw [HP.out.1, decide_eq_true rfl] at q1
              rw [HP.out.1] at p0
              rw [if_neg (show ¬ idx m < idx m by omega)]
              generalize tx L[idx m].t = xt at *
              generalize tx (pos m) = xp at *
              generalize idx m = kk at *
              by_cases hk0 : kk = 0
              · have hk1 : decide ((kk : Int) = 0) = true := decide_eq_true (by omega)
                have hk2 : ((kk : Int) == 0) = true := by simp [hk0]
                clear hk0
                go_wp2
                go_round
                case rel => exact ⟨kk + 1, by omega, by go_num, by rw [if_pos (show kk < kk + 1 by omega)]⟩
                case measure => simp [intOf]; omega
              · have hk1 : decide ((kk : Int) = 0) = false := decide_eq_false (by omega)
                have hk2 : ¬ (kk : Int) = 0 := by omega
                go_wp2
                go_round
                case rel => exact ⟨kk + 1, by omega, by go_num, by rw [if_pos (show kk < kk + 1 by omega)]⟩
                case measure => simp [intOf]; omega
            · rw [if_pos hc]
              generalize decide (L[k].f = pos m) = zz at *
              generalize tx L[k].f = xf at *
              generalize tx L[k].t = xt at *
              generalize tx (pos m) = xp at *
              have hk1 : decide ((k : Int) = 0) = false := decide_eq_false (by omega)
              have hk2 : ¬ (k : Int) = 0 := by omega
              have hk3 : ¬ (idx m : Int) < 0 := by omega
              cases zz
              · go_wp2
                go_round
                case rel => exact ⟨k + 1, by omega, by go_num, by rw [if_pos (show idx m < k + 1 by omega)]⟩
                case measure => simp [intOf]; omega
              · go_wp2
                go_round
                case rel => exact ⟨k + 1, by omega, by go_num, by rw [if_pos (show idx m < k + 1 by omega)]⟩
                case measure => simp [intOf]; omega
          · obtain rfl : k = L.length := by omega
            rw [if_pos hi]
            obtain ⟨b0, off, rfl, p0, p1⟩ := HA.out (idx m) hi
            have j1 : ¬ (idx m : Int) < 0 := by omega
            have j2 : (idx m : Int) < (L.length : Int) := by omega
            clear hl2 hk
            by_cases hlast : m + 1 < L.length
            · have j3 : (m : Int) + 1 < (L.length : Int) := by omega
              have j4 : ((tx L[idx m].t).toList == []) = false := by
                rw [HP.out.2, tx_l]
                have := H5.out hlast
                cases hq : pos (m + 1) with
                | nil => exact absurd hq this
                | cons => rfl
              have j5 : (tx L[idx m].t).toList.isEmpty = false := by
                rw [HP.out.2, tx_l]
                have := H5.out hlast
                cases hq : pos (m + 1) with
                | nil => exact absurd hq this
                | cons => rfl
              have HT := Lib.hid (congrArg tx HP.out.2)
              generalize tx L[idx m].f = xf at *
              generalize tx L[idx m].t = xt at *
              generalize hxp : tx (pos m) = xp at *
              generalize hkk : idx m = kk at *
              clear hkk hxp
              go_wp2
              go_round
              case rel => exact ⟨m + 1, by omega, by go_num, by rw [← HT.out]⟩
              case measure => simp [intOf]; omega
            · have j3 : ¬ (m : Int) + 1 < (L.length : Int) := by omega
              have HT := Lib.hid (congrArg tx HP.out.2)
              generalize tx L[idx m].f = xf at *
              generalize tx L[idx m].t = xt at *
              generalize hxp : tx (pos m) = xp at *
              generalize hkk : idx m = kk at *
              clear hkk hxp
              go_wp2
              go_round
              case rel => exact ⟨m + 1, by omega, by go_num, by rw [← HT.out]⟩
              case measure => simp [intOf]; omega
      · obtain rfl : m = L.length := by omega
        rw [hsN.out]
        have j1 : ¬ (L.length : Int) + 1 ≤ (L.length : Int) := by omega
        have j2 : (0 : Int) < (L.length : Int) := by omega
        have j4 : (0 < L.length) = True := eq_true (by omega)
        clear hlt hm
        go_wp2_with (go_at_call 12; refine (hW.out _).mono ?_; rintro e w9 ⟨rfl, hb9⟩; have hx9 := hx6.later hb9)
        go_ret
        exact ⟨rfl, hx9.bel⟩
  · simp only [if_true] at n1 n3 hsN hch
    replace hM := Lib.hid (show ∀ W, Calls Try.prog 21 #[.agg #[.string s, .string t], .agg #[.string u, .string v]] W (fun e w' => e = .returned (.tuple #[.agg #[.string rf, .string rt], .bool true, .int .i64 0]) ∧ Below W.heap.size W w') from hM.out)
    go_enter Try.func7, Try.ntmps7
    go_wp2_with (first
      | (go_at_call_of 11 (Value.agg #[Value.string s, Value.string t]); refine (hS.out _).mono ?_; rintro e w1 ⟨rfl, hb1⟩; have hx1 := hx.later hb1; obtain ⟨d0, d1, d2, d3, _⟩ := hx1.cells)
      | (go_at_call_of 11 (Value.agg #[Value.string u, Value.string v]); refine (hQ.out _).mono ?_; rintro e w3 ⟨rfl, hb3⟩; have hx3 := hx1.later hb3; obtain ⟨e0, e1, e2, e3, _⟩ := hx3.cells)
      | (go_at_call 21; refine (hM.out _).mono ?_; rintro e w4 ⟨rfl, hb4⟩; have hx4 := (hx3.later hb4).later (alloc_b w4 (.cells #[.string rf, .string rt] TR)); obtain ⟨g0, g1, g2, g3, _⟩ := hx4.cells; have hr4 := B2.new w4 rf rt)
      | (go_at_call 23; refine (hN.out _).mono ?_; rintro e w5 ⟨vv, rfl, ho5, hb5⟩; obtain ⟨aa, cap, rfl⟩ := ho5.form; have hx5 := hx4.later hb5; have hr5 := hr4.later hb5; have rs5 := ho5.rs; have oE := ow_made w5)
      | (at_builtin; refine Stop.mk ?_))
    unfold Stop
    refine wpList_append_rgs rfl _ _ rfl w5.heap.size _ [] rfl oE aa L.length cap L rfl (rs5.later (alloc_b w5 (.cells #[] TR))) (by simp; omega) (alloc_b w5 (.cells #[] TR)).size ?_
    intro v6 w6 o6 hg6
    have hb6 : Below w5.heap.size w5 w6 := (alloc_b w5 (.cells #[] TR)).grown hg6 (alloc_b w5 (.cells #[] TR)).size (fun k e => (World.ownsRow.lt oE k e).1)
    rw [List.nil_append] at o6
    have hx6 := hx5.later hb6
    have hr6 := hr5.later hb6
    clear c0 c1 c2 c3 d0 d1 d2 d3 e0 e1 e2 e3 g0 g1 g2 g3 hx hx1 hx3 hx4 hr4 hb1 hb3 hb4 hb5 ho5 hS hQ hM hN oE hg6 rs5
    generalize w4.heap.size = q at *
    obtain ⟨g0, g1, g2, g3, _⟩ := hx6.cells
    obtain ⟨y0, y1, _, _⟩ := hr6.cells
    go_wp2_with (at_builtin; refine Stop.mk ?_)
    unfold Stop
    have o6b := Ow.later o6 (alloc_b w6 (.cells #[.string rf, .string rt] TR))
    have hb6b : Below w5.heap.size w5 (w6.alloc (.cells #[.string rf, .string rt] TR)) := hb6.trans ((alloc_b w6 _).mono hb6.size)
    have kk := (show B2 _ _ _ _ from B2.new w6 rf rt).cells
    refine wpList_append_rg rfl _ _ rfl w5.heap.size _ L rfl o6b w6.heap.size 1 R rfl (by rw [hrf.out]; exact kk.1) (by rw [hrt.out]; exact kk.2.1) (by omega) hb6b.size ?_
    intro v7 w7 o7 hg7
    have hb7 : Below w5.heap.size w5 w7 := hb6b.grown hg7 hb6b.size (fun k e => (World.ownsRow.lt o6b k e).1)
    have hx7 := hx5.later hb7
    generalize L ++ [R] = PP at *
    clear g0 g1 g2 g3 y0 y1
    obtain ⟨g0, g1, g2, g3, _⟩ := hx7.cells
    obtain ⟨az, cz, rfl⟩ := o7.form
    obtain ⟨_, hat⟩ := o7.rs.at_
    replace hch := Lib.hid hch
    have HA := Lib.hid hat
    clear hat
    go_wp2
    go_loop [11, 12] (fun at_ n => ∃ m : Nat, m ≤ PP.length ∧ n = .int .i64 ((m : Int) + 1) ∧ at_ = .string (tx (pos m))) (fun _ n => PP.length + 1 - (intOf n).toNat)
    case atStart => exact ⟨0, Nat.zero_le _, by simp, by rw [hs0.out]⟩
    case round =>
      obtain ⟨m, hm, rfl, rfl⟩ := hrel
      by_cases hlt : m < PP.length
      · obtain ⟨r, hr1, hr2, hr3, hr4, hr5⟩ := hch.out m hlt
        have hi : idx m < PP.length := (List.getElem?_eq_some_iff.1 hr1).1
        have hri : PP[idx m] = r := by have := hr1; rw [List.getElem?_eq_getElem hi] at this; exact Option.some.inj this
        have hr4' : ∀ j (hj : j < idx m), PP[j]'(by omega) ≠ r → True := fun _ _ _ => trivial
        have HF : Hid (∀ j (hj : j < PP.length), j < idx m → PP[j].f ≠ pos m) := fun j hj hlt2 => hr4 j hlt2 _ (List.getElem?_eq_getElem hj)
        have HP := Lib.hid (show PP[idx m].f = pos m ∧ PP[idx m].t = pos (m + 1) by rw [hri]; exact ⟨hr2, hr3⟩)
        have H5 := Lib.hid hr5
        clear hr1 hr2 hr3 hr4 hr5 hri hr4'
        have i1 : (m : Int) + 1 ≤ (PP.length : Int) := by omega
        go_wp2
        go_loop [13, 14] (fun nx i => ∃ k : Nat, k ≤ PP.length ∧ i = .int .i64 k ∧ nx = .int .i64 (if idx m < k then (idx m : Int) else -1)) (fun _ i => PP.length - (intOf i).toNat)
        case atStart => exact ⟨0, Nat.zero_le _, rfl, rfl⟩
        case round =>
          obtain ⟨k, hk, rfl, rfl⟩ := hrel
          by_cases hl2 : k < PP.length
          · obtain ⟨b0, off, rfl, p0, p1⟩ := HA.out k hl2
            have q1 := same_text PP[k].f (pos m)
            have i2 : (k : Int) < (PP.length : Int) := by omega
            rcases Nat.lt_trichotomy k (idx m) with hc | hc | hc
            · rw [decide_eq_false (HF.out k hl2 hc)] at q1
              rw [if_neg (show ¬ idx m < k by omega)]
              generalize tx PP[k].f = xf at *
              generalize tx PP[k].t = xt at *
              generalize tx (pos m) = xp at *
              go_wp2
              go_round
              case rel => exact ⟨k + 1, by omega, by go_num, by rw [if_neg (show ¬ idx m < k + 1 by omega)]⟩
              case measure => simp [intOf]; omega
            · subst hc
              rw [HP.out.1, decide_eq_true rfl] at q1
              rw [HP.out.1] at p0
              rw [if_neg (show ¬ idx m < idx m by omega)]
              generalize tx PP[idx m].t = xt at *
              generalize tx (pos m) = xp at *
              generalize idx m = kk at *
              by_cases hk0 : kk = 0
              · have hk1 : decide ((kk : Int) = 0) = true := decide_eq_true (by omega)
                have hk2 : ((kk : Int) == 0) = true := by simp [hk0]
                clear hk0
                go_wp2
                go_round
                case rel => exact ⟨kk + 1, by omega, by go_num, by rw [if_pos (show kk < kk + 1 by omega)]⟩
                case measure => simp [intOf]; omega
              · have hk1 : decide ((kk : Int) = 0) = false := decide_eq_false (by omega)
                have hk2 : ¬ (kk : Int) = 0 := by omega
                go_wp2
                go_round
                case rel => exact ⟨kk + 1, by omega, by go_num, by rw [if_pos (show kk < kk + 1 by omega)]⟩
                case measure => simp [intOf]; omega
            · rw [if_pos hc]
              generalize decide (PP[k].f = pos m) = zz at *
              generalize tx PP[k].f = xf at *
              generalize tx PP[k].t = xt at *
              generalize tx (pos m) = xp at *
              have hk1 : decide ((k : Int) = 0) = false := decide_eq_false (by omega)
              have hk2 : ¬ (k : Int) = 0 := by omega
              have hk3 : ¬ (idx m : Int) < 0 := by omega
              cases zz
              · go_wp2
                go_round
                case rel => exact ⟨k + 1, by omega, by go_num, by rw [if_pos (show idx m < k + 1 by omega)]⟩
                case measure => simp [intOf]; omega
              · go_wp2
                go_round
                case rel => exact ⟨k + 1, by omega, by go_num, by rw [if_pos (show idx m < k + 1 by omega)]⟩
                case measure => simp [intOf]; omega
          · obtain rfl : k = PP.length := by omega
            rw [if_pos hi]
            obtain ⟨b0, off, rfl, p0, p1⟩ := HA.out (idx m) hi
            have j1 : ¬ (idx m : Int) < 0 := by omega
            have j2 : (idx m : Int) < (PP.length : Int) := by omega
            clear hl2 hk
            by_cases hlast : m + 1 < PP.length
            · have j3 : (m : Int) + 1 < (PP.length : Int) := by omega
              have j4 : ((tx PP[idx m].t).toList == []) = false := by
                rw [HP.out.2, tx_l]
                have := H5.out hlast
                cases hq : pos (m + 1) with
                | nil => exact absurd hq this
                | cons => rfl
              have j5 : (tx PP[idx m].t).toList.isEmpty = false := by
                rw [HP.out.2, tx_l]
                have := H5.out hlast
                cases hq : pos (m + 1) with
                | nil => exact absurd hq this
                | cons => rfl
              have HT := Lib.hid (congrArg tx HP.out.2)
              generalize tx PP[idx m].f = xf at *
              generalize tx PP[idx m].t = xt at *
              generalize hxp : tx (pos m) = xp at *
              generalize hkk : idx m = kk at *
              clear hkk hxp
              go_wp2
              go_round
              case rel => exact ⟨m + 1, by omega, by go_num, by rw [← HT.out]⟩
              case measure => simp [intOf]; omega
            · have j3 : ¬ (m : Int) + 1 < (PP.length : Int) := by omega
              have HT := Lib.hid (congrArg tx HP.out.2)
              generalize tx PP[idx m].f = xf at *
              generalize tx PP[idx m].t = xt at *
              generalize hxp : tx (pos m) = xp at *
              generalize hkk : idx m = kk at *
              clear hkk hxp
              go_wp2
              go_round
              case rel => exact ⟨m + 1, by omega, by go_num, by rw [← HT.out]⟩
              case measure => simp [intOf]; omega
      · obtain rfl : m = PP.length := by omega
        rw [hsN.out]
        have j1 : ¬ (PP.length : Int) + 1 ≤ (PP.length : Int) := by omega
        have j2 : (0 : Int) < (PP.length : Int) := by omega
        have j4 : (0 < PP.length) = True := eq_true (by omega)
        clear hlt hm
        go_wp2_with (go_at_call 12; refine (hW.out _).mono ?_; rintro e w9 ⟨rfl, hb9⟩; have hx9 := hx7.later hb9)
        go_ret
        exact ⟨rfl, hx9.bel⟩
theorem w_rangesParts (a b : Rg) (w : World) (w0 w1 : True) :
    Calls Try.prog 7 #[.agg #[.string (tx a.f), .string (tx a.t)], .agg #[.string (tx b.f), .string (tx b.t)]] w fun e w' => e = .returned (.bool true) ∧ Below w.heap.size w w' := by
  cases h1 : shortR a with
  | false => exact parts_long a b (by rw [h1]; rfl) w
  | true =>
    cases h2 : shortR b with
    | false => exact parts_long a b (by rw [h1, h2]; rfl) w
    | true =>
      cases ha : okR a with
      | false => exact parts_bad a b h1 h2 (by rw [ha]; rfl) w
      | true =>
        cases hb : okR b with
        | false => exact parts_bad a b h1 h2 (by rw [ha, hb]; rfl) w
        | true => exact parts_ok a b h1 h2 ha hb w
end Go.Proofs.Ytabiafhkhahgeaa.Rng
