/- The statements' own functions: short, same. -/
import Derived.Test.YtocencmdfppkaaaR15
namespace Go.Proofs.Ytocencmdfppkaaa.Rng
open Go.RowKit Go.Lib
set_option linter.unusedVariables false
set_option linter.unusedSimpArgs false
set_option maxRecDepth 20000

def shortR (r : Rg) : Bool := decide (r.f.length ≤ 100) && decide (r.t.length ≤ 100)
theorem short_any (r : Rg) (w : World) :
    Calls Try.prog 11 #[.agg #[.string (tx r.f), .string (tx r.t)]] w fun e w' => e = .returned (.bool (shortR r)) ∧ Below w.heap.size w w' := by
  have hx := bx_new w (tx r.f) (tx r.t)
  have z1 := tx_size r.f
  have z2 := tx_size r.t
  have hr := Lib.hid (show shortR r = (decide (r.f.length ≤ 100) && decide (r.t.length ≤ 100)) from rfl)
  rw [← z1, ← z2] at hr
  clear z1 z2
  obtain ⟨c0, c1⟩ := hx.cells
  generalize tx r.f = s at *
  generalize tx r.t = t at *
  by_cases h1 : s.size ≤ 100
  · by_cases h2 : t.size ≤ 100
    · have b1 : decide ((s.size : Int) ≤ 100) = true := by simp; omega
      have b2 : decide ((t.size : Int) ≤ 100) = true := by simp; omega
      rw [decide_eq_true h1, decide_eq_true h2] at hr
      clear h1 h2
      go_enter Try.func11, Try.ntmps11
      go_wp2
      go_ret
      exact ⟨by rw [hr.out]; rfl, hx.bel⟩
    · have b1 : decide ((s.size : Int) ≤ 100) = true := by simp; omega
      have b2 : decide ((t.size : Int) ≤ 100) = false := by simp; omega
      rw [decide_eq_true h1, decide_eq_false h2] at hr
      clear h1 h2
      go_enter Try.func11, Try.ntmps11
      go_wp2
      go_ret
      exact ⟨by rw [hr.out]; rfl, hx.bel⟩
  · have b1 : decide ((s.size : Int) ≤ 100) = false := by simp; omega
    rw [decide_eq_false h1, Bool.false_and] at hr
    clear h1
    go_enter Try.func11, Try.ntmps11
    go_wp2
    go_ret
    exact ⟨by rw [hr.out]; rfl, hx.bel⟩

theorem drewN_b {B : Nat} {w w' : World} (h : Below B w w') (n : Nat) : Below B w (w'.drewN n) := h.trans ⟨rfl, rfl, rfl, Nat.le_refl _, fun _ _ => rfl⟩
theorem rg_eq (a b : Rg) : (a = b) ↔ (a.f = b.f ∧ a.t = b.t) := by
  obtain ⟨x, y⟩ := a
  obtain ⟨z, u⟩ := b
  simp
set_option maxHeartbeats 1000000 in
theorem same_any (v u : Value) (L M : List Rg) (w : World) (hv : Rs w v L) (hu : Rs w u M) (hl : L.length ≤ 1000) (hm : M.length ≤ 1000) :
    Calls Try.prog 25 #[v, u] w fun e w' => e = .returned (.bool (decide (L = M))) ∧ Below w.heap.size w w' := by
  obtain ⟨a, cap, rfl, hc⟩ := hv
  obtain ⟨b, cap2, rfl, hd⟩ := hu
  replace hc := Lib.hid hc
  replace hd := Lib.hid hd
  by_cases hlen : L.length = M.length
  · have hS : ∀ k (h1 : k < L.length) (h2 : k < M.length), L.take k = M.take k → L[k] = M[k] → L.take (k + 1) = M.take (k + 1) := by
      intro k h1 h2 h3 h4
      rw [List.take_succ_eq_append_getElem h1, List.take_succ_eq_append_getElem h2, h3, h4]
    have hF : ∀ k (h1 : k < L.length) (h2 : k < M.length), L[k] ≠ M[k] → decide (L = M) = false := by
      intro k h1 h2 h3
      rw [decide_eq_false]
      rintro rfl
      exact h3 rfl
    have hE : L.take L.length = M.take L.length → decide (L = M) = true := by
      intro h
      rw [List.take_length, hlen, List.take_length] at h
      exact decide_eq_true h
    replace hS := Lib.hid hS
    replace hF := Lib.hid hF
    replace hE := Lib.hid hE
    have hlM : Hid (∀ k, k < L.length → k < M.length) := fun k h => by omega
    rw [← hlen]
    have hlen := Lib.hid hlen
    go_enter Try.func25, Try.ntmps25
    go_wp2
    go_loopw [5] (fun i wr => ∃ k : Nat, k ≤ L.length ∧ i = .int .i64 k ∧ L.take k = M.take k ∧ Below w.heap.size w wr) (fun i _ => L.length - (intOf i).toNat)
    case atStart => exact ⟨0, Nat.zero_le _, rfl, rfl, Below.refl _ _⟩
    case round =>
      obtain ⟨k, hk, rfl, ht, hb⟩ := hrel
      replace ht := Lib.hid ht
      by_cases hlt : k < L.length
      · have hkm := hlM.out k hlt
        obtain ⟨b1, o1, rfl, hd1⟩ := hc.out (by omega)
        obtain ⟨b2, o2, rfl, hd2⟩ := hd.out (by omega)
        obtain ⟨x, hx⟩ : ∃ x, L[k] = x := ⟨_, rfl⟩
        obtain ⟨y, hy⟩ : ∃ y, M[k] = y := ⟨_, rfl⟩
        obtain ⟨p0, p1⟩ := hd1 k x (by rw [List.getElem?_eq_getElem hlt, hx])
        obtain ⟨q0, q1⟩ := hd2 k y (by rw [List.getElem?_eq_getElem hkm, hy])
        have hb1 : b1 < w.heap.size := World.block_lt_of_cell? w _ p0
        have hb2 : b2 < w.heap.size := World.block_lt_of_cell? w _ q0
        have c0 := (hb.cell (p := ⟨b1, o1 + k * 2, none⟩) hb1).trans p0
        have c1 := (hb.cell (p := ⟨b1, o1 + k * 2 + 1, none⟩) hb1).trans p1
        have d0 := (hb.cell (p := ⟨b2, o2 + k * 2, none⟩) hb2).trans q0
        have d1 := (hb.cell (p := ⟨b2, o2 + k * 2 + 1, none⟩) hb2).trans q1
        have hs := hS.out k hlt hkm ht.out
        have hf := hF.out k hlt hkm
        rw [hx, hy] at hs hf
        replace hs := Lib.hid hs
        replace hf := Lib.hid hf
        have e1 : ((tx x.f).toList == (tx y.f).toList) = decide (x.f = y.f) := by rw [tx_l, tx_l, Bool.eq_iff_iff]; simp
        have e2 : ((tx x.t).toList == (tx y.t).toList) = decide (x.t = y.t) := by rw [tx_l, tx_l, Bool.eq_iff_iff]; simp
        have he := Lib.hid (rg_eq x y)
        have i0 : (0 : Int) ≤ (k : Int) := by omega
        have i1 : (k : Int) < (L.length : Int) := by omega
        have i2 : (k : Int) ≤ (L.length : Int) := by omega
        clear hd1 hd2 p0 p1 q0 q1 hx hy hkm
        generalize tx x.f = sx at *
        generalize tx x.t = ux at *
        generalize tx y.f = sy at *
        generalize tx y.t = uy at *
        by_cases h1 : x.f = y.f
        · by_cases h2 : x.t = y.t
          · rw [decide_eq_true h1] at e1
            rw [decide_eq_true h2] at e2
            have hs := Lib.hid (hs.out (he.out.2 ⟨h1, h2⟩))
            clear h1 h2 hf he
            go_wp2
            go_quiet (fail)
            go_wp2
            go_roundw
            case rel => exact ⟨k + 1, by omega, by go_num, hs.out, drewN_b hb _⟩
            case measure => simp [intOf]; omega
          · rw [decide_eq_true h1] at e1
            rw [decide_eq_false h2] at e2
            have hf := Lib.hid (hf.out (fun h => h2 (he.out.1 h).2))
            clear h1 h2 hs he
            go_wp2
            go_quiet (fail)
            go_wp2
            go_ret
            exact ⟨by rw [hf.out]; rfl, drewN_b hb _⟩
        · rw [decide_eq_false h1] at e1
          have hf := Lib.hid (hf.out (fun h => h1 (he.out.1 h).1))
          clear h1 hs he e2
          go_wp2
          go_quiet (fail)
          go_wp2
          go_ret
          exact ⟨by rw [hf.out]; rfl, drewN_b hb _⟩
      · obtain rfl : k = L.length := by omega
        have hn := Lib.hid (hE.out ht.out)
        clear hlt
        go_wp2
        go_ret
        exact ⟨by rw [hn.out]; rfl, hb⟩
  · have b1 : ((L.length : Int) != (M.length : Int)) = true := by simp; omega
    have b2 : ((L.length : Int) == (M.length : Int)) = false := by simp; omega
    have hr := Lib.hid (show decide (L = M) = false by rw [decide_eq_false]; rintro rfl; exact hlen rfl)
    generalize decide (L = M) = z at *
    generalize L.length = n at *
    generalize M.length = m at *
    go_enter Try.func25, Try.ntmps25
    go_wp2
    go_ret
    exact ⟨by rw [hr.out]; rfl, Below.refl _ _⟩
end Go.Proofs.Ytocencmdfppkaaa.Rng
