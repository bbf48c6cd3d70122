/- The document's Max; the walk of BallotLists. -/
import Derived.Test.YtabfpdlnljkgpaaDoorB17
namespace Go.Proofs.YtabfpdlnljkgpaaDoor.Bal
open Go.RowKit Go.Lib
set_option linter.unusedVariables false
set_option linter.unusedSimpArgs false
set_option maxRecDepth 20000

set_option maxHeartbeats 2000000 in
theorem rmaxF_any (a : Option Addr) (cap n : Nat) (g : Nat → Int × Int) (w : World) (hn : n ≤ 1000) (hc : ∃ b off, a = some ⟨b, off, none⟩ ∧ ∀ i, i < n + 1 → w.cell? ⟨b, off + i * 2, none⟩ = some (.int .i64 (g i).1) ∧ w.cell? ⟨b, off + i * 2 + 1, none⟩ = some (.int .i64 (g i).2)) :
    Calls Tryd.prog 20 #[.slice a (n + 1) cap] w fun e w' => e = .returned (.agg #[.int .i64 (mxN g n).1, .int .i64 (mxN g n).2]) ∧ Below w.heap.size w w' := by

  obtain ⟨b, off, rfl, hd⟩ := hc
  obtain ⟨g0, g1⟩ := hd 0 (by omega)
  rw [Nat.zero_mul, Nat.add_zero] at g0 g1
  have hbl : b < w.heap.size := World.block_lt_of_cell? w _ g0
  have hx0 : Below w.heap.size w (w.alloc (.cells #[.int .i64 0, .int .i64 0] TB)) := alloc_b _ _
  have k0 := (hx0.cell (p := ⟨b, off, none⟩) hbl).trans g0
  have k1 := (hx0.cell (p := ⟨b, off + 1, none⟩) hbl).trans g1
  have hM := Lib.hid (mx_new w (g 0).1 (g 0).2)
  have hD := Lib.hid hd
  have hN := Lib.hid (show ∀ i, mxN g (i + 1) = mxF (mxN g i) (g (i + 1)) from fun i => rfl)
  have h00 := Lib.hid (show mxN g 0 = g 0 from rfl)
  have hO := Lib.hid (fun (x m : Int × Int) W => rorder_any m.1 m.2 x.1 x.2 W)
  generalize hL : n + 1 = L at *
  have hL1 : ¬ (L : Int) = 0 := by omega
  have hL3 : ((L : Int) == 0) = false := by simpa using hL1
  have hL4 : ¬ L = 0 := by omega
  have hL2 : (0 : Int) < (L : Int) := by omega
  clear hd g0 g1
  go_enter Tryd.func20, Tryd.ntmps20
  go_wp2
  clear k0 k1
  go_loopw [4] (fun j wr => ∃ i : Nat, i ≤ n ∧ j = .int .i64 ((i + 1 : Nat) : Int) ∧ Mx w (mxN g i) wr) (fun j _ => L - (intOf j).toNat)
  case atStart => exact ⟨0, Nat.zero_le _, rfl, by rw [h00.out]; exact hM.out⟩
  case round =>
    obtain ⟨i, hi, rfl, hMr⟩ := hrel
    by_cases hlt : i + 1 < L
    · obtain ⟨d0, d1⟩ := hD.out (i + 1) hlt
      have hE : Ex w b off (i + 1) (g (i + 1)) (mxN g i) wr := ⟨(hMr.res.bel.cell (p := ⟨b, off + (i + 1) * 2, none⟩) hbl).trans d0, (hMr.res.bel.cell (p := ⟨b, off + (i + 1) * 2 + 1, none⟩) hbl).trans d1, hMr⟩
      have hst := hN.out i
      have hOx := hO.out (g (i + 1)) (mxN g i)
      unfold mxF at hst
      generalize mxN g i = m at *
      generalize g (i + 1) = x at *
      obtain ⟨m0, m1⟩ := m
      obtain ⟨x0, x1⟩ := x
      simp only at hst hOx
      rw [ord_anti x0 x1 m0 m1] at hOx
      have HE : Hid (∀ W, Ex w b off (i + 1) (x0, x1) (m0, m1) W → W.cell? ⟨b, off + (i + 1) * 2, none⟩ = some (.int .i64 x0) ∧ W.cell? ⟨b, off + (i + 1) * 2 + 1, none⟩ = some (.int .i64 x1) ∧ W.cell? ⟨w.heap.size + 1, 0, none⟩ = some (.int .i64 m0) ∧ W.cell? ⟨w.heap.size + 1, 1, none⟩ = some (.int .i64 m1) ∧ Ex w b off (i + 1) (x0, x1) (m0, m1) W) := fun W h => h.cells
      generalize ordV x0 x1 m0 m1 = o at *
      have e0 : ((i + 1 : Nat) : Int) < (L : Int) := by omega
      have e1 : (0 : Int) ≤ ((i + 1 : Nat) : Int) := by omega
      have e2 : IntKind.i64.wrap (((i + 1 : Nat) : Int) + 1) = ((i + 1 : Nat) : Int) + 1 := wrq (by omega) (by omega)
      have e3 : ((i + 1 : Nat) : Int).toNat = i + 1 := Int.toNat_natCast _
      have hi2 : i + 1 ≤ n := by omega
      generalize hI : i + 1 = I at *
      replace hOx := Lib.hid hOx
      replace hE := Lib.hid hE
      clear d0 d1 hMr hi hlt
      by_cases ho : 0 < o
      · have ho2 : -o < 0 := by omega
        rw [if_pos ho] at hst
        replace hst := Lib.hid hst
        go_wp2
        go_region_held3 (fun W => W.cell? ⟨b, off + I * 2, none⟩ = some (.int .i64 x0) ∧ W.cell? ⟨b, off + I * 2 + 1, none⟩ = some (.int .i64 x1) ∧ W.cell? ⟨w.heap.size + 1, 0, none⟩ = some (.int .i64 m0) ∧ W.cell? ⟨w.heap.size + 1, 1, none⟩ = some (.int .i64 m1) ∧ Ex w b off I (x0, x1) (m0, m1) W)
          ((first | exact HE.out _ hE.out.drew | exact HE.out _ (by assumption) | assumption))
          ((go_at_call 17; refine (hOx.out _).mono ?_; rintro e w2 ⟨rfl, hb2⟩; have hE2 := hE.out.drew.later hb2))
        rename Ex w b off I (x0, x1) (m0, m1) _ => hE3
        obtain ⟨c0, c1, c2, c3, _⟩ := hE3.cells
        obtain ⟨_, _, c4, c5⟩ := hE3.mx.mb.cells
        have hz := Lib.hid (hE3.mx.set x0 x1)
        clear hE3 hE
        go_wp2
        go_roundw
        case rel => subst hI; exact ⟨i + 1, hi2, by go_num, by rw [hst.out]; exact hz.out⟩
        case measure => simp [intOf]; omega
      · have ho2 : ¬ -o < 0 := by omega
        rw [if_neg ho] at hst
        replace hst := Lib.hid hst
        go_wp2
        go_region_held3 (fun W => W.cell? ⟨b, off + I * 2, none⟩ = some (.int .i64 x0) ∧ W.cell? ⟨b, off + I * 2 + 1, none⟩ = some (.int .i64 x1) ∧ W.cell? ⟨w.heap.size + 1, 0, none⟩ = some (.int .i64 m0) ∧ W.cell? ⟨w.heap.size + 1, 1, none⟩ = some (.int .i64 m1) ∧ Ex w b off I (x0, x1) (m0, m1) W)
          ((first | exact HE.out _ hE.out.drew | exact HE.out _ (by assumption) | assumption))
          ((go_at_call 17; refine (hOx.out _).mono ?_; rintro e w2 ⟨rfl, hb2⟩; have hE2 := hE.out.drew.later hb2))
        rename Ex w b off I (x0, x1) (m0, m1) _ => hE3
        have hz := Lib.hid hE3.mx
        clear hE3 hE
        go_wp2
        go_roundw
        case rel => subst hI; exact ⟨i + 1, hi2, by go_num, by rw [hst.out]; exact hz.out⟩
        case measure => simp [intOf]; omega
    · obtain rfl : i = n := by omega
      have e0 : ¬ ((i + 1 : Nat) : Int) < (L : Int) := by omega
      generalize ((i + 1 : Nat) : Int) = I at *
      obtain ⟨c0, c1, _, _⟩ := hMr.mb.cells
      obtain ⟨d0, d1, d2, d3⟩ := hMr.res.cells
      have hz := hMr.res.set (by omega) (mxN g i).1 (mxN g i).2
      go_wp2
      exact bodyPost_ret (res2 Tryd.results20 _ rfl hz) rfl ⟨rfl, hz.bel⟩
theorem rmax_any (v : Value) (l : List (Int × Int)) (w : World) (h : Bs w v l) (hl : l.length ≤ 1000) :
    Calls Tryd.prog 20 #[v] w fun e w' => e = .returned (.agg #[.int .i64 (mxL l).1, .int .i64 (mxL l).2]) ∧ Below w.heap.size w w' := by
  by_cases h0 : l.length = 0
  · have hx := bx_new w 0 0
    obtain ⟨a, cap, rfl, hc⟩ := h
    have e := Lib.hid (show mxL l = (0, 0) from if_pos h0)
    rw [h0]
    clear hc
    go_enter Tryd.func20, Tryd.ntmps20
    go_wp2
    exact bodyPost_ret (res2 Tryd.results20 _ rfl hx) rfl ⟨by rw [e.out], hx.bel⟩
  · obtain ⟨a, cap, rfl, b, off, rfl, hd⟩ := bs_some h (by omega)
    have e := show mxL l = mxN (gt l) (l.length - 1) from if_neg h0
    obtain ⟨n, hn⟩ : ∃ n, l.length = n + 1 := ⟨l.length - 1, by omega⟩
    rw [show l.length - 1 = n by omega] at e
    rw [e, hn]
    exact rmaxF_any (some ⟨b, off, none⟩) cap n (gt l) w (by omega) ⟨b, off, rfl, by rw [← hn]; exact hd⟩
end Go.Proofs.YtabfpdlnljkgpaaDoor.Bal
