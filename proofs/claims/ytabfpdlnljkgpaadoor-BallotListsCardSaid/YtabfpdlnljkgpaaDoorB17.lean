/- The greatest ballot of a list: slices.MaxFunc, Max, the document's Max. -/
import Derived.Test.YtabfpdlnljkgpaaDoorB12
import Derived.LoopTactic
namespace Go.Proofs.YtabfpdlnljkgpaaDoor.Bal
open Go.RowKit Go.Lib
set_option linter.unusedVariables false
set_option linter.unusedSimpArgs false
set_option maxRecDepth 20000

theorem wrq {x : Int} (h0 : -9223372036854775808 ≤ x) (h1 : x ≤ 9223372036854775807) : IntKind.i64.wrap x = x := wr h0 h1
/-- A slice that reads as a list of ballots. -/
def Bs (w : World) (v : Value) (l : List (Int × Int)) : Prop :=
  ∃ a cap, v = .slice a l.length cap ∧ (0 < l.length → ∃ b off, a = some ⟨b, off, none⟩ ∧ ∀ i x, l[i]? = some x → w.cell? ⟨b, off + i * 2, none⟩ = some (.int .i64 x.1) ∧ w.cell? ⟨b, off + i * 2 + 1, none⟩ = some (.int .i64 x.2))
theorem Bs.later {w w' : World} {v : Value} {l : List (Int × Int)} (h : Bs w v l) (hb : Below w.heap.size w w') : Bs w' v l := by
  obtain ⟨a, cap, rfl, hc⟩ := h
  refine ⟨a, cap, rfl, fun hp => ?_⟩
  obtain ⟨b, off, rfl, hd⟩ := hc hp
  refine ⟨b, off, rfl, fun i r hr => ?_⟩
  obtain ⟨h1, h2⟩ := hd i r hr
  have hlt : b < w.heap.size := World.block_lt_of_cell? w _ h1
  exact ⟨(hb.cell (p := ⟨b, off + i * 2, none⟩) hlt).trans h1, (hb.cell (p := ⟨b, off + i * 2 + 1, none⟩) hlt).trans h2⟩
def mxF (m x : Int × Int) : Int × Int := if 0 < ordV x.1 x.2 m.1 m.2 then x else m
def mxN (g : Nat → Int × Int) : Nat → Int × Int
  | 0 => g 0
  | n + 1 => mxF (mxN g n) (g (n + 1))
def gt (l : List (Int × Int)) (i : Nat) : Int × Int := l.getD i (0, 0)
theorem gt_at {l : List (Int × Int)} {i : Nat} (h : i < l.length) : l[i]? = some (gt l i) := by unfold gt; rw [List.getElem?_eq_getElem h, List.getD_eq_getElem?_getD, List.getElem?_eq_getElem h]; rfl
def mxL (l : List (Int × Int)) : Int × Int := if l.length = 0 then (0, 0) else mxN (gt l) (l.length - 1)
theorem ord_anti (a b x y : Int) : ordV x y a b = -ordV a b x y := by
  unfold ordV fdV compareInt
  by_cases h1 : a < x
  · simp [h1, show ¬ x < a by omega]
  · by_cases h2 : x < a
    · simp [h1, h2]
    · have h3 : a = x := by omega
      subst h3
      by_cases h4 : b < y
      · simp [h4, show ¬ y < b by omega]
      · by_cases h5 : y < b
        · simp [h4, h5]
        · simp [h4, h5]

/-- The result's box and that of the greatest one yet. -/
structure Mx (w : World) (m : Int × Int) (W : World) : Prop where
  res : Bx w w.heap.size 0 0 W
  mb : Bx w (w.heap.size + 1) m.1 m.2 W
theorem Mx.later {w W W' : World} {m : Int × Int} (h : Mx w m W) (hb : Below W.heap.size W W') : Mx w m W' := ⟨h.res.later hb, h.mb.later hb⟩
theorem Mx.drew {w W : World} {m : Int × Int} (h : Mx w m W) : Mx w m W.drew := h.later (Below.refl _ _).drew
theorem Mx.set {w W : World} {m : Int × Int} (h : Mx w m W) (x y : Int) : Mx w (x, y) ((W.setCell ⟨w.heap.size + 1, 0, none⟩ (.int .i64 x)).setCell ⟨w.heap.size + 1, 1, none⟩ (.int .i64 y)) :=
  ⟨(h.res.other (by omega) (by omega) _).other (by omega) (by omega) _, h.mb.set (by omega) x y⟩
theorem mx_new (w : World) (x y : Int) : Mx w (x, y) ((w.alloc (.cells #[.int .i64 0, .int .i64 0] TB)).alloc (.cells #[.int .i64 x, .int .i64 y] TB)) := ⟨(bx_new w 0 0).alloc _, bx_new2 w _ x y⟩
/-- The entry at i, and the greatest one yet. -/
structure Ex (w : World) (b off i : Nat) (x m : Int × Int) (W : World) : Prop where
  e0 : W.cell? ⟨b, off + i * 2, none⟩ = some (.int .i64 x.1)
  e1 : W.cell? ⟨b, off + i * 2 + 1, none⟩ = some (.int .i64 x.2)
  mx : Mx w m W
theorem Ex.later {w W W' : World} {b off i : Nat} {x m : Int × Int} (h : Ex w b off i x m W) (hb : Below W.heap.size W W') : Ex w b off i x m W' := by
  have hlt := World.block_lt_of_cell? W _ h.e0
  exact ⟨(hb.cell (p := ⟨b, off + i * 2, none⟩) hlt).trans h.e0, (hb.cell (p := ⟨b, off + i * 2 + 1, none⟩) hlt).trans h.e1, h.mx.later hb⟩
theorem Ex.drew {w W : World} {b off i : Nat} {x m : Int × Int} (h : Ex w b off i x m W) : Ex w b off i x m W.drew := h.later (Below.refl _ _).drew
theorem Ex.cells {w W : World} {b off i : Nat} {x m : Int × Int} (h : Ex w b off i x m W) :
    W.cell? ⟨b, off + i * 2, none⟩ = some (.int .i64 x.1) ∧ W.cell? ⟨b, off + i * 2 + 1, none⟩ = some (.int .i64 x.2) ∧ W.cell? ⟨w.heap.size + 1, 0, none⟩ = some (.int .i64 m.1) ∧ W.cell? ⟨w.heap.size + 1, 1, none⟩ = some (.int .i64 m.2) ∧ Ex w b off i x m W :=
  ⟨h.e0, h.e1, h.mx.mb.cells.1, h.mx.mb.cells.2.1, h⟩
set_option maxHeartbeats 2000000 in
theorem maxF_any (a : Option Addr) (cap n : Nat) (g : Nat → Int × Int) (w : World) (hn : n ≤ 1000) (hc : ∃ b off, a = some ⟨b, off, none⟩ ∧ ∀ i, i < n + 1 → w.cell? ⟨b, off + i * 2, none⟩ = some (.int .i64 (g i).1) ∧ w.cell? ⟨b, off + i * 2 + 1, none⟩ = some (.int .i64 (g i).2)) :
    Calls Tryd.prog 35 #[.slice a (n + 1) cap, .func (.func 16) #[] #[]] w fun e w' => e = .returned (.agg #[.int .i64 (mxN g n).1, .int .i64 (mxN g n).2]) ∧ Below w.heap.size w w' := by

  obtain ⟨b, off, rfl, hd⟩ := hc
  obtain ⟨g0, g1⟩ := hd 0 (by omega)
  rw [Nat.zero_mul, Nat.add_zero] at g0 g1
  have hbl : b < w.heap.size := World.block_lt_of_cell? w _ g0
  have hx0 : Below w.heap.size w (w.alloc (.cells #[.int .i64 0, .int .i64 0] TB)) := alloc_b _ _
  have k0 := (hx0.cell (p := ⟨b, off, none⟩) hbl).trans g0
  have k1 := (hx0.cell (p := ⟨b, off + 1, none⟩) hbl).trans g1
  have hM := Lib.hid (mx_new w (g 0).1 (g 0).2)
  have hD := Lib.hid hd
  have hN := Lib.hid (show ∀ i, mxN g (i + 1) = mxF (mxN g i) (g (i + 1)) from fun i => rfl)
  have h00 := Lib.hid (show mxN g 0 = g 0 from rfl)
  have hO := Lib.hid (fun (x m : Int × Int) W => order_any x.1 x.2 m.1 m.2 W)
  generalize hL : n + 1 = L at *
  have hL1 : ¬ (L : Int) < 1 := by omega
  have hL2 : (0 : Int) < (L : Int) := by omega
  clear hd g0 g1
  go_enter Tryd.func35, Tryd.ntmps35
  go_wp2
  clear k0 k1
  go_loopw [6] (fun j wr => ∃ i : Nat, i ≤ n ∧ j = .int .i64 ((i + 1 : Nat) : Int) ∧ Mx w (mxN g i) wr) (fun j _ => L - (intOf j).toNat)
  case atStart => exact ⟨0, Nat.zero_le _, rfl, by rw [h00.out]; exact hM.out⟩
  case round =>
    obtain ⟨i, hi, rfl, hMr⟩ := hrel
    by_cases hlt : i + 1 < L
    · obtain ⟨d0, d1⟩ := hD.out (i + 1) hlt
      have hE : Ex w b off (i + 1) (g (i + 1)) (mxN g i) wr := ⟨(hMr.res.bel.cell (p := ⟨b, off + (i + 1) * 2, none⟩) hbl).trans d0, (hMr.res.bel.cell (p := ⟨b, off + (i + 1) * 2 + 1, none⟩) hbl).trans d1, hMr⟩
      have hst := hN.out i
      have hOx := hO.out (g (i + 1)) (mxN g i)
      unfold mxF at hst
      generalize mxN g i = m at *
      generalize g (i + 1) = x at *
      obtain ⟨m0, m1⟩ := m
      obtain ⟨x0, x1⟩ := x
      simp only at hst hOx
      have HE : Hid (∀ W, Ex w b off (i + 1) (x0, x1) (m0, m1) W → W.cell? ⟨b, off + (i + 1) * 2, none⟩ = some (.int .i64 x0) ∧ W.cell? ⟨b, off + (i + 1) * 2 + 1, none⟩ = some (.int .i64 x1) ∧ W.cell? ⟨w.heap.size + 1, 0, none⟩ = some (.int .i64 m0) ∧ W.cell? ⟨w.heap.size + 1, 1, none⟩ = some (.int .i64 m1) ∧ Ex w b off (i + 1) (x0, x1) (m0, m1) W) := fun W h => h.cells
      generalize ordV x0 x1 m0 m1 = o at *
      have e0 : ((i + 1 : Nat) : Int) < (L : Int) := by omega
      have e1 : (0 : Int) ≤ ((i + 1 : Nat) : Int) := by omega
      have e2 : IntKind.i64.wrap (((i + 1 : Nat) : Int) + 1) = ((i + 1 : Nat) : Int) + 1 := wrq (by omega) (by omega)
      have e3 : ((i + 1 : Nat) : Int).toNat = i + 1 := Int.toNat_natCast _
      have hi2 : i + 1 ≤ n := by omega
      generalize hI : i + 1 = I at *
      replace hOx := Lib.hid hOx
      replace hE := Lib.hid hE
      clear d0 d1 hMr hi hlt
      by_cases ho : 0 < o
      · rw [if_pos ho] at hst
        replace hst := Lib.hid hst
        go_wp2
        go_region_held3 (fun W => W.cell? ⟨b, off + I * 2, none⟩ = some (.int .i64 x0) ∧ W.cell? ⟨b, off + I * 2 + 1, none⟩ = some (.int .i64 x1) ∧ W.cell? ⟨w.heap.size + 1, 0, none⟩ = some (.int .i64 m0) ∧ W.cell? ⟨w.heap.size + 1, 1, none⟩ = some (.int .i64 m1) ∧ Ex w b off I (x0, x1) (m0, m1) W)
          ((first | exact HE.out _ hE.out.drew | exact HE.out _ (by assumption) | assumption))
          ((go_at_call 16; refine (hOx.out _).mono ?_; rintro e w2 ⟨rfl, hb2⟩; have hE2 := hE.out.drew.later hb2))
        rename Ex w b off I (x0, x1) (m0, m1) _ => hE3
        obtain ⟨c0, c1, c2, c3, _⟩ := hE3.cells
        obtain ⟨_, _, c4, c5⟩ := hE3.mx.mb.cells
        have hz := Lib.hid (hE3.mx.set x0 x1)
        clear hE3 hE
        go_wp2
        go_roundw
        case rel => subst hI; exact ⟨i + 1, hi2, by go_num, by rw [hst.out]; exact hz.out⟩
        case measure => simp [intOf]; omega
      · rw [if_neg ho] at hst
        replace hst := Lib.hid hst
        go_wp2
        go_region_held3 (fun W => W.cell? ⟨b, off + I * 2, none⟩ = some (.int .i64 x0) ∧ W.cell? ⟨b, off + I * 2 + 1, none⟩ = some (.int .i64 x1) ∧ W.cell? ⟨w.heap.size + 1, 0, none⟩ = some (.int .i64 m0) ∧ W.cell? ⟨w.heap.size + 1, 1, none⟩ = some (.int .i64 m1) ∧ Ex w b off I (x0, x1) (m0, m1) W)
          ((first | exact HE.out _ hE.out.drew | exact HE.out _ (by assumption) | assumption))
          ((go_at_call 16; refine (hOx.out _).mono ?_; rintro e w2 ⟨rfl, hb2⟩; have hE2 := hE.out.drew.later hb2))
        rename Ex w b off I (x0, x1) (m0, m1) _ => hE3
        have hz := Lib.hid hE3.mx
        clear hE3 hE
        go_wp2
        go_roundw
        case rel => subst hI; exact ⟨i + 1, hi2, by go_num, by rw [hst.out]; exact hz.out⟩
        case measure => simp [intOf]; omega
    · obtain rfl : i = n := by omega
      have e0 : ¬ ((i + 1 : Nat) : Int) < (L : Int) := by omega
      generalize ((i + 1 : Nat) : Int) = I at *
      obtain ⟨c0, c1, _, _⟩ := hMr.mb.cells
      obtain ⟨d0, d1, d2, d3⟩ := hMr.res.cells
      have hz := hMr.res.set (by omega) (mxN g i).1 (mxN g i).2
      go_wp2
      exact bodyPost_ret (res2 Tryd.results35 _ rfl hz) rfl ⟨rfl, hz.bel⟩
theorem bs_some {w : World} {v : Value} {l : List (Int × Int)} (h : Bs w v l) (h0 : 0 < l.length) : ∃ a cap, v = .slice a l.length cap ∧ ∃ b off, a = some ⟨b, off, none⟩ ∧ ∀ i, i < l.length → w.cell? ⟨b, off + i * 2, none⟩ = some (.int .i64 (gt l i).1) ∧ w.cell? ⟨b, off + i * 2 + 1, none⟩ = some (.int .i64 (gt l i).2) := by
  obtain ⟨a, cap, rfl, hc⟩ := h
  obtain ⟨b, off, rfl, hd⟩ := hc h0
  exact ⟨_, cap, rfl, b, off, rfl, fun i hi => hd i _ (gt_at hi)⟩
theorem max_any (v : Value) (l : List (Int × Int)) (w : World) (h : Bs w v l) (hl : l.length ≤ 1000) :
    Calls Tryd.prog 19 #[v] w fun e w' => e = .returned (.agg #[.int .i64 (mxL l).1, .int .i64 (mxL l).2]) ∧ Below w.heap.size w w' := by
  have hx := bx_new w 0 0
  by_cases h0 : l.length = 0
  · obtain ⟨a, cap, rfl, hc⟩ := h
    have e := Lib.hid (show mxL l = (0, 0) from if_pos h0)
    rw [h0]
    clear hc
    go_enter Tryd.func19, Tryd.ntmps19
    go_wp2
    exact bodyPost_ret (res2 Tryd.results19 _ rfl hx) rfl ⟨by rw [e.out], hx.bel⟩
  · have h' := Bs.later h hx.bel
    obtain ⟨a, cap, rfl, b, off, rfl, hd⟩ := bs_some h' (by omega)
    have e := Lib.hid (show mxL l = mxN (gt l) (l.length - 1) from if_neg h0)
    obtain ⟨n, hn⟩ : ∃ n, l.length = n + 1 := ⟨l.length - 1, by omega⟩
    have hM := maxF_any (some ⟨b, off, none⟩) cap n (gt l) _ (by omega) ⟨b, off, rfl, by rw [← hn]; exact hd⟩
    rw [show l.length - 1 = n by omega] at e
    rw [hn]
    generalize mxN (gt l) n = r at *
    have d0 : ¬ (n : Int) + 1 = 0 := by omega
    have d1 : ¬ ((n + 1 : Nat) : Int) = 0 := by omega
    have d2 : (((n + 1 : Nat) : Int) == 0) = false := by simpa using d1
    replace hM := Lib.hid hM
    clear hd h h' h0 hl hn
    generalize n + 1 = L at *
    obtain ⟨r0, r1⟩ := r
    go_enter Tryd.func19, Tryd.ntmps19
    go_wp2_with fail
    refine hM.out.mono ?_
    rintro e' w1 ⟨rfl, hb1⟩
    have hx1 := hx.later hb1
    obtain ⟨c0, c1, c2, c3⟩ := hx1.cells
    have hz := hx1.set (by omega) r0 r1
    go_wp2
    exact bodyPost_ret (res2 Tryd.results19 _ rfl hz) rfl ⟨by rw [e.out], hz.bel⟩
end Go.Proofs.YtabfpdlnljkgpaaDoor.Bal
