/- The walk of BallotNext. -/
import Derived.Test.YtabfpdlnljkgpaaDoorB08
namespace Go.Proofs.YtabfpdlnljkgpaaDoor.Bal
open Go.RowKit Go.Lib
set_option linter.unusedVariables false
set_option linter.unusedSimpArgs false
set_option maxRecDepth 20000

theorem ord_lt {a b x y : Int} : ordV a b x y < 0 ↔ (a < x ∨ (a = x ∧ b < y)) := by
  unfold ordV fdV compareInt
  by_cases h1 : a < x
  · simp [h1]
  · by_cases h2 : x < a
    · simp [h1, h2]; omega
    · have h3 : a = x := by omega
      subst h3
      by_cases h4 : b < y
      · simp [h4]
      · by_cases h5 : y < b
        · simp [h4, h5]
        · simp [h4, h5]
theorem ord_neg {a b x y : Int} (h : a < x ∨ (a = x ∧ b < y)) : ordV a b x y = -1 := by
  unfold ordV fdV compareInt
  rcases h with h | ⟨rfl, h⟩
  · simp [h]
  · simp [h]
theorem nxR_ord {R M p : Int} (h : bOk 7 R M) (hp : 0 ≤ p ∧ p ≤ 6) : ordV R M (nxR R M p) p = -1 := by
  apply ord_neg
  unfold nxR
  unfold bOk at h
  split
  · omega
  · split <;> omega
theorem nxR_pos {R M p : Int} (h : bOk 7 R M) : 1 ≤ nxR R M p := by
  unfold nxR
  unfold bOk at h
  split
  · omega
  · split <;> omega
theorem nxR_ck {R M p : Int} (h : bOk 7 R M) (hp : 0 ≤ p ∧ p ≤ 6) (h2 : nxR R M p ≤ 1073741824) : ckB (nxR R M p) p 7 = 0 := by
  have := nxR_pos (p := p) h
  exact ck_ok (.inr (by omega)) (by omega)
/-- None of the node is between. -/
theorem nxR_none {R M p r : Int} (h : bOk 7 R M) (hp : 0 ≤ p ∧ p ≤ 6) (h1 : 1 ≤ r) (h2 : ordV R M r p < 0) : ¬ ordV r p (nxR R M p) p < 0 := by
  rw [ord_lt] at h2 ⊢
  unfold nxR
  unfold bOk at h
  split
  · omega
  · split <;> omega
theorem nx_cases {R M p : Int} (h : bOk 7 R M) (hp : 0 ≤ p ∧ p ≤ 6) :
    (nxR R M p ≤ 1073741824 ∧ NxIs R M p (nxR R M p) p 0) ∨ (R = 1073741824 ∧ p ≤ M ∧ NxIs R M p 0 0 7) := by
  by_cases h2 : nxR R M p ≤ 1073741824
  · exact .inl ⟨h2, nx_ok ⟨h, hp⟩ h2⟩
  · refine .inr ⟨?_, ?_, nx_over ⟨h, hp⟩ h2⟩
    · unfold nxR at h2; unfold bOk at h
      split at h2
      · omega
      · split at h2 <;> omega
    · unfold nxR at h2; unfold bOk at h
      split at h2
      · omega
      · split at h2 <;> omega

def lk (x0 x1 x2 : Int) (k : Nat) : Int := if k = 0 then x0 else if k = 1 then x1 else x2
/-- What the loop keeps. -/
structure Lx (w : World) (q1 q2 q3 q4 : Nat) (R M Y p x0 x1 x2 : Int) (W : World) : Prop where
  b1 : Bx w q1 R M W
  b2 : Bx w q2 Y p W
  b3 : ∃ v, Bx w q3 v p W
  row : W.heap[q4]? = some (.cells #[.int .i64 x0, .int .i64 x1, .int .i64 x2] 3 (0, 0))
  n1 : q1 ≠ q3
  n2 : q2 ≠ q3
  n4 : q4 ≠ q3
  lo : w.heap.size ≤ q3
theorem Lx.later {w W W' : World} {q1 q2 q3 q4 : Nat} {R M Y p x0 x1 x2 : Int} (h : Lx w q1 q2 q3 q4 R M Y p x0 x1 x2 W) (hb : Below W.heap.size W W') : Lx w q1 q2 q3 q4 R M Y p x0 x1 x2 W' := by
  obtain ⟨v, hv⟩ := h.b3
  exact ⟨h.b1.later hb, h.b2.later hb, ⟨v, hv.later hb⟩, (hb.block _ (Array.getElem?_eq_some_iff.1 h.row).1).trans h.row, h.n1, h.n2, h.n4, h.lo⟩
theorem Lx.set {w W : World} {q1 q2 q3 q4 : Nat} {R M Y p x0 x1 x2 : Int} (h : Lx w q1 q2 q3 q4 R M Y p x0 x1 x2 W) (r : Int) :
    Lx w q1 q2 q3 q4 R M Y p x0 x1 x2 (W.setCell ⟨q3, 0, none⟩ (.int .i64 r)) ∧ Bx w q3 r p (W.setCell ⟨q3, 0, none⟩ (.int .i64 r)) := by
  obtain ⟨v, hv⟩ := h.b3
  have := hv.set1 h.lo r
  exact ⟨⟨h.b1.other h.lo h.n1 _, h.b2.other h.lo h.n2 _, ⟨r, this⟩, (Below.heap_setCell _ _ _ _ h.n4).trans h.row, h.n1, h.n2, h.n4, h.lo⟩, this⟩
theorem Lx.at {w W : World} {q1 q2 q3 q4 : Nat} {R M Y p x0 x1 x2 : Int} (h : Lx w q1 q2 q3 q4 R M Y p x0 x1 x2 W) (k : Nat) (hk : k < 3) : W.cell? ⟨q4, k, none⟩ = some (.int .i64 (lk x0 x1 x2 k)) := by
  refine (cell_of_row W q4 k _ _ _ h.row).trans ?_
  obtain rfl | rfl | rfl : k = 0 ∨ k = 1 ∨ k = 2 := by omega
  all_goals rfl
set_option maxHeartbeats 1000000 in
theorem loop_tail : True := trivial
theorem next_err (r k : Nat) (p q : Nat) (hp : p ≤ 6) (hq : q ≤ 6) (a b o : Nat) (ha : (a : Int) % 7 = p) (hb : (b : Int) % 7 = q) (ha2 : a < 256) (hb2 : b < 256) (ho2 : o < 4294967296) (hr : r < 4294967296) (hk : k < 256)
    (hE : mdA r = 1073741824 ∧ (p : Int) ≤ mdB r k 7 ∧ NxIs (mdA r) (mdB r k 7) p 0 0 7) (w : World) (hH : Hv w) :
    Calls Tryd.prog 8 #[.int .u32 r, .int .u8 k, .int .u8 a, .int .u8 b, .int .u32 o] w fun e w' => e = .returned (.bool true) ∧ Below w.heap.size w w' := by
  have hM := fun W => made_any r k 7 hr hk (by omega) W
  have ho := made_ok r k 7 (by omega)
  generalize mdA r = R at *
  generalize mdB r k 7 = M at *
  obtain ⟨h1, h2, e1, e2, e3⟩ := hE
  have hP := fun W => next_any R M p W
  have hQ := fun W => next_any R M q W
  rw [e1, e2, e3] at hP
  generalize nxA R M q = Z at *
  generalize nxB R M q = zq at *
  generalize nxE R M q = f at *
  subst h1
  have w1 : IntKind.i64.wrap (a : Int) = a := wr (by omega) (by omega)
  have w2 : IntKind.i64.wrap (b : Int) = b := wr (by omega) (by omega)
  have q0 := fun W => eq_b 0 0 0 0 W
  rw [eqB_t ⟨rfl, rfl⟩] at q0
  have hM := Lib.hid (show ∀ W, Calls Tryd.prog 29 #[.int .u32 r, .int .u8 k, .int .i64 7] W (fun e w' => e = .returned (.agg #[.int .i64 1073741824, .int .i64 M]) ∧ Below W.heap.size W w') from hM)
  replace hP := Lib.hid hP
  replace hQ := Lib.hid hQ
  clear ho e1 e2 e3 hp hq ha2 hb2
  go_enter Tryd.func8, Tryd.ntmps8
  go_wp2_with fail
  refine (hM.out _).mono ?_
  rintro e w1 ⟨rfl, hb1⟩
  have A1 := bx_at hb1 1073741824 M
  have l1 := hb1.size
  obtain ⟨a0, a1, _, _⟩ := A1.cells
  clear hb1
  replace A1 := Lib.hid A1
  go_wp2_with fail
  refine (hP.out _).mono ?_
  rintro e w2 ⟨rfl, hb2⟩
  have A2' := A1.out.later hb2
  have l2 := A2'.lt
  have A2 := A2'.alloc (.cells #[.int .i64 0, .int .i64 0] TB)
  have B2 := bx_at A2'.bel 0 0
  obtain ⟨b0, b1, _, _⟩ := A2.cells
  clear a0 a1 A1 hb2 A2'
  replace A2 := Lib.hid A2
  replace B2 := Lib.hid B2
  go_wp2_with fail
  refine (hQ.out _).mono ?_
  rintro e w3 ⟨rfl, hb3⟩
  have A3' := A2.out.later hb3
  have B3' := B2.out.later hb3
  have l3 := B3'.lt
  have A3 := A3'.alloc (.cells #[.int .i64 Z, .int .i64 zq] TB)
  have B3 := B3'.alloc (.cells #[.int .i64 Z, .int .i64 zq] TB)
  have C3 := bx_at A3'.bel Z zq
  obtain ⟨c0, c1, _, _⟩ := A3.cells
  obtain ⟨c2, c3, _, _⟩ := B3.cells
  obtain ⟨c4, c5, _, _⟩ := C3.cells
  clear b0 b1 A2 B2 hb3 A3' B3'
  replace A3 := Lib.hid A3
  replace B3 := Lib.hid B3
  replace C3 := Lib.hid C3
  go_wp2_with fail
  refine (works_any _ (hH.later A3.out.bel)).mono ?_
  rintro e w4 ⟨rfl, hb4⟩
  have hz := below2 A3.out.bel hb4
  go_wp2
  go_ret
  exact ⟨rfl, hz⟩
set_option maxHeartbeats 2000000 in
theorem next_same (r k : Nat) (p q : Nat) (hp : p ≤ 6) (hq : q ≤ 6) (a b o : Nat) (ha : (a : Int) % 7 = p) (hb : (b : Int) % 7 = q) (ha2 : a < 256) (hb2 : b < 256) (ho2 : o < 4294967296) (hr : r < 4294967296) (hk : k < 256)
    (Y : Int) (hY : Y ≤ 1073741824) (hYe : nxR (mdA r) (mdB r k 7) p = Y) (hE : NxIs (mdA r) (mdB r k 7) p Y p 0) (hpq : p = q) (w : World) (hH : Hv w) :
    Calls Tryd.prog 8 #[.int .u32 r, .int .u8 k, .int .u8 a, .int .u8 b, .int .u32 o] w fun e w' => e = .returned (.bool true) ∧ Below w.heap.size w w' := by
  have hM := fun W => made_any r k 7 hr hk (by omega) W
  have ho : bOk 7 (mdA r) (mdB r k 7) := made_ok r k 7 (by omega)
  generalize mdA r = R at *
  generalize mdB r k 7 = M at *
  obtain ⟨e1, e2, e3⟩ := hE
  have hP := fun W => next_any R M p W
  have hQ := fun W => next_any R M q W
  rw [e1, e2, e3] at hP
  subst hpq
  rw [e1, e2, e3] at hQ
  have q1 := fun W => eq_b Y p Y p W
  rw [eqB_t ⟨rfl, rfl⟩] at q1
  have hY1 := nxR_pos (p := p) ho
  have hC := fun W => check_any Y p 7 W
  have hcc := nxR_ck (p := p) ho (by omega) (by omega)
  have hO := fun W => order_any R M Y p W
  have hoo := nxR_ord (p := p) ho (by omega)
  have hNo := Lib.hid (fun (v : Int) (h1 : 1 ≤ v) (h2 : ordV R M v p < 0) => nxR_none (p := p) ho (by omega) h1 h2)
  rw [hYe] at hcc hoo hY1 hNo
  rw [hcc] at hC
  rw [hoo] at hO
  have w1 : IntKind.i64.wrap (a : Int) = a := wr (by omega) (by omega)
  have w2 : IntKind.i64.wrap (b : Int) = b := wr (by omega) (by omega)
  have e4 : (o : Int) % 1073741824 = ((o % 1073741824 : Nat) : Int) := by omega
  have e5 : o % 1073741824 < 1073741824 := Nat.mod_lt _ (by omega)
  generalize o % 1073741824 = o' at *
  have d1 : ¬ Y < 1 := by omega
  have r1 : IntKind.i64.wrap (o' : Int) = o' := wr (by omega) (by omega)
  have r2 : IntKind.i64.wrap ((o' : Int) + 1) = (o' : Int) + 1 := wr (by omega) (by omega)
  have r3 : IntKind.i64.wrap (Y - 1) = Y - 1 := wr (by omega) (by omega)
  have r4 : IntKind.i64.wrap (Y - 2) = Y - 2 := wr (by omega) (by omega)
  replace hM := Lib.hid hM
  replace hP := Lib.hid hP
  replace hQ := Lib.hid hQ
  replace hC := Lib.hid hC
  replace hO := Lib.hid hO
  clear ho e1 e2 e3 hp hq ha2 hb2 hcc hoo e5 hY1 hY hYe
  go_enter Tryd.func8, Tryd.ntmps8
  go_wp2_with fail
  refine (hM.out _).mono ?_
  rintro e w1 ⟨rfl, hb1⟩
  have A1 := bx_at hb1 R M
  have l1 := hb1.size
  obtain ⟨a0, a1, _, _⟩ := A1.cells
  clear hb1
  replace A1 := Lib.hid A1
  go_wp2_with fail
  refine (hP.out _).mono ?_
  rintro e w2 ⟨rfl, hb2⟩
  have A2' := A1.out.later hb2
  have l2 := A2'.lt
  have A2 := A2'.alloc (.cells #[.int .i64 Y, .int .i64 p] TB)
  have B2 := bx_at A2'.bel Y p
  obtain ⟨b0, b1, _, _⟩ := A2.cells
  clear a0 a1 A1 hb2 A2'
  replace A2 := Lib.hid A2
  replace B2 := Lib.hid B2
  go_wp2_with fail
  refine (hQ.out _).mono ?_
  rintro e w3 ⟨rfl, hb3⟩
  have A3' := A2.out.later hb3
  have B3' := B2.out.later hb3
  have l3 := B3'.lt
  have A3 := A3'.alloc (.cells #[.int .i64 Y, .int .i64 p] TB)
  have B3 := B3'.alloc (.cells #[.int .i64 Y, .int .i64 p] TB)
  have C3 := bx_at A3'.bel Y p
  obtain ⟨c0, c1, _, _⟩ := A3.cells
  obtain ⟨c2, c3, _, _⟩ := B3.cells
  obtain ⟨c4, c5, _, _⟩ := C3.cells
  clear b0 b1 A2 B2 hb3 A3' B3'
  replace A3 := Lib.hid A3
  replace B3 := Lib.hid B3
  replace C3 := Lib.hid C3
  go_wp2_with (first
    | (go_at_call 14; refine (hC.out _).mono ?_; rintro e w4 ⟨rfl, hb4⟩; have A4 := A3.out.later hb4; have B4 := B3.out.later hb4; have C4 := C3.out.later hb4; obtain ⟨d0, d1, _, _⟩ := A4.cells; obtain ⟨d2, d3, _, _⟩ := B4.cells; obtain ⟨d4, d5, _, _⟩ := C4.cells; clear c0 c1 c2 c3 c4 c5 hb4)
    | (go_at_call 16; refine (hO.out _).mono ?_; rintro e w5 ⟨rfl, hb5⟩; have A5 := A4.later hb5; have B5 := B4.later hb5; have C5 := C4.later hb5; obtain ⟨f0, f1, _, _⟩ := A5.cells; obtain ⟨f2, f3, _, _⟩ := B5.cells; obtain ⟨f4, f5, _, _⟩ := C5.cells; have A6 := A5.alloc (.cells #[.int .i64 (o' + 1), .int .i64 p] TB); have B6 := B5.alloc (.cells #[.int .i64 (o' + 1), .int .i64 p] TB); have D6 := bx_at A5.bel (o' + 1) p; obtain ⟨g0, g1, _, _⟩ := A6.cells; obtain ⟨g2, g3, _, _⟩ := B6.cells; obtain ⟨g4, g5, g6, g7⟩ := D6.cells; clear d0 d1 d2 d3 d4 d5))
  have hL : Lx w w1.heap.size w2.heap.size w5.heap.size (w5.heap.size + 1) R M Y p (o' + 1) (Y - 1) (Y - 2) ((w5.alloc (.cells #[.int .i64 (o' + 1), .int .i64 p] TB)).alloc (.cells #[.int .i64 (o' + 1), .int .i64 (Y - 1), .int .i64 (Y - 2)] 3)) := by
    have k1 := A5.lt
    have k2 := B5.lt
    have hs : (w5.alloc (.cells #[.int .i64 (o' + 1), .int .i64 p] TB)).heap.size = w5.heap.size + 1 := by show (w5.heap.push _).size = _; rw [Array.size_push]
    exact ⟨A6.alloc _, B6.alloc _, ⟨_, D6.alloc _⟩, by rw [← hs]; exact heap_alloc_new _ _, by omega, by omega, by omega, A5.bel.size⟩
  replace hL := Lib.hid hL
  clear A3 B3 C3 A4 B4 C4 A5 B5 C5 A6 B6 D6 e4
  go_wp2
  go_loopw [114] (fun i wr => ∃ k : Nat, k ≤ 3 ∧ i = .int .i64 k ∧ Lx w w1.heap.size w2.heap.size w5.heap.size (w5.heap.size + 1) R M Y p (o' + 1) (Y - 1) (Y - 2) wr) (fun i _ => 3 - (intOf i).toNat)
  case atStart => exact ⟨0, Nat.zero_le _, rfl, hL.out⟩
  case round =>
    obtain ⟨k, hk, rfl, hKr⟩ := hrel
    by_cases hlt : k < 3
    · have p0 := hKr.at k hlt
      generalize lk (o' + 1) (Y - 1) (Y - 2) k = v at *
      obtain ⟨u, hu⟩ := hKr.b3
      obtain ⟨u0, u1, u2, u3⟩ := hu.cells
      obtain ⟨hS, hV⟩ := hKr.set v
      obtain ⟨s0, s1, _, _⟩ := hS.b1.cells
      obtain ⟨s2, s3, _, _⟩ := hS.b2.cells
      obtain ⟨s4, s5, _, _⟩ := hV.cells
      have hN1 := hNo.out v
      have hO1 := fun W => order_any R M v p W
      have hO2 := fun W => order_any v p Y p W
      generalize ordV R M v p = x1 at *
      generalize ordV v p Y p = x2 at *
      replace hO1 := Lib.hid hO1
      replace hO2 := Lib.hid hO2
      by_cases h1 : 1 ≤ v
      · by_cases h2 : x1 < 0
        · have h3 := hN1 h1 h2
          clear hN1
          go_wp2_with fail
          refine (hO1.out _).mono ?_
          rintro e w6 ⟨rfl, hb6⟩
          have hS6 := hS.later hb6
          obtain ⟨y2, y3, _, _⟩ := hS6.b2.cells
          obtain ⟨y4, y5, _, _⟩ := (hV.later hb6).cells
          go_wp2_with fail
          refine (hO2.out _).mono ?_
          rintro e w7 ⟨rfl, hb7⟩
          have hS7 := hS6.later hb7
          go_wp2
          replace hS7 := Lib.hid hS7
          go_roundw
          case rel => first | exact ⟨k + 1, by omega, by go_num, hS7.out⟩ | exact ⟨_, _, _, ⟨k + 1, by omega, by go_num⟩, rfl, rfl, rfl⟩ | ((repeat (apply Exists.intro)); refine ⟨⟨k + 1, ?_, ?_, hS7.out⟩, rfl⟩ <;> first | omega | go_num)
          case measure => simp [intOf]; omega
        · clear hN1
          go_wp2_with fail
          refine (hO1.out _).mono ?_
          rintro e w6 ⟨rfl, hb6⟩
          have hS6 := hS.later hb6
          go_wp2
          replace hS6 := Lib.hid hS6
          go_roundw
          case rel => first | exact ⟨k + 1, by omega, by go_num, hS6.out⟩ | exact ⟨_, _, _, ⟨k + 1, by omega, by go_num⟩, rfl, rfl, rfl⟩ | ((repeat (apply Exists.intro)); refine ⟨⟨k + 1, ?_, ?_, hS6.out⟩, rfl⟩ <;> first | omega | go_num)
          case measure => simp [intOf]; omega
      · clear hN1
        go_wp2
        go_roundw
        case rel => exact ⟨k + 1, by omega, by go_num, hS⟩
        case measure => simp [intOf]; omega
    · obtain rfl : k = 3 := by omega
      clear hlt hk
      go_wp2_with fail
      refine (works_any _ (hH.later hKr.b1.bel)).mono ?_
      rintro e w8 ⟨rfl, hb8⟩
      have hz := below2 hKr.b1.bel hb8
      go_wp2
      go_ret
      exact ⟨rfl, hz⟩
set_option maxHeartbeats 2000000 in
theorem next_diff (r k : Nat) (p q : Nat) (hp : p ≤ 6) (hq : q ≤ 6) (a b o : Nat) (ha : (a : Int) % 7 = p) (hb : (b : Int) % 7 = q) (ha2 : a < 256) (hb2 : b < 256) (ho2 : o < 4294967296) (hr : r < 4294967296) (hk : k < 256)
    (Y : Int) (hY : Y ≤ 1073741824) (hYe : nxR (mdA r) (mdB r k 7) p = Y) (hE : NxIs (mdA r) (mdB r k 7) p Y p 0) (Z : Int) (hF : NxIs (mdA r) (mdB r k 7) q Z q 0) (hpq : ¬ p = q) (w : World) (hH : Hv w) :
    Calls Tryd.prog 8 #[.int .u32 r, .int .u8 k, .int .u8 a, .int .u8 b, .int .u32 o] w fun e w' => e = .returned (.bool true) ∧ Below w.heap.size w w' := by
  have hM := fun W => made_any r k 7 hr hk (by omega) W
  have ho : bOk 7 (mdA r) (mdB r k 7) := made_ok r k 7 (by omega)
  generalize mdA r = R at *
  generalize mdB r k 7 = M at *
  obtain ⟨e1, e2, e3⟩ := hE
  have hP := fun W => next_any R M p W
  have hQ := fun W => next_any R M q W
  rw [e1, e2, e3] at hP
  obtain ⟨f1, f2, f3⟩ := hF
  rw [f1, f2, f3] at hQ
  clear f1 f2 f3
  have q1 := fun W => eq_b Y p Z q W
  rw [eqB_f (fun x => hpq (by omega))] at q1
  have d7 : ((p : Int) == (q : Int)) = false := by simp; omega
  have d8 : decide ((p : Int) = (q : Int)) = false := by simp; omega
  have d9 : (p == q) = false := by simp; omega
  have d10 : decide (p = q) = false := by simp; omega
  have d11 : ¬ p = q := by omega
  have hY1 := nxR_pos (p := p) ho
  have hC := fun W => check_any Y p 7 W
  have hcc := nxR_ck (p := p) ho (by omega) (by omega)
  have hO := fun W => order_any R M Y p W
  have hoo := nxR_ord (p := p) ho (by omega)
  have hNo := Lib.hid (fun (v : Int) (h1 : 1 ≤ v) (h2 : ordV R M v p < 0) => nxR_none (p := p) ho (by omega) h1 h2)
  rw [hYe] at hcc hoo hY1 hNo
  rw [hcc] at hC
  rw [hoo] at hO
  have w1 : IntKind.i64.wrap (a : Int) = a := wr (by omega) (by omega)
  have w2 : IntKind.i64.wrap (b : Int) = b := wr (by omega) (by omega)
  have e4 : (o : Int) % 1073741824 = ((o % 1073741824 : Nat) : Int) := by omega
  have e5 : o % 1073741824 < 1073741824 := Nat.mod_lt _ (by omega)
  generalize o % 1073741824 = o' at *
  have d1 : ¬ Y < 1 := by omega
  have r1 : IntKind.i64.wrap (o' : Int) = o' := wr (by omega) (by omega)
  have r2 : IntKind.i64.wrap ((o' : Int) + 1) = (o' : Int) + 1 := wr (by omega) (by omega)
  have r3 : IntKind.i64.wrap (Y - 1) = Y - 1 := wr (by omega) (by omega)
  have r4 : IntKind.i64.wrap (Y - 2) = Y - 2 := wr (by omega) (by omega)
  replace hM := Lib.hid hM
  replace hP := Lib.hid hP
  replace hQ := Lib.hid hQ
  replace hC := Lib.hid hC
  replace hO := Lib.hid hO
  clear ho e1 e2 e3 hp hq ha2 hb2 hcc hoo e5 hY1 hY hYe
  go_enter Tryd.func8, Tryd.ntmps8
  go_wp2_with fail
  refine (hM.out _).mono ?_
  rintro e w1 ⟨rfl, hb1⟩
  have A1 := bx_at hb1 R M
  have l1 := hb1.size
  obtain ⟨a0, a1, _, _⟩ := A1.cells
  clear hb1
  replace A1 := Lib.hid A1
  go_wp2_with fail
  refine (hP.out _).mono ?_
  rintro e w2 ⟨rfl, hb2⟩
  have A2' := A1.out.later hb2
  have l2 := A2'.lt
  have A2 := A2'.alloc (.cells #[.int .i64 Y, .int .i64 p] TB)
  have B2 := bx_at A2'.bel Y p
  obtain ⟨b0, b1, _, _⟩ := A2.cells
  clear a0 a1 A1 hb2 A2'
  replace A2 := Lib.hid A2
  replace B2 := Lib.hid B2
  go_wp2_with fail
  refine (hQ.out _).mono ?_
  rintro e w3 ⟨rfl, hb3⟩
  have A3' := A2.out.later hb3
  have B3' := B2.out.later hb3
  have l3 := B3'.lt
  have A3 := A3'.alloc (.cells #[.int .i64 Z, .int .i64 q] TB)
  have B3 := B3'.alloc (.cells #[.int .i64 Z, .int .i64 q] TB)
  have C3 := bx_at A3'.bel Z q
  obtain ⟨c0, c1, _, _⟩ := A3.cells
  obtain ⟨c2, c3, _, _⟩ := B3.cells
  obtain ⟨c4, c5, _, _⟩ := C3.cells
  clear b0 b1 A2 B2 hb3 A3' B3'
  replace A3 := Lib.hid A3
  replace B3 := Lib.hid B3
  replace C3 := Lib.hid C3
  go_wp2_with (first
    | (go_at_call 14; refine (hC.out _).mono ?_; rintro e w4 ⟨rfl, hb4⟩; have A4 := A3.out.later hb4; have B4 := B3.out.later hb4; have C4 := C3.out.later hb4; obtain ⟨d0, d1, _, _⟩ := A4.cells; obtain ⟨d2, d3, _, _⟩ := B4.cells; obtain ⟨d4, d5, _, _⟩ := C4.cells; clear c0 c1 c2 c3 c4 c5 hb4)
    | (go_at_call 16; refine (hO.out _).mono ?_; rintro e w5 ⟨rfl, hb5⟩; have A5 := A4.later hb5; have B5 := B4.later hb5; have C5 := C4.later hb5; obtain ⟨f0, f1, _, _⟩ := A5.cells; obtain ⟨f2, f3, _, _⟩ := B5.cells; obtain ⟨f4, f5, _, _⟩ := C5.cells; have A6 := A5.alloc (.cells #[.int .i64 (o' + 1), .int .i64 p] TB); have B6 := B5.alloc (.cells #[.int .i64 (o' + 1), .int .i64 p] TB); have D6 := bx_at A5.bel (o' + 1) p; obtain ⟨g0, g1, _, _⟩ := A6.cells; obtain ⟨g2, g3, _, _⟩ := B6.cells; obtain ⟨g4, g5, g6, g7⟩ := D6.cells; clear d0 d1 d2 d3 d4 d5))
  have hL : Lx w w1.heap.size w2.heap.size w5.heap.size (w5.heap.size + 1) R M Y p (o' + 1) (Y - 1) (Y - 2) ((w5.alloc (.cells #[.int .i64 (o' + 1), .int .i64 p] TB)).alloc (.cells #[.int .i64 (o' + 1), .int .i64 (Y - 1), .int .i64 (Y - 2)] 3)) := by
    have k1 := A5.lt
    have k2 := B5.lt
    have hs : (w5.alloc (.cells #[.int .i64 (o' + 1), .int .i64 p] TB)).heap.size = w5.heap.size + 1 := by show (w5.heap.push _).size = _; rw [Array.size_push]
    exact ⟨A6.alloc _, B6.alloc _, ⟨_, D6.alloc _⟩, by rw [← hs]; exact heap_alloc_new _ _, by omega, by omega, by omega, A5.bel.size⟩
  replace hL := Lib.hid hL
  clear A3 B3 C3 A4 B4 C4 A5 B5 C5 A6 B6 D6 e4
  go_wp2
  go_loopw [114] (fun i wr => ∃ k : Nat, k ≤ 3 ∧ i = .int .i64 k ∧ Lx w w1.heap.size w2.heap.size w5.heap.size (w5.heap.size + 1) R M Y p (o' + 1) (Y - 1) (Y - 2) wr) (fun i _ => 3 - (intOf i).toNat)
  case atStart => exact ⟨0, Nat.zero_le _, rfl, hL.out⟩
  case round =>
    obtain ⟨k, hk, rfl, hKr⟩ := hrel
    by_cases hlt : k < 3
    · have p0 := hKr.at k hlt
      generalize lk (o' + 1) (Y - 1) (Y - 2) k = v at *
      obtain ⟨u, hu⟩ := hKr.b3
      obtain ⟨u0, u1, u2, u3⟩ := hu.cells
      obtain ⟨hS, hV⟩ := hKr.set v
      obtain ⟨s0, s1, _, _⟩ := hS.b1.cells
      obtain ⟨s2, s3, _, _⟩ := hS.b2.cells
      obtain ⟨s4, s5, _, _⟩ := hV.cells
      have hN1 := hNo.out v
      have hO1 := fun W => order_any R M v p W
      have hO2 := fun W => order_any v p Y p W
      generalize ordV R M v p = x1 at *
      generalize ordV v p Y p = x2 at *
      replace hO1 := Lib.hid hO1
      replace hO2 := Lib.hid hO2
      by_cases h1 : 1 ≤ v
      · by_cases h2 : x1 < 0
        · have h3 := hN1 h1 h2
          clear hN1
          go_wp2_with fail
          refine (hO1.out _).mono ?_
          rintro e w6 ⟨rfl, hb6⟩
          have hS6 := hS.later hb6
          obtain ⟨y2, y3, _, _⟩ := hS6.b2.cells
          obtain ⟨y4, y5, _, _⟩ := (hV.later hb6).cells
          go_wp2_with fail
          refine (hO2.out _).mono ?_
          rintro e w7 ⟨rfl, hb7⟩
          have hS7 := hS6.later hb7
          go_wp2
          replace hS7 := Lib.hid hS7
          go_roundw
          case rel => first | exact ⟨k + 1, by omega, by go_num, hS7.out⟩ | exact ⟨_, _, _, ⟨k + 1, by omega, by go_num⟩, rfl, rfl, rfl⟩ | ((repeat (apply Exists.intro)); refine ⟨⟨k + 1, ?_, ?_, hS7.out⟩, rfl⟩ <;> first | omega | go_num)
          case measure => simp [intOf]; omega
        · clear hN1
          go_wp2_with fail
          refine (hO1.out _).mono ?_
          rintro e w6 ⟨rfl, hb6⟩
          have hS6 := hS.later hb6
          go_wp2
          replace hS6 := Lib.hid hS6
          go_roundw
          case rel => first | exact ⟨k + 1, by omega, by go_num, hS6.out⟩ | exact ⟨_, _, _, ⟨k + 1, by omega, by go_num⟩, rfl, rfl, rfl⟩ | ((repeat (apply Exists.intro)); refine ⟨⟨k + 1, ?_, ?_, hS6.out⟩, rfl⟩ <;> first | omega | go_num)
          case measure => simp [intOf]; omega
      · clear hN1
        go_wp2
        go_roundw
        case rel => exact ⟨k + 1, by omega, by go_num, hS⟩
        case measure => simp [intOf]; omega
    · obtain rfl : k = 3 := by omega
      clear hlt hk
      go_wp2_with fail
      refine (works_any _ (hH.later hKr.b1.bel)).mono ?_
      rintro e w8 ⟨rfl, hb8⟩
      have hz := below2 hKr.b1.bel hb8
      go_wp2
      go_ret
      exact ⟨rfl, hz⟩
set_option maxHeartbeats 2000000 in
theorem next_none (r k : Nat) (p q : Nat) (hp : p ≤ 6) (hq : q ≤ 6) (a b o : Nat) (ha : (a : Int) % 7 = p) (hb : (b : Int) % 7 = q) (ha2 : a < 256) (hb2 : b < 256) (ho2 : o < 4294967296) (hr : r < 4294967296) (hk : k < 256)
    (Y : Int) (hY : Y ≤ 1073741824) (hYe : nxR (mdA r) (mdB r k 7) p = Y) (hE : NxIs (mdA r) (mdB r k 7) p Y p 0) (hF : NxIs (mdA r) (mdB r k 7) q 0 0 7) (w : World) (hH : Hv w) :
    Calls Tryd.prog 8 #[.int .u32 r, .int .u8 k, .int .u8 a, .int .u8 b, .int .u32 o] w fun e w' => e = .returned (.bool true) ∧ Below w.heap.size w w' := by
  have hM := fun W => made_any r k 7 hr hk (by omega) W
  have ho : bOk 7 (mdA r) (mdB r k 7) := made_ok r k 7 (by omega)
  generalize mdA r = R at *
  generalize mdB r k 7 = M at *
  obtain ⟨e1, e2, e3⟩ := hE
  have hP := fun W => next_any R M p W
  have hQ := fun W => next_any R M q W
  rw [e1, e2, e3] at hP
  obtain ⟨f1, f2, f3⟩ := hF
  rw [f1, f2, f3] at hQ
  clear f1 f2 f3
  have hY1 := nxR_pos (p := p) ho
  have hC := fun W => check_any Y p 7 W
  have hcc := nxR_ck (p := p) ho (by omega) (by omega)
  have hO := fun W => order_any R M Y p W
  have hoo := nxR_ord (p := p) ho (by omega)
  have hNo := Lib.hid (fun (v : Int) (h1 : 1 ≤ v) (h2 : ordV R M v p < 0) => nxR_none (p := p) ho (by omega) h1 h2)
  rw [hYe] at hcc hoo hY1 hNo
  rw [hcc] at hC
  rw [hoo] at hO
  have w1 : IntKind.i64.wrap (a : Int) = a := wr (by omega) (by omega)
  have w2 : IntKind.i64.wrap (b : Int) = b := wr (by omega) (by omega)
  have e4 : (o : Int) % 1073741824 = ((o % 1073741824 : Nat) : Int) := by omega
  have e5 : o % 1073741824 < 1073741824 := Nat.mod_lt _ (by omega)
  generalize o % 1073741824 = o' at *
  have d1 : ¬ Y < 1 := by omega
  have r1 : IntKind.i64.wrap (o' : Int) = o' := wr (by omega) (by omega)
  have r2 : IntKind.i64.wrap ((o' : Int) + 1) = (o' : Int) + 1 := wr (by omega) (by omega)
  have r3 : IntKind.i64.wrap (Y - 1) = Y - 1 := wr (by omega) (by omega)
  have r4 : IntKind.i64.wrap (Y - 2) = Y - 2 := wr (by omega) (by omega)
  replace hM := Lib.hid hM
  replace hP := Lib.hid hP
  replace hQ := Lib.hid hQ
  replace hC := Lib.hid hC
  replace hO := Lib.hid hO
  clear ho e1 e2 e3 hp hq ha2 hb2 hcc hoo e5 hY1 hY hYe
  go_enter Tryd.func8, Tryd.ntmps8
  go_wp2_with fail
  refine (hM.out _).mono ?_
  rintro e w1 ⟨rfl, hb1⟩
  have A1 := bx_at hb1 R M
  have l1 := hb1.size
  obtain ⟨a0, a1, _, _⟩ := A1.cells
  clear hb1
  replace A1 := Lib.hid A1
  go_wp2_with fail
  refine (hP.out _).mono ?_
  rintro e w2 ⟨rfl, hb2⟩
  have A2' := A1.out.later hb2
  have l2 := A2'.lt
  have A2 := A2'.alloc (.cells #[.int .i64 Y, .int .i64 p] TB)
  have B2 := bx_at A2'.bel Y p
  obtain ⟨b0, b1, _, _⟩ := A2.cells
  clear a0 a1 A1 hb2 A2'
  replace A2 := Lib.hid A2
  replace B2 := Lib.hid B2
  go_wp2_with fail
  refine (hQ.out _).mono ?_
  rintro e w3 ⟨rfl, hb3⟩
  have A3' := A2.out.later hb3
  have B3' := B2.out.later hb3
  have l3 := B3'.lt
  have A3 := A3'.alloc (.cells #[.int .i64 0, .int .i64 0] TB)
  have B3 := B3'.alloc (.cells #[.int .i64 0, .int .i64 0] TB)
  have C3 := bx_at A3'.bel 0 0
  obtain ⟨c0, c1, _, _⟩ := A3.cells
  obtain ⟨c2, c3, _, _⟩ := B3.cells
  obtain ⟨c4, c5, _, _⟩ := C3.cells
  clear b0 b1 A2 B2 hb3 A3' B3'
  replace A3 := Lib.hid A3
  replace B3 := Lib.hid B3
  replace C3 := Lib.hid C3
  go_wp2_with (first
    | (go_at_call 14; refine (hC.out _).mono ?_; rintro e w4 ⟨rfl, hb4⟩; have A4 := A3.out.later hb4; have B4 := B3.out.later hb4; have C4 := C3.out.later hb4; obtain ⟨d0, d1, _, _⟩ := A4.cells; obtain ⟨d2, d3, _, _⟩ := B4.cells; obtain ⟨d4, d5, _, _⟩ := C4.cells; clear c0 c1 c2 c3 c4 c5 hb4)
    | (go_at_call 16; refine (hO.out _).mono ?_; rintro e w5 ⟨rfl, hb5⟩; have A5 := A4.later hb5; have B5 := B4.later hb5; have C5 := C4.later hb5; obtain ⟨f0, f1, _, _⟩ := A5.cells; obtain ⟨f2, f3, _, _⟩ := B5.cells; obtain ⟨f4, f5, _, _⟩ := C5.cells; have A6 := A5.alloc (.cells #[.int .i64 (o' + 1), .int .i64 p] TB); have B6 := B5.alloc (.cells #[.int .i64 (o' + 1), .int .i64 p] TB); have D6 := bx_at A5.bel (o' + 1) p; obtain ⟨g0, g1, _, _⟩ := A6.cells; obtain ⟨g2, g3, _, _⟩ := B6.cells; obtain ⟨g4, g5, g6, g7⟩ := D6.cells; clear d0 d1 d2 d3 d4 d5))
  have hL : Lx w w1.heap.size w2.heap.size w5.heap.size (w5.heap.size + 1) R M Y p (o' + 1) (Y - 1) (Y - 2) ((w5.alloc (.cells #[.int .i64 (o' + 1), .int .i64 p] TB)).alloc (.cells #[.int .i64 (o' + 1), .int .i64 (Y - 1), .int .i64 (Y - 2)] 3)) := by
    have k1 := A5.lt
    have k2 := B5.lt
    have hs : (w5.alloc (.cells #[.int .i64 (o' + 1), .int .i64 p] TB)).heap.size = w5.heap.size + 1 := by show (w5.heap.push _).size = _; rw [Array.size_push]
    exact ⟨A6.alloc _, B6.alloc _, ⟨_, D6.alloc _⟩, by rw [← hs]; exact heap_alloc_new _ _, by omega, by omega, by omega, A5.bel.size⟩
  replace hL := Lib.hid hL
  clear A3 B3 C3 A4 B4 C4 A5 B5 C5 A6 B6 D6 e4
  go_wp2
  go_loopw [114] (fun i wr => ∃ k : Nat, k ≤ 3 ∧ i = .int .i64 k ∧ Lx w w1.heap.size w2.heap.size w5.heap.size (w5.heap.size + 1) R M Y p (o' + 1) (Y - 1) (Y - 2) wr) (fun i _ => 3 - (intOf i).toNat)
  case atStart => exact ⟨0, Nat.zero_le _, rfl, hL.out⟩
  case round =>
    obtain ⟨k, hk, rfl, hKr⟩ := hrel
    by_cases hlt : k < 3
    · have p0 := hKr.at k hlt
      generalize lk (o' + 1) (Y - 1) (Y - 2) k = v at *
      obtain ⟨u, hu⟩ := hKr.b3
      obtain ⟨u0, u1, u2, u3⟩ := hu.cells
      obtain ⟨hS, hV⟩ := hKr.set v
      obtain ⟨s0, s1, _, _⟩ := hS.b1.cells
      obtain ⟨s2, s3, _, _⟩ := hS.b2.cells
      obtain ⟨s4, s5, _, _⟩ := hV.cells
      have hN1 := hNo.out v
      have hO1 := fun W => order_any R M v p W
      have hO2 := fun W => order_any v p Y p W
      generalize ordV R M v p = x1 at *
      generalize ordV v p Y p = x2 at *
      replace hO1 := Lib.hid hO1
      replace hO2 := Lib.hid hO2
      by_cases h1 : 1 ≤ v
      · by_cases h2 : x1 < 0
        · have h3 := hN1 h1 h2
          clear hN1
          go_wp2_with fail
          refine (hO1.out _).mono ?_
          rintro e w6 ⟨rfl, hb6⟩
          have hS6 := hS.later hb6
          obtain ⟨y2, y3, _, _⟩ := hS6.b2.cells
          obtain ⟨y4, y5, _, _⟩ := (hV.later hb6).cells
          go_wp2_with fail
          refine (hO2.out _).mono ?_
          rintro e w7 ⟨rfl, hb7⟩
          have hS7 := hS6.later hb7
          go_wp2
          replace hS7 := Lib.hid hS7
          go_roundw
          case rel => first | exact ⟨k + 1, by omega, by go_num, hS7.out⟩ | exact ⟨_, _, _, ⟨k + 1, by omega, by go_num⟩, rfl, rfl, rfl⟩ | ((repeat (apply Exists.intro)); refine ⟨⟨k + 1, ?_, ?_, hS7.out⟩, rfl⟩ <;> first | omega | go_num)
          case measure => simp [intOf]; omega
        · clear hN1
          go_wp2_with fail
          refine (hO1.out _).mono ?_
          rintro e w6 ⟨rfl, hb6⟩
          have hS6 := hS.later hb6
          go_wp2
          replace hS6 := Lib.hid hS6
          go_roundw
          case rel => first | exact ⟨k + 1, by omega, by go_num, hS6.out⟩ | exact ⟨_, _, _, ⟨k + 1, by omega, by go_num⟩, rfl, rfl, rfl⟩ | ((repeat (apply Exists.intro)); refine ⟨⟨k + 1, ?_, ?_, hS6.out⟩, rfl⟩ <;> first | omega | go_num)
          case measure => simp [intOf]; omega
      · clear hN1
        go_wp2
        go_roundw
        case rel => exact ⟨k + 1, by omega, by go_num, hS⟩
        case measure => simp [intOf]; omega
    · obtain rfl : k = 3 := by omega
      clear hlt hk
      go_wp2_with fail
      refine (works_any _ (hH.later hKr.b1.bel)).mono ?_
      rintro e w8 ⟨rfl, hb8⟩
      have hz := below2 hKr.b1.bel hb8
      go_wp2
      go_ret
      exact ⟨rfl, hz⟩
theorem next_all (r k : Nat) (p q : Nat) (hp : p ≤ 6) (hq : q ≤ 6) (a b o : Nat) (ha : (a : Int) % 7 = p) (hb : (b : Int) % 7 = q) (ha2 : a < 256) (hb2 : b < 256) (ho2 : o < 4294967296) (hr : r < 4294967296) (hk : k < 256) (w : World) (hH : Hv w) :
    Calls Tryd.prog 8 #[.int .u32 r, .int .u8 k, .int .u8 a, .int .u8 b, .int .u32 o] w fun e w' => e = .returned (.bool true) ∧ Below w.heap.size w w' := by
  have ho : bOk 7 (mdA r) (mdB r k 7) := made_ok r k 7 (by omega)
  rcases nx_cases (p := (p : Int)) ho (by omega) with ⟨h1, h2⟩ | ⟨h1, h2, h3⟩
  · by_cases hpq : p = q
    · exact next_same r k p q hp hq a b o ha hb ha2 hb2 ho2 hr hk _ h1 rfl h2 hpq w hH
    · rcases nx_cases (p := (q : Int)) ho (by omega) with ⟨g1, g2⟩ | ⟨g1, g2, g3⟩
      · exact next_diff r k p q hp hq a b o ha hb ha2 hb2 ho2 hr hk _ h1 rfl h2 _ g2 hpq w hH
      · exact next_none r k p q hp hq a b o ha hb ha2 hb2 ho2 hr hk _ h1 rfl h2 g3 w hH
  · exact next_err r k p q hp hq a b o ha hb ha2 hb2 ho2 hr hk ⟨h1, h2, h3⟩ w hH
theorem w_ballotNext (a0 a1 a2 a3 a4 : Int) (w0 : (Lit.int .u32 a0).wf = true) (w1 : (Lit.int .u8 a1).wf = true) (w2 : (Lit.int .u8 a2).wf = true) (w3 : (Lit.int .u8 a3).wf = true) (w4 : (Lit.int .u32 a4).wf = true) (w : World) (hH : Hv w) :
    Calls Tryd.prog 8 #[.int .u32 a0, .int .u8 a1, .int .u8 a2, .int .u8 a3, .int .u32 a4] w fun e w' => e = .returned (.bool true) ∧ Below w.heap.size w w' := by
  have b0 := bounds_u32 w0
  have b1 := bounds_u8 w1
  have b2 := bounds_u8 w2
  have b3 := bounds_u8 w3
  have b4 := bounds_u32 w4
  obtain ⟨r, rfl⟩ := Int.eq_ofNat_of_zero_le b0.1
  obtain ⟨k, rfl⟩ := Int.eq_ofNat_of_zero_le b1.1
  obtain ⟨a, rfl⟩ := Int.eq_ofNat_of_zero_le b2.1
  obtain ⟨b, rfl⟩ := Int.eq_ofNat_of_zero_le b3.1
  obtain ⟨o, rfl⟩ := Int.eq_ofNat_of_zero_le b4.1
  exact next_all r k (a % 7) (b % 7) (by omega) (by omega) a b o (by omega) (by omega) (by omega) (by omega) (by omega) (by omega) (by omega) w hH
end Go.Proofs.YtabfpdlnljkgpaaDoor.Bal
