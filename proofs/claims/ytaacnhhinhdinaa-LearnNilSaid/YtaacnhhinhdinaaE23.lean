/- Learners that are nil, or were not made by New; LearnNil. -/
import Derived.Test.YtaacnhhinhdinaaE12
namespace Go.Proofs.Ytaacnhhinhdinaa.Lrn
open Go.RowKit Go.Maps Go.Lib
open Bal (TB bOk ckB ordV eqB eqB_t eqB_f eq_b alloc_b)
set_option linter.unusedVariables false
set_option linter.unusedSimpArgs false
set_option maxRecDepth 100000

def nOf : Value → Nat
  | .int _ k => k.toNat
  | _ => 0
abbrev vS : ByteArray := ⟨#[118]⟩
abbrev TPt : TypeId := 25
/-- A learner's pointer that is not valid, in every later world too. -/
def Nv (p : Value) (w : World) : Prop := p = .pointer none ∨ ∃ sb, p = .pointer (some ⟨sb, 0, none⟩) ∧ w.heap[sb]? = some (.cells #[.int .i64 0, .int .i64 0, .map none] TA (0, 0))
theorem Nv.later {p : Value} {w w' : World} (h : Nv p w) (hb : Below w.heap.size w w') : Nv p w' := by
  rcases h with h | ⟨sb, h, hc⟩
  · exact .inl h
  · exact .inr ⟨sb, h, (hb.block sb (Array.getElem?_eq_some_iff.1 hc).1).trans hc⟩
theorem Nv.alloc {p : Value} {w : World} (h : Nv p w) (o : Obj) : Nv p (w.alloc o) := h.later (alloc_b w o)
theorem Nv.valid {p : Value} {w : World} (h : Nv p w) : Calls Try.prog 29 #[p] w fun e w' => e = .returned (.bool false) ∧ w = w' := by
  rcases h with rfl | ⟨sb, rfl, hc⟩
  · exact valid_nil w
  · exact valid_zero sb w (cell_of_row w sb 2 _ TA _ hc)
theorem add_nv (p : Value) (nd x y k : Int) (v : ByteArray) (w : World) (h : Nv p w) : Calls Try.prog 14 #[p, .int .i64 nd, .agg #[.int .i64 x, .int .i64 y], .int .i64 k, .string v] w fun e w' => e = .returned (.tuple #[.bool false, .int .i64 1]) ∧ Below w.heap.size w w' := by
  have hb := alloc_b w (.cells #[.int .i64 x, .int .i64 y] TB)
  have hV := Lib.hid (h.alloc (.cells #[.int .i64 x, .int .i64 y] TB)).valid
  clear h
  go_enter Try.func14, Try.ntmps14
  go_wp2_with (go_at_call 29; refine hV.out.mono ?_; rintro e w' ⟨rfl, rfl⟩)
  go_ret2
  exact ⟨rfl, hb⟩
theorem chosen_nv (p : Value) (k : Int) (w : World) (h : Nv p w) : Calls Try.prog 23 #[p, .int .i64 k] w fun e w' => e = .returned (.tuple #[.string ⟨#[]⟩, .bool false]) ∧ Below w.heap.size w w' := by
  have hV := Lib.hid h.valid
  clear h
  go_enter Try.func23, Try.ntmps23
  go_wp2_with (go_at_call 29; refine hV.out.mono ?_; rintro e w' ⟨rfl, rfl⟩)
  go_ret2
  exact ⟨rfl, Below.refl _ _⟩
theorem votes_nv (p : Value) (k : Int) (w : World) (h : Nv p w) : Calls Try.prog 24 #[p, .int .i64 k] w fun e w' => e = .returned (.tuple #[.agg #[.int .i64 0, .int .i64 0], .int .u64 0]) ∧ Below w.heap.size w w' := by
  have hx := Bal.bx_new w 0 0
  have hV := Lib.hid (h.alloc (.cells #[.int .i64 0, .int .i64 0] TB)).valid
  clear h
  go_enter Try.func24, Try.ntmps24
  go_wp2_with (go_at_call 29; refine hV.out.mono ?_; rintro e w' ⟨rfl, rfl⟩)
  refine bodyPost_ret (v := .tuple #[.agg #[.int .i64 0, .int .i64 0], .int .u64 0]) ?_ rfl ⟨rfl, hx.bel⟩
  exact Bal.res2e Try.results24 _ rfl hx
theorem learn_nv (p : Value) (k : Int) (v : ByteArray) (w : World) (h : Nv p w) : Calls Try.prog 16 #[p, .int .i64 k, .string v] w fun e w' => e = .returned (.int .i64 1) ∧ Below w.heap.size w w' := by
  have hV := Lib.hid h.valid
  clear h
  go_enter Try.func16, Try.ntmps16
  go_wp2_with (go_at_call 29; refine hV.out.mono ?_; rintro e w' ⟨rfl, rfl⟩)
  go_ret
  exact ⟨rfl, Below.refl _ _⟩
theorem forget_nv (p : Value) (k : Int) (w : World) (h : Nv p w) : Calls Try.prog 18 #[p, .int .i64 k] w fun e w' => e = .returned (.int .i64 1) ∧ Below w.heap.size w w' := by
  have hV := Lib.hid h.valid
  clear h
  go_enter Try.func18, Try.ntmps18
  go_wp2_with (go_at_call 29; refine hV.out.mono ?_; rintro e w' ⟨rfl, rfl⟩)
  go_ret
  exact ⟨rfl, Below.refl _ _⟩
theorem upto_nv (p : Value) (w : World) (h : Nv p w) : Calls Try.prog 27 #[p] w fun e w' => e = .returned (.int .i64 0) ∧ w = w' := by
  have hV := Lib.hid h.valid
  clear h
  go_enter Try.func27, Try.ntmps27
  go_wp2_with (go_at_call 29; refine hV.out.mono ?_; rintro e w' ⟨rfl, rfl⟩)
  go_ret
  exact ⟨rfl, rfl⟩
theorem open_nv (p : Value) (w : World) (h : Nv p w) : Calls Try.prog 25 #[p] w fun e w' => e = .returned (.slice none 0 0) ∧ w = w' := by
  have hV := Lib.hid h.valid
  clear h
  go_enter Try.func25, Try.ntmps25
  go_wp2_with (go_at_call 29; refine hV.out.mono ?_; rintro e w' ⟨rfl, rfl⟩)
  go_ret
  exact ⟨rfl, rfl⟩
theorem copy_nv (p : Value) (w : World) (h : Nv p w) : Calls Try.prog 20 #[p] w fun e w' => e = .returned (.pointer none) ∧ w = w' := by
  have hV := Lib.hid h.valid
  clear h
  go_enter Try.func20, Try.ntmps20
  go_wp2_with (go_at_call 29; refine hV.out.mono ?_; rintro e w' ⟨rfl, rfl⟩)
  go_ret
  exact ⟨rfl, rfl⟩

/-- The boxes of LearnNil: its ballot, the zero learner, the two pointers. -/
structure NB (w : World) (x y : Int) (W : World) : Prop where
  b : W.heap[w.heap.size]? = some (.cells #[.int .i64 x, .int .i64 y] TB (0, 0))
  z : W.heap[w.heap.size + 1]? = some (.cells #[.int .i64 0, .int .i64 0, .map none] TA (0, 0))
  s : W.heap[w.heap.size + 1 + 1]? = some (.cells #[.pointer none, .pointer (some ⟨w.heap.size + 1, 0, none⟩)] TPt (0, 0))
  bel : Below w.heap.size w W
theorem NB.later {w W W' : World} {x y : Int} (h : NB w x y W) (hb : Below W.heap.size W W') : NB w x y W' :=
  ⟨(hb.block _ (Array.getElem?_eq_some_iff.1 h.b).1).trans h.b, (hb.block _ (Array.getElem?_eq_some_iff.1 h.z).1).trans h.z, (hb.block _ (Array.getElem?_eq_some_iff.1 h.s).1).trans h.s, below2 h.bel hb⟩
theorem nb_new (w : World) (x y : Int) : NB w x y (((w.alloc (.cells #[.int .i64 x, .int .i64 y] TB)).alloc (.cells #[.int .i64 0, .int .i64 0, .map none] TA)).alloc (.cells #[.pointer none, .pointer (some ⟨w.heap.size + 1, 0, none⟩)] TPt)) := by
  have h1 := heap_alloc_new w (.cells #[.int .i64 x, .int .i64 y] TB)
  have b1 := alloc_b w (.cells #[.int .i64 x, .int .i64 y] TB)
  have h2 := heap_alloc_new (w.alloc (.cells #[.int .i64 x, .int .i64 y] TB)) (.cells #[.int .i64 0, .int .i64 0, .map none] TA)
  have b2 := alloc_b (w.alloc (.cells #[.int .i64 x, .int .i64 y] TB)) (.cells #[.int .i64 0, .int .i64 0, .map none] TA)
  have h3 := heap_alloc_new ((w.alloc (.cells #[.int .i64 x, .int .i64 y] TB)).alloc (.cells #[.int .i64 0, .int .i64 0, .map none] TA)) (.cells #[.pointer none, .pointer (some ⟨w.heap.size + 1, 0, none⟩)] TPt)
  have b3 := alloc_b ((w.alloc (.cells #[.int .i64 x, .int .i64 y] TB)).alloc (.cells #[.int .i64 0, .int .i64 0, .map none] TA)) (.cells #[.pointer none, .pointer (some ⟨w.heap.size + 1, 0, none⟩)] TPt)
  have h1' := (b2.block _ (Array.getElem?_eq_some_iff.1 h1).1).trans h1
  have h1'' := (b3.block _ (Array.getElem?_eq_some_iff.1 h1').1).trans h1'
  have h2' := (b3.block _ (Array.getElem?_eq_some_iff.1 h2).1).trans h2
  rw [World.size_alloc] at h2'
  rw [World.size_alloc, World.size_alloc] at h3
  exact ⟨h1'', h2', h3, below2 (below2 b1 b2) b3⟩
theorem NB.at {w W : World} {x y : Int} (h : NB w x y W) {j : Nat} (hj : j < 2) : ∃ p, W.cell? ⟨w.heap.size + 1 + 1, j, none⟩ = some p ∧ Nv p W := by
  have hc : j = 0 ∨ j = 1 := by omega
  rcases hc with rfl | rfl
  · exact ⟨_, cell_of_row W _ 0 _ TPt _ h.s, .inl rfl⟩
  · exact ⟨_, cell_of_row W _ 1 _ TPt _ h.s, .inr ⟨_, rfl, h.z⟩⟩
def a1 : St := ⟨3, 0, [⟨6, ⟨false, ⟨#[]⟩, 2, 0, vS, 2⟩⟩]⟩
def a2 : St := ⟨3, 0, [⟨6, ⟨true, vS, 2, 0, vS, 6⟩⟩]⟩
theorem ax1 : addB (newS 3) 1 2 0 6 vS = false ∧ addE (newS 3) 1 2 0 6 vS = 0 ∧ addS (newS 3) 1 2 0 6 vS = a1 := by
  have h : addOn (newS 3) 1 2 0 6 vS := by decide +kernel
  have h2 : addN (withK (at' (newS 3) 6) 1 2 0 vS 3) 3 = false := by decide +kernel
  refine ⟨by decide +kernel, by decide +kernel, ?_⟩
  unfold addS
  rw [if_pos h]
  unfold addW
  rw [show (newS 3).n = 3 from rfl, if_neg (by rw [h2]; decide)]
  kernel_rfl
theorem ax2 : addB a1 2 2 0 6 vS = true ∧ addE a1 2 2 0 6 vS = 0 ∧ addS a1 2 2 0 6 vS = a2 := by
  have h : addOn a1 2 2 0 6 vS := by decide +kernel
  have h2 : addN (withK (at' a1 6) 2 2 0 vS 3) 3 = true := by decide +kernel
  refine ⟨by decide +kernel, by decide +kernel, ?_⟩
  unfold addS
  rw [if_pos h]
  unfold addW
  rw [show a1.n = 3 from rfl, if_pos h2]
  kernel_rfl
theorem ao1 : opnL a1 = [6] := by kernel_rfl
theorem ao2 : opnL a2 = [] := by kernel_rfl
set_option maxHeartbeats 8000000 in
theorem nil_law (a0 a1' : Int) (xr xm : Int) (w : World) (w0 : (Lit.int .i64 a0).wf = true) (w1 : (Lit.int .i64 a1').wf = true) (w2 : True) :
    Calls Try.prog 9 #[.int .i64 a0, .int .i64 a1', .agg #[.int .i64 xr, .int .i64 xm]] w (Yes w) := by
  have HB := Lib.hid (nb_new w xr xm)
  have hq0 := fun W => (Bal.eq_b 0 0 0 0 W).trans (by rw [Bal.eqB_t ⟨rfl, rfl⟩])
  have HN := Lib.hid (fun W (hW : Below w.heap.size w W) => new_w 3 (by omega) w W hW)
  clear w0 w1 w2
  go_enter Try.func9, Try.ntmps9
  go_wp2
  go_loopw [29] (fun i wr => ∃ j : Nat, j ≤ 2 ∧ i = .int .i64 j ∧ NB w xr xm wr) (fun i _ => 2 - nOf i)
  case atStart => exact ⟨0, Nat.zero_le _, rfl, HB.out⟩
  case round =>
    obtain ⟨j, hj, rfl, hA⟩ := hrel
    by_cases hlt : j < 2
    · have i1 : 0 ≤ (j : Int) := by omega
      have i2 : (j : Int) < 2 := by omega
      have i3 : decide (j < 2) = true := by simp; omega
      have i4 : decide ((j : Int) < 2) = true := by simp; omega
      obtain ⟨p, hp, hnv⟩ := hA.at hlt
      have c0 := cell_of_row _ _ 0 _ TB _ hA.b
      have c1 := cell_of_row _ _ 1 _ TB _ hA.b
      replace hA := Lib.hid hA
      go_wp2_with fail
      go_at_call 14
      refine (add_nv p a0 xr xm a1' vS _ hnv).mono ?_
      rintro e v1 ⟨rfl, hb1⟩
      have n1 := hnv.later hb1
      have A1 := Lib.hid (hA.out.later hb1)
      clear hb1 hnv c0 c1 hA
      go_wp2_with fail
      go_at_call 23
      refine (chosen_nv p a1' _ n1).mono ?_
      rintro e v2 ⟨rfl, hb2⟩
      have n2 := n1.later hb2
      have A2 := Lib.hid (A1.out.later hb2)
      clear hb2 n1 A1
      go_wp2_with fail
      go_at_call 24
      refine (votes_nv p a1' _ n2).mono ?_
      rintro e v3 ⟨rfl, hb3⟩
      have b4 := alloc_b v3 (.cells #[.int .i64 0, .int .i64 0] TB)
      have n4 := (n2.later hb3).later b4
      have A4 := Lib.hid ((A2.out.later hb3).later b4)
      have hx4 := heap_alloc_new v3 (.cells #[.int .i64 0, .int .i64 0] TB)
      clear hb3 n2 A2 b4
      go_wp2_with fail
      generalize v3.alloc (.cells #[.int .i64 0, .int .i64 0] TB) = v4 at *
      generalize v3.heap.size = q4 at *
      go_at_call 16
      refine (learn_nv p a1' vS _ n4).mono ?_
      rintro e v5 ⟨rfl, hb5⟩
      have n5 := n4.later hb5
      have A5 := Lib.hid (A4.out.later hb5)
      have hx5 := (hb5.block _ (Array.getElem?_eq_some_iff.1 hx4).1).trans hx4
      clear hb5 n4 A4 hx4
      go_wp2_with fail
      go_at_call 18
      refine (forget_nv p a1' _ n5).mono ?_
      rintro e v6 ⟨rfl, hb6⟩
      have n6 := n5.later hb6
      have A6 := Lib.hid (A5.out.later hb6)
      have hx6 := (hb6.block _ (Array.getElem?_eq_some_iff.1 hx5).1).trans hx5
      have d0 := cell_of_row _ _ 0 _ TB _ hx6
      have d1 := cell_of_row _ _ 1 _ TB _ hx6
      clear hb6 n5 A5 hx5 hx6
      go_wp2_with fail
      go_at_call 27
      refine (upto_nv p _ n6).mono ?_
      rintro e v7 ⟨rfl, rfl⟩
      go_wp2_with fail
      go_at_call 25
      refine (open_nv p _ n6).mono ?_
      rintro e v7 ⟨rfl, rfl⟩
      go_wp2_with fail
      go_at_call 20
      refine (copy_nv p _ n6).mono ?_
      rintro e v7 ⟨rfl, rfl⟩
      go_wp2
      go_roundw
      case rel => exact ⟨j + 1, by omega, by go_num, A6.out⟩
      case measure => simp [nOf]; omega
    · have hj2 : j = 2 := by omega
      subst hj2
      have hbel := hA.bel
      clear hA hlt HB
      go_wp2_with fail
      go_at_call 12
      refine (HN.out _ hbel).mono ?_
      rintro e W1 ⟨sb, mb, rfl, h1, _⟩
      go_wp2_with fail
      go_at_call 14
      refine (h1.add 1 2 0 6 vS ax1.1 ax1.2.1 ax1.2.2).mono ?_
      rintro e W2 ⟨rfl, h2, _⟩
      clear h1 HN
      go_wp2_with fail
      go_at_call 25
      refine (h2.opens ao1).mono ?_
      rintro e W3 ⟨v3, rfl, hO3, h3, hB3⟩
      have hbase : w.heap.size ≤ W2.heap.size := h2.bel.size
      obtain ⟨g, cap, hv3, hbg, hgl, hcg⟩ := hO3.cells (by decide)
      have hblk : ∃ cur, W3.heap[g]? = some (.cells cur TI (0, 0)) := by
        rcases hO3.2 with ⟨h0, _⟩ | ⟨g', cap', cur, he, _, hg, _⟩
        · rw [h0] at hv3; cases hv3
        · rw [he] at hv3
          injection hv3 with e1 _ _
          injection e1 with e1
          injection e1 with e1
          subst e1
          exact ⟨cur, hg⟩
      obtain ⟨cur, hblk⟩ := hblk
      subst hv3
      have c6 := hcg 0 6 rfl
      have f6 := frozen_of_row W3 g 0 _ TI hblk
      have hap := h3.ax.apart hblk (by decide)
      have hk : Keeps (fun i => i = g) W3 (W3.setCell ⟨g, 0, none⟩ (.int .i64 9)) := (Keeps.refl (fun i => i = g) W3).setCell (p := ⟨g, 0, none⟩) (.inl rfl) _
      have h4 : WAt w sb mb a1 (W3.setCell ⟨g, 0, none⟩ (.int .i64 9)) := ⟨h3.ax.kept hk (fun e => hap (.inl e.symm)) (fun e => hap (.inr e.symm)), h3.bel.setCell (by show w.heap.size ≤ g; omega) _, h3.hs, h3.hm⟩
      rw [List.length_singleton]
      clear hO3 h3 hB3 hcg hblk hap hk h2
      go_wp2_with fail
      generalize W3.setCell ⟨g, 0, none⟩ (.int .i64 9) = W4 at *
      go_at_call 20
      refine (copy_any W4 h4.ax).mono ?_
      rintro e W5 ⟨sb2, mb2, rfl, hs2, hm2, hA2, hB5⟩
      have h5 := h4.later hB5
      have c5 : WAt w sb2 mb2 a1 W5 := ⟨hA2, h5.bel, Nat.le_trans h4.bel.size hs2, Nat.le_trans h4.bel.size hm2⟩
      have hlt4 := h4.ax.lt
      clear hA2 hB5 h4 c6 f6
      go_wp2_with fail
      go_at_call 14
      refine (c5.add 2 2 0 6 vS ax2.1 ax2.2.1 ax2.2.2).mono ?_
      rintro e W6 ⟨rfl, c6, hk6⟩
      have h6 : WAt w sb mb a1 W6 := ⟨h5.ax.kept hk6 (fun e => by rcases e with e | e <;> omega) (fun e => by rcases e with e | e <;> omega), c6.bel, h5.hs, h5.hm⟩
      clear hk6 c5 h5 hlt4 hs2 hm2
      go_wp2_with fail
      go_at_call 25
      refine (h6.opens ao1).mono ?_
      rintro e W7 ⟨v7, rfl, hO7, h7, hB7⟩
      have c7 := c6.later hB7
      have b8 := alloc_b W7 (.cells #[.int .i64 6] TI)
      have I1 := Lib.hid (hO7.is.later b8)
      have I2 := Lib.hid (is_one (heap_alloc_new W7 (.cells #[.int .i64 6] TI)) 1)
      have c8 := c7.later b8
      obtain ⟨oa, oc, rfl⟩ := rows_form hO7
      clear hO7 b8 hB7 h7 c7 c6 h6
      go_wp2_with fail
      go_at_call 26
      refine (equal_any _ _ _ _ _ I1.out I2.out (by decide) (by decide)).mono ?_
      rintro e W9 ⟨rfl, hB9⟩
      rw [eqLs_t]
      have c9 := c8.later hB9
      clear I1 I2 hB9 c8
      go_wp2_with fail
      go_at_call 25
      refine (c9.opens ao2).mono ?_
      rintro e W10 ⟨v10, rfl, hO10, c10, _⟩
      obtain ⟨oa, oc, rfl⟩ := rows_form hO10
      rw [List.length_nil]
      clear hO10 c9
      go_wp2_with fail
      go_at_call 11
      refine (works_any _).mono ?_
      rintro e W11 ⟨rfl, hB11⟩
      have hend := Lib.hid (below2 c10.bel hB11)
      clear c10 hB11
      go_wp2
      go_ret
      exact ⟨rfl, hend.out⟩
end Go.Proofs.Ytaacnhhinhdinaa.Lrn
