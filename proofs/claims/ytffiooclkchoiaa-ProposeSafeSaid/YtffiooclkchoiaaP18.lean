/- The walk of ProposeSafe. -/
import Derived.Test.YtffiooclkchoiaaP17
import Derived.OwnWalk
import Derived.RegionTactic
import Derived.Maps.RangeWalk
namespace Go.Proofs.Ytffiooclkchoiaa.Prp
open Go.RowKit Go.Lib
open Bal (TB bOk ckB ordV eqB eqB_t eqB_f eq_b alloc_b check_any order_any)
set_option linter.unusedVariables false
set_option linter.unusedSimpArgs false
set_option maxRecDepth 100000

theorem made_is {W : World} {base n size g : Nat} {e : TypeId} {xs : List Value} (h : W.ownsRow base e size (.slice (some ⟨g, 0, none⟩) n n) n xs) : W.heap[g]? = some (.cells xs.toArray e (0, 0)) := by
  rcases h.2 with ⟨h1, _⟩ | ⟨g', cap, cur, h1, _, hg, _, _, h3, h4⟩
  · cases h1
  · injection h1 with h1 _ h2
    injection h1 with h1
    injection h1 with h1 _
    subst h1 h2
    rw [hg]
    congr 2
    rw [← h4, List.take_of_length_le (by simp [h3])]
theorem u8_bit (y k : Nat) (hy : y ≤ 255) : bits .and .u8 ((y : Int) / 2 ^ k) 1 = if y.testBit k then 1 else 0 := by
  rw [shr_nat, Nat.testBit_eq_decide_div_mod_eq]
  have hq : y / 2 ^ k < 256 := Nat.lt_of_le_of_lt (Nat.div_le_self _ _) (by omega)
  generalize y / 2 ^ k = q at *
  have key : ∀ q : Fin 256, bits .and .u8 ((q.val : Nat) : Int) 1 = if decide (q.val % 2 = 1) then 1 else 0 := by decide +kernel
  exact key ⟨q, hq⟩
theorem pl_mono {n i : Nat} {H : Nat → Vt} {c : ByteArray} (h : Pl n i H c) : Pl n (i + 1) H c :=
  ⟨fun k hk => (h.h k hk).imp id fun h => ⟨h.1, by have := h.2.1; omega, h.2.2⟩, h.c⟩
theorem IsB3.at {w W : World} {a : Option Addr} {len cap : Nat} {S : Nat → B3} (h : IsB3 w a len cap S) {i : Nat} (hi : i < len) : ∃ b off, a = some ⟨b, off, Option.none⟩ ∧ b < w.heap.size ∧ w.cell? ⟨b, off + i * 3, Option.none⟩ = some (.int .u8 ((S i).x : Nat)) ∧ w.cell? ⟨b, off + i * 3 + 1, Option.none⟩ = some (.int .u8 ((S i).y : Nat)) ∧ w.cell? ⟨b, off + i * 3 + 2, Option.none⟩ = some (.int .u8 ((S i).z : Nat)) := by
  obtain ⟨b, off, rfl, hlt, hc⟩ := h.cell (by omega)
  exact ⟨b, off, rfl, hlt, hc i hi⟩
def QOk (n i ρ : Nat) (m : Int) (Q : Nat → Int × Int) : Prop := ∀ k, k < n → (Q k).1 ≤ i ∨ Q k = ((ρ : Int), m)
theorem q_set {n i ρ k : Nat} {m : Int} {Q : Nat → Int × Int} (h : QOk n i ρ m Q) : QOk n i ρ m (updH Q k ((ρ : Int), m)) := fun j hj => by
  unfold updH
  split
  · exact .inr rfl
  · exact h j hj
theorem q_next {n i ρ : Nat} {m : Int} {Q : Nat → Int × Int} (h : QOk n i ρ m Q) (hρ : ρ = i + 1) : ∀ k, k < n → (Q k).1 ≤ ((i + 1 : Nat) : Int) := fun k hk => by
  rcases h k hk with h | h
  · omega
  · rw [h]; simp only; omega
/-- A block of another type that Add leaves. -/
theorem blkP {w W W' : World} {b q : Nat} {s : St} {cs : Array Value} {T : TypeId} (x : PAt w b s W) (h : W.heap[q]? = some (.cells cs T (0, 0))) (hT : T ≠ TP) (hK : Keeps (fun j => j = b) W W') : W'.heap[q]? = some (.cells cs T (0, 0)) := by
  obtain ⟨vs, hx⟩ := x.px
  refine (hK.block q (Array.getElem?_eq_some_iff.1 h).1 ?_).trans h
  rintro rfl
  have h1 := hx.box
  rw [h] at h1
  injection h1 with h1
  injection h1 with _ h1
  exact hT h1
theorem el_nil : ByteArray.toList ⟨#[]⟩ = [] := by rw [ByteArray.toList_eq]
theorem step_append_x {ops : Array Oper} {o : Oper} {a : Act} {w : World} {K : Act → World → Prop} {Q : Exit → Act → World → Prop} {E : Prop} (hgd : o.guard = none) (s x : Operand)
    (ho : o.op = .call { callee := .builtin .append, args := #[s, x], argTypes := #[TEs, TEs] })
    (base : Nat) (v : Value) (L : List Et) (hs : a.eval s = v) (hown : OwE base L v w) (g c : Nat) (y : Et) (hx : a.eval x = .slice (some ⟨g, 0, none⟩) 1 c) (hc : w.heap[g]? = some (.cells (ec y).toArray TE (0, 0)))
    (hn : L.length ≤ 100000) (hbase : base ≤ w.heap.size)
    (h : ∀ v' w', OwE base (L ++ [y]) v' w' → w.grownBy w' v.ownBlock → K (a.put o.dst v') w') :
    if Region.wanted o (yielded ops a.tmps) = true then Oper.wp Try.prog o a w K Q else E := by
  have hw : Region.wanted o (yielded ops a.tmps) = true := by simp [Region.wanted, hgd]
  rw [if_pos hw]
  obtain ⟨v', w', hrun, h1, h2⟩ := run_append_e base w o.type v L hown g c y hc hn hbase
  unfold Oper.wp execOp
  simp only [ho, resolve, invoke, builtin, Sem.run_bind, Sem.run_pure, Result.andThen_ok, List.map_toArray, List.map_cons, List.map_nil, hs, hx, hrun]
  exact h v' w' h1 h2
theorem wf_nat (k : Nat) (h : k ≤ 100000) : (Lit.int .i64 (k : Nat)).wf = true := by
  have e1 : IntKind.i64.min = -9223372036854775808 := by decide
  have e2 : IntKind.i64.max = 9223372036854775807 := by decide
  simp [Lit.wf, e1, e2]
  omega
theorem conv_two (W : World) (B1 B2 : Nat) (h1 : B1 < 256) (h2 : B2 < 256) : (convert 65 9 (.slice (some ⟨W.heap.size, 0, none⟩) 2 2)).run Try.prog (W.alloc (.cells #[.int .u8 (B1 : Nat), .int .u8 (B2 : Nat)] 5)) = .ok (.string ⟨#[UInt8.ofNat B1, UInt8.ofNat B2]⟩) (W.alloc (.cells #[.int .u8 (B1 : Nat), .int .u8 (B2 : Nat)] 5)) := by
  have hc := heap_alloc_new W (.cells #[.int .u8 (B1 : Nat), .int .u8 (B2 : Nat)] 5)
  exact run_convert_bytes_back (W.alloc (.cells #[.int .u8 (B1 : Nat), .int .u8 (B2 : Nat)] 5)) 65 9 5 ⟨W.heap.size, 0, none⟩ 2 [UInt8.ofNat B1, UInt8.ofNat B2] Try.underlying65 Try.underlying5 Try.underlying9 (fun j hj => by
    rcases (show j = 0 ∨ j = 1 by simp at hj; omega) with rfl | rfl
    · rw [addr_add, cell_of_row _ _ _ _ _ _ hc]
      simp [UInt8.toNat_ofNat', Nat.mod_eq_of_lt h1]
    · rw [addr_add, cell_of_row _ _ _ _ _ _ hc]
      simp [UInt8.toNat_ofNat', Nat.mod_eq_of_lt h2])
set_option maxHeartbeats 16000000 in
theorem safe_go (a0 : Nat) (a1 : Option Addr) (len1 cap1 : Nat) (S : Nat → B3) (w : World) (h0 : a0 ≤ 255) (h1 : IsB3 w a1 len1 cap1 S) :
    Calls Try.prog 5 #[.int .u8 (a0 : Nat), .slice a1 len1 cap1] w (Yes w) := by
  have HW := Lib.hid (fun W => works_any W)
  obtain ⟨n, hn⟩ : ∃ n, n = 1 + a0 % 7 := ⟨_, rfl⟩
  have hn1 : 1 ≤ n := by omega
  have hn7 : n ≤ 7 := by omega
  have f1 : IntKind.i64.wrap (a0 : Nat) = (a0 : Nat) := by rw [IntKind.wrap_i64]; omega
  have f2 : (a0 : Int).tmod 7 = ((a0 % 7 : Nat) : Int) := (Int.ofNat_tmod a0 7).symm
  have f3 : IntKind.i64.wrap (1 + ((a0 % 7 : Nat) : Int)) = (n : Nat) := by rw [hn, IntKind.wrap_i64]; omega
  generalize hd : a0 % 7 = d at *
  clear hd hn
  by_cases hl : len1 ≤ 40
  · have b1 : decide (40 < (len1 : Int)) = false := by simp; omega
    have b2 : ¬ (40 : Int) < (len1 : Int) := by omega
    obtain ⟨i0, hi, hz0, hz1, hz2⟩ := info_p info_v
    obtain ⟨i1, ki, kz0, kz1, kz2⟩ := info_p info_b
    have hmm := @run_makeMap Try.prog
    go_enter Try.func5, Try.ntmps5
    go_wp2_with (first
      | (at_make; refine wpList_make_full _ rfl _ _ TVs rfl w.heap.size TV i0 (vtA zV) 3 Try.underlying59 hi hz0 hz1 _ _ _ _ n rfl rfl rfl rfl (by rw [hz2]; omega) (by unfold maxLen; omega) (Nat.le_refl _) ?_; intro w1 hown1 hg1)
      | (at_make; refine wpList_make_full _ rfl _ _ TBs rfl w1.heap.size TB i1 (.agg #[.int .i64 0, .int .i64 0]) 2 Try.underlying60 ki kz0 kz1 _ _ _ _ n rfl rfl rfl rfl (by rw [kz2]; omega) (by unfold maxLen; omega) (Nat.le_refl _) ?_; intro w2 hown2 hg2))
    rw [made_v n hn7] at hown1
    rw [made_b n hn7] at hown2
    have hS0 : Sf w n w.heap.size w1.heap.size w2.heap.size (fun _ => zV) (fun _ => (0, 0)) (fun _ => 0) (w2.alloc (.map #[] 0)) := by
      have e1 := made_is hown1
      have e2 := made_is hown2
      have hb1 : Below w.heap.size w w1 := (Below.refl _ w).grown hg1 (Nat.le_refl _) (fun k e => by cases e)
      have hb2 : Below w1.heap.size w1 w2 := (Below.refl _ w1).grown hg2 (Nat.le_refl _) (fun k e => by cases e)
      have hb3 := alloc_b w2 (.map #[] 0)
      have l1 := (Array.getElem?_eq_some_iff.1 e1).1
      have e1' := (hb2.block _ l1).trans e1
      exact ⟨(hb3.block _ (Array.getElem?_eq_some_iff.1 e1').1).trans e1', (hb3.block _ (Array.getElem?_eq_some_iff.1 e2).1).trans e2, MpC.made w2, ⟨Nat.le_refl _, hb1.size, Nat.le_trans hb1.size hb2.size⟩, (hb1.trans (hb2.mono hb1.size)).trans (hb3.mono (Nat.le_trans hb1.size hb2.size))⟩
    generalize w2.alloc (.map #[] 0) = w3 at *
    generalize hq1 : w.heap.size = hb at *
    generalize w1.heap.size = pb at *
    generalize w2.heap.size = mb at *
    clear f1 f2 f3 hown1 hown2 hg1 hg2 hi hz0 hz1 hz2 ki kz0 kz1 kz2 hmm
    go_loopw [9, 10] (fun t i wr => ∃ (j : Nat) (H : Nat → Vt) (Q : Nat → Int × Int) (C : Vt → Int) (c : ByteArray), j ≤ len1 ∧ i = .int .i64 j ∧ t = .string c ∧ Pl n j H c ∧ (∀ k, k < n → (Q k).1 ≤ j) ∧ (∀ x, C x ≠ 0 → x.r ≤ j) ∧ Sf w n hb pb mb H Q C wr) (fun _ i _ => len1 - nOf i)
    case atStart => exact ⟨0, _, _, _, e0, by omega, rfl, rfl, pl0 n, fun _ _ => Int.le_refl 0, fun x h => absurd rfl h, hS0⟩
    case round =>
      clear hS0
      obtain ⟨j, H, Q, C, c, hj, rfl, rfl, hP, hQ, hC, hF⟩ := hrel
      by_cases hlt : j < len1
      · obtain ⟨lb, off, rfl, hlb, d0, d1, d2⟩ := h1.at (W := w) hlt
        obtain ⟨r0, r1, r2⟩ := h1.rng j
        generalize S j = xx at *
        obtain ⟨x, y, z⟩ := xx
        simp only at d0 d1 d2 r0 r1 r2
        have hL := Lib.hid (fun (W : World) (hb : Below w.heap.size w W) => (show W.cell? ⟨lb, off + j * 3, none⟩ = some (.int .u8 (x : Nat)) ∧ W.cell? ⟨lb, off + j * 3 + 1, none⟩ = some (.int .u8 (y : Nat)) ∧ W.cell? ⟨lb, off + j * 3 + 2, none⟩ = some (.int .u8 (z : Nat)) from ⟨(hb.cell (p := ⟨lb, _, none⟩) hlb).trans d0, (hb.cell (p := ⟨lb, _, none⟩) hlb).trans d1, (hb.cell (p := ⟨lb, _, none⟩) hlb).trans d2⟩))
        clear d0 d1 d2
        obtain ⟨q0, _, _⟩ := hL.out _ hF.bel
        obtain ⟨m, hm⟩ : ∃ m, m = x % n := ⟨_, rfl⟩
        have hmn : m < n := by rw [hm]; exact Nat.mod_lt _ (by omega)
        obtain ⟨ρ, hρ⟩ : ∃ ρ, ρ = j + 1 := ⟨_, rfl⟩
        have g0 : IntKind.i64.wrap ((j : Int) + 1) = (ρ : Nat) := by rw [hρ, IntKind.wrap_i64]; omega
        have g1 : IntKind.i64.wrap (x : Nat) = (x : Nat) := by rw [IntKind.wrap_i64]; omega
        have g2 : (x : Int).tmod (n : Nat) = (m : Nat) := by rw [hm]; exact (Int.ofNat_tmod x n).symm
        have f12 : ((n : Int) == 0) = false := by simp; omega
        have f14 : ¬ (n : Int) = 0 := by omega
        have f15 : ¬ n = 0 := by omega
        have i2 : (j : Int) < (len1 : Nat) := by omega
        have i3 : decide ((j : Int) < (len1 : Int)) = true := by simpa using i2
        have i4 : (0 : Int) ≤ (j : Nat) := by omega
        have hQ' : Hid (QOk n j ρ (m : Nat) Q) := Lib.hid (fun k hk => Or.inl (hQ k hk))
        have hF1 := hF.alloc (.cells #[.int .i64 (ρ : Nat), .int .i64 (m : Nat)] TB)
        have hqb := heap_alloc_new wr (.cells #[.int .i64 (ρ : Nat), .int .i64 (m : Nat)] TB)
        have qc0 := cell_of_row _ _ 0 _ TB _ hqb
        have qc1 := cell_of_row _ _ 1 _ TB _ hqb
        have HN := Lib.hid (fun W (hb : Below w.heap.size w W) => new_at (n : Nat) (ρ : Nat) (m : Nat) 0 ⟨by omega, ⟨by omega, by omega, by omega, by omega⟩, by decide, by decide⟩ w W hb)
        have hpl := Lib.hid (show pb < wr.heap.size from (Array.getElem?_eq_some_iff.1 hF.pro).1)
        replace hF1 := Lib.hid hF1
        replace hqb := Lib.hid hqb
        replace hP := Lib.hid hP
        replace hC := Lib.hid hC
        replace hρ := Lib.hid hρ
        clear hF hQ hm
        as_aux_lemma =>
          go_wp2_with (go_at_call 12; refine (HN.out _ hF1.out.bel).mono ?_; rintro e w4 ⟨b, rfl, hp4, _, hb4⟩)
          have hF4 := hF1.out.later hb4
          have hq4 := (hb4.block _ (Array.getElem?_eq_some_iff.1 hqb.out).1).trans hqb.out
          have hqp : wr.heap.size ≠ pb := by
            have := hpl.out
            omega
          obtain ⟨f, hf⟩ : ∃ f : Nat → Bool, f = fun k => y.testBit k := ⟨_, rfl⟩
          have hp40 : PAt w b (prS n (ρ : Nat) (m : Nat) H f 0) w4 := by rw [prS_zero]; exact hp4
          have hr0 : rdy (prS n (ρ : Nat) (m : Nat) H f 0) = false := by
            have hρ1 := hρ.out
            rw [prS_zero, rdy_pc (ok_new ⟨by omega, ⟨by omega, by omega, by omega, by omega⟩, by decide, by decide⟩)]
            have e1 : nodesK (newS (n : Nat) (ρ : Nat) (m : Nat) 0).P 7 = 0 := rfl
            rw [e1, pc_zero]
            exact decide_eq_false (by show ¬ ((n : Nat) : Int) < _; omega)
          have hr0' := Lib.hid (congrArg Value.bool hr0.symm)
          have hQ0 := hQ'.out
          replace hf := Lib.hid hf
          clear hr0 hp4 hb4 hF1 hqb hQ' qc0 qc1 q0 HN hpl
          generalize wr.heap.size = qb at *
          go_loopw [14, 15] (fun rd i wr => ∃ (k : Nat) (Q' : Nat → Int × Int), k ≤ n ∧ i = .int .i64 k ∧ rd = .bool (rdy (prS n (ρ : Nat) (m : Nat) H f k)) ∧ QOk n j ρ (m : Nat) Q' ∧ Sf w n hb pb mb H Q' C wr ∧ PAt w b (prS n (ρ : Nat) (m : Nat) H f k) wr ∧ wr.heap[qb]? = some (.cells #[.int .i64 (ρ : Nat), .int .i64 (m : Nat)] TB (0, 0))) (fun _ i _ => n - nOf i)
          case atStart => exact ⟨0, Q, by omega, rfl, hr0'.out, hQ0, hF4, hp40, hq4⟩
          case round =>
            clear hF4 hp40 hq4 hQ0 hr0'
            obtain ⟨k, Q', hk, rfl, rfl, hQk, hF, hp, hq⟩ := hrel
            by_cases hkn : k < n
            · have k1 : (k : Int) < (n : Nat) := by omega
              have k2 : decide ((k : Int) < (n : Int)) = true := by simpa using k1
              have k3 : (0 : Int) ≤ (k : Nat) := by omega
              have k4 : ¬ (k : Int) < 0 := by omega
              obtain ⟨_, q1, _⟩ := hL.out _ hF.bel
              have hbit := u8_bit y k r1
              have hfk : f k = y.testBit k := by rw [hf.out]
              rw [← hfk] at hbit
              cases hfv : f k with
              | false =>
                rw [hfv] at hbit
                simp only [Bool.false_eq_true, if_false] at hbit
                have hsk := Lib.hid (prS_skip (n := n) (r := (ρ : Nat)) (m := (m : Nat)) (H := H) hfv)
                replace hF := Lib.hid hF
                replace hp := Lib.hid hp
                replace hq := Lib.hid hq
                replace hQk := Lib.hid hQk
                clear hfk hfv
                as_aux_lemma =>
                  go_wp2
                  go_roundw
                  case rel => exact ⟨k + 1, Q', by omega, by go_num, by rw [hsk.out], hQk.out, hF.out, by rw [hsk.out]; exact hp.out, hq.out⟩
                  case measure => simp [nOf]; omega
              | true =>
                rw [hfv] at hbit
                simp only [if_true] at hbit
                have hadd := prS_add (r := (ρ : Nat)) (m := (m : Nat)) hP.out (by omega) hkn hfv
                obtain ⟨_, _, htl⟩ := okL_told hP.out (by omega) hkn
                have hA : Hid (∀ W v, PAt w b (prS n (ρ : Nat) (m : Nat) H f k) W → IsE W v (told (H k)) → Calls Try.prog 27 #[.pointer (some ⟨b, 0, none⟩), .int .i64 (k : Nat), v, .int .i64 0] W fun e W' => e = .returned (.tuple #[.bool (rdy (prS n (ρ : Nat) (m : Nat) H f (k + 1))), .int .i64 0]) ∧ PAt w b (prS n (ρ : Nat) (m : Nat) H f (k + 1)) W' ∧ Keeps (fun j => j = b) W W') := Lib.hid fun W v hx hv => by
                  have := hx.add k v 0 (told (H k)) hv (by omega)
                  rw [hadd.1, hadd.2.1, hadd.2.2] at this
                  exact this
                obtain ⟨p0, p1⟩ := hF.cellQ hkn
                have z0 := (hF.froz (k * 2)).2
                have z1 := (hF.froz (k * 2 + 1)).2
                have qc0 := cell_of_row _ _ 0 _ TB _ hq
                have qc1 := cell_of_row _ _ 1 _ TB _ hq
                have hF5 := hF.setQ hkn (ρ : Nat) (m : Nat)
                have hK5 : Keeps (fun j => j = pb) wr ((wr.setCell ⟨pb, k * 2, none⟩ (.int .i64 (ρ : Nat))).setCell ⟨pb, k * 2 + 1, none⟩ (.int .i64 (m : Nat))) := ((Keeps.refl (fun j => j = pb) wr).setCell (p := ⟨pb, _, none⟩) (.inl rfl) _).setCell (p := ⟨pb, _, none⟩) (.inl rfl) _
                have hp5 := hp.keptB hF.pro hK5 hF.lo.2.1
                have hq5 := (hK5.block _ (Array.getElem?_eq_some_iff.1 hq).1 hqp).trans hq
                have hQ5 := q_set (k := k) hQk
                obtain ⟨v0, v1, v2⟩ := hF5.cellH hkn
                generalize (Q' k).1 = o1 at *
                generalize (Q' k).2 = o2 at *
                have hnk := Lib.hid (show told (H k) = if (H k).v = e0 then [] else [⟨0, (H k).r, (H k).m, (H k).v⟩] from rfl)
                obtain ⟨X, hX⟩ : ∃ X, X = H k := ⟨_, rfl⟩
                rw [← hX] at hA hnk v0 v1 v2
                obtain ⟨xr, xm, xv⟩ := X
                simp only at v0 v1 v2 hnk
                replace hF5 := Lib.hid hF5
                replace hp5 := Lib.hid hp5
                replace hq5 := Lib.hid hq5
                replace hQ5 := Lib.hid hQ5
                clear hX hF hp hq hQk hK5 hadd htl hfk hfv
                by_cases hxv : xv = e0
                · subst hxv
                  rw [if_pos rfl] at hnk
                  as_aux_lemma =>
                    go_wp2_with fail
                    refine (hA.out _ _ hp5.out (by rw [hnk.out]; exact is_nil _)).mono ?_
                    rintro e W6 ⟨rfl, hp6, hK6⟩
                    have hF6 := hF5.out.prop hp5.out hK6
                    have hq6 := blkP hp5.out hq5.out (by decide) hK6
                    replace hp6 := Lib.hid hp6
                    replace hF6 := Lib.hid hF6
                    replace hq6 := Lib.hid hq6
                    as_aux_lemma =>
                      go_wp2
                      go_roundw
                      case rel => exact ⟨k + 1, _, by omega, by go_num, rfl, hQ5.out, hF6.out, hp6.out, hq6.out⟩
                      case measure => simp [nOf]; omega
                · rw [if_neg hxv] at hnk
                  have hl1 : ¬ xv.toList = [] := fun e => hxv (ba_list (by rw [e, el_nil]))
                  have hl2 : (xv.toList == []) = false := by simpa using hl1
                  have hl3 : (xv.toList == ByteArray.toList ⟨#[]⟩) = false := by rw [el_nil]; exact hl2
                  clear hxv
                  as_aux_lemma =>
                    go_wp2
                    generalize (wr.setCell ⟨pb, k * 2, none⟩ (.int .i64 (ρ : Nat))).setCell ⟨pb, k * 2 + 1, none⟩ (.int .i64 (m : Nat)) = W5 at *
                    refine wp_region_held_drew (S := (fun W' => W'.cell? ⟨hb, k * 3, none⟩ = some (.int .i64 xr) ∧ W'.cell? ⟨hb, k * 3 + 1, none⟩ = some (.int .i64 xm) ∧ W'.cell? ⟨hb, k * 3 + 2, none⟩ = some (.string xv))) (by kernel_rfl) (⟨v0, v1, v2⟩) (fun hS => ?_)
                    try simp only [List.getElem_toArray, List.getElem_cons_succ, List.getElem_cons_zero, Act.put, List.setIfInBounds_toArray, List.set_cons_zero, List.set_cons_succ]
                    refine wpAnyH_take (i := 0) (v := .slice none 0 0) rfl (by kernel_rfl) (by kernel_rfl) (by kernel_rfl) (fun _ _ _ h => h) (Or.inl ⟨by kernel_rfl, by intro w' hSw; obtain ⟨s0, s1, s2⟩ := hSw; go_simp⟩) hS ?_
                    try simp only [List.getElem_toArray, List.getElem_cons_succ, List.getElem_cons_zero, Act.put, List.setIfInBounds_toArray, List.set_cons_zero, List.set_cons_succ]
                    refine wpAnyH_take (i := 1) (v := .slice (some ⟨hb, 0, none⟩) n n) rfl (by kernel_rfl) (by kernel_rfl) (by kernel_rfl) (fun _ _ _ h => h) (Or.inl ⟨by kernel_rfl, by intro w' hSw; obtain ⟨s0, s1, s2⟩ := hSw; go_simp⟩) hS ?_
                    try simp only [List.getElem_toArray, List.getElem_cons_succ, List.getElem_cons_zero, Act.put, List.setIfInBounds_toArray, List.set_cons_zero, List.set_cons_succ]
                    refine wpAnyH_take (i := 2) (v := .int .i64 k) rfl (by kernel_rfl) (by kernel_rfl) (by kernel_rfl) (fun _ _ _ h => h) (Or.inl ⟨by kernel_rfl, by intro w' hSw; obtain ⟨s0, s1, s2⟩ := hSw; go_simp⟩) hS ?_
                    try simp only [List.getElem_toArray, List.getElem_cons_succ, List.getElem_cons_zero, Act.put, List.setIfInBounds_toArray, List.set_cons_zero, List.set_cons_succ]
                    refine wpAnyH_take (i := 3) (v := .pointer (some ⟨hb, k * 3, none⟩)) rfl (by kernel_rfl) (by kernel_rfl) (by kernel_rfl) (fun _ _ _ h => h) (Or.inl ⟨by kernel_rfl, by intro w' hSw; obtain ⟨s0, s1, s2⟩ := hSw; go_simp⟩) hS ?_
                    try simp only [List.getElem_toArray, List.getElem_cons_succ, List.getElem_cons_zero, Act.put, List.setIfInBounds_toArray, List.set_cons_zero, List.set_cons_succ]
                    refine wpAnyH_take (i := 4) (v := .pointer (some ⟨hb, k * 3, none⟩)) rfl (by kernel_rfl) (by kernel_rfl) (by kernel_rfl) (fun _ _ _ h => h) (Or.inl ⟨by kernel_rfl, by intro w' hSw; obtain ⟨s0, s1, s2⟩ := hSw; go_simp⟩) hS ?_
                    try simp only [List.getElem_toArray, List.getElem_cons_succ, List.getElem_cons_zero, Act.put, List.setIfInBounds_toArray, List.set_cons_zero, List.set_cons_succ]
                    refine wpAnyH_take (i := 5) (v := .agg #[.int .i64 xr, .int .i64 xm]) rfl (by kernel_rfl) (by kernel_rfl) (by kernel_rfl) (fun _ _ _ h => h) (Or.inl ⟨by kernel_rfl, by intro w' hSw; obtain ⟨s0, s1, s2⟩ := hSw; go_simp⟩) hS ?_
                    try simp only [List.getElem_toArray, List.getElem_cons_succ, List.getElem_cons_zero, Act.put, List.setIfInBounds_toArray, List.set_cons_zero, List.set_cons_succ]
                    refine wpAnyH_take (i := 6) (v := .slice (some ⟨hb, 0, none⟩) n n) rfl (by kernel_rfl) (by kernel_rfl) (by kernel_rfl) (fun _ _ _ h => h) (Or.inl ⟨by kernel_rfl, by intro w' hSw; obtain ⟨s0, s1, s2⟩ := hSw; go_simp⟩) hS ?_
                    try simp only [List.getElem_toArray, List.getElem_cons_succ, List.getElem_cons_zero, Act.put, List.setIfInBounds_toArray, List.set_cons_zero, List.set_cons_succ]
                    refine wpAnyH_take (i := 7) (v := .int .i64 k) rfl (by kernel_rfl) (by kernel_rfl) (by kernel_rfl) (fun _ _ _ h => h) (Or.inl ⟨by kernel_rfl, by intro w' hSw; obtain ⟨s0, s1, s2⟩ := hSw; go_simp⟩) hS ?_
                    try simp only [List.getElem_toArray, List.getElem_cons_succ, List.getElem_cons_zero, Act.put, List.setIfInBounds_toArray, List.set_cons_zero, List.set_cons_succ]
                    refine wpAnyH_take (i := 8) (v := .pointer (some ⟨hb, k * 3, none⟩)) rfl (by kernel_rfl) (by kernel_rfl) (by kernel_rfl) (fun _ _ _ h => h) (Or.inl ⟨by kernel_rfl, by intro w' hSw; obtain ⟨s0, s1, s2⟩ := hSw; go_simp⟩) hS ?_
                    try simp only [List.getElem_toArray, List.getElem_cons_succ, List.getElem_cons_zero, Act.put, List.setIfInBounds_toArray, List.set_cons_zero, List.set_cons_succ]
                    refine wpAnyH_take (i := 9) (v := .pointer (some ⟨hb, k * 3 + 2, none⟩)) rfl (by kernel_rfl) (by kernel_rfl) (by kernel_rfl) (fun _ _ _ h => h) (Or.inl ⟨by kernel_rfl, by intro w' hSw; obtain ⟨s0, s1, s2⟩ := hSw; go_simp⟩) hS ?_
                    try simp only [List.getElem_toArray, List.getElem_cons_succ, List.getElem_cons_zero, Act.put, List.setIfInBounds_toArray, List.set_cons_zero, List.set_cons_succ]
                    refine wpAnyH_take (i := 10) (v := .string xv) rfl (by kernel_rfl) (by kernel_rfl) (by kernel_rfl) (fun _ _ _ h => h) (Or.inl ⟨by kernel_rfl, by intro w' hSw; obtain ⟨s0, s1, s2⟩ := hSw; go_simp⟩) hS ?_
                    try simp only [List.getElem_toArray, List.getElem_cons_succ, List.getElem_cons_zero, Act.put, List.setIfInBounds_toArray, List.set_cons_zero, List.set_cons_succ]
                    refine wpAnyH_take (i := 11) (v := .agg #[.int .i64 0, .int .i64 xr, .int .i64 xm, .string xv]) rfl (by kernel_rfl) (by kernel_rfl) (by kernel_rfl) (fun _ _ _ h => h) (Or.inl ⟨by kernel_rfl, by intro w' hSw; obtain ⟨s0, s1, s2⟩ := hSw; go_simp⟩) hS ?_
                    try simp only [List.getElem_toArray, List.getElem_cons_succ, List.getElem_cons_zero, Act.put, List.setIfInBounds_toArray, List.set_cons_zero, List.set_cons_succ]
                    refine wpAnyH_ready (rs := [12]) (by kernel_rfl) (by simp) ?_
                    refine AllReadyH.cons rfl (fun K hK => ?_) AllReadyH.nil
                    go_simp
                    have hba := alloc_b W5.drew (.cells #[.int .i64 0, .int .i64 xr, .int .i64 xm, .string xv] TE)
                    have hlt5 := Lib.hid (World.block_lt_of_cell? W5 _ v0)
                    refine hK.out _ _ ⟨(hba.cell (p := ⟨hb, k * 3, none⟩) hlt5.out).trans v0, (hba.cell (p := ⟨hb, k * 3 + 1, none⟩) hlt5.out).trans v1, (hba.cell (p := ⟨hb, k * 3 + 2, none⟩) hlt5.out).trans v2⟩ (fun hS => ?_)
                    clear hK K
                    try simp only [List.getElem_toArray, List.getElem_cons_succ, List.getElem_cons_zero, Act.put, List.setIfInBounds_toArray, List.set_cons_zero, List.set_cons_succ]
                    refine wpAnyH_ready (rs := [13]) (by kernel_rfl) (by simp) ?_
                    refine AllReadyH.cons rfl (fun K hK => ?_) AllReadyH.nil
                    refine step_append_x rfl (.tmp 85) (.tmp 97) rfl 0 (.slice none 0 0) [] (by simp [Act.eval]) (OwE.nil 0 _) W5.heap.size 1 ⟨0, xr, xm, xv⟩ (by simp [Act.eval]) (heap_alloc_new _ _) (by decide) (Nat.zero_le _) ?_
                    intro v6 w6 hO6 hg6
                    have hb6 : Below W5.heap.size W5 w6 := ((Below.refl W5.heap.size W5).drew.trans ((alloc_b W5.drew _).mono (Nat.le_refl _))).grown hg6 (by have := hg6.size; simp) (fun k e => by cases e)
                    refine hK.out _ _ ⟨(hb6.cell (p := ⟨hb, k * 3, none⟩) hlt5.out).trans v0, (hb6.cell (p := ⟨hb, k * 3 + 1, none⟩) hlt5.out).trans v1, (hb6.cell (p := ⟨hb, k * 3 + 2, none⟩) hlt5.out).trans v2⟩ (fun hS => ?_)
                    clear hK K
                    try simp only [List.getElem_toArray, List.getElem_cons_succ, List.getElem_cons_zero, Act.put, List.setIfInBounds_toArray, List.set_cons_zero, List.set_cons_succ]
                    refine wpAnyH_ready (rs := [14]) (by kernel_rfl) (by simp) ?_
                    refine AllReadyH.cons rfl (fun K hK => ?_) AllReadyH.nil
                    go_simp
                    refine hK.out _ _ hS (fun hS => ?_)
                    clear hK K
                    try simp only [List.getElem_toArray, List.getElem_cons_succ, List.getElem_cons_zero, Act.put, List.setIfInBounds_toArray, List.set_cons_zero, List.set_cons_succ]
                    refine wpAnyH_done (by kernel_rfl) ?_ _
                    clear hS
                    have hi6 : IsE w6 v6 (told ⟨xr, xm, xv⟩) := by rw [hnk.out]; exact hO6.is
                    have hp6' := Lib.hid (hp5.out.later hb6)
                    have hF6' := Lib.hid (hF5.out.later hb6)
                    have hq6' := Lib.hid ((hb6.block _ (Array.getElem?_eq_some_iff.1 hq5.out).1).trans hq5.out)
                    replace hi6 := Lib.hid hi6
                    clear hO6 hg6 hb6 hp5 hF5 hq5 v0 v1 v2 hl1 hl2 hl3 hba hlt5
                    as_aux_lemma =>
                      go_wp2_with fail
                      refine (hA.out _ _ hp6'.out hi6.out).mono ?_
                      rintro e W7 ⟨rfl, hp7, hK7⟩
                      have hF7 := hF6'.out.prop hp6'.out hK7
                      have hq7 := blkP hp6'.out hq6'.out (by decide) hK7
                      replace hp7 := Lib.hid hp7
                      replace hF7 := Lib.hid hF7
                      replace hq7 := Lib.hid hq7
                      as_aux_lemma =>
                        go_wp2
                        go_roundw
                        case rel => exact ⟨k + 1, _, by omega, by go_num, rfl, hQ5.out, hF7.out, hp7.out, hq7.out⟩
                        case measure => simp [nOf]; omega
            -- TAIL
            · have hkl : n = k := by omega
              subst hkl
              have k2 : decide ((n : Int) < (n : Int)) = false := by simp
              have hRc : rdy (prS n (ρ : Nat) (m : Nat) H f n) = decide (n < 2 * cntK f n) := by
                rw [rdy_pc hp.ok, prS_nodes n hn7, set_pc f n hn7]
                exact decide_eq_decide.2 (by show ((n : Nat) : Int) < _ ↔ _; omega)
              have hVs := hp.values
              unfold valE valL at hVs
              replace hp := Lib.hid hp
              replace hF := Lib.hid hF
              replace hq := Lib.hid hq
              replace hQk := Lib.hid hQk
              obtain ⟨R, hR⟩ : ∃ R, R = rdy (prS n (ρ : Nat) (m : Nat) H f n) := ⟨_, rfl⟩
              rw [← hR] at hVs hRc ⊢
              replace hR := hR.symm
              cases R with
              | false =>
                simp only [Bool.false_eq_true, if_false] at hVs
                have hVs2 : Hid (Calls Try.prog 16 #[.pointer (some ⟨b, 0, none⟩)] wr fun e W' => ∃ a c, e = .returned (.tuple #[.slice a 0 c, .int .i64 9]) ∧ Below wr.heap.size wr W') := Lib.hid (hVs.mono (by
                  rintro e W' ⟨v, rfl, hO, hb⟩
                  obtain ⟨a, c, rfl⟩ := rows_form hO
                  exact ⟨a, c, rfl, hb⟩))
                clear hVs hRc
                replace hR := Lib.hid hR
                as_aux_lemma =>
                  go_wp2_with fail
                  refine hVs2.out.mono ?_
                  rintro e W7 ⟨va, vcap, rfl, hb7⟩
                  have hRd := (hp.out.later hb7).ready
                  rw [hR.out] at hRd
                  replace hRd := Lib.hid hRd
                  go_wp2_with fail
                  refine hRd.out.mono ?_
                  rintro e W8 ⟨rfl, hb8⟩
                  have hF8 := Lib.hid (hF.out.later (below2 hb7 hb8))
                  have hPn := Lib.hid (pl_mono hP.out)
                  have hQn := Lib.hid (q_next hQk.out hρ.out)
                  have hCn : Hid (∀ x, C x ≠ 0 → x.r ≤ ((j + 1 : Nat) : Int)) := Lib.hid fun x hx => by have := hC.out x hx; omega
                  clear hb7 hb8
                  go_wp2
                  go_roundw
                  case rel => exact ⟨j + 1, H, Q', C, c, by omega, by rw [hρ.out], rfl, hPn.out, hQn.out, hCn.out, hF8.out⟩
                  case measure => simp [nOf]; have := hρ.out; omega
              | true =>
                have hr2 := (of_decide_eq_true hRc.symm)
                clear hRc
                simp only [if_true] at hVs
                rcases vals_safe (r := (ρ : Nat)) (m := (m : Nat)) hP.out hn7 hr2 with hA' | hB
                · obtain ⟨hvl, hce⟩ := hA'
                  rw [hvl] at hVs
                  subst hce
                  have hVs2 : Hid (Calls Try.prog 16 #[.pointer (some ⟨b, 0, none⟩)] wr fun e W' => ∃ a c, e = .returned (.tuple #[.slice a 0 c, .int .i64 0]) ∧ Below wr.heap.size wr W') := Lib.hid (hVs.mono (by
                    rintro e W' ⟨v, rfl, hO, hb⟩
                    obtain ⟨a, c, rfl⟩ := rows_form hO
                    exact ⟨a, c, rfl, hb⟩))
                  clear hVs
                  as_aux_lemma =>
                    go_wp2_with fail
                    refine hVs2.out.mono ?_
                    rintro e W7 ⟨va, vcap, rfl, hb7⟩
                    have hRd := (hp.out.later hb7).ready
                    rw [hR] at hRd
                    replace hRd := Lib.hid hRd
                    replace hb7 := Lib.hid hb7
                    replace hR := Lib.hid hR
                    replace hvl := Lib.hid hvl
                    replace hr2 := Lib.hid hr2
                    go_wp2_with fail
                    refine hRd.out.mono ?_
                    rintro e W8 ⟨rfl, hb8⟩
                    replace hb7 := hb7.out
                    obtain ⟨B1, hB1⟩ : ∃ B1 : Nat, B1 = 97 + j % 26 := ⟨_, rfl⟩
                    obtain ⟨B2, hB2⟩ : ∃ B2 : Nat, B2 = 97 + j / 26 := ⟨_, rfl⟩
                    have a1 : IntKind.u8.wrap (j : Nat) = (j : Nat) := by rw [IntKind.wrap_u8]; omega
                    have a2 : (j : Int).tmod 26 = ((j % 26 : Nat) : Int) := (Int.ofNat_tmod j 26).symm
                    have a3 : (j : Int).tdiv 26 = ((j / 26 : Nat) : Int) := (Int.ofNat_tdiv j 26).symm
                    have a4 : IntKind.u8.wrap ((j % 26 : Nat) : Int) = ((j % 26 : Nat) : Int) := by rw [IntKind.wrap_u8]; omega
                    have a5 : IntKind.u8.wrap ((j / 26 : Nat) : Int) = ((j / 26 : Nat) : Int) := by rw [IntKind.wrap_u8]; omega
                    have a6 : IntKind.u8.wrap (97 + ((j % 26 : Nat) : Int)) = (B1 : Nat) := by rw [hB1, IntKind.wrap_u8]; omega
                    have a7 : IntKind.u8.wrap (97 + ((j / 26 : Nat) : Int)) = (B2 : Nat) := by rw [hB2, IntKind.wrap_u8]; omega
                    have hB1l : B1 < 256 := by omega
                    have hB2l : B2 < 256 := by omega
                    generalize j % 26 = j1 at *
                    generalize j / 26 = j2 at *
                    clear hB1 hB2
                    obtain ⟨V, hV⟩ : ∃ V : ByteArray, V = ⟨#[UInt8.ofNat B1, UInt8.ofNat B2]⟩ := ⟨_, rfl⟩
                    have hV1 : V ≠ e0 := by rw [hV]; intro h; have := congrArg ByteArray.size h; cases this
                    have hV2 : V.size ≤ 2 := by rw [hV]; exact Nat.le_refl 2
                    have hV3 : (e0 : ByteArray) ≠ e0 → V = e0 := fun h => absurd rfl h
                    have hcv : Hid (∀ W : World, (convert 65 9 (.slice (some ⟨W.heap.size, 0, none⟩) 2 2)).run Try.prog (W.alloc (.cells #[.int .u8 (B1 : Nat), .int .u8 (B2 : Nat)] 5)) = .ok (.string V) (W.alloc (.cells #[.int .u8 (B1 : Nat), .int .u8 (B2 : Nat)] 5))) := Lib.hid fun W => by rw [hV]; exact conv_two W B1 B2 hB1l hB2l
                    clear hV
                    have hb78 := below2 hb7 hb8
                    have hcv8 := hcv.out W8
                    have hb9 := below2 hb78 (alloc_b W8 (.cells #[.int .u8 (B1 : Nat), .int .u8 (B2 : Nat)] 5))
                    clear hb7 hb8
                    replace hb9 := Lib.hid hb9
                    go_wp2
                    go_quiet (fail)
                    have hd9 : Below wr.heap.size wr ((W8.alloc (.cells #[.int .u8 (B1 : Nat), .int .u8 (B2 : Nat)] 5)).drewN nq) := hb9.out.trans ⟨rfl, rfl, rfl, Nat.le_refl _, fun _ _ => rfl⟩
                    have hF9 := hF.out.later hd9
                    have hq9 := (hd9.block _ (Array.getElem?_eq_some_iff.1 hq.out).1).trans hq.out
                    generalize (W8.alloc (.cells #[.int .u8 (B1 : Nat), .int .u8 (B2 : Nat)] 5)).drewN nq = W9 at *
                    obtain ⟨c, hce⟩ : ∃ c : ByteArray, c = e0 := ⟨_, rfl⟩
                    rw [← hce] at hP
                    clear hV3
                    have hV3 : c ≠ e0 → V = c := fun h => absurd hce h
                    replace hce := Lib.hid hce
                    replace hF9 := Lib.hid hF9
                    replace hq9 := Lib.hid hq9
                    clear hd9 hb9
                    have hlz := Lib.hid (fun (W : World) (hb' : Below w.heap.size w W) => (hL.out W hb').2.2)
                    obtain ⟨g, hg⟩ : ∃ g : Nat → Bool, g = fun k => z.testBit k := ⟨_, rfl⟩
                    replace hg := Lib.hid hg
                    have hst0 := Lib.hid (show chK n c V (cntK g 0) = c from if_neg (by show ¬ n < 2 * 0; omega))
                    have hC0 := Lib.hid (show updC C ⟨(ρ : Nat), (m : Nat), V⟩ ((cntK g 0 : Nat) : Int) = C from by
                      funext x
                      unfold updC
                      split
                      · rename_i e
                        subst e
                        by_cases h : C ⟨(ρ : Nat), (m : Nat), V⟩ = 0
                        · rw [h]; rfl
                        · have := hC.out _ h
                          have := hρ.out
                          simp only at *
                          omega
                      · rfl)
                    have hA0 := Lib.hid (show accH H ⟨(ρ : Nat), (m : Nat), V⟩ g 0 = H from funext fun j => if_neg (by omega))
                    as_aux_lemma =>
                      go_wp2
                      go_loopw [9, 22] (fun t i wr => ∃ (k : Nat) (Q' : Nat → Int × Int), k ≤ n ∧ i = .int .i64 k ∧ t = .string (chK n c V (cntK g k)) ∧ QOk n j ρ (m : Nat) Q' ∧ Sf w n hb pb mb (accH H ⟨(ρ : Nat), (m : Nat), V⟩ g k) Q' (updC C ⟨(ρ : Nat), (m : Nat), V⟩ ((cntK g k : Nat) : Int)) wr ∧ wr.heap[qb]? = some (.cells #[.int .i64 (ρ : Nat), .int .i64 (m : Nat)] TB (0, 0))) (fun _ i _ => n - nOf i)
                      case atStart => exact ⟨0, Q', by omega, rfl, by rw [hst0.out, hce.out], hQk.out, by rw [hA0.out, hC0.out]; exact hF9.out, hq9.out⟩
                      case round =>
                        clear hF9 hq9 hst0 hC0 hA0
                        obtain ⟨k, Q2, hk, rfl, rfl, hQ2, hF, hq⟩ := hrel
                        by_cases hkn : k < n
                        · have k1 : (k : Int) < (n : Nat) := by omega
                          have k2 : decide ((k : Int) < (n : Int)) = true := by simpa using k1
                          have k3 : (0 : Int) ≤ (k : Nat) := by omega
                          have k4 : ¬ (k : Int) < 0 := by omega
                          have q2 := hlz.out _ hF.bel
                          have hbit := u8_bit z k r2
                          have hgk : g k = z.testBit k := by rw [hg.out]
                          rw [← hgk] at hbit
                          cases hgv : g k with
                          | false =>
                            rw [hgv] at hbit
                            simp only [Bool.false_eq_true, if_false] at hbit
                            have hsk := Lib.hid (acc_skip (H := H) (x := ⟨(ρ : Nat), (m : Nat), V⟩) hgv)
                            have hck := Lib.hid (show cntK g (k + 1) = cntK g k from by show cntK g k + (if g k then 1 else 0) = _; rw [hgv]; rfl)
                            obtain ⟨p0, p1⟩ := hF.cellQ hkn
                            have qc0 := cell_of_row _ _ 0 _ TB _ hq
                            have qc1 := cell_of_row _ _ 1 _ TB _ hq
                            have hdr : Hid (∀ m' : Nat, Below wr.heap.size wr (wr.drewN m')) := Lib.hid fun m' => (Below.refl _ _).trans ⟨rfl, rfl, rfl, Nat.le_refl _, fun _ _ => rfl⟩
                            replace hF := Lib.hid hF
                            replace hq := Lib.hid hq
                            replace hQ2 := Lib.hid hQ2
                            obtain ⟨ck, hckk⟩ : ∃ ck, ck = chK n c V (cntK g k) := ⟨_, rfl⟩
                            rw [← hckk]
                            replace hckk := Lib.hid hckk
                            clear hgk hgv
                            as_aux_lemma =>
                              go_wp2
                              go_quiet (fail)
                              go_wp2
                              go_roundw
                              case rel => exact ⟨k + 1, Q2, by omega, by go_num, by rw [hck.out, ← hckk.out], hQ2.out, by rw [hsk.out, hck.out]; exact hF.out.later (hdr.out _), ((hdr.out _).block _ (Array.getElem?_eq_some_iff.1 hq.out).1).trans hq.out⟩
                              case measure => simp [nOf]; omega
                          | true =>
                            have hov : decide (0 < ordV (Q2 k).1 (Q2 k).2 (ρ : Nat) (m : Nat)) = false := by
                              rw [ord_gt]
                              unfold gtB
                              have hρ1 := hρ.out
                              rcases hQ2 k hkn with h | h
                              · rw [decide_eq_false (show ¬ ((ρ : Nat) : Int) < (Q2 k).1 by omega), decide_eq_false (show ¬ (Q2 k).1 = ((ρ : Nat) : Int) by omega)]
                                rfl
                              · rw [h]
                                simp
                            have hOr := fun W => order_any (Q2 k).1 (Q2 k).2 (ρ : Nat) (m : Nat) W
                            have hS3 : Hid (∀ W, Sf w n hb pb mb (accH H ⟨(ρ : Nat), (m : Nat), V⟩ g k) Q2 (updC C ⟨(ρ : Nat), (m : Nat), V⟩ ((cntK g k : Nat) : Int)) W ∧ W.heap[qb]? = some (.cells #[.int .i64 (ρ : Nat), .int .i64 (m : Nat)] TB (0, 0)) →
                                (W.cell? ⟨lb, off + j * 3 + 2, none⟩ = some (.int .u8 (z : Nat)) ∧ W.cell? ⟨pb, k * 2, none⟩ = some (.int .i64 (Q2 k).1) ∧ W.cell? ⟨pb, k * 2 + 1, none⟩ = some (.int .i64 (Q2 k).2) ∧ W.cell? ⟨qb, 0, none⟩ = some (.int .i64 (ρ : Nat)) ∧ W.cell? ⟨qb, 1, none⟩ = some (.int .i64 (m : Nat)) ∧
                                  (Sf w n hb pb mb (accH H ⟨(ρ : Nat), (m : Nat), V⟩ g k) Q2 (updC C ⟨(ρ : Nat), (m : Nat), V⟩ ((cntK g k : Nat) : Int)) W ∧ W.heap[qb]? = some (.cells #[.int .i64 (ρ : Nat), .int .i64 (m : Nat)] TB (0, 0))))) := Lib.hid fun W h => by
                              obtain ⟨p0, p1⟩ := h.1.cellQ hkn
                              exact ⟨hlz.out _ h.1.bel, p0, p1, cell_of_row _ _ 0 _ TB _ h.2, cell_of_row _ _ 1 _ TB _ h.2, h⟩
                            rw [hgv] at hbit
                            simp only [if_true] at hbit
                            have hF0 := Lib.hid (show Sf w n hb pb mb (accH H ⟨(ρ : Nat), (m : Nat), V⟩ g k) Q2 (updC C ⟨(ρ : Nat), (m : Nat), V⟩ ((cntK g k : Nat) : Int)) wr.drew ∧ wr.drew.heap[qb]? = some (.cells #[.int .i64 (ρ : Nat), .int .i64 (m : Nat)] TB (0, 0)) from ⟨hF.later (Below.refl _ _).drew, hq⟩)
                            have hck := Lib.hid (show cntK g (k + 1) = cntK g k + 1 from by show cntK g k + (if g k then 1 else 0) = _; rw [hgv]; rfl)
                            have hcl := cnt_le g k
                            have hac := Lib.hid (acc_step (H := H) (x := ⟨(ρ : Nat), (m : Nat), V⟩) hgv)
                            replace hQ2 := Lib.hid hQ2
                            obtain ⟨ck, hckk⟩ : ∃ ck, ck = chK n c V (cntK g k) := ⟨_, rfl⟩
                            rw [← hckk]
                            replace hckk := Lib.hid hckk
                            clear hF hq hgk hgv
                            generalize hqq : cntK g k = q at *
                            generalize accH H ⟨(ρ : Nat), (m : Nat), V⟩ g k = H2 at *
                            replace hqq := Lib.hid hqq
                            generalize ordV (Q2 k).1 (Q2 k).2 (ρ : Nat) (m : Nat) = ov at *
                            generalize (Q2 k).1 = o1 at *
                            generalize (Q2 k).2 = o2 at *
                            have hov2 : ¬ 0 < ov := by simpa using hov
                            replace hOr := Lib.hid hOr
                            as_aux_lemma =>
                              go_wp2
                              go_region_held3 (fun W => W.cell? ⟨lb, off + j * 3 + 2, none⟩ = some (.int .u8 (z : Nat)) ∧ W.cell? ⟨pb, k * 2, none⟩ = some (.int .i64 o1) ∧ W.cell? ⟨pb, k * 2 + 1, none⟩ = some (.int .i64 o2) ∧ W.cell? ⟨qb, 0, none⟩ = some (.int .i64 (ρ : Nat)) ∧ W.cell? ⟨qb, 1, none⟩ = some (.int .i64 (m : Nat)) ∧
                                  (Sf w n hb pb mb H2 Q2 (updC C ⟨(ρ : Nat), (m : Nat), V⟩ ((q : Nat) : Int)) W ∧ W.heap[qb]? = some (.cells #[.int .i64 (ρ : Nat), .int .i64 (m : Nat)] TB (0, 0))))
                                (first | exact hS3.out _ hF0.out | exact hS3.out _ (by assumption) | assumption)
                                ((go_at_call 29; refine (hOr.out _).mono ?_; rintro e2 w2 ⟨rfl, hb2⟩; have hF2 : Sf w n hb pb mb H2 Q2 (updC C ⟨(ρ : Nat), (m : Nat), V⟩ ((q : Nat) : Int)) w2 ∧ w2.heap[qb]? = some (.cells #[.int .i64 (ρ : Nat), .int .i64 (m : Nat)] TB (0, 0)) := ⟨hF0.out.1.later hb2, (hb2.block _ (Array.getElem?_eq_some_iff.1 hF0.out.2).1).trans hF0.out.2⟩))
                              obtain ⟨_, p0, p1, qc0, qc1, _, _⟩ := hS3.out _ hF2
                              obtain ⟨hF2, hq2⟩ := hF2
                              have z0 := (hF2.froz (k * 2)).2
                              have z1 := (hF2.froz (k * 2 + 1)).2
                              have hF5 := hF2.setQ hkn (ρ : Nat) (m : Nat)
                              obtain ⟨v0, v1, v2⟩ := hF5.cellH hkn
                              have y0 := (hF5.froz (k * 3)).1
                              have y1 := (hF5.froz (k * 3 + 1)).1
                              have y2 := (hF5.froz (k * 3 + 2)).1
                              have hK5 : Keeps (fun j => j = pb) w2 ((w2.setCell ⟨pb, k * 2, none⟩ (.int .i64 (ρ : Nat))).setCell ⟨pb, k * 2 + 1, none⟩ (.int .i64 (m : Nat))) := ((Keeps.refl (fun j => j = pb) w2).setCell (p := ⟨pb, _, none⟩) (.inl rfl) _).setCell (p := ⟨pb, _, none⟩) (.inl rfl) _
                              have hq5 := (hK5.block _ (Array.getElem?_eq_some_iff.1 hq2).1 hqp).trans hq2
                              have qd0 := cell_of_row _ _ 0 _ TB _ hq5
                              have qd1 := cell_of_row _ _ 1 _ TB _ hq5
                              have hF6 := hF5.setH hkn ⟨(ρ : Nat), (m : Nat), V⟩
                              have hqh : qb ≠ hb := by
                                rintro rfl
                                have h1 := hF5.has
                                rw [hq5] at h1
                                injection h1 with h1
                                injection h1 with _ h1
                                exact absurd h1 (by decide)
                              have hK6 : Keeps (fun j => j = hb) ((w2.setCell ⟨pb, k * 2, none⟩ (.int .i64 (ρ : Nat))).setCell ⟨pb, k * 2 + 1, none⟩ (.int .i64 (m : Nat))) (((((w2.setCell ⟨pb, k * 2, none⟩ (.int .i64 (ρ : Nat))).setCell ⟨pb, k * 2 + 1, none⟩ (.int .i64 (m : Nat))).setCell ⟨hb, k * 3, none⟩ (.int .i64 (ρ : Nat))).setCell ⟨hb, k * 3 + 1, none⟩ (.int .i64 (m : Nat))).setCell ⟨hb, k * 3 + 2, none⟩ (.string V)) := (((Keeps.refl (fun j => j = hb) _).setCell (p := ⟨hb, _, none⟩) (.inl rfl) _).setCell (p := ⟨hb, _, none⟩) (.inl rfl) _).setCell (p := ⟨hb, _, none⟩) (.inl rfl) _
                              have hq6 := (hK6.block _ (Array.getElem?_eq_some_iff.1 hq5).1 hqh).trans hq5
                              generalize (H2 k).r = u0 at v0
                              generalize (H2 k).m = u1 at v1
                              generalize (H2 k).v = u2 at v2
                              replace hF2 := Lib.hid hF2
                              replace hF5 := Lib.hid hF5
                              replace hF6 := Lib.hid hF6
                              replace hq6 := Lib.hid hq6
                              clear hK5 hK6 hq5 hq2
                              as_aux_lemma =>
                                go_wp2
                                generalize ((((w2.setCell ⟨pb, k * 2, none⟩ (.int .i64 (ρ : Nat))).setCell ⟨pb, k * 2 + 1, none⟩ (.int .i64 (m : Nat))).setCell ⟨hb, k * 3, none⟩ (.int .i64 (ρ : Nat))).setCell ⟨hb, k * 3 + 1, none⟩ (.int .i64 (m : Nat))).setCell ⟨hb, k * 3 + 2, none⟩ (.string V) = W6 at *
                                clear v0 v1 v2 y0 y1 y2 z0 z1 p0 p1 qc0 qc1 qd0 qd1 hF2 hF5
                                have hwf : WfV ⟨(ρ : Nat), (m : Nat), V⟩ := ⟨wf_nat ρ (by have := hρ.out; omega), wf_nat m (by omega), by show V.size ≤ maxLen; have := hV2; unfold maxLen; omega⟩
                                have hF6d := hF6.out.later (Below.refl _ W6).drew
                                have hk1 : updC C ⟨(ρ : Nat), (m : Nat), V⟩ ((q : Nat) : Int) ⟨(ρ : Nat), (m : Nat), V⟩ = (q : Nat) := if_pos rfl
                                have hlk := hF6d.mp.look _ hwf
                                rw [hk1] at hlk
                                obtain ⟨st, W7, hme, hm7, hg7, hst7⟩ := hF6d.mp.entry _ hwf
                                rw [hk1] at hme
                                obtain ⟨W8, hes, hm8, hg8⟩ := hst7 ((q : Nat) + 1)
                                have hlk7 := hm7.look _ hwf
                                rw [hk1] at hlk7
                                have hF7 := hF6d.setM hg7 hm7
                                have hF8 := hF7.setM hg8 hm8
                                have hlk8 := hm8.look _ hwf
                                have hk8 : updC (updC C ⟨(ρ : Nat), (m : Nat), V⟩ ((q : Nat) : Int)) ⟨(ρ : Nat), (m : Nat), V⟩ ((q : Int) + 1) ⟨(ρ : Nat), (m : Nat), V⟩ = (q : Int) + 1 := if_pos rfl
                                rw [hk8] at hlk8
                                have hu : updH H2 k ⟨(ρ : Nat), (m : Nat), V⟩ k = ⟨(ρ : Nat), (m : Nat), V⟩ := if_pos rfl
                                obtain ⟨v0, v1, v2⟩ := hF6.out.cellH hkn
                                obtain ⟨x0, x1, x2⟩ := hF7.cellH hkn
                                obtain ⟨t0, t1, t2⟩ := hF8.cellH hkn
                                rw [hu] at v0 v1 v2 x0 x1 x2 t0 t1 t2
                                simp only at v0 v1 v2 x0 x1 x2 t0 t1 t2
                                have hbm : qb ≠ mb := by
                                  rintro rfl
                                  obtain ⟨es, clock, h1, _⟩ := hF6.out.mp.ex
                                  rw [hq6.out] at h1
                                  cases h1
                                have hq8 : W8.heap[qb]? = some (.cells #[.int .i64 (ρ : Nat), .int .i64 (m : Nat)] TB (0, 0)) := by
                                  have l6 := (Array.getElem?_eq_some_iff.1 hq6.out).1
                                  have h7 := (hg7.block qb l6 (fun e => hbm (by injection e))).trans hq6.out
                                  exact (hg8.block qb (Array.getElem?_eq_some_iff.1 h7).1 (fun e => hbm (by injection e))).trans h7
                                replace hF8 := Lib.hid hF8
                                replace hq8 := Lib.hid hq8
                                replace hwf := Lib.hid hwf
                                have w1 : IntKind.i64.wrap ((q : Int) + 1) = (q : Int) + 1 := by rw [IntKind.wrap_i64]; omega
                                have w2' : IntKind.i64.wrap (2 * ((q : Int) + 1)) = 2 * ((q : Int) + 1) := by rw [IntKind.wrap_i64]; omega
                                have hCe : Hid (updC (updC C ⟨(ρ : Nat), (m : Nat), V⟩ ((q : Nat) : Int)) ⟨(ρ : Nat), (m : Nat), V⟩ ((q : Int) + 1) = updC C ⟨(ρ : Nat), (m : Nat), V⟩ ((q + 1 : Nat) : Int)) := Lib.hid (by
                                  funext x
                                  unfold updC
                                  split
                                  · rfl
                                  · rfl)
                                clear hm7 hg7 hst7 hm8 hg8 hF6d hF7 hk1 hk8 hu hF6 hq6
                                as_aux_lemma =>
                                  go_region
                                  all_goals
                                    by_cases hqn : n < 2 * (q + 1)
                                    · have d1 : (n : Int) < 2 * ((q : Int) + 1) := by omega
                                      have d2 : decide ((n : Int) < 2 * ((q : Int) + 1)) = true := by simpa using d1
                                      have hcc := Lib.hid (show V = chK n c V (q + 1) from (if_pos hqn).symm)
                                      as_aux_lemma =>
                                        go_wp2
                                        go_roundw
                                        case rel => exact ⟨k + 1, updH Q2 k ((ρ : Int), (m : Int)), by omega, by go_num, by rw [hck.out, ← hcc.out], q_set hQ2.out, by rw [hac.out, hck.out, ← hCe.out]; exact hF8.out, hq8.out⟩
                                        case measure => simp [nOf]; omega
                                    · have d1 : ¬ (n : Int) < 2 * ((q : Int) + 1) := by omega
                                      have d2 : decide ((n : Int) < 2 * ((q : Int) + 1)) = false := by simpa using d1
                                      have hcc := Lib.hid (show ck = chK n c V (q + 1) from by rw [hckk.out]; unfold chK; rw [if_neg hqn, if_neg (by omega)])
                                      as_aux_lemma =>
                                        go_wp2
                                        go_roundw
                                        case rel => exact ⟨k + 1, updH Q2 k ((ρ : Int), (m : Int)), by omega, by go_num, by rw [hck.out, ← hcc.out], q_set hQ2.out, by rw [hac.out, hck.out, ← hCe.out]; exact hF8.out, hq8.out⟩
                                        case measure => simp [nOf]; omega
                        · have hkl3 : n = k := by omega
                          subst hkl3
                          have k2 : decide ((n : Int) < (n : Int)) = false := by simp
                          have hPn := Lib.hid (pl_next (m := (m : Nat)) (f := g) hP.out hn7 ⟨by omega, by omega⟩ ⟨hV1, hV2⟩ hV3)
                          have hQn := Lib.hid (q_next hQ2 hρ.out)
                          have hCn : Hid (∀ x, updC C ⟨(ρ : Nat), (m : Nat), V⟩ ((cntK g n : Nat) : Int) x ≠ 0 → x.r ≤ ((j + 1 : Nat) : Int)) := Lib.hid fun x hx => by
                            unfold updC at hx
                            split at hx
                            · rename_i e
                              subst e
                              have := hρ.out
                              simp only
                              omega
                            · have := hC.out x hx; omega
                          replace hF := Lib.hid hF
                          clear hq
                          as_aux_lemma =>
                            go_wp2
                            go_roundw
                            case rel => exact ⟨j + 1, _, Q2, _, _, by omega, by rw [hρ.out], rfl, by rw [hρ.out] at *; exact hPn.out, hQn.out, hCn.out, hF.out⟩
                            case measure => simp [nOf]; have := hρ.out; omega
                · obtain ⟨V, hvl, hV1, hV2, hV3⟩ := hB
                  rw [hvl] at hVs
                  have hVs2 : Hid (Calls Try.prog 16 #[.pointer (some ⟨b, 0, none⟩)] wr fun e W' => ∃ gm cm, e = .returned (.tuple #[.slice (some ⟨gm, 0, none⟩) 1 cm, .int .i64 0]) ∧ (gm < W'.heap.size ∧ W'.cell? ⟨gm, 0, none⟩ = some (.int .i64 0) ∧ W'.cell? ⟨gm, 1, none⟩ = some (.int .i64 (ρ : Nat)) ∧ W'.cell? ⟨gm, 2, none⟩ = some (.int .i64 (m : Nat)) ∧ W'.cell? ⟨gm, 3, none⟩ = some (.string V)) ∧ Below wr.heap.size wr W') := Lib.hid (hVs.mono (by
                    rintro e W' ⟨v, rfl, hO, hb⟩
                    obtain ⟨gm, cm, rfl, _, hgl, hc⟩ := hO.cells (Nat.zero_lt_one)
                    obtain ⟨c0, c1, c2, c3⟩ := hc 0 _ rfl
                    exact ⟨gm, cm, rfl, ⟨hgl, by simpa using c0, by simpa using c1, by simpa using c2, by simpa using c3⟩, hb⟩))
                  clear hVs
                  as_aux_lemma =>
                    go_wp2_with fail
                    refine hVs2.out.mono ?_
                    rintro e W7 ⟨gm, cm, rfl, hcm, hb7⟩
                    have hRd := (hp.out.later hb7).ready
                    rw [hR] at hRd
                    replace hRd := Lib.hid hRd
                    replace hb7 := Lib.hid hb7
                    replace hcm := Lib.hid hcm
                    replace hR := Lib.hid hR
                    replace hvl := Lib.hid hvl
                    replace hr2 := Lib.hid hr2
                    go_wp2_with fail
                    refine hRd.out.mono ?_
                    rintro e W8 ⟨rfl, hb8⟩
                    replace hb7 := hb7.out
                    have hm8 := Lib.hid (fun (W : World) (hb : Below W7.heap.size W7 W) => show W.cell? ⟨gm, 0, none⟩ = some (.int .i64 0) ∧ W.cell? ⟨gm, 1, none⟩ = some (.int .i64 (ρ : Nat)) ∧ W.cell? ⟨gm, 2, none⟩ = some (.int .i64 (m : Nat)) ∧ W.cell? ⟨gm, 3, none⟩ = some (.string V) from
                      ⟨(hb.cell (p := ⟨gm, 0, none⟩) hcm.out.1).trans hcm.out.2.1, (hb.cell (p := ⟨gm, 1, none⟩) hcm.out.1).trans hcm.out.2.2.1, (hb.cell (p := ⟨gm, 2, none⟩) hcm.out.1).trans hcm.out.2.2.2.1, (hb.cell (p := ⟨gm, 3, none⟩) hcm.out.1).trans hcm.out.2.2.2.2⟩)
                    obtain ⟨B1, hB1⟩ : ∃ B1 : Nat, B1 = 97 + j % 26 := ⟨_, rfl⟩
                    obtain ⟨B2, hB2⟩ : ∃ B2 : Nat, B2 = 97 + j / 26 := ⟨_, rfl⟩
                    have a1 : IntKind.u8.wrap (j : Nat) = (j : Nat) := by rw [IntKind.wrap_u8]; omega
                    have a2 : (j : Int).tmod 26 = ((j % 26 : Nat) : Int) := (Int.ofNat_tmod j 26).symm
                    have a3 : (j : Int).tdiv 26 = ((j / 26 : Nat) : Int) := (Int.ofNat_tdiv j 26).symm
                    have a4 : IntKind.u8.wrap ((j % 26 : Nat) : Int) = ((j % 26 : Nat) : Int) := by rw [IntKind.wrap_u8]; omega
                    have a5 : IntKind.u8.wrap ((j / 26 : Nat) : Int) = ((j / 26 : Nat) : Int) := by rw [IntKind.wrap_u8]; omega
                    have a6 : IntKind.u8.wrap (97 + ((j % 26 : Nat) : Int)) = (B1 : Nat) := by rw [hB1, IntKind.wrap_u8]; omega
                    have a7 : IntKind.u8.wrap (97 + ((j / 26 : Nat) : Int)) = (B2 : Nat) := by rw [hB2, IntKind.wrap_u8]; omega
                    have hB1l : B1 < 256 := by omega
                    have hB2l : B2 < 256 := by omega
                    generalize j % 26 = j1 at *
                    generalize j / 26 = j2 at *
                    clear hB1 hB2
                    obtain ⟨V0, hV⟩ : ∃ V0 : ByteArray, V0 = ⟨#[UInt8.ofNat B1, UInt8.ofNat B2]⟩ := ⟨_, rfl⟩
                    have hcv : Hid (∀ W : World, (convert 65 9 (.slice (some ⟨W.heap.size, 0, none⟩) 2 2)).run Try.prog (W.alloc (.cells #[.int .u8 (B1 : Nat), .int .u8 (B2 : Nat)] 5)) = .ok (.string V0) (W.alloc (.cells #[.int .u8 (B1 : Nat), .int .u8 (B2 : Nat)] 5))) := Lib.hid fun W => by rw [hV]; exact conv_two W B1 B2 hB1l hB2l
                    clear hV
                    have hb78 := below2 hb7 hb8
                    have hcv8 := hcv.out W8
                    have hb9 := below2 hb78 (alloc_b W8 (.cells #[.int .u8 (B1 : Nat), .int .u8 (B2 : Nat)] 5))
                    have hb79 := below2 hb8 (alloc_b W8 (.cells #[.int .u8 (B1 : Nat), .int .u8 (B2 : Nat)] 5))
                    obtain ⟨m0, m1, m2, m3⟩ := hm8.out _ hb79
                    have hq89 := (hb9.block _ (Array.getElem?_eq_some_iff.1 hq.out).1).trans hq.out
                    have qc0 := cell_of_row _ _ 0 _ TB _ hq89
                    have qc1 := cell_of_row _ _ 1 _ TB _ hq89
                    have hE33 := fun W => (eq_b (ρ : Nat) (m : Nat) (ρ : Nat) (m : Nat) W).trans (by rw [eqB_t ⟨rfl, rfl⟩])
                    have vl1 : ¬ V.toList = [] := fun e => hV1 (ba_list (by rw [e, el_nil]))
                    have vl2 : (V.toList == []) = false := by simpa using vl1
                    have vl3 : (V.toList == ByteArray.toList ⟨#[]⟩) = false := by rw [el_nil]; exact vl2
                    replace hb9 := Lib.hid hb9
                    replace hb79 := Lib.hid hb79
                    clear hb7 hb8 hq89 hb78
                    go_wp2
                    go_quiet (fail)
                    have hd9 : Below wr.heap.size wr ((W8.alloc (.cells #[.int .u8 (B1 : Nat), .int .u8 (B2 : Nat)] 5)).drewN nq) := hb9.out.trans ⟨rfl, rfl, rfl, Nat.le_refl _, fun _ _ => rfl⟩
                    have hF9 := hF.out.later hd9
                    have hq9 := (hd9.block _ (Array.getElem?_eq_some_iff.1 hq.out).1).trans hq.out
                    have hm9 := hm8.out _ (hb79.out.trans ⟨rfl, rfl, rfl, Nat.le_refl _, fun _ _ => rfl⟩ : Below W7.heap.size W7 ((W8.alloc (.cells #[.int .u8 (B1 : Nat), .int .u8 (B2 : Nat)] 5)).drewN nq))
                    clear m0 m1 m2 m3 qc0 qc1 hE33 vl1 vl2 vl3
                    generalize (W8.alloc (.cells #[.int .u8 (B1 : Nat), .int .u8 (B2 : Nat)] 5)).drewN nq = W9 at *
                    obtain ⟨m0, m1, m2, m3⟩ := hm9
                    replace hF9 := Lib.hid hF9
                    replace hq9 := Lib.hid hq9
                    clear hd9 hb9 hb79 hcv8
                    by_cases hc0 : c = e0
                    · subst hc0
                      obtain ⟨c, hce⟩ : ∃ c : ByteArray, c = e0 := ⟨_, rfl⟩
                      rw [← hce] at hP
                      clear hV3
                      have hV3 : c ≠ e0 → V = c := fun h => absurd hce h
                      replace hce := Lib.hid hce
                      have hlz := Lib.hid (fun (W : World) (hb' : Below w.heap.size w W) => (hL.out W hb').2.2)
                      obtain ⟨g, hg⟩ : ∃ g : Nat → Bool, g = fun k => z.testBit k := ⟨_, rfl⟩
                      replace hg := Lib.hid hg
                      have hst0 := Lib.hid (show chK n c V (cntK g 0) = c from if_neg (by show ¬ n < 2 * 0; omega))
                      have hC0 := Lib.hid (show updC C ⟨(ρ : Nat), (m : Nat), V⟩ ((cntK g 0 : Nat) : Int) = C from by
                        funext x
                        unfold updC
                        split
                        · rename_i e
                          subst e
                          by_cases h : C ⟨(ρ : Nat), (m : Nat), V⟩ = 0
                          · rw [h]; rfl
                          · have := hC.out _ h
                            have := hρ.out
                            simp only at *
                            omega
                        · rfl)
                      have hA0 := Lib.hid (show accH H ⟨(ρ : Nat), (m : Nat), V⟩ g 0 = H from funext fun j => if_neg (by omega))
                      as_aux_lemma =>
                        go_wp2
                        go_loopw [9, 22] (fun t i wr => ∃ (k : Nat) (Q' : Nat → Int × Int), k ≤ n ∧ i = .int .i64 k ∧ t = .string (chK n c V (cntK g k)) ∧ QOk n j ρ (m : Nat) Q' ∧ Sf w n hb pb mb (accH H ⟨(ρ : Nat), (m : Nat), V⟩ g k) Q' (updC C ⟨(ρ : Nat), (m : Nat), V⟩ ((cntK g k : Nat) : Int)) wr ∧ wr.heap[qb]? = some (.cells #[.int .i64 (ρ : Nat), .int .i64 (m : Nat)] TB (0, 0))) (fun _ i _ => n - nOf i)
                        case atStart => exact ⟨0, Q', by omega, rfl, by rw [hst0.out, hce.out], hQk.out, by rw [hA0.out, hC0.out]; exact hF9.out, hq9.out⟩
                        case round =>
                          clear hF9 hq9 hst0 hC0 hA0
                          obtain ⟨k, Q2, hk, rfl, rfl, hQ2, hF, hq⟩ := hrel
                          by_cases hkn : k < n
                          · have k1 : (k : Int) < (n : Nat) := by omega
                            have k2 : decide ((k : Int) < (n : Int)) = true := by simpa using k1
                            have k3 : (0 : Int) ≤ (k : Nat) := by omega
                            have k4 : ¬ (k : Int) < 0 := by omega
                            have q2 := hlz.out _ hF.bel
                            have hbit := u8_bit z k r2
                            have hgk : g k = z.testBit k := by rw [hg.out]
                            rw [← hgk] at hbit
                            cases hgv : g k with
                            | false =>
                              rw [hgv] at hbit
                              simp only [Bool.false_eq_true, if_false] at hbit
                              have hsk := Lib.hid (acc_skip (H := H) (x := ⟨(ρ : Nat), (m : Nat), V⟩) hgv)
                              have hck := Lib.hid (show cntK g (k + 1) = cntK g k from by show cntK g k + (if g k then 1 else 0) = _; rw [hgv]; rfl)
                              obtain ⟨p0, p1⟩ := hF.cellQ hkn
                              have qc0 := cell_of_row _ _ 0 _ TB _ hq
                              have qc1 := cell_of_row _ _ 1 _ TB _ hq
                              have hdr : Hid (∀ m' : Nat, Below wr.heap.size wr (wr.drewN m')) := Lib.hid fun m' => (Below.refl _ _).trans ⟨rfl, rfl, rfl, Nat.le_refl _, fun _ _ => rfl⟩
                              replace hF := Lib.hid hF
                              replace hq := Lib.hid hq
                              replace hQ2 := Lib.hid hQ2
                              obtain ⟨ck, hckk⟩ : ∃ ck, ck = chK n c V (cntK g k) := ⟨_, rfl⟩
                              rw [← hckk]
                              replace hckk := Lib.hid hckk
                              clear hgk hgv
                              as_aux_lemma =>
                                go_wp2
                                go_quiet (fail)
                                go_wp2
                                go_roundw
                                case rel => exact ⟨k + 1, Q2, by omega, by go_num, by rw [hck.out, ← hckk.out], hQ2.out, by rw [hsk.out, hck.out]; exact hF.out.later (hdr.out _), ((hdr.out _).block _ (Array.getElem?_eq_some_iff.1 hq.out).1).trans hq.out⟩
                                case measure => simp [nOf]; omega
                            | true =>
                              have hov : decide (0 < ordV (Q2 k).1 (Q2 k).2 (ρ : Nat) (m : Nat)) = false := by
                                rw [ord_gt]
                                unfold gtB
                                have hρ1 := hρ.out
                                rcases hQ2 k hkn with h | h
                                · rw [decide_eq_false (show ¬ ((ρ : Nat) : Int) < (Q2 k).1 by omega), decide_eq_false (show ¬ (Q2 k).1 = ((ρ : Nat) : Int) by omega)]
                                  rfl
                                · rw [h]
                                  simp
                              have hOr := fun W => order_any (Q2 k).1 (Q2 k).2 (ρ : Nat) (m : Nat) W
                              have hS3 : Hid (∀ W, Sf w n hb pb mb (accH H ⟨(ρ : Nat), (m : Nat), V⟩ g k) Q2 (updC C ⟨(ρ : Nat), (m : Nat), V⟩ ((cntK g k : Nat) : Int)) W ∧ W.heap[qb]? = some (.cells #[.int .i64 (ρ : Nat), .int .i64 (m : Nat)] TB (0, 0)) →
                                  (W.cell? ⟨lb, off + j * 3 + 2, none⟩ = some (.int .u8 (z : Nat)) ∧ W.cell? ⟨pb, k * 2, none⟩ = some (.int .i64 (Q2 k).1) ∧ W.cell? ⟨pb, k * 2 + 1, none⟩ = some (.int .i64 (Q2 k).2) ∧ W.cell? ⟨qb, 0, none⟩ = some (.int .i64 (ρ : Nat)) ∧ W.cell? ⟨qb, 1, none⟩ = some (.int .i64 (m : Nat)) ∧
                                    (Sf w n hb pb mb (accH H ⟨(ρ : Nat), (m : Nat), V⟩ g k) Q2 (updC C ⟨(ρ : Nat), (m : Nat), V⟩ ((cntK g k : Nat) : Int)) W ∧ W.heap[qb]? = some (.cells #[.int .i64 (ρ : Nat), .int .i64 (m : Nat)] TB (0, 0))))) := Lib.hid fun W h => by
                                obtain ⟨p0, p1⟩ := h.1.cellQ hkn
                                exact ⟨hlz.out _ h.1.bel, p0, p1, cell_of_row _ _ 0 _ TB _ h.2, cell_of_row _ _ 1 _ TB _ h.2, h⟩
                              rw [hgv] at hbit
                              simp only [if_true] at hbit
                              have hF0 := Lib.hid (show Sf w n hb pb mb (accH H ⟨(ρ : Nat), (m : Nat), V⟩ g k) Q2 (updC C ⟨(ρ : Nat), (m : Nat), V⟩ ((cntK g k : Nat) : Int)) wr.drew ∧ wr.drew.heap[qb]? = some (.cells #[.int .i64 (ρ : Nat), .int .i64 (m : Nat)] TB (0, 0)) from ⟨hF.later (Below.refl _ _).drew, hq⟩)
                              have hck := Lib.hid (show cntK g (k + 1) = cntK g k + 1 from by show cntK g k + (if g k then 1 else 0) = _; rw [hgv]; rfl)
                              have hcl := cnt_le g k
                              have hac := Lib.hid (acc_step (H := H) (x := ⟨(ρ : Nat), (m : Nat), V⟩) hgv)
                              replace hQ2 := Lib.hid hQ2
                              obtain ⟨ck, hckk⟩ : ∃ ck, ck = chK n c V (cntK g k) := ⟨_, rfl⟩
                              rw [← hckk]
                              replace hckk := Lib.hid hckk
                              clear hF hq hgk hgv
                              generalize hqq : cntK g k = q at *
                              generalize accH H ⟨(ρ : Nat), (m : Nat), V⟩ g k = H2 at *
                              replace hqq := Lib.hid hqq
                              generalize ordV (Q2 k).1 (Q2 k).2 (ρ : Nat) (m : Nat) = ov at *
                              generalize (Q2 k).1 = o1 at *
                              generalize (Q2 k).2 = o2 at *
                              have hov2 : ¬ 0 < ov := by simpa using hov
                              replace hOr := Lib.hid hOr
                              as_aux_lemma =>
                                go_wp2
                                go_region_held3 (fun W => W.cell? ⟨lb, off + j * 3 + 2, none⟩ = some (.int .u8 (z : Nat)) ∧ W.cell? ⟨pb, k * 2, none⟩ = some (.int .i64 o1) ∧ W.cell? ⟨pb, k * 2 + 1, none⟩ = some (.int .i64 o2) ∧ W.cell? ⟨qb, 0, none⟩ = some (.int .i64 (ρ : Nat)) ∧ W.cell? ⟨qb, 1, none⟩ = some (.int .i64 (m : Nat)) ∧
                                    (Sf w n hb pb mb H2 Q2 (updC C ⟨(ρ : Nat), (m : Nat), V⟩ ((q : Nat) : Int)) W ∧ W.heap[qb]? = some (.cells #[.int .i64 (ρ : Nat), .int .i64 (m : Nat)] TB (0, 0))))
                                  (first | exact hS3.out _ hF0.out | exact hS3.out _ (by assumption) | assumption)
                                  ((go_at_call 29; refine (hOr.out _).mono ?_; rintro e2 w2 ⟨rfl, hb2⟩; have hF2 : Sf w n hb pb mb H2 Q2 (updC C ⟨(ρ : Nat), (m : Nat), V⟩ ((q : Nat) : Int)) w2 ∧ w2.heap[qb]? = some (.cells #[.int .i64 (ρ : Nat), .int .i64 (m : Nat)] TB (0, 0)) := ⟨hF0.out.1.later hb2, (hb2.block _ (Array.getElem?_eq_some_iff.1 hF0.out.2).1).trans hF0.out.2⟩))
                                obtain ⟨_, p0, p1, qc0, qc1, _, _⟩ := hS3.out _ hF2
                                obtain ⟨hF2, hq2⟩ := hF2
                                have z0 := (hF2.froz (k * 2)).2
                                have z1 := (hF2.froz (k * 2 + 1)).2
                                have hF5 := hF2.setQ hkn (ρ : Nat) (m : Nat)
                                obtain ⟨v0, v1, v2⟩ := hF5.cellH hkn
                                have y0 := (hF5.froz (k * 3)).1
                                have y1 := (hF5.froz (k * 3 + 1)).1
                                have y2 := (hF5.froz (k * 3 + 2)).1
                                have hK5 : Keeps (fun j => j = pb) w2 ((w2.setCell ⟨pb, k * 2, none⟩ (.int .i64 (ρ : Nat))).setCell ⟨pb, k * 2 + 1, none⟩ (.int .i64 (m : Nat))) := ((Keeps.refl (fun j => j = pb) w2).setCell (p := ⟨pb, _, none⟩) (.inl rfl) _).setCell (p := ⟨pb, _, none⟩) (.inl rfl) _
                                have hq5 := (hK5.block _ (Array.getElem?_eq_some_iff.1 hq2).1 hqp).trans hq2
                                have qd0 := cell_of_row _ _ 0 _ TB _ hq5
                                have qd1 := cell_of_row _ _ 1 _ TB _ hq5
                                have hF6 := hF5.setH hkn ⟨(ρ : Nat), (m : Nat), V⟩
                                have hqh : qb ≠ hb := by
                                  rintro rfl
                                  have h1 := hF5.has
                                  rw [hq5] at h1
                                  injection h1 with h1
                                  injection h1 with _ h1
                                  exact absurd h1 (by decide)
                                have hK6 : Keeps (fun j => j = hb) ((w2.setCell ⟨pb, k * 2, none⟩ (.int .i64 (ρ : Nat))).setCell ⟨pb, k * 2 + 1, none⟩ (.int .i64 (m : Nat))) (((((w2.setCell ⟨pb, k * 2, none⟩ (.int .i64 (ρ : Nat))).setCell ⟨pb, k * 2 + 1, none⟩ (.int .i64 (m : Nat))).setCell ⟨hb, k * 3, none⟩ (.int .i64 (ρ : Nat))).setCell ⟨hb, k * 3 + 1, none⟩ (.int .i64 (m : Nat))).setCell ⟨hb, k * 3 + 2, none⟩ (.string V)) := (((Keeps.refl (fun j => j = hb) _).setCell (p := ⟨hb, _, none⟩) (.inl rfl) _).setCell (p := ⟨hb, _, none⟩) (.inl rfl) _).setCell (p := ⟨hb, _, none⟩) (.inl rfl) _
                                have hq6 := (hK6.block _ (Array.getElem?_eq_some_iff.1 hq5).1 hqh).trans hq5
                                generalize (H2 k).r = u0 at v0
                                generalize (H2 k).m = u1 at v1
                                generalize (H2 k).v = u2 at v2
                                replace hF2 := Lib.hid hF2
                                replace hF5 := Lib.hid hF5
                                replace hF6 := Lib.hid hF6
                                replace hq6 := Lib.hid hq6
                                clear hK5 hK6 hq5 hq2
                                as_aux_lemma =>
                                  go_wp2
                                  generalize ((((w2.setCell ⟨pb, k * 2, none⟩ (.int .i64 (ρ : Nat))).setCell ⟨pb, k * 2 + 1, none⟩ (.int .i64 (m : Nat))).setCell ⟨hb, k * 3, none⟩ (.int .i64 (ρ : Nat))).setCell ⟨hb, k * 3 + 1, none⟩ (.int .i64 (m : Nat))).setCell ⟨hb, k * 3 + 2, none⟩ (.string V) = W6 at *
                                  clear v0 v1 v2 y0 y1 y2 z0 z1 p0 p1 qc0 qc1 qd0 qd1 hF2 hF5
                                  have hwf : WfV ⟨(ρ : Nat), (m : Nat), V⟩ := ⟨wf_nat ρ (by have := hρ.out; omega), wf_nat m (by omega), by show V.size ≤ maxLen; have := hV2; unfold maxLen; omega⟩
                                  have hF6d := hF6.out.later (Below.refl _ W6).drew
                                  have hk1 : updC C ⟨(ρ : Nat), (m : Nat), V⟩ ((q : Nat) : Int) ⟨(ρ : Nat), (m : Nat), V⟩ = (q : Nat) := if_pos rfl
                                  have hlk := hF6d.mp.look _ hwf
                                  rw [hk1] at hlk
                                  obtain ⟨st, W7, hme, hm7, hg7, hst7⟩ := hF6d.mp.entry _ hwf
                                  rw [hk1] at hme
                                  obtain ⟨W8, hes, hm8, hg8⟩ := hst7 ((q : Nat) + 1)
                                  have hlk7 := hm7.look _ hwf
                                  rw [hk1] at hlk7
                                  have hF7 := hF6d.setM hg7 hm7
                                  have hF8 := hF7.setM hg8 hm8
                                  have hlk8 := hm8.look _ hwf
                                  have hk8 : updC (updC C ⟨(ρ : Nat), (m : Nat), V⟩ ((q : Nat) : Int)) ⟨(ρ : Nat), (m : Nat), V⟩ ((q : Int) + 1) ⟨(ρ : Nat), (m : Nat), V⟩ = (q : Int) + 1 := if_pos rfl
                                  rw [hk8] at hlk8
                                  have hu : updH H2 k ⟨(ρ : Nat), (m : Nat), V⟩ k = ⟨(ρ : Nat), (m : Nat), V⟩ := if_pos rfl
                                  obtain ⟨v0, v1, v2⟩ := hF6.out.cellH hkn
                                  obtain ⟨x0, x1, x2⟩ := hF7.cellH hkn
                                  obtain ⟨t0, t1, t2⟩ := hF8.cellH hkn
                                  rw [hu] at v0 v1 v2 x0 x1 x2 t0 t1 t2
                                  simp only at v0 v1 v2 x0 x1 x2 t0 t1 t2
                                  have hbm : qb ≠ mb := by
                                    rintro rfl
                                    obtain ⟨es, clock, h1, _⟩ := hF6.out.mp.ex
                                    rw [hq6.out] at h1
                                    cases h1
                                  have hq8 : W8.heap[qb]? = some (.cells #[.int .i64 (ρ : Nat), .int .i64 (m : Nat)] TB (0, 0)) := by
                                    have l6 := (Array.getElem?_eq_some_iff.1 hq6.out).1
                                    have h7 := (hg7.block qb l6 (fun e => hbm (by injection e))).trans hq6.out
                                    exact (hg8.block qb (Array.getElem?_eq_some_iff.1 h7).1 (fun e => hbm (by injection e))).trans h7
                                  replace hF8 := Lib.hid hF8
                                  replace hq8 := Lib.hid hq8
                                  replace hwf := Lib.hid hwf
                                  have w1 : IntKind.i64.wrap ((q : Int) + 1) = (q : Int) + 1 := by rw [IntKind.wrap_i64]; omega
                                  have w2' : IntKind.i64.wrap (2 * ((q : Int) + 1)) = 2 * ((q : Int) + 1) := by rw [IntKind.wrap_i64]; omega
                                  have hCe : Hid (updC (updC C ⟨(ρ : Nat), (m : Nat), V⟩ ((q : Nat) : Int)) ⟨(ρ : Nat), (m : Nat), V⟩ ((q : Int) + 1) = updC C ⟨(ρ : Nat), (m : Nat), V⟩ ((q + 1 : Nat) : Int)) := Lib.hid (by
                                    funext x
                                    unfold updC
                                    split
                                    · rfl
                                    · rfl)
                                  clear hm7 hg7 hst7 hm8 hg8 hF6d hF7 hk1 hk8 hu hF6 hq6
                                  as_aux_lemma =>
                                    go_region
                                    all_goals
                                      by_cases hqn : n < 2 * (q + 1)
                                      · have d1 : (n : Int) < 2 * ((q : Int) + 1) := by omega
                                        have d2 : decide ((n : Int) < 2 * ((q : Int) + 1)) = true := by simpa using d1
                                        have hcc := Lib.hid (show V = chK n c V (q + 1) from (if_pos hqn).symm)
                                        as_aux_lemma =>
                                          go_wp2
                                          go_roundw
                                          case rel => exact ⟨k + 1, updH Q2 k ((ρ : Int), (m : Int)), by omega, by go_num, by rw [hck.out, ← hcc.out], q_set hQ2.out, by rw [hac.out, hck.out, ← hCe.out]; exact hF8.out, hq8.out⟩
                                          case measure => simp [nOf]; omega
                                      · have d1 : ¬ (n : Int) < 2 * ((q : Int) + 1) := by omega
                                        have d2 : decide ((n : Int) < 2 * ((q : Int) + 1)) = false := by simpa using d1
                                        have hcc := Lib.hid (show ck = chK n c V (q + 1) from by rw [hckk.out]; unfold chK; rw [if_neg hqn, if_neg (by omega)])
                                        as_aux_lemma =>
                                          go_wp2
                                          go_roundw
                                          case rel => exact ⟨k + 1, updH Q2 k ((ρ : Int), (m : Int)), by omega, by go_num, by rw [hck.out, ← hcc.out], q_set hQ2.out, by rw [hac.out, hck.out, ← hCe.out]; exact hF8.out, hq8.out⟩
                                          case measure => simp [nOf]; omega
                          · have hkl3 : n = k := by omega
                            subst hkl3
                            have k2 : decide ((n : Int) < (n : Int)) = false := by simp
                            have hPn := Lib.hid (pl_next (m := (m : Nat)) (f := g) hP.out hn7 ⟨by omega, by omega⟩ ⟨hV1, hV2⟩ hV3)
                            have hQn := Lib.hid (q_next hQ2 hρ.out)
                            have hCn : Hid (∀ x, updC C ⟨(ρ : Nat), (m : Nat), V⟩ ((cntK g n : Nat) : Int) x ≠ 0 → x.r ≤ ((j + 1 : Nat) : Int)) := Lib.hid fun x hx => by
                              unfold updC at hx
                              split at hx
                              · rename_i e
                                subst e
                                have := hρ.out
                                simp only
                                omega
                              · have := hC.out x hx; omega
                            replace hF := Lib.hid hF
                            clear hq
                            as_aux_lemma =>
                              go_wp2
                              go_roundw
                              case rel => exact ⟨j + 1, _, Q2, _, _, by omega, by rw [hρ.out], rfl, by rw [hρ.out] at *; exact hPn.out, hQn.out, hCn.out, hF.out⟩
                              case measure => simp [nOf]; have := hρ.out; omega
                    · have hl1 : ¬ c.toList = [] := fun e => hc0 (ba_list (by rw [e, el_nil]))
                      have hl2 : (c.toList == []) = false := by simpa using hl1
                      have hl3 : (c.toList == ByteArray.toList ⟨#[]⟩) = false := by rw [el_nil]; exact hl2
                      have hVc : V = c := hV3 hc0
                      subst hVc
                      have hlz := Lib.hid (fun (W : World) (hb' : Below w.heap.size w W) => (hL.out W hb').2.2)
                      obtain ⟨g, hg⟩ : ∃ g : Nat → Bool, g = fun k => z.testBit k := ⟨_, rfl⟩
                      replace hg := Lib.hid hg
                      have hst0 := Lib.hid (show chK n V V (cntK g 0) = V from if_neg (by show ¬ n < 2 * 0; omega))
                      have hC0 := Lib.hid (show updC C ⟨(ρ : Nat), (m : Nat), V⟩ ((cntK g 0 : Nat) : Int) = C from by
                        funext x
                        unfold updC
                        split
                        · rename_i e
                          subst e
                          by_cases h : C ⟨(ρ : Nat), (m : Nat), V⟩ = 0
                          · rw [h]; rfl
                          · have := hC.out _ h
                            have := hρ.out
                            simp only at *
                            omega
                        · rfl)
                      have hA0 := Lib.hid (show accH H ⟨(ρ : Nat), (m : Nat), V⟩ g 0 = H from funext fun j => if_neg (by omega))
                      as_aux_lemma =>
                        go_wp2
                        clear hl1 hl2 hl3 hc0 m0 m1 m2 m3
                        go_loopw [9, 22] (fun t i wr => ∃ (k : Nat) (Q' : Nat → Int × Int), k ≤ n ∧ i = .int .i64 k ∧ t = .string (chK n V V (cntK g k)) ∧ QOk n j ρ (m : Nat) Q' ∧ Sf w n hb pb mb (accH H ⟨(ρ : Nat), (m : Nat), V⟩ g k) Q' (updC C ⟨(ρ : Nat), (m : Nat), V⟩ ((cntK g k : Nat) : Int)) wr ∧ wr.heap[qb]? = some (.cells #[.int .i64 (ρ : Nat), .int .i64 (m : Nat)] TB (0, 0))) (fun _ i _ => n - nOf i)
                        case atStart => exact ⟨0, Q', by omega, rfl, by rw [hst0.out], hQk.out, by rw [hA0.out, hC0.out]; exact hF9.out, hq9.out⟩
                        case round =>
                          clear hF9 hq9 hst0 hC0 hA0
                          obtain ⟨k, Q2, hk, rfl, rfl, hQ2, hF, hq⟩ := hrel
                          by_cases hkn : k < n
                          · have k1 : (k : Int) < (n : Nat) := by omega
                            have k2 : decide ((k : Int) < (n : Int)) = true := by simpa using k1
                            have k3 : (0 : Int) ≤ (k : Nat) := by omega
                            have k4 : ¬ (k : Int) < 0 := by omega
                            have q2 := hlz.out _ hF.bel
                            have hbit := u8_bit z k r2
                            have hgk : g k = z.testBit k := by rw [hg.out]
                            rw [← hgk] at hbit
                            cases hgv : g k with
                            | false =>
                              rw [hgv] at hbit
                              simp only [Bool.false_eq_true, if_false] at hbit
                              have hsk := Lib.hid (acc_skip (H := H) (x := ⟨(ρ : Nat), (m : Nat), V⟩) hgv)
                              have hck := Lib.hid (show cntK g (k + 1) = cntK g k from by show cntK g k + (if g k then 1 else 0) = _; rw [hgv]; rfl)
                              obtain ⟨p0, p1⟩ := hF.cellQ hkn
                              have qc0 := cell_of_row _ _ 0 _ TB _ hq
                              have qc1 := cell_of_row _ _ 1 _ TB _ hq
                              have hdr : Hid (∀ m' : Nat, Below wr.heap.size wr (wr.drewN m')) := Lib.hid fun m' => (Below.refl _ _).trans ⟨rfl, rfl, rfl, Nat.le_refl _, fun _ _ => rfl⟩
                              replace hF := Lib.hid hF
                              replace hq := Lib.hid hq
                              replace hQ2 := Lib.hid hQ2
                              obtain ⟨ck, hckk⟩ : ∃ ck, ck = chK n V V (cntK g k) := ⟨_, rfl⟩
                              rw [← hckk]
                              replace hckk := Lib.hid hckk
                              clear hgk hgv
                              as_aux_lemma =>
                                go_wp2
                                go_quiet (fail)
                                go_wp2
                                go_roundw
                                case rel => exact ⟨k + 1, Q2, by omega, by go_num, by rw [hck.out, ← hckk.out], hQ2.out, by rw [hsk.out, hck.out]; exact hF.out.later (hdr.out _), ((hdr.out _).block _ (Array.getElem?_eq_some_iff.1 hq.out).1).trans hq.out⟩
                                case measure => simp [nOf]; omega
                            | true =>
                              have hov : decide (0 < ordV (Q2 k).1 (Q2 k).2 (ρ : Nat) (m : Nat)) = false := by
                                rw [ord_gt]
                                unfold gtB
                                have hρ1 := hρ.out
                                rcases hQ2 k hkn with h | h
                                · rw [decide_eq_false (show ¬ ((ρ : Nat) : Int) < (Q2 k).1 by omega), decide_eq_false (show ¬ (Q2 k).1 = ((ρ : Nat) : Int) by omega)]
                                  rfl
                                · rw [h]
                                  simp
                              have hOr := fun W => order_any (Q2 k).1 (Q2 k).2 (ρ : Nat) (m : Nat) W
                              have hS3 : Hid (∀ W, Sf w n hb pb mb (accH H ⟨(ρ : Nat), (m : Nat), V⟩ g k) Q2 (updC C ⟨(ρ : Nat), (m : Nat), V⟩ ((cntK g k : Nat) : Int)) W ∧ W.heap[qb]? = some (.cells #[.int .i64 (ρ : Nat), .int .i64 (m : Nat)] TB (0, 0)) →
                                  (W.cell? ⟨lb, off + j * 3 + 2, none⟩ = some (.int .u8 (z : Nat)) ∧ W.cell? ⟨pb, k * 2, none⟩ = some (.int .i64 (Q2 k).1) ∧ W.cell? ⟨pb, k * 2 + 1, none⟩ = some (.int .i64 (Q2 k).2) ∧ W.cell? ⟨qb, 0, none⟩ = some (.int .i64 (ρ : Nat)) ∧ W.cell? ⟨qb, 1, none⟩ = some (.int .i64 (m : Nat)) ∧
                                    (Sf w n hb pb mb (accH H ⟨(ρ : Nat), (m : Nat), V⟩ g k) Q2 (updC C ⟨(ρ : Nat), (m : Nat), V⟩ ((cntK g k : Nat) : Int)) W ∧ W.heap[qb]? = some (.cells #[.int .i64 (ρ : Nat), .int .i64 (m : Nat)] TB (0, 0))))) := Lib.hid fun W h => by
                                obtain ⟨p0, p1⟩ := h.1.cellQ hkn
                                exact ⟨hlz.out _ h.1.bel, p0, p1, cell_of_row _ _ 0 _ TB _ h.2, cell_of_row _ _ 1 _ TB _ h.2, h⟩
                              rw [hgv] at hbit
                              simp only [if_true] at hbit
                              have hF0 := Lib.hid (show Sf w n hb pb mb (accH H ⟨(ρ : Nat), (m : Nat), V⟩ g k) Q2 (updC C ⟨(ρ : Nat), (m : Nat), V⟩ ((cntK g k : Nat) : Int)) wr.drew ∧ wr.drew.heap[qb]? = some (.cells #[.int .i64 (ρ : Nat), .int .i64 (m : Nat)] TB (0, 0)) from ⟨hF.later (Below.refl _ _).drew, hq⟩)
                              have hck := Lib.hid (show cntK g (k + 1) = cntK g k + 1 from by show cntK g k + (if g k then 1 else 0) = _; rw [hgv]; rfl)
                              have hcl := cnt_le g k
                              have hac := Lib.hid (acc_step (H := H) (x := ⟨(ρ : Nat), (m : Nat), V⟩) hgv)
                              replace hQ2 := Lib.hid hQ2
                              obtain ⟨ck, hckk⟩ : ∃ ck, ck = chK n V V (cntK g k) := ⟨_, rfl⟩
                              rw [← hckk]
                              replace hckk := Lib.hid hckk
                              clear hF hq hgk hgv
                              generalize hqq : cntK g k = q at *
                              generalize accH H ⟨(ρ : Nat), (m : Nat), V⟩ g k = H2 at *
                              replace hqq := Lib.hid hqq
                              generalize ordV (Q2 k).1 (Q2 k).2 (ρ : Nat) (m : Nat) = ov at *
                              generalize (Q2 k).1 = o1 at *
                              generalize (Q2 k).2 = o2 at *
                              have hov2 : ¬ 0 < ov := by simpa using hov
                              replace hOr := Lib.hid hOr
                              as_aux_lemma =>
                                go_wp2
                                go_region_held3 (fun W => W.cell? ⟨lb, off + j * 3 + 2, none⟩ = some (.int .u8 (z : Nat)) ∧ W.cell? ⟨pb, k * 2, none⟩ = some (.int .i64 o1) ∧ W.cell? ⟨pb, k * 2 + 1, none⟩ = some (.int .i64 o2) ∧ W.cell? ⟨qb, 0, none⟩ = some (.int .i64 (ρ : Nat)) ∧ W.cell? ⟨qb, 1, none⟩ = some (.int .i64 (m : Nat)) ∧
                                    (Sf w n hb pb mb H2 Q2 (updC C ⟨(ρ : Nat), (m : Nat), V⟩ ((q : Nat) : Int)) W ∧ W.heap[qb]? = some (.cells #[.int .i64 (ρ : Nat), .int .i64 (m : Nat)] TB (0, 0))))
                                  (first | exact hS3.out _ hF0.out | exact hS3.out _ (by assumption) | assumption)
                                  ((go_at_call 29; refine (hOr.out _).mono ?_; rintro e2 w2 ⟨rfl, hb2⟩; have hF2 : Sf w n hb pb mb H2 Q2 (updC C ⟨(ρ : Nat), (m : Nat), V⟩ ((q : Nat) : Int)) w2 ∧ w2.heap[qb]? = some (.cells #[.int .i64 (ρ : Nat), .int .i64 (m : Nat)] TB (0, 0)) := ⟨hF0.out.1.later hb2, (hb2.block _ (Array.getElem?_eq_some_iff.1 hF0.out.2).1).trans hF0.out.2⟩))
                                obtain ⟨_, p0, p1, qc0, qc1, _, _⟩ := hS3.out _ hF2
                                obtain ⟨hF2, hq2⟩ := hF2
                                have z0 := (hF2.froz (k * 2)).2
                                have z1 := (hF2.froz (k * 2 + 1)).2
                                have hF5 := hF2.setQ hkn (ρ : Nat) (m : Nat)
                                obtain ⟨v0, v1, v2⟩ := hF5.cellH hkn
                                have y0 := (hF5.froz (k * 3)).1
                                have y1 := (hF5.froz (k * 3 + 1)).1
                                have y2 := (hF5.froz (k * 3 + 2)).1
                                have hK5 : Keeps (fun j => j = pb) w2 ((w2.setCell ⟨pb, k * 2, none⟩ (.int .i64 (ρ : Nat))).setCell ⟨pb, k * 2 + 1, none⟩ (.int .i64 (m : Nat))) := ((Keeps.refl (fun j => j = pb) w2).setCell (p := ⟨pb, _, none⟩) (.inl rfl) _).setCell (p := ⟨pb, _, none⟩) (.inl rfl) _
                                have hq5 := (hK5.block _ (Array.getElem?_eq_some_iff.1 hq2).1 hqp).trans hq2
                                have qd0 := cell_of_row _ _ 0 _ TB _ hq5
                                have qd1 := cell_of_row _ _ 1 _ TB _ hq5
                                have hF6 := hF5.setH hkn ⟨(ρ : Nat), (m : Nat), V⟩
                                have hqh : qb ≠ hb := by
                                  rintro rfl
                                  have h1 := hF5.has
                                  rw [hq5] at h1
                                  injection h1 with h1
                                  injection h1 with _ h1
                                  exact absurd h1 (by decide)
                                have hK6 : Keeps (fun j => j = hb) ((w2.setCell ⟨pb, k * 2, none⟩ (.int .i64 (ρ : Nat))).setCell ⟨pb, k * 2 + 1, none⟩ (.int .i64 (m : Nat))) (((((w2.setCell ⟨pb, k * 2, none⟩ (.int .i64 (ρ : Nat))).setCell ⟨pb, k * 2 + 1, none⟩ (.int .i64 (m : Nat))).setCell ⟨hb, k * 3, none⟩ (.int .i64 (ρ : Nat))).setCell ⟨hb, k * 3 + 1, none⟩ (.int .i64 (m : Nat))).setCell ⟨hb, k * 3 + 2, none⟩ (.string V)) := (((Keeps.refl (fun j => j = hb) _).setCell (p := ⟨hb, _, none⟩) (.inl rfl) _).setCell (p := ⟨hb, _, none⟩) (.inl rfl) _).setCell (p := ⟨hb, _, none⟩) (.inl rfl) _
                                have hq6 := (hK6.block _ (Array.getElem?_eq_some_iff.1 hq5).1 hqh).trans hq5
                                generalize (H2 k).r = u0 at v0
                                generalize (H2 k).m = u1 at v1
                                generalize (H2 k).v = u2 at v2
                                replace hF2 := Lib.hid hF2
                                replace hF5 := Lib.hid hF5
                                replace hF6 := Lib.hid hF6
                                replace hq6 := Lib.hid hq6
                                clear hK5 hK6 hq5 hq2
                                as_aux_lemma =>
                                  go_wp2
                                  generalize ((((w2.setCell ⟨pb, k * 2, none⟩ (.int .i64 (ρ : Nat))).setCell ⟨pb, k * 2 + 1, none⟩ (.int .i64 (m : Nat))).setCell ⟨hb, k * 3, none⟩ (.int .i64 (ρ : Nat))).setCell ⟨hb, k * 3 + 1, none⟩ (.int .i64 (m : Nat))).setCell ⟨hb, k * 3 + 2, none⟩ (.string V) = W6 at *
                                  clear v0 v1 v2 y0 y1 y2 z0 z1 p0 p1 qc0 qc1 qd0 qd1 hF2 hF5
                                  have hwf : WfV ⟨(ρ : Nat), (m : Nat), V⟩ := ⟨wf_nat ρ (by have := hρ.out; omega), wf_nat m (by omega), by show V.size ≤ maxLen; have := hV2; unfold maxLen; omega⟩
                                  have hF6d := hF6.out.later (Below.refl _ W6).drew
                                  have hk1 : updC C ⟨(ρ : Nat), (m : Nat), V⟩ ((q : Nat) : Int) ⟨(ρ : Nat), (m : Nat), V⟩ = (q : Nat) := if_pos rfl
                                  have hlk := hF6d.mp.look _ hwf
                                  rw [hk1] at hlk
                                  obtain ⟨st, W7, hme, hm7, hg7, hst7⟩ := hF6d.mp.entry _ hwf
                                  rw [hk1] at hme
                                  obtain ⟨W8, hes, hm8, hg8⟩ := hst7 ((q : Nat) + 1)
                                  have hlk7 := hm7.look _ hwf
                                  rw [hk1] at hlk7
                                  have hF7 := hF6d.setM hg7 hm7
                                  have hF8 := hF7.setM hg8 hm8
                                  have hlk8 := hm8.look _ hwf
                                  have hk8 : updC (updC C ⟨(ρ : Nat), (m : Nat), V⟩ ((q : Nat) : Int)) ⟨(ρ : Nat), (m : Nat), V⟩ ((q : Int) + 1) ⟨(ρ : Nat), (m : Nat), V⟩ = (q : Int) + 1 := if_pos rfl
                                  rw [hk8] at hlk8
                                  have hu : updH H2 k ⟨(ρ : Nat), (m : Nat), V⟩ k = ⟨(ρ : Nat), (m : Nat), V⟩ := if_pos rfl
                                  obtain ⟨v0, v1, v2⟩ := hF6.out.cellH hkn
                                  obtain ⟨x0, x1, x2⟩ := hF7.cellH hkn
                                  obtain ⟨t0, t1, t2⟩ := hF8.cellH hkn
                                  rw [hu] at v0 v1 v2 x0 x1 x2 t0 t1 t2
                                  simp only at v0 v1 v2 x0 x1 x2 t0 t1 t2
                                  have hbm : qb ≠ mb := by
                                    rintro rfl
                                    obtain ⟨es, clock, h1, _⟩ := hF6.out.mp.ex
                                    rw [hq6.out] at h1
                                    cases h1
                                  have hq8 : W8.heap[qb]? = some (.cells #[.int .i64 (ρ : Nat), .int .i64 (m : Nat)] TB (0, 0)) := by
                                    have l6 := (Array.getElem?_eq_some_iff.1 hq6.out).1
                                    have h7 := (hg7.block qb l6 (fun e => hbm (by injection e))).trans hq6.out
                                    exact (hg8.block qb (Array.getElem?_eq_some_iff.1 h7).1 (fun e => hbm (by injection e))).trans h7
                                  replace hF8 := Lib.hid hF8
                                  replace hq8 := Lib.hid hq8
                                  replace hwf := Lib.hid hwf
                                  have w1 : IntKind.i64.wrap ((q : Int) + 1) = (q : Int) + 1 := by rw [IntKind.wrap_i64]; omega
                                  have w2' : IntKind.i64.wrap (2 * ((q : Int) + 1)) = 2 * ((q : Int) + 1) := by rw [IntKind.wrap_i64]; omega
                                  have hCe : Hid (updC (updC C ⟨(ρ : Nat), (m : Nat), V⟩ ((q : Nat) : Int)) ⟨(ρ : Nat), (m : Nat), V⟩ ((q : Int) + 1) = updC C ⟨(ρ : Nat), (m : Nat), V⟩ ((q + 1 : Nat) : Int)) := Lib.hid (by
                                    funext x
                                    unfold updC
                                    split
                                    · rfl
                                    · rfl)
                                  clear hm7 hg7 hst7 hm8 hg8 hF6d hF7 hk1 hk8 hu hF6 hq6
                                  as_aux_lemma =>
                                    go_region
                                    all_goals
                                      by_cases hqn : n < 2 * (q + 1)
                                      · have d1 : (n : Int) < 2 * ((q : Int) + 1) := by omega
                                        have d2 : decide ((n : Int) < 2 * ((q : Int) + 1)) = true := by simpa using d1
                                        have hcc := Lib.hid (show V = chK n V V (q + 1) from (if_pos hqn).symm)
                                        as_aux_lemma =>
                                          go_wp2
                                          go_roundw
                                          case rel => exact ⟨k + 1, updH Q2 k ((ρ : Int), (m : Int)), by omega, by go_num, by rw [hck.out, ← hcc.out], q_set hQ2.out, by rw [hac.out, hck.out, ← hCe.out]; exact hF8.out, hq8.out⟩
                                          case measure => simp [nOf]; omega
                                      · have d1 : ¬ (n : Int) < 2 * ((q : Int) + 1) := by omega
                                        have d2 : decide ((n : Int) < 2 * ((q : Int) + 1)) = false := by simpa using d1
                                        have hcc := Lib.hid (show ck = chK n V V (q + 1) from by rw [hckk.out]; unfold chK; rw [if_neg hqn, if_neg (by omega)])
                                        as_aux_lemma =>
                                          go_wp2
                                          go_roundw
                                          case rel => exact ⟨k + 1, updH Q2 k ((ρ : Int), (m : Int)), by omega, by go_num, by rw [hck.out, ← hcc.out], q_set hQ2.out, by rw [hac.out, hck.out, ← hCe.out]; exact hF8.out, hq8.out⟩
                                          case measure => simp [nOf]; omega
                          · have hkl3 : n = k := by omega
                            subst hkl3
                            have k2 : decide ((n : Int) < (n : Int)) = false := by simp
                            have hPn := Lib.hid (pl_next (m := (m : Nat)) (f := g) hP.out hn7 ⟨by omega, by omega⟩ ⟨hV1, hV2⟩ (fun _ => rfl))
                            have hQn := Lib.hid (q_next hQ2 hρ.out)
                            have hCn : Hid (∀ x, updC C ⟨(ρ : Nat), (m : Nat), V⟩ ((cntK g n : Nat) : Int) x ≠ 0 → x.r ≤ ((j + 1 : Nat) : Int)) := Lib.hid fun x hx => by
                              unfold updC at hx
                              split at hx
                              · rename_i e
                                subst e
                                have := hρ.out
                                simp only
                                omega
                              · have := hC.out x hx; omega
                            replace hF := Lib.hid hF
                            clear hq
                            as_aux_lemma =>
                              go_wp2
                              go_roundw
                              case rel => exact ⟨j + 1, _, Q2, _, _, by omega, by rw [hρ.out], rfl, by rw [hρ.out] at *; exact hPn.out, hQn.out, hCn.out, hF.out⟩
                              case measure => simp [nOf]; have := hρ.out; omega
      · have hje : j = len1 := by omega
        subst hje
        have i3 : decide ((j : Int) < (j : Int)) = false := by simp
        have hbel := Lib.hid hF.bel
        clear hP hQ hC hF
        go_wp2_with (go_at_call 11; refine (HW.out _).mono ?_; rintro e w1 ⟨rfl, hb⟩)
        go_ret
        exact ⟨rfl, below2 hbel.out hb⟩
  · have b1 : decide (40 < (len1 : Int)) = true := by simp; omega
    have b2 : (40 : Int) < (len1 : Int) := by omega
    go_enter Try.func5, Try.ntmps5
    go_wp2_with (go_at_call 11; refine (HW.out _).mono ?_; rintro e w1 ⟨rfl, hb⟩)
    go_ret
    exact ⟨rfl, hb⟩
theorem safe_law (a0 : Int) (a1 : Option Addr) (len1 cap1 : Nat) (S : Nat → B3) (w : World) (h0 : (Lit.int .u8 a0).wf = true) (h1 : IsB3 w a1 len1 cap1 S) :
    Calls Try.prog 5 #[.int .u8 a0, .slice a1 len1 cap1] w (Yes w) := by
  have hb := bounds_u8 h0
  obtain ⟨n, rfl⟩ := Int.eq_ofNat_of_zero_le hb.1
  exact safe_go n a1 len1 cap1 S w (by have := hb.2; omega) h1
end Go.Proofs.Ytffiooclkchoiaa.Prp
