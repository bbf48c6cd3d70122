/- The document's ballots and quorums at this seat: Check, Order, Check, Nodes, Count, Is (out of the texts of stages 10 and 11). -/
import Derived.Test.YtffiooclkchoiaaP25
import Derived.Maps.AppendAt
import Derived.BigQuiet
import Derived.BigGuard
import Derived.BigCall
namespace Go.Proofs.Ytffiooclkchoiaa.Bal
open Go.RowKit Go.Lib
set_option linter.unusedVariables false
set_option linter.unusedSimpArgs false
set_option maxRecDepth 20000

theorem rcheck_any (r m n : Int) (w : World) :
    Calls Try.prog 32 #[.agg #[.int .i64 r, .int .i64 m], .int .i64 n] w fun e w' => e = .returned (.int .i64 (ckB r m n)) ∧ Below w.heap.size w w' := by
  have hx := bx_new w r m
  obtain ⟨c0, c1, _, _⟩ := hx.cells
  replace hx := Lib.hid hx.bel
  have hq := fun W => eq_b r m 0 0 W
  by_cases n1 : n < 1
  · have e := Lib.hid (show ckB r m n = 2 from if_neg (by rintro ⟨h, _⟩; omega))
    go_enter Try.func32, Try.ntmps32
    go_wp2
    go_ret
    exact ⟨by rw [e.out]; rfl, hx.out⟩
  by_cases n2 : 7 < n
  · have e := Lib.hid (show ckB r m n = 2 from if_neg (by rintro ⟨h, _⟩; omega))
    go_enter Try.func32, Try.ntmps32
    go_wp2
    go_ret
    exact ⟨by rw [e.out]; rfl, hx.out⟩
  have hn : 1 ≤ n ∧ n ≤ 7 := by omega
  by_cases hz : r = 0 ∧ m = 0
  · have e := Lib.hid (show ckB r m n = 0 from if_pos ⟨hn, .inl hz⟩)
    rw [eqB_t hz] at hq
    clear hn hz
    go_enter Try.func32, Try.ntmps32
    go_wp2
    go_ret
    exact ⟨by rw [e.out]; rfl, hx.out⟩
  rw [eqB_f hz] at hq
  by_cases h1 : 1 ≤ r
  · by_cases h2 : r ≤ 1073741824
    · by_cases h3 : 0 ≤ m
      · by_cases h4 : m < n
        · have e := Lib.hid (show ckB r m n = 0 from if_pos ⟨hn, .inr (by omega)⟩)
          clear hn hz
          go_enter Try.func32, Try.ntmps32
          go_wp2
          go_ret
          exact ⟨by rw [e.out]; rfl, hx.out⟩
        · have e := Lib.hid (show ckB r m n = 2 from if_neg (by rintro ⟨_, h | h⟩; exact hz h; omega))
          clear hn hz
          go_enter Try.func32, Try.ntmps32
          go_wp2
          go_ret
          exact ⟨by rw [e.out]; rfl, hx.out⟩
      · have e := Lib.hid (show ckB r m n = 2 from if_neg (by rintro ⟨_, h | h⟩; exact hz h; omega))
        clear hn hz
        go_enter Try.func32, Try.ntmps32
        go_wp2
        go_ret
        exact ⟨by rw [e.out]; rfl, hx.out⟩
    · have e := Lib.hid (show ckB r m n = 2 from if_neg (by rintro ⟨_, h | h⟩; exact hz h; omega))
      clear hn hz
      go_enter Try.func32, Try.ntmps32
      go_wp2
      go_ret
      exact ⟨by rw [e.out]; rfl, hx.out⟩
  · have e := Lib.hid (show ckB r m n = 2 from if_neg (by rintro ⟨_, h | h⟩; exact hz h; omega))
    clear hn hz
    go_enter Try.func32, Try.ntmps32
    go_wp2
    go_ret
    exact ⟨by rw [e.out]; rfl, hx.out⟩

theorem rorder_any (a b x y : Int) (w : World) :
    Calls Try.prog 37 #[.agg #[.int .i64 a, .int .i64 b], .agg #[.int .i64 x, .int .i64 y]] w fun e w' => e = .returned (.int .i64 (ordV a b x y)) ∧ Below w.heap.size w w' := by
  have O0 := oat_new w a b x y
  obtain ⟨c0, c1, c2, c3, _⟩ := O0.cells
  replace O0 := Lib.hid O0.bel
  have hq := fun W => eq_b a b x y W
  by_cases h1 : a < x
  · have e := Lib.hid (show ordV a b x y = -1 by unfold ordV fdV compareInt; simp [h1])
    go_enter Try.func37, Try.ntmps37
    go_wp2
    go_ret
    exact ⟨by rw [e.out]; rfl, O0.out⟩
  by_cases h2 : a = x
  · by_cases h3 : b < y
    · have e := Lib.hid (show ordV a b x y = -1 by unfold ordV fdV compareInt; simp [h2, h3])
      have d1 : (a == x) = true := by simpa using h2
      replace h2 := Lib.hid h2
      go_enter Try.func37, Try.ntmps37
      go_wp2
      go_ret
      exact ⟨by rw [e.out]; rfl, O0.out⟩
    · by_cases h4 : b = y
      · have e := Lib.hid (show ordV a b x y = 0 by unfold ordV fdV compareInt; simp [h2, h4])
        rw [eqB_t ⟨h2, h4⟩] at hq
        have d1 : (a == x) = true := by simpa using h2
        replace h2 := Lib.hid h2
        replace h4 := Lib.hid h4
        go_enter Try.func37, Try.ntmps37
        go_wp2
        go_ret
        exact ⟨by rw [e.out]; rfl, O0.out⟩
      · have h5 : y < b := by omega
        have e := Lib.hid (show ordV a b x y = 1 by unfold ordV fdV compareInt; simp [h2, h3, h5])
        rw [eqB_f (fun z => h4 z.2)] at hq
        have d1 : (a == x) = true := by simpa using h2
        replace h2 := Lib.hid h2
        clear h4 h5
        go_enter Try.func37, Try.ntmps37
        go_wp2
        go_ret
        exact ⟨by rw [e.out]; rfl, O0.out⟩
  · have h5 : x < a := by omega
    have e := Lib.hid (show ordV a b x y = 1 by unfold ordV fdV compareInt; simp [h1, h5])
    rw [eqB_f (fun z => h2 z.1)] at hq
    have d1 : (a == x) = false := by simpa using h2
    clear h2 h5
    go_enter Try.func37, Try.ntmps37
    go_wp2
    go_ret
    exact ⟨by rw [e.out]; rfl, O0.out⟩

end Go.Proofs.Ytffiooclkchoiaa.Bal
namespace Go.Proofs.Ytffiooclkchoiaa.Quo
open Go.RowKit Go.Lib
open Prp (rows_later rows_base rows_form)
abbrev TI : TypeId := 3
set_option linter.unusedVariables false
set_option linter.unusedSimpArgs false
set_option maxRecDepth 20000

theorem rcheck_any (x : Nat) (hx : x < 18446744073709551616) (n : Int) (w : World) :
    Calls Try.prog 51 #[.int .u64 x, .int .i64 n] w fun e w' => e = .returned (.int .i64 (ckI n [x])) ∧ w = w' := by
  by_cases h1 : n < 1
  · rw [ckI_bad (.inl h1)]
    have b1 : decide (n < 1) = true := by simpa using h1
    clear h1
    go_enter Try.func51, Try.ntmps51
    go_wp2
    go_ret
    exact ⟨rfl, rfl⟩
  · have b1 : decide (n < 1) = false := by simpa using h1
    by_cases h7 : 7 < n
    · rw [ckI_bad (.inr h7)]
      have b2 : decide (7 < n) = true := by simpa using h7
      clear h1 h7
      go_enter Try.func51, Try.ntmps51
      go_wp2
      go_ret
      exact ⟨rfl, rfl⟩
    · obtain ⟨k, rfl⟩ := Int.eq_ofNat_of_zero_le (show 0 ≤ n by omega)
      have b2 : decide (7 < (k : Int)) = false := by simp; omega
      have b3 : decide (7 < k) = false := by simp; omega
      have b4 : decide (k < 1) = false := by simp; omega
      have hp := pow_in k (by omega)
      have hk := Nat.two_pow_pos k
      rw [ckI_in (by omega) (by omega)]
      have ha : all1 k + 1 = 2 ^ k := by unfold all1; omega
      by_cases hc : x ≤ all1 k
      · rw [ckL1_t hc]
        generalize 2 ^ k = q at *
        have b5 : decide ((q : Int) ≤ (x : Int)) = false := by simp; omega
        have b6 : decide (q ≤ x) = false := by simp; omega
        have n0 : 0 ≤ (k : Int) := by omega
        have n1 : (k : Int) < 64 := by omega
        clear h1 h7 hc ha hk
        go_enter Try.func51, Try.ntmps51
        go_wp2
        go_ret
        exact ⟨rfl, rfl⟩
      · rw [ckL1_f hc]
        generalize 2 ^ k = q at *
        have b5 : decide ((q : Int) ≤ (x : Int)) = true := by simp; omega
        have b6 : decide (q ≤ x) = true := by simp; omega
        have n0 : 0 ≤ (k : Int) := by omega
        have n1 : (k : Int) < 64 := by omega
        clear h1 h7 hc ha hk
        go_enter Try.func51, Try.ntmps51
        go_wp2
        go_ret
        exact ⟨rfl, rfl⟩
theorem ckI0 (n : Nat) (h1 : 1 ≤ n) (h7 : n ≤ 7) : ckI n [0] = 0 := by rw [ckI_in h1 h7]; exact ckL1_t (by omega)
/-! The document's Nodes and Count. -/
def bitsTo (x k : Nat) : List Nat := (List.range k).filter fun i => x.testBit i
theorem bitsTo_len (x k : Nat) : (bitsTo x k).length ≤ k := by
  have := List.length_filter_le (fun i => x.testBit i) (List.range k)
  rwa [List.length_range] at this
theorem bitsTo_yes {x k : Nat} (h : x.testBit k = true) : bitsTo x (k + 1) = bitsTo x k ++ [k] := by
  unfold bitsTo; rw [List.range_succ, List.filter_append, List.filter_cons, if_pos h]; rfl
theorem bitsTo_no {x k : Nat} (h : ¬ x.testBit k = true) : bitsTo x (k + 1) = bitsTo x k := by
  unfold bitsTo; rw [List.range_succ, List.filter_append, List.filter_cons, if_neg h]; simp
theorem test_mod (x k : Nat) : x.testBit k = true ↔ x / 2 ^ k % 2 = 1 := by
  rw [Nat.testBit_eq_decide_div_mod_eq, decide_eq_true_iff]
theorem info_i : (Try.prog.info? 3).map (fun i => (i.zero, i.size, i.bytes)) = some (some (.int .i64 0), 1, 8) := by kernel_rfl
theorem nums_app (K : IntKind) (a b : List Nat) : nums K (a ++ b) = nums K a ++ nums K b := by simp [nums]
def OwI (base : Nat) (l : List Nat) (v : Value) (w : World) : Prop := w.ownsRow base 3 1 v l.length (nums .i64 l)
theorem OwI.ns {base : Nat} {l : List Nat} {v : Value} {w : World} (h : OwI base l v w) : IsNs .i64 w v l := own_ns h
theorem OwI.later {base : Nat} {l : List Nat} {v : Value} {w w' : World} (h : OwI base l v w) (hb : Below w.heap.size w w') : OwI base l v w' := rows_later h hb
theorem OwI.base {base base' : Nat} {l : List Nat} {v : Value} {w : World} (h : OwI base l v w) (hb : base' ≤ base) : OwI base' l v w := rows_base h hb
theorem OwI.form {base : Nat} {l : List Nat} {v : Value} {w : World} (h : OwI base l v w) : ∃ a cap, v = .slice a l.length cap := rows_form h
theorem OwI.nil (base : Nat) (w : World) : OwI base [] (.slice none 0 0) w := World.ownsRow_nil w base 3 1
theorem run_append_I (base : Nat) (w : World) (ty : TypeId) (v : Value) (l : List Nat) (hown : OwI base l v w) (g c x : Nat) (hc : w.cell? ⟨g, 0, none⟩ = some (.int .i64 (x : Nat))) (hn : l.length ≤ 100000) (hbase : base ≤ w.heap.size) :
    ∃ v' w', (Builtin.append_ #[99, 99] ty #[v, .slice (some ⟨g, 0, none⟩) 1 c]).run Try.prog w = .ok v' w' ∧ OwI base (l ++ [x]) v' w' ∧ w.grownBy w' v.ownBlock := by
  obtain ⟨i0, hi, hz0, hz1, hz2⟩ := info_parts info_i
  obtain ⟨v', w', h1, h2, h3, _, h5⟩ := run_append_own_at (P := Try.prog) w base 99 ty 3 i0 (.int .i64 0) 1 8 Try.underlying99 hi hz0 hz1 hz2 rfl (by decide) v l.length (nums .i64 l) hown ⟨g, 0, none⟩ 1 c (nums .i64 [x]) rfl (fun j u hu => by
    cases j with
    | zero => cases hu; simpa [Addr.add] using hc
    | succ j => simp [nums] at hu) (nums_one _ _) (by unfold maxLen; omega) (by omega) hbase
  refine ⟨v', w', h1, ?_, h3⟩
  show w'.ownsRow base 3 1 v' (l ++ [x]).length (nums .i64 (l ++ [x]))
  rw [nums_app, List.length_append]
  exact h2
theorem wpList_append_I {ops : Array Oper} {rest : List Oper} {o : Oper} {a : Act} {w : World} {Q : Exit → Act → World → Prop} (hgd : o.guard = none) (s x : Operand)
    (ho : o.op = .call { callee := .builtin .append, args := #[s, x], argTypes := #[99, 99] })
    (base : Nat) (v : Value) (l : List Nat) (hs : a.eval s = v) (hown : OwI base l v w) (g c y : Nat) (hx : a.eval x = .slice (some ⟨g, 0, none⟩) 1 c) (hc : w.cell? ⟨g, 0, none⟩ = some (.int .i64 (y : Nat)))
    (hn : l.length ≤ 100000) (hbase : base ≤ w.heap.size)
    (h : ∀ v' w', OwI base (l ++ [y]) v' w' → w.grownBy w' v.ownBlock → wpList Try.prog ops Q rest (a.put o.dst v') w') :
    wpList Try.prog ops Q (o :: rest) a w := by
  refine wpList_plain hgd fun K hK => ?_
  obtain ⟨v', w', hrun, h1, h2⟩ := run_append_I base w o.type v l hown g c y hc hn hbase
  unfold Oper.wp execOp
  simp only [ho, resolve, invoke, builtin, Sem.run_bind, Sem.run_pure, Result.andThen_ok, List.map_toArray, List.map_cons, List.map_nil, hs, hx, hrun]
  exact hK _ _ (h v' w' h1 h2)
theorem owBI {l : List Nat} {v : Value} {w w1 w0 : World} {o : Obj} (h : OwI w0.heap.size l v w) (hg : (w.alloc o).grownBy w1 v.ownBlock) (hb : Below w0.heap.size w0 w) : Below w0.heap.size w0 w1 := by
  have h1 : Below w0.heap.size w0 (w.alloc o) := hb.trans ((alloc_b w o).mono hb.size)
  exact h1.grown hg h1.size (fun k e => (World.ownsRow.lt h k e).1)
def OwnI (l : List Nat) (w : World) (e : Ending) (w' : World) : Prop := ∃ v, e = .returned v ∧ OwI w.heap.size l v w' ∧ Below w.heap.size w w'
set_option maxHeartbeats 1000000 in
theorem rnodes_any (x : Nat) (hx : x < 18446744073709551616) (w : World) :
    Calls Try.prog 62 #[.int .u64 x] w (OwnI (bitsOf x) w) := by
  have hB : bitsTo x 64 = bitsOf x := rfl
  rw [← hB]
  clear hB
  go_enter Try.func62, Try.ntmps62
  go_wp2
  go_loopw [3, 4] (fun l i wr => ∃ k : Nat, k ≤ 64 ∧ i = .int .i64 k ∧ OwI w.heap.size (bitsTo x k) l wr ∧ Below w.heap.size w wr) (fun _ i _ => 64 - (intOf i).toNat)
  case atStart => exact ⟨0, Nat.zero_le _, rfl, OwI.nil _ _, Below.refl _ _⟩
  case round =>
    obtain ⟨k, hk, rfl, ho, hb⟩ := hrel
    obtain ⟨a1, cap, rfl⟩ := ho.form
    have hlen := bitsTo_len x k
    replace hb := Lib.hid hb
    by_cases hlt : k < 64
    · have e1 : (x : Int) / 2 ^ k = ((x / 2 ^ k : Nat) : Int) := by
        rw [show (2 : Int) ^ k = ((2 ^ k : Nat) : Int) by rw [Int.natCast_pow]; rfl, ← Int.natCast_ediv]
      have ht := test_mod x k
      have hyl : x / 2 ^ k < 18446744073709551616 := Nat.lt_of_le_of_lt (Nat.div_le_self _ _) hx
      generalize x / 2 ^ k = y at *
      by_cases hc : x.testBit k = true
      · have hup := bitsTo_yes hc
        have hy := ht.1 hc
        have b1 : ((y : Int) % 2 == 1) = true := by simp; omega
        have b2 : (y : Int) % 2 = 1 := by omega
        have b3 : y % 2 = 1 := hy
        have ho2 := ho.later (alloc_b wr (.cells #[.int .i64 k] TI))
        have hcell : (wr.alloc (.cells #[.int .i64 k] TI)).cell? ⟨wr.heap.size, 0, none⟩ = some (.int .i64 k) := cell_of_row _ _ 0 _ _ _ (heap_alloc_new wr _)
        have hbs : w.heap.size ≤ (wr.alloc (.cells #[.int .i64 k] TI)).heap.size := Nat.le_trans hb.out.size (alloc_b wr _).size
        have HO := Lib.hid ho
        have HO2 := Lib.hid ho2
        have HU := Lib.hid hup
        have hll : (bitsTo x k).length ≤ 100000 := by omega
        clear ho ho2 hup hc ht hy hlen
        generalize bitsTo x k = L at *
        go_wp2_with (at_builtin; refine wpList_append_I rfl _ _ rfl w.heap.size _ L rfl HO2.out wr.heap.size 1 k rfl hcell hll hbs ?_; intro v' w1 ho3 hg3)
        have hb3 := Lib.hid (owBI HO.out hg3 hb.out)
        replace ho3 := Lib.hid ho3
        clear hg3
        go_roundw
        case rel => exact ⟨k + 1, by omega, by go_num, by rw [HU.out]; exact ho3.out, hb3.out⟩
        case measure => simp [intOf]; omega
      · have HU := Lib.hid (bitsTo_no hc)
        have hy : ¬ y % 2 = 1 := fun h => hc (ht.2 h)
        have b1 : ((y : Int) % 2 == 1) = false := by simp; omega
        have b2 : ¬ (y : Int) % 2 = 1 := by omega
        replace ho := Lib.hid ho
        clear hc ht
        generalize bitsTo x k = L at *
        go_wp2
        go_roundw
        case rel => exact ⟨k + 1, by omega, by go_num, by rw [HU.out]; exact ho.out, hb.out⟩
        case measure => simp [intOf]; omega
    · obtain rfl : k = 64 := by omega
      replace ho := Lib.hid ho
      go_wp2
      go_ret
      exact ⟨_, rfl, ho.out, hb.out⟩
theorem rcount_any (x : Nat) (hx : x < 18446744073709551616) (w : World) :
    Calls Try.prog 52 #[.int .u64 x] w fun e w' => e = .returned (.int .i64 (pc x : Nat)) ∧ Below w.heap.size w w' := by
  have hO := Lib.hid (fun W => rnodes_any x hx W)
  have hn : (bitsOf x).length = pc x := rfl
  generalize pc x = n at *
  generalize bitsOf x = l at *
  subst hn
  clear hx
  go_enter Try.func52, Try.ntmps52
  go_wp2_with (go_at_call 62; refine (hO.out _).mono ?_; rintro e w1 ⟨v, rfl, ho, hb⟩; obtain ⟨a, cap, rfl⟩ := ho.form)
  go_ret
  exact ⟨rfl, hb⟩

theorem rnot0 {c : Int} (h : ¬ c = 0) : ((c == 0) = false ∧ (c != 0) = true) := by simp [h]
theorem ckI_two (n : Int) (l : List Nat) : ckI n l = 0 ∨ ckI n l = 2 := by
  unfold ckI ckL
  split
  · cases inAll n.toNat l <;> simp
  · exact .inr rfl
theorem ris_any (x : Nat) (hx : x < 18446744073709551616) (n : Int) (w : World) :
    Calls Try.prog 39 #[.int .u64 x, .int .i64 n] w fun e w' => e = .returned (.tuple #[.bool (isV n x), .int .i64 (ckI n [x])]) ∧ Below w.heap.size w w' := by
  have hC := fun W => rcheck_any x hx n W
  have hO := Lib.hid (fun W => rcount_any x hx W)
  have hl := pc_le x
  rcases ckI_two n [x] with h | h
  · have hn : 1 ≤ n ∧ n ≤ 7 := by
      apply Classical.byContradiction
      intro hn
      rw [ckI_bad (by omega)] at h
      omega
    obtain ⟨k, rfl⟩ := Int.eq_ofNat_of_zero_le (show 0 ≤ n by omega)
    have hI : isV k x = decide ((k : Int) < 2 * (pc x : Int)) := by
      unfold isV
      rw [h, Int.toNat_natCast]
      simp only [true_and]
      rw [decide_eq_decide]
      omega
    rw [hI]
    rw [h] at hC ⊢
    generalize pc x = c at *
    replace hC := Lib.hid hC
    clear hI h
    go_enter Try.func39, Try.ntmps39
    go_wp2_with (first
      | (go_at_call 51; refine (hC.out _).mono ?_; rintro e w' ⟨rfl, rfl⟩)
      | (go_at_call 52; refine (hO.out _).mono ?_; rintro e w1 ⟨rfl, hb⟩))
    go_ret2
    exact ⟨rfl, hb⟩
  · have hI : isV n x = false := by unfold isV; rw [h]; simp
    rw [hI]
    rw [h] at hC ⊢
    replace hC := Lib.hid hC
    clear hI h
    go_enter Try.func39, Try.ntmps39
    go_wp2_with (go_at_call 51; refine (hC.out _).mono ?_; rintro e w' ⟨rfl, rfl⟩)
    go_ret2
    exact ⟨rfl, Below.refl _ _⟩
end Go.Proofs.Ytffiooclkchoiaa.Quo
