/- Lists of ranges behind others; parts of slices; the walk of RangesCoverKeys. -/
import Derived.Test.YtocencmdfppkaaaR35
import Derived.Deep.RegionHeld
import Derived.StillTail
namespace Go.Proofs.Ytocencmdfppkaaa.Rng
open Go.RowKit Go.Lib
set_option linter.unusedVariables false
set_option linter.unusedSimpArgs false
set_option maxRecDepth 100000

theorem flat_cells {w : World} {b off : Nat} {M : List Rg} (h : ∀ i r, M[i]? = some r → w.cell? ⟨b, off + i * 2, none⟩ = some (.string (tx r.f)) ∧ w.cell? ⟨b, off + i * 2 + 1, none⟩ = some (.string (tx r.t))) :
    ∀ j u, (flat M)[j]? = some u → w.cell? ⟨b, off + j, none⟩ = some u := by
  intro j u hu
  have hj : j < (flat M).length := (List.getElem?_eq_some_iff.1 hu).1
  rw [flat_len] at hj
  obtain ⟨r, hr⟩ : ∃ r, M[j / 2]? = some r := ⟨M[j / 2]'(by omega), List.getElem?_eq_getElem (by omega)⟩
  obtain ⟨f1, f2⟩ := flat_get M (j / 2) r hr
  obtain ⟨c1, c2⟩ := h (j / 2) r hr
  rcases Nat.mod_two_eq_zero_or_one j with hm | hm
  · have e : j / 2 * 2 = j := by omega
    rw [e] at f1 c1
    rw [hu] at f1
    rw [c1, f1]
  · have e : j / 2 * 2 + 1 = j := by omega
    rw [e] at f2
    rw [Nat.add_assoc, e] at c2
    rw [hu] at f2
    rw [c2, f2]
theorem run_append_rgs (base : Nat) (w : World) (ty : TypeId) (v : Value) (l : List Rg) (hown : Ow base l v w) (A : Option Addr) (m c : Nat) (M : List Rg) (hb : Rs w (.slice A m c) M)
    (hn : l.length + M.length ≤ 100000000) (hbase : base ≤ w.heap.size) :
    ∃ v' w', (Builtin.append_ #[36, 36] ty #[v, .slice A m c]).run Try.prog w = .ok v' w' ∧ Ow base (l ++ M) v' w' ∧ w.grownBy w' v.ownBlock := by
  obtain ⟨i0, hi, hz0, hz1, hz2⟩ := info_parts info_rg
  obtain ⟨A', c', he, hc⟩ := hb
  injection he with e1 e2 e3
  subst e1 e2 e3
  cases A with
  | none =>
    have h0 : M.length = 0 := by
      rcases Nat.eq_zero_or_pos M.length with h1 | h1
      · exact h1
      · obtain ⟨b, off, e, _⟩ := hc h1
        cases e
    have hl := List.eq_nil_of_length_eq_zero h0
    subst hl
    have hrun : (Builtin.append_ #[36, 36] ty #[v, .slice none 0 c]).run Try.prog w = .ok v w := by
      rcases hown.2 with ⟨rfl, h0⟩ | ⟨g, cap, cur, rfl, _, _, hnc, _⟩
      · simp [Builtin.append_, run_underlying Try.underlying36, sizeOf, typeInfo, hi, Builtin.lenOf, Builtin.firstCells]
      · simp [Builtin.append_, run_underlying Try.underlying36, sizeOf, typeInfo, hi, Builtin.lenOf, Builtin.firstCells, hnc, storeCells]
    exact ⟨v, w, hrun, by rw [List.append_nil]; exact hown, World.grownBy.refl w _⟩
  | some ad =>
    by_cases h0 : M.length = 0
    · have hl := List.eq_nil_of_length_eq_zero h0
      subst hl
      obtain ⟨v', w', h1, h2, h3, _, h5⟩ := run_append_own_at (P := Try.prog) w base 36 ty TR i0 (.agg #[.string ⟨#[]⟩, .string ⟨#[]⟩]) 2 32 Try.underlying36 hi hz0 hz1 hz2 rfl (by decide) v l.length (flat l) hown ad 0 c [] rfl (fun j u hu => by cases hu) (fun u hu => by cases hu) (by unfold maxLen; omega) (by omega) hbase
      refine ⟨v', w', h1, ?_, h3⟩
      show w'.ownsRow base TR 2 v' (l ++ []).length (flat (l ++ []))
      rw [List.append_nil]
      simpa using h2
    · obtain ⟨b, off, e, hd⟩ := hc (by omega)
      cases e
      obtain ⟨v', w', h1, h2, h3, _, h5⟩ := run_append_own_at (P := Try.prog) w base 36 ty TR i0 (.agg #[.string ⟨#[]⟩, .string ⟨#[]⟩]) 2 32 Try.underlying36 hi hz0 hz1 hz2 rfl (by decide) v l.length (flat l) hown ⟨b, off, none⟩ M.length c (flat M) (flat_len M) (fun j u hu => by
        rw [addr_add]; exact flat_cells hd j u hu) (flat_one M) (by unfold maxLen; omega) (by omega) hbase
      refine ⟨v', w', h1, ?_, h3⟩
      show w'.ownsRow base TR 2 v' (l ++ M).length (flat (l ++ M))
      rw [flat_app, List.length_append]
      exact h2
theorem wpList_append_rgs {ops : Array Oper} {rest : List Oper} {o : Oper} {a : Act} {w : World} {Q : Exit → Act → World → Prop} (hgd : o.guard = none) (s x : Operand)
    (ho : o.op = .call { callee := .builtin .append, args := #[s, x], argTypes := #[36, 36] })
    (base : Nat) (v : Value) (l : List Rg) (hs : a.eval s = v) (hown : Ow base l v w) (A : Option Addr) (m c : Nat) (M : List Rg) (hx : a.eval x = .slice A m c) (hb : Rs w (.slice A m c) M)
    (hn : l.length + M.length ≤ 100000000) (hbase : base ≤ w.heap.size)
    (h : ∀ v' w', Ow base (l ++ M) v' w' → w.grownBy w' v.ownBlock → wpList Try.prog ops Q rest (a.put o.dst v') w') :
    wpList Try.prog ops Q (o :: rest) a w := by
  refine wpList_plain hgd fun K hK => ?_
  obtain ⟨v', w', hrun, h1, h2⟩ := run_append_rgs base w o.type v l hown A m c M hb hn hbase
  unfold Oper.wp execOp
  simp only [ho, resolve, invoke, builtin, Sem.run_bind, Sem.run_pure, Result.andThen_ok, List.map_toArray, List.map_cons, List.map_nil, hs, hx, hrun]
  exact hK _ _ (h v' w' h1 h2)

theorem step_append_rgs {ops : Array Oper} {o : Oper} {a : Act} {w : World} {K : Act → World → Prop} {Q : Exit → Act → World → Prop} {E : Prop} (hgd : o.guard = none) (s x : Operand)
    (ho : o.op = .call { callee := .builtin .append, args := #[s, x], argTypes := #[36, 36] })
    (base : Nat) (v : Value) (l : List Rg) (hs : a.eval s = v) (hown : Ow base l v w) (A : Option Addr) (m c : Nat) (M : List Rg) (hx : a.eval x = .slice A m c) (hb : Rs w (.slice A m c) M)
    (hn : l.length + M.length ≤ 100000000) (hbase : base ≤ w.heap.size)
    (h : ∀ v' w', Ow base (l ++ M) v' w' → w.grownBy w' v.ownBlock → K (a.put o.dst v') w') :
    if Region.wanted o (yielded ops a.tmps) = true then Oper.wp Try.prog o a w K Q else E := by
  have hw : Region.wanted o (yielded ops a.tmps) = true := by simp [Region.wanted, hgd]
  rw [if_pos hw]
  obtain ⟨v', w', hrun, h1, h2⟩ := run_append_rgs base w o.type v l hown A m c M hb hn hbase
  unfold Oper.wp execOp
  simp only [ho, resolve, invoke, builtin, Sem.run_bind, Sem.run_pure, Result.andThen_ok, List.map_toArray, List.map_cons, List.map_nil, hs, hx, hrun]
  exact h v' w' h1 h2
/-! Parts of a slice. -/
theorem rs_drop {w : World} {g off n cap : Nat} {L : List Rg} (h : Rs w (.slice (some ⟨g, off, none⟩) n cap) L) (k : Nat) (hk : k ≤ n) : Rs w (.slice (some ⟨g, off + k * 2, none⟩) (n - k) (cap - k)) (L.drop k) := by
  obtain ⟨a, c, he, hc⟩ := h
  injection he with e1 e2 e3
  subst e1 e2 e3
  refine ⟨_, _, by rw [List.length_drop], fun hp => ⟨g, off + k * 2, rfl, fun i r hr => ?_⟩⟩
  obtain ⟨b, o, e, hd⟩ := hc (by rw [List.length_drop] at hp; omega)
  cases e
  rw [List.getElem?_drop] at hr
  obtain ⟨h1, h2⟩ := hd (k + i) r hr
  rw [show off + k * 2 + i * 2 = off + (k + i) * 2 by omega]
  exact ⟨h1, h2⟩
theorem ow_made (w : World) : Ow w.heap.size [] (.slice (some ⟨w.heap.size, 0, none⟩) 0 0) (w.alloc (.cells #[] TR)) :=
  ⟨rfl, .inr ⟨w.heap.size, 0, #[], rfl, Nat.le_refl _, heap_alloc_new _ _, Nat.le_refl _, by unfold maxLen; omega, rfl, rfl⟩⟩
theorem has_all (k : List UInt8) : hasR ⟨[], []⟩ k = nameOk k := by
  rw [hasR_bool (last_ok (a := []) rfl)]
  have h := lo_top k
  rw [show decide (lo (Rg.f ⟨[], []⟩) ≤ lo k ∧ lo k < hi (Rg.t ⟨[], []⟩)) = true from decide_eq_true ⟨by show lo [] ≤ _; rw [lo_nil]; omega, by show _ < hi []; rw [hi_nil]; exact h⟩, Bool.and_true]
theorem rs_take {w : World} {g off n cap : Nat} {L : List Rg} (h : Rs w (.slice (some ⟨g, off, none⟩) n cap) L) (k : Nat) (hk : k < n) : Rs w (.slice (some ⟨g, off, none⟩) k cap) (L.take k) := by
  obtain ⟨a, c, he, hc⟩ := h
  injection he with e1 e2 e3
  subst e1 e2 e3
  refine ⟨_, _, by rw [List.length_take, Nat.min_eq_left (by omega)], fun _ => ⟨g, off, rfl, fun i r hr => ?_⟩⟩
  obtain ⟨b, o, e, hd⟩ := hc (by omega)
  cases e
  rw [List.getElem?_take] at hr
  split at hr
  · exact hd i r hr
  · cases hr
theorem ow_grown {base : Nat} {L : List Rg} {v : Value} {w w1 : World} (h : Ow base L v w) {row : Option Nat} (hg : w.grownBy w1 row) (hr : ∀ k, row = some k → v.ownBlock ≠ some k) : Ow base L v w1 := by
  refine ⟨h.1, ?_⟩
  rcases h.2 with hn | ⟨g, cap, cur, rfl, hbg, hb, rest⟩
  · exact .inl hn
  · refine .inr ⟨g, cap, cur, rfl, hbg, (hg.block g (Array.getElem?_eq_some_iff.1 hb).1 (fun e => hr g e.symm rfl)).trans hb, rest⟩
theorem ow_below {L : List Rg} {v : Value} {w w0 w1 : World} {o : Obj} (h : Ow w0.heap.size L v w) (hg : (w.alloc o).grownBy w1 v.ownBlock) (hb : Below w0.heap.size w0 w) : Below w0.heap.size w0 w1 := by
  have h1 : Below w0.heap.size w0 (w.alloc o) := hb.trans ((alloc_b w o).mono hb.size)
  exact h1.grown hg h1.size (fun k e => (World.ownsRow.lt h k e).1)
theorem wri {x : Int} (h0 : -9223372036854775808 ≤ x) (h1 : x ≤ 9223372036854775807) : IntKind.i64.wrap x = x := by rw [IntKind.wrap_i64]; omega
theorem ow_some {base : Nat} {l : List Rg} {v : Value} {w : World} (h : Ow base l v w) (h0 : 0 < l.length) : ∃ g cap, v = .slice (some ⟨g, 0, none⟩) l.length cap ∧ l.length ≤ cap ∧ cap ≤ 9223372036854775807 ∧ base ≤ g ∧ g < w.heap.size := by
  rcases h.2 with ⟨rfl, e⟩ | ⟨g, cap, cur, rfl, hb, hh, hle, hmx, _⟩
  · omega
  · exact ⟨g, cap, rfl, hle, hmx, hb, (Array.getElem?_eq_some_iff.1 hh).1⟩
theorem b_trans {w w1 w2 : World} (h : Below w.heap.size w w1) (k : Below w1.heap.size w1 w2) : Below w.heap.size w w2 := h.trans (k.mono h.size)
set_option maxHeartbeats 4000000 in
theorem cov_go (a : Option Addr) (n cap : Nat) (S : Nat → ByteArray) (key : List UInt8) (t : Nat) (w : World) (hs : IsStrs w a n cap S) (hn : n ≤ 63) (hk : key.length ≤ 100) (ht : t < 256) :
    Calls Try.prog 8 #[.slice a n cap, .string (tx key), .int .u8 t] w fun e w' => e = .returned (.bool true) ∧ Below w.heap.size w w' := by
  have HW := Lib.hid works_any
  have d1 : decide (63 < (n : Int)) = false := by simp; omega
  have d1' : decide (63 < n) = false := by simp; omega
  have d2 : decide (100 < ((tx key).size : Int)) = false := by rw [tx_size]; simp; omega
  have HH := Lib.hid (fun (r : Rg) W => has_rng r key W)
  obtain ⟨ky, hky⟩ : ∃ ky, tx key = ky := ⟨_, rfl⟩
  rw [hky] at d2 HH ⊢
  replace hs := Lib.hid hs
  clear hky hk
  go_enter Try.func8, Try.ntmps8
  go_wp2
  clear d1 d1' d2
  go_loopw [7, 8, 9] (fun l at' i wr => ∃ (k : Nat) (L : List Rg) (s : List UInt8), k ≤ n ∧ i = .int .i64 k ∧ at' = .string (tx s) ∧ Ow w.heap.size L l wr ∧ ChainTo [] L s ∧ L.all okR = true ∧ endOk s = true ∧ L.length ≤ k ∧ Below w.heap.size w wr) (fun _ _ i _ => n - (intOf i).toNat)
  case atStart => exact ⟨0, [], [], Nat.zero_le _, rfl, rfl, Ow.nil _ _, rfl, rfl, rfl, Nat.le_refl _, Below.refl _ _⟩
  case round =>
    obtain ⟨k, L, s, hk, rfl, rfl, ho, hch, hok, hes, hlen, hb⟩ := hrel
    obtain ⟨al, cl, rfl⟩ := ho.form
    replace hch := Lib.hid hch
    replace hok := Lib.hid hok
    replace hes := Lib.hid hes
    replace ho := Lib.hid ho
    replace hb := Lib.hid hb
    by_cases hlt : k < n
    · obtain ⟨b, off, rfl, hbl, hcell⟩ := hs.out.cell (by omega)
      have cw := hcell k hlt
      obtain ⟨x, hx⟩ : ∃ x, S k = tx x := ⟨_, (tx_of _).symm⟩
      rw [hx] at cw
      have HS := Lib.hid (fun (W : World) (h : Below w.heap.size w W) => (h.cell (p := ⟨b, off + k, none⟩) hbl).trans cw)
      have c0 := HS.out _ hb.out
      have hblr : b < wr.heap.size := Nat.lt_of_lt_of_le hbl hb.out.size
      have hsz := tx_size x
      clear hcell hx cw hbl
      by_cases hx100 : 100 < x.length
      · have e1 : decide (100 < ((tx x).size : Int)) = true := by rw [tx_size]; simp; omega
        clear hsz hx100
        generalize tx x = X at *
        go_wp2_with fail
        refine (HW.out _).mono ?_
        rintro e w9 ⟨rfl, hb9⟩
        replace hb9 := Lib.hid (b_trans hb.out hb9)
        go_wp2
        go_ret
        exact ⟨rfl, hb9.out⟩
      · have e1 : decide (100 < ((tx x).size : Int)) = false := by rw [tx_size]; simp; omega
        have e2 : ((tx x).toList == []) = x.isEmpty := by rw [tx_l]; cases x <;> rfl
        have e2' : (tx x).toList.isEmpty = x.isEmpty := by rw [tx_l]
        have hB := alloc_b wr (.cells #[.string (tx s), .string (tx x)] TR)
        have hbB := Lib.hid (b_trans hb.out hB)
        have hoB := Lib.hid (ho.out.later hB)
        obtain ⟨k0, k1, k2, k3⟩ := (show B2 (wr.alloc (.cells #[.string (tx s), .string (tx x)] TR)) wr.heap.size (tx s) (tx x) from B2.new wr _ _).cells
        have hC := Lib.hid (fun W => check_any ⟨s, x⟩ W)
        clear hsz hx100 hB
        cases hxe : x.isEmpty
        · rw [hxe] at e2 e2'
          by_cases hokr : okR ⟨s, x⟩ = true
          · rw [show okE ⟨s, x⟩ = 0 from if_pos hokr] at hC
            have hxne : x ≠ [] := by intro e; rw [e] at hxe; cases hxe
            have hchn := Lib.hid (chain_app L [] s x hch.out hxne)
            have hokn : Hid ((L ++ [(⟨s, x⟩ : Rg)]).all okR = true) := Lib.hid (by rw [List.all_append, hok.out]; simp [hokr])
            have hesn : Hid (endOk x = true) := Lib.hid (((okR_iff _).1 hokr).2.1)
            clear hokr hxne
            go_wp2_with fail
            refine (hC.out _).mono ?_
            rintro e w3 ⟨rfl, hb3⟩
            have hoC := Lib.hid (hoB.out.later hb3)
            have hbC := Lib.hid (b_trans hbB.out hb3)
            have q0 := (hb3.cell (p := ⟨wr.heap.size, 0, none⟩) (by simp)).trans k0
            have q1 := (hb3.cell (p := ⟨wr.heap.size, 1, none⟩) (by simp)).trans k1
            have hA3 := alloc_b w3 (.cells #[.string (tx s), .string (tx x)] TR)
            have hoD := Lib.hid (hoC.out.later hA3)
            obtain ⟨g0, g1, _, _⟩ := (show B2 (w3.alloc (.cells #[.string (tx s), .string (tx x)] TR)) w3.heap.size (tx s) (tx x) from B2.new w3 _ _).cells
            have hll : L.length ≤ 100000000 := by omega
            have hsz : w.heap.size ≤ (w3.alloc (.cells #[.string (tx s), .string (tx x)] TR)).heap.size := Nat.le_trans hbC.out.size hA3.size
            clear k0 k1 k2 k3 c0 hA3 hb3 e1 e2 e2'
            have c3 := HS.out _ hbC.out
            go_wp2_with (at_builtin; refine wpList_append_rg rfl _ _ rfl w.heap.size _ L rfl hoD.out w3.heap.size 1 ⟨s, x⟩ rfl g0 g1 hll hsz ?_; intro v' w4 ho4 hg4; have hb4 := ow_below hoC.out hg4 hbC.out; have c4 := HS.out _ hb4)
            replace ho4 := Lib.hid ho4
            replace hb4 := Lib.hid hb4
            clear hg4
            go_roundw
            case rel => exact ⟨k + 1, L ++ [(⟨s, x⟩ : Rg)], x, by omega, by go_num, rfl, ho4.out, hchn.out, hokn.out, hesn.out, by simp; omega, hb4.out⟩
            case measure => simp [intOf]; omega
          · rw [show okE ⟨s, x⟩ = 2 from if_neg hokr] at hC
            clear hokr
            go_wp2_with fail
            refine (hC.out _).mono ?_
            rintro e w3 ⟨rfl, hb3⟩
            have hoC := Lib.hid (hoB.out.later hb3)
            have hbC := Lib.hid (b_trans hbB.out hb3)
            clear hb3 k0 k1 k2 k3 c0
            go_wp2
            go_roundw
            case rel => exact ⟨k + 1, L, s, by omega, by go_num, rfl, hoC.out, hch.out, hok.out, hes.out, by omega, hbC.out⟩
            case measure => simp [intOf]; omega
        · rw [hxe] at e2 e2'
          go_wp2
          go_roundw
          case rel => exact ⟨k + 1, L, s, by omega, by go_num, rfl, hoB.out, hch.out, hok.out, hes.out, by omega, hbB.out⟩
          case measure => simp [intOf]; omega
    · obtain rfl : k = n := by omega
      obtain ⟨L0, hL0⟩ : ∃ L0, L ++ [(⟨s, []⟩ : Rg)] = L0 := ⟨_, rfl⟩
      have hcov : CovL L0 := by rw [← hL0]; exact covL_of hch.out hok.out
      obtain ⟨m, hm⟩ : ∃ m, L0.length = m := ⟨_, rfl⟩
      have hm1 : 1 ≤ m := by rw [← hm]; exact hcov.len
      have hm64 : m ≤ 64 := by rw [← hm, ← hL0]; simp; omega
      have hA := alloc_b wr (.cells #[.string (tx s), .string ⟨#[]⟩] TR)
      have hoD := Lib.hid (ho.out.later hA)
      obtain ⟨g0, g1, _, _⟩ := (show B2 (wr.alloc (.cells #[.string (tx s), .string ⟨#[]⟩] TR)) wr.heap.size (tx s) ⟨#[]⟩ from B2.new wr _ _).cells
      have hll : L.length ≤ 100000000 := by omega
      have hsz : w.heap.size ≤ (wr.alloc (.cells #[.string (tx s), .string ⟨#[]⟩] TR)).heap.size := Nat.le_trans hb.out.size hA.size
      replace hcov := Lib.hid hcov
      replace hL0 := Lib.hid hL0
      replace hm := Lib.hid hm
      have e1 : IntKind.i64.wrap (t : Int) = t := wri (by omega) (by omega)
      have e2 : (t : Int).tmod (m : Int) = ((t % m : Nat) : Int) := (Int.ofNat_tmod t m).symm
      have e3 : (t : Int) % (m : Int) = ((t % m : Nat) : Int) := (Int.natCast_emod _ _).symm
      have e4 : ¬ (m : Int) = 0 := by omega
      have e5 : ((m : Int) == 0) = false := by simpa using e4
      have e6 : ¬ m = 0 := by omega
      have hkm := Nat.mod_lt t (y := m) (by omega)
      generalize t % m = q at *
      clear hA hlt hlen
      go_wp2_with (at_builtin; refine wpList_append_rg rfl _ _ rfl w.heap.size _ L rfl hoD.out wr.heap.size 1 ⟨s, []⟩ rfl g0 g1 hll hsz ?_; intro v' w1 ho1 hg1; have hb1 := ow_below ho.out hg1 hb.out; rw [hL0.out] at ho1; obtain ⟨g, c1, hv1, hmc, hcx, hbg, hgs⟩ := ow_some ho1 (by rw [hm.out]; omega); rw [hm.out] at hv1 hmc; subst hv1)
      replace ho1 := Lib.hid ho1
      replace hb1 := Lib.hid hb1
      clear hg1 g0 g1 hll hsz hoD e1 e2 e3 e4 e5 e6
      have f1 : ¬ c1 = q := by omega
      have f2 : (q : Int) ≤ (m : Int) := by omega
      have f3 : (m : Int) ≤ (c1 : Int) := by omega
      have f4 : (q : Int) ≤ (c1 : Int) := by omega
      have f5 : 0 ≤ (q : Int) := by omega
      refine wp_region_held_drew (S := (fun _ => True)) (by kernel_rfl) trivial (fun hS => ?_)
      try simp only [Act.put, List.setIfInBounds_toArray, List.set_cons_zero, List.set_cons_succ]
      refine wpAnyH_take (i := 1) (v := .slice (some ⟨g, 0, none⟩) m c1) rfl (by kernel_rfl) (by kernel_rfl) (by kernel_rfl) (fun _ _ _ h => h) (Or.inl ⟨by rfl, by intro w' hSw; go_simp⟩) hS ?_
      try simp only [Act.put, List.setIfInBounds_toArray, List.set_cons_zero, List.set_cons_succ]
      refine wpAnyH_take (i := 2) (v := .int .i64 q) rfl (by kernel_rfl) (by kernel_rfl) (by kernel_rfl) (fun _ _ _ h => h) (Or.inl ⟨by rfl, by intro w' hSw; go_simp⟩) hS ?_
      try simp only [Act.put, List.setIfInBounds_toArray, List.set_cons_zero, List.set_cons_succ]
      refine wpAnyH_take (i := 3) (v := .slice (some ⟨g, q * 2, none⟩) (m - q) (c1 - q)) rfl (by kernel_rfl) (by kernel_rfl) (by kernel_rfl) (fun _ _ _ h => h) (Or.inl ⟨by rfl, by intro w' hSw; go_simp⟩) hS ?_
      try simp only [Act.put, List.setIfInBounds_toArray, List.set_cons_zero, List.set_cons_succ]
      refine wpAnyH_take (i := 5) (v := .slice (some ⟨g, 0, none⟩) m c1) rfl (by kernel_rfl) (by kernel_rfl) (by kernel_rfl) (fun _ _ _ h => h) (Or.inl ⟨by rfl, by intro w' hSw; go_simp⟩) hS ?_
      try simp only [Act.put, List.setIfInBounds_toArray, List.set_cons_zero, List.set_cons_succ]
      refine wpAnyH_take (i := 6) (v := .int .i64 q) rfl (by kernel_rfl) (by kernel_rfl) (by kernel_rfl) (fun _ _ _ h => h) (Or.inl ⟨by rfl, by intro w' hSw; go_simp⟩) hS ?_
      try simp only [Act.put, List.setIfInBounds_toArray, List.set_cons_zero, List.set_cons_succ]
      refine wpAnyH_take (i := 7) (v := .slice (some ⟨g, 0, none⟩) q c1) rfl (by kernel_rfl) (by kernel_rfl) (by kernel_rfl) (fun _ _ _ h => h) (Or.inl ⟨by rfl, by intro w' hSw; go_simp⟩) hS ?_
      try simp only [Act.put, List.setIfInBounds_toArray, List.set_cons_zero, List.set_cons_succ]
      refine wpAnyH_ready (rs := [0]) (by kernel_rfl) (by simp) ?_
      refine AllReadyH.cons rfl (fun K hK => ?_) AllReadyH.nil
      go_simp
      refine hK.out _ _ trivial (fun hS => ?_)
      clear hK K
      try simp only [Act.put, List.setIfInBounds_toArray, List.set_cons_zero, List.set_cons_succ]
      have hW : Below w1.heap.size w1 (w1.alloc (.cells #[] TR)).drew := (alloc_b w1 (.cells #[] TR)).drew
      have hoE : Ow w1.heap.size [] (.slice (some ⟨w1.heap.size, 0, none⟩) 0 0) (w1.alloc (.cells #[] TR)).drew := (ow_made w1).later (Below.refl _ _).drew
      have hr1 := ho1.out.rs
      have hrA := rs_drop (hr1.later hW) q (by omega)
      rw [Nat.zero_add] at hrA
      have hdl : (L0.drop q).length = m - q := by rw [List.length_drop, hm.out]
      have htl : (L0.take q).length = q := by rw [List.length_take, hm.out]; omega
      replace hr1 := Lib.hid hr1
      replace hrA := Lib.hid hrA
      replace hdl := Lib.hid hdl
      replace htl := Lib.hid htl
      replace hoE := Lib.hid hoE
      replace hW := Lib.hid hW
      refine wpAnyH_ready (rs := [4]) (by kernel_rfl) (by simp) ?_
      refine AllReadyH.cons rfl (fun K hK => ?_) AllReadyH.nil
      refine step_append_rgs rfl _ _ rfl w1.heap.size (.slice (some ⟨w1.heap.size, 0, none⟩) 0 0) ([] : List Rg) rfl hoE.out (some ⟨g, q * 2, none⟩) (m - q) (c1 - q) (L0.drop q) rfl hrA.out (by rw [hdl.out]; simp; omega) hW.out.size ?_
      intro v2 w2 ho2 hg2
      have hb2 : Below w1.heap.size w1 w2 := hW.out.grown hg2 hW.out.size (fun k e => by cases e; exact Nat.le_refl _)
      rw [List.nil_append] at ho2
      obtain ⟨g2, c2, hv2, hmc2, hcx2, hbg2, hgs2⟩ := ow_some ho2 (by rw [hdl.out]; omega)
      subst hv2
      have hrB := rs_take (hr1.out.later hb2) q hkm
      refine hK.out _ _ trivial (fun hS => ?_)
      clear hK K
      try simp only [Act.put, List.setIfInBounds_toArray, List.set_cons_zero, List.set_cons_succ]
      refine wpAnyH_ready (rs := [8]) (by kernel_rfl) (by simp) ?_
      refine AllReadyH.cons rfl (fun K hK => ?_) AllReadyH.nil
      refine step_append_rgs rfl _ _ rfl w1.heap.size _ (L0.drop q) rfl ho2 (some ⟨g, 0, none⟩) q c1 (L0.take q) rfl hrB (by rw [hdl.out, htl.out]; omega) hb2.size ?_
      intro v3 w3 ho3 hg3
      have hb3 : Below w1.heap.size w1 w3 := hb2.grown hg3 hb2.size (fun k e => (World.ownsRow.lt ho2 k e).1)
      have hlt3 : (L0.drop q ++ L0.take q).length = m := by rw [List.length_append, hdl.out, htl.out]; omega
      obtain ⟨g3, c3, hv3, hmc3, hcx3, hbg3, hgs3⟩ := ow_some ho3 (by rw [hlt3]; omega)
      rw [hlt3] at hv3 hmc3
      subst hv3
      refine hK.out _ _ trivial (fun hS => ?_)
      clear hK K
      try simp only [Act.put, List.setIfInBounds_toArray, List.set_cons_zero, List.set_cons_succ]
      refine wpAnyH_ready (rs := [9]) (by kernel_rfl) (by simp) ?_
      refine AllReadyH.cons rfl (fun K hK => ?_) AllReadyH.nil
      go_simp
      refine hK.out _ _ trivial (fun hS => ?_)
      clear hK K
      try simp only [Act.put, List.setIfInBounds_toArray, List.set_cons_zero, List.set_cons_succ]
      refine wpAnyH_done (by kernel_rfl) ?_ _
      clear hS
      have hB3 := Lib.hid (b_trans hb1.out hb3)
      have hr13 := Lib.hid (hr1.out.later hb3)
      have hr33 := Lib.hid (show Rs w3 (.slice (some ⟨g3, 0, none⟩) m c3) (turnL L0 q) from ho3.rs)
      have hgl : g < w3.heap.size := Nat.lt_of_lt_of_le hgs hb3.size
      clear hg2 hg3 hb2 hb3 ho2 ho3 hrB hr1 hrA hoE hW ho1 hb1 hlt3 hdl htl
      have hlT : (turnL L0 q).length = m := by rw [turn_len, hm.out]
      have hqL : q < L0.length := by rw [hm.out]; exact hkm
      have hC1 := Lib.hid (show ∀ W, Below w3.heap.size w3 W → Calls Try.prog 30 #[.slice (some ⟨g, 0, none⟩) m c1] W fun e w' => e = .returned (.tuple #[.bool true, .int .i64 0]) ∧ Below W.heap.size W w' from fun W hW =>
        (cover_any _ L0 W (hr13.out.later hW) (by rw [hm.out]; omega) (fun k e => by cases e; exact Nat.lt_of_lt_of_le hgl hW.size)).mono fun e w' ⟨z, c, he, hc, hbb⟩ => by
          obtain ⟨rfl, rfl⟩ := cov_yes hcov.out (List.Perm.refl _) (by rw [hm.out]; exact hm64) hc
          exact ⟨he, hbb⟩)
      have hC2 := Lib.hid (show ∀ W, Below w3.heap.size w3 W → Calls Try.prog 30 #[.slice (some ⟨g3, 0, none⟩) m c3] W fun e w' => e = .returned (.tuple #[.bool true, .int .i64 0]) ∧ Below W.heap.size W w' from fun W hW =>
        (cover_any _ (turnL L0 q) W (hr33.out.later hW) (by rw [hlT]; omega) (fun k e => by cases e; exact Nat.lt_of_lt_of_le hgs3 hW.size)).mono fun e w' ⟨z, c, he, hc, hbb⟩ => by
          obtain ⟨rfl, rfl⟩ := cov_yes hcov.out (turn_perm L0 q) (by rw [hm.out]; exact hm64) hc
          exact ⟨he, hbb⟩)
      have hC3 := Lib.hid (show ∀ off cc W, Rs W (.slice (some ⟨g3, off, none⟩) (m - 1) cc) ((turnL L0 q).drop 1) → Below w3.heap.size w3 W → Calls Try.prog 30 #[.slice (some ⟨g3, off, none⟩) (m - 1) cc] W fun e w' => e = .returned (.tuple #[.bool false, .int .i64 0]) ∧ Below W.heap.size W w' from fun off cc W hR hW =>
        (cover_any _ ((turnL L0 q).drop 1) W hR (by rw [List.length_drop, hlT]; omega) (fun k e => by cases e; exact Nat.lt_of_lt_of_le hgs3 hW.size)).mono fun e w' ⟨z, c, he, hc, hbb⟩ => by
          obtain ⟨rfl, rfl⟩ := cov_no hcov.out hqL (by rw [List.drop_one]; exact turn_tail L0 q hqL) (by rw [hm.out]; exact hm64) hc
          exact ⟨he, hbb⟩)
      have hat := Lib.hid (show ∀ W, Below w3.heap.size w3 W → ∀ k (hk : k < L0.length), W.cell? ⟨g, k * 2, none⟩ = some (.string (tx L0[k].f)) ∧ W.cell? ⟨g, k * 2 + 1, none⟩ = some (.string (tx L0[k].t)) from fun W hW k hk => by
        have h' := hr13.out.later hW
        obtain ⟨a, c, he, hc⟩ := h'
        injection he with e1 e2 e3
        subst e1
        obtain ⟨b, o, e, hd⟩ := hc (by omega)
        cases e
        have := hd k L0[k] (List.getElem?_eq_getElem hk)
        rw [Nat.zero_add] at this
        exact this)
      have hstep := Lib.hid (fun k (hk : k < L0.length) => cnt_step L0 k key hk)
      have hcl := Lib.hid (show ∀ k, cnt (L0.take k) key ≤ 64 from fun k => Nat.le_trans (cnt_le _ _) (by rw [List.length_take, hm.out]; omega))
      have hfin := Lib.hid (show cnt (L0.take m) key = if nameOk key then 1 else 0 by
        rw [List.take_of_length_le (by rw [hm.out]; exact Nat.le_refl _)]
        cases hne : nameOk key
        · rw [hcov.out.zer key hne]; rfl
        · rw [hcov.out.one key hne]; rfl)
      have hHA := Lib.hid (show ∀ W, Calls Try.prog 19 #[.agg #[.string ⟨#[]⟩, .string ⟨#[]⟩], .string ky] W fun e w' => e = .returned (.bool (nameOk key)) ∧ Below W.heap.size W w' from fun W => by
        have := HH.out ⟨[], []⟩ W
        rw [has_all] at this
        exact this)
      have hr33' := Lib.hid (show ∀ W, Below w3.heap.size w3 W → 1 ≤ m → Rs W (.slice (some ⟨g3, 2, none⟩) (m - 1) (c3 - 1)) ((turnL L0 q).drop 1) from fun W hW h1 => by
        have := rs_drop (hr33.out.later hW) 1 h1
        rwa [Nat.zero_add, Nat.one_mul] at this)
      have hr3e := Lib.hid (show ∀ cc W, m = 1 → Rs W (.slice (some ⟨g3, 0, none⟩) (m - 1) cc) ((turnL L0 q).drop 1) from fun cc W h1 =>
        ⟨_, _, by rw [List.length_drop, hlT], fun hp => by rw [List.length_drop, hlT] at hp; omega⟩)
      clear hr13 hr33 hcov hlT hqL hkm hgl hgs3 hL0 hch hok hes ho hb hs hmc hcx hbg hgs
      replace hB3 := Lib.hid hB3.out
      have hb30 := Below.refl w3.heap.size w3
      replace hb30 := Lib.hid hb30
      go_wp2_with (first
        | (go_at_call_of 30 (Value.slice (some ⟨g, 0, none⟩) m c1); refine (hC1.out _ hb30.out).mono ?_; rintro e w4 ⟨rfl, hb4⟩; replace hb4 := Lib.hid (b_trans hb30.out hb4))
        | (go_at_call_of 30 (Value.slice (some ⟨g3, 0, none⟩) m c3); refine (hC2.out _ hb4.out).mono ?_; rintro e w5 ⟨rfl, hb5⟩; replace hb5 := Lib.hid (b_trans hb4.out hb5)))
      all_goals
        first
          | (have hx1 : m = 1 := by omega
             refine (hC3.out 0 0 _ (hr3e.out 0 _ hx1) hb5.out).mono ?_)
          | refine (hC3.out 2 (c3 - 1) _ (hr33'.out _ hb5.out hm1) hb5.out).mono ?_
        rintro e w6 ⟨rfl, hb6⟩
        replace hb6 := Lib.hid (b_trans hb5.out hb6)
        clear hC1 hC2 hC3 hr33' hr3e hb5 hb30 hb4 hmc3 hcx3
        go_wp2
        go_loopw [19, 20] (fun c i wr => ∃ k : Nat, k ≤ m ∧ i = .int .i64 k ∧ c = .int .i64 (cnt (L0.take k) key : Nat) ∧ Below w3.heap.size w3 wr) (fun _ i _ => m - (intOf i).toNat)
        case atStart => exact ⟨0, Nat.zero_le _, rfl, rfl, hb6.out⟩
        case round =>
          obtain ⟨k2, hk2, rfl, rfl, hbr⟩ := hrel
          replace hbr := Lib.hid hbr
          by_cases hlt2 : k2 < m
          · have hkl : k2 < L0.length := by rw [hm.out]; exact hlt2
            obtain ⟨p0, p1⟩ := hat.out _ hbr.out k2 hkl
            have hgr : g < wr.heap.size := World.block_lt_of_cell? wr _ p0
            have hHk := Lib.hid (fun W => HH.out L0[k2] W)
            have hst := hstep.out k2 hkl
            have hbd := hcl.out k2
            generalize hasR L0[k2] key = z at *
            generalize tx L0[k2].f = xf at *
            generalize tx L0[k2].t = xt at *
            generalize hc : cnt (L0.take k2) key = c at *
            cases z
            · replace hst := Lib.hid (show cnt (L0.take (k2 + 1)) key = c from hst)
              clear hc
              go_wp2_with (go_at_call 19; refine (hHk.out _).mono ?_; rintro e w7 ⟨rfl, hb7⟩; replace hb7 := Lib.hid (b_trans hbr.out hb7))
              go_roundw
              case rel => exact ⟨k2 + 1, by omega, by go_num, by rw [hst.out], hb7.out⟩
              case measure => simp [intOf]; omega
            · replace hst := Lib.hid (show cnt (L0.take (k2 + 1)) key = c + 1 from hst)
              clear hc
              go_wp2_with (go_at_call 19; refine (hHk.out _).mono ?_; rintro e w7 ⟨rfl, hb7⟩; replace hb7 := Lib.hid (b_trans hbr.out hb7))
              go_roundw
              case rel => exact ⟨k2 + 1, by omega, by go_num, by rw [hst.out]; go_num, hb7.out⟩
              case measure => simp [intOf]; omega
          · obtain rfl : k2 = m := by omega
            have hfu := hfin.out
            clear hlt2 hfin hcl hstep hat HH
            generalize cnt (L0.take k2) key = c at *
            generalize nameOk key = no at *
            cases no
            all_goals
              obtain rfl := hfu
              go_wp2_with (first
                | (go_at_call 19; refine (hHA.out _).mono ?_; rintro e w7 ⟨rfl, hb7⟩; replace hb7 := Lib.hid (b_trans hbr.out hb7))
                | (go_at_call 12; refine (HW.out _).mono ?_; rintro e w9 ⟨rfl, hb9⟩; replace hb9 := Lib.hid (b_trans hB3.out (b_trans hb7.out hb9))))
              go_ret
              exact ⟨rfl, hb9.out⟩
theorem cov_law (a : Option Addr) (n cap : Nat) (S : Nat → ByteArray) (s1 : ByteArray) (a2 : Int) (w : World) (w0 : IsStrs w a n cap S) (w1 : s1.size ≤ maxLen) (w2 : (Lit.int .u8 a2).wf = true) :
    Calls Try.prog 8 #[.slice a n cap, .string s1, .int .u8 a2] w fun e w' => e = .returned (.bool true) ∧ Below w.heap.size w w' := by
  have e := tx_of s1
  generalize s1.data.toList = l at *
  subst e
  obtain ⟨t, rfl, ht⟩ : ∃ t : Nat, a2 = (t : Int) ∧ t < 256 := by
    simp only [Lit.wf] at w2
    simp at w2
    have m1 : IntKind.u8.min = 0 := by decide
    have m2 : IntKind.u8.max = 255 := by decide
    rw [m1, m2] at w2
    exact ⟨a2.toNat, by omega, by omega⟩
  by_cases hc : n ≤ 63 ∧ l.length ≤ 100
  · exact cov_go a n cap S l t w w0 hc.1 hc.2 ht
  · have HW := Lib.hid works_any
    have hf := w0.fit
    clear w0 w2
    by_cases h1 : 63 < n
    · have d1 : decide (63 < (n : Int)) = true := by simp; omega
      have d1' : decide (63 < n) = true := by simp; omega
      clear hc w1
      generalize tx l = ky at *
      go_enter Try.func8, Try.ntmps8
      go_wp2_with (go_at_call 12; refine (HW.out _).mono ?_; rintro e w9 ⟨rfl, hb9⟩)
      go_ret
      exact ⟨rfl, hb9⟩
    · have d1 : decide (63 < (n : Int)) = false := by simp; omega
      have d1' : decide (63 < n) = false := by simp; omega
      have d2 : decide (100 < ((tx l).size : Int)) = true := by rw [tx_size]; simp; omega
      clear hc w1
      generalize tx l = ky at *
      go_enter Try.func8, Try.ntmps8
      go_wp2_with (go_at_call 12; refine (HW.out _).mono ?_; rintro e w9 ⟨rfl, hb9⟩)
      go_ret
      exact ⟨rfl, hb9⟩
end Go.Proofs.Ytocencmdfppkaaa.Rng
