/- Insert whole; the comparison of an entry with an effect; halving. -/
import Derived.Test.YtbgjiokocjnjhaaD04
import Derived.Deep.LoopGhost
import Derived.IntWalk
namespace Go.Proofs.Ytbgjiokocjnjhaa.Ded
open Go.RowKit Go.Lib Go.Shelf
open Rng (tx nameOk)
open Eff (TE order_any ordV)
set_option linter.unusedVariables false
set_option linter.unusedSimpArgs false
set_option maxRecDepth 100000

theorem ins_any (base : Nat) (v : Value) (L : List En) (x : En) (i vb vc : Nat) (w : World) (hi : i ≤ L.length) (hown : Ow base L v w) (hx : w.heap[vb]? = some (.cells (ec x).toArray TN (0, 0))) (hne : v.ownBlock ≠ some vb) (hn : L.length ≤ 100000000) (hbase : base ≤ w.heap.size) :
    Calls Try.prog 54 #[v, .int .i64 i, .slice (some ⟨vb, 0, none⟩) 1 vc] w (Insd base (L.take i ++ x :: L.drop i) v w) := by
  by_cases h : i = L.length
  · subst h
    rw [List.take_of_length_le (Nat.le_refl _), List.drop_of_length_le (Nat.le_refl _)]
    exact ins_end base v L x vb vc w hown hx hn hbase
  · obtain ⟨hlen, ⟨rfl, h0⟩ | ⟨g, cap, cur, rfl, hb, hg, hle, hm, hsz, ht⟩⟩ := hown
    · omega
    · by_cases hr : L.length + 1 ≤ cap
      · exact ins_shift base g cap cur L x i vb vc w (by omega) hb hg hr hm hsz ht hx (fun e => hne (by rw [e]; rfl))
      · obtain rfl : cap = L.length := by omega
        exact ins_grow base g cur L x i vb vc w (by omega) hbase hg hn hsz ht hx
abbrev efA (e : Ef) : Value := .agg #[.int .i64 e.s, .int .i64 e.t, .int .i64 e.p]
abbrev enA (x : En) : Value := .agg #[.int .i64 x.er, .int .i64 x.nm, .string (tx x.da), .int .i64 x.ef.s, .int .i64 x.ef.t, .int .i64 x.ef.p, .string (tx x.ky)]
theorem compare_any (x : En) (e : Ef) (w : World) :
    Calls Try.prog 81 #[enA x, efA e] w fun r w' => r = .returned (.int .i64 (ordF x.ef e)) ∧ Below w.heap.size w w' := by
  have HO := Lib.hid (fun W => order_any x.ef.s x.ef.t x.ef.p e.s e.t e.p W)
  have hb : Below w.heap.size w ((w.alloc (.cells #[.int .i64 x.er, .int .i64 x.nm, .string (tx x.da), .int .i64 x.ef.s, .int .i64 x.ef.t, .int .i64 x.ef.p, .string (tx x.ky)] TN)).alloc (.cells #[.int .i64 e.s, .int .i64 e.t, .int .i64 e.p] TE)) :=
    ((Below.refl _ _).alloc (Nat.le_refl _) _).alloc (by simp) _
  replace hb := Lib.hid hb
  go_enter Try.func81, Try.ntmps81
  go_wp2_with (go_at_call 25; refine (HO.out _).mono ?_; rintro r w' ⟨rfl, hw⟩)
  go_ret
  exact ⟨rfl, hb.out.trans (hw.mono hb.out.size)⟩
/-- The effect is there. -/
def hasB (L : List En) (e : Ef) : Bool := (getL L e).isSome
def Srch (L : List En) (e : Ef) (w : World) (r : Ending) (w' : World) : Prop := r = .returned (.tuple #[.int .i64 (plc L e), .bool (hasB L e)]) ∧ Below w.heap.size w w'
theorem has_plc {L : List En} (h : SrtL L) (e : Ef) (hp : plc L e < L.length) : hasB L e = decide (ordF (L[plc L e]'hp).ef e = 0) := by
  unfold hasB
  rw [plc_get h, List.getElem?_eq_getElem hp]
  show (if L[plc L e].ef = e then some L[plc L e] else none).isSome = _
  by_cases k : L[plc L e].ef = e
  · rw [if_pos k]
    exact (decide_eq_true (ord_nul.2 k)).symm
  · rw [if_neg k]
    exact (decide_eq_false (fun c => k (ord_nul.1 c))).symm
theorem has_end {L : List En} (h : SrtL L) (e : Ef) (hp : ¬ plc L e < L.length) : hasB L e = false := by
  unfold hasB
  rw [plc_get h, List.getElem?_eq_none (by omega)]
  rfl
/-- A row of entries in memory. -/
theorem row7 {W : World} {g cap : Nat} {cur : Array Value} {L : List En} (hg : W.heap[g]? = some (.cells cur TN (0, 0))) (ht : cur.toList.take (L.length * 7) = flat L) {k : Nat} {x : En} (hk : L[k]? = some x) :
    W.cell? ⟨g, k * 7, none⟩ = some (.int .i64 x.er) ∧ W.cell? ⟨g, k * 7 + 1, none⟩ = some (.int .i64 x.nm) ∧ W.cell? ⟨g, k * 7 + 2, none⟩ = some (.string (tx x.da)) ∧ W.cell? ⟨g, k * 7 + 3, none⟩ = some (.int .i64 x.ef.s) ∧
    W.cell? ⟨g, k * 7 + 4, none⟩ = some (.int .i64 x.ef.t) ∧ W.cell? ⟨g, k * 7 + 5, none⟩ = some (.int .i64 x.ef.p) ∧ W.cell? ⟨g, k * 7 + 6, none⟩ = some (.string (tx x.ky)) := by
  have hlt : k < L.length := (List.getElem?_eq_some_iff.1 hk).1
  have H : ∀ j (hj : j < 7), W.cell? ⟨g, k * 7 + j, none⟩ = (ec x)[j]? := fun j hj => by
    rw [cell_of_row W g _ cur TN _ hg, ← flat_get hk hj, ← ht, List.getElem?_take, if_pos (by omega)]
    simp
  exact ⟨H 0 (by omega), H 1 (by omega), H 2 (by omega), H 3 (by omega), H 4 (by omega), H 5 (by omega), H 6 (by omega)⟩
structure SAt (w : World) (g : Nat) (cur : Array Value) (e : Ef) (W : World) : Prop where
  row : W.heap[g]? = some (.cells cur TN (0, 0))
  box : W.heap[w.heap.size]? = some (.cells #[.int .i64 e.s, .int .i64 e.t, .int .i64 e.p] TE (0, 0))
  bel : Below w.heap.size w W
theorem SAt.later {w W W' : World} {g : Nat} {cur : Array Value} {e : Ef} (h : SAt w g cur e W) (hb : Below W.heap.size W W') : SAt w g cur e W' :=
  ⟨(hb.block _ (Array.getElem?_eq_some_iff.1 h.row).1).trans h.row, (hb.block _ (Array.getElem?_eq_some_iff.1 h.box).1).trans h.box, h.bel.trans (hb.mono h.bel.size)⟩
theorem SAt.drew {w W : World} {g : Nat} {cur : Array Value} {e : Ef} (h : SAt w g cur e W) : SAt w g cur e W.drew := h.later (Below.refl _ _).drew
abbrev S5 (w : World) (g : Nat) (cur : Array Value) (e : Ef) (k : Nat) (x : En) (W : World) : Prop :=
  W.cell? ⟨g, k * 7, none⟩ = some (.int .i64 x.er) ∧ W.cell? ⟨g, k * 7 + 1, none⟩ = some (.int .i64 x.nm) ∧ W.cell? ⟨g, k * 7 + 2, none⟩ = some (.string (tx x.da)) ∧ W.cell? ⟨g, k * 7 + 3, none⟩ = some (.int .i64 x.ef.s) ∧
  W.cell? ⟨g, k * 7 + 4, none⟩ = some (.int .i64 x.ef.t) ∧ W.cell? ⟨g, k * 7 + 5, none⟩ = some (.int .i64 x.ef.p) ∧ W.cell? ⟨g, k * 7 + 6, none⟩ = some (.string (tx x.ky)) ∧
  W.cell? ⟨w.heap.size, 0, none⟩ = some (.int .i64 e.s) ∧ W.cell? ⟨w.heap.size, 1, none⟩ = some (.int .i64 e.t) ∧ W.cell? ⟨w.heap.size, 2, none⟩ = some (.int .i64 e.p) ∧ SAt w g cur e W
theorem SAt.s5 {w W : World} {g : Nat} {cur : Array Value} {e : Ef} {L : List En} (h : SAt w g cur e W) (ht : cur.toList.take (L.length * 7) = flat L) {k : Nat} {x : En} (hk : L[k]? = some x) : S5 w g cur e k x W := by
  obtain ⟨h1, h2, h3, h4, h5, h6, h7⟩ := row7 (cap := 0) h.row ht hk
  exact ⟨h1, h2, h3, h4, h5, h6, h7, cell_of_row W _ 0 _ TE _ h.box, cell_of_row W _ 1 _ TE _ h.box, cell_of_row W _ 2 _ TE _ h.box, h⟩
theorem s5_sat {w W : World} {g : Nat} {cur : Array Value} {e : Ef} {k : Nat} {x : En} (h : S5 w g cur e k x W) : SAt w g cur e W := h.2.2.2.2.2.2.2.2.2.2
set_option maxHeartbeats 1000000 in
theorem search_any (base : Nat) (v : Value) (L : List En) (e : Ef) (w : World) (hown : Ow base L v w) (hs : SrtL L) (hn : L.length ≤ 100000000) :
    Calls Try.prog 80 #[v, efA e, .func (.func 81) #[] #[]] w (Srch L e w) := by
  have hb0 : Below w.heap.size w (w.alloc (.cells #[.int .i64 e.s, .int .i64 e.t, .int .i64 e.p] TE)) := (Below.refl _ _).alloc (Nat.le_refl _) _
  rcases hown.2 with ⟨rfl, h0⟩ | ⟨g, cap, cur, rfl, hb, hg, hle, hm, hsz, ht⟩
  · obtain rfl := List.eq_nil_of_length_eq_zero h0
    have HI : Hid (∀ n, Srch [] e w (.returned (.tuple #[.int .i64 0, .bool false])) ((w.alloc (.cells #[.int .i64 e.s, .int .i64 e.t, .int .i64 e.p] TE)).drewN n)) := Lib.hid fun n => ⟨rfl, hb0.trans ⟨rfl, rfl, rfl, Nat.le_refl _, fun _ _ => rfl⟩⟩
    clear hb0 hs hown hn h0
    go_enter Try.func80, Try.ntmps80
    go_wp2
    refine wp_loop_rounds 1 ?_
    rw [rounds_succ]
    go_wp2
    go_quiet (fail)
    go_wp2
    go_ret2
    exact HI.out _
  · have hS0 : SAt w g cur e (w.alloc (.cells #[.int .i64 e.s, .int .i64 e.t, .int .i64 e.p] TE)) :=
      ⟨(hb0.block _ (Array.getElem?_eq_some_iff.1 hg).1).trans hg, heap_alloc_new _ _, hb0⟩
    have HC := Lib.hid (fun x W => compare_any x e W)
    have HS := Lib.hid hs
    have HT := Lib.hid ht
    replace hS0 := Lib.hid hS0
    clear hs ht hb0 hown hg hsz
    unfold maxLen at hm
    go_enter Try.func80, Try.ntmps80
    go_wp2
    go_loopw [9, 10] (fun s9 s10 wr => ∃ lo hi : Nat, s9 = .int .i64 lo ∧ s10 = .int .i64 hi ∧ lo ≤ hi ∧ hi ≤ L.length ∧ Hid (SAt w g cur e wr) ∧ Hid ((∀ t (h : t < L.length), t < lo → ltF L[t].ef e) ∧ (∀ t (h : t < L.length), hi ≤ t → ¬ ltF L[t].ef e))) (fun s9 s10 _ => (intOf s10 - intOf s9).toNat)
    case atStart => exact ⟨0, L.length, rfl, rfl, Nat.zero_le _, Nat.le_refl _, hS0, Lib.hid ⟨fun t h h2 => absurd h2 (Nat.not_lt_zero _), fun t h h2 => by omega⟩⟩
    case round =>
      obtain ⟨lo, hi, rfl, rfl, hlh, hin, S1, I⟩ := hrel
      by_cases hlt : lo < hi
      · have hk : (lo + hi) / 2 < L.length := by omega
        obtain ⟨x, hx⟩ : ∃ x, L[(lo + hi) / 2]? = some x := ⟨_, List.getElem?_eq_getElem hk⟩
        have hm1 : lo ≤ (lo + hi) / 2 := by omega
        have hm2 : (lo + hi) / 2 < hi := by omega
        go_wp2
        have hmid : ((lo : Int) + (hi : Int)) / 2 = (((lo + hi) / 2 : Nat) : Int) := by omega
        rw [hmid]
        clear hmid
        generalize (lo + hi) / 2 = m at *
        have HX := Lib.hid hx
        clear hx
        have HK := Lib.hid (fun (W : World) (h : SAt w g cur e W) => h.s5 HT.out HX.out)
        by_cases hqx : ordF x.ef e < 0
        · have d1 : decide (ordF x.ef e < 0) = true := decide_eq_true hqx
          go_region_held3 (S5 w g cur e m x) (first | exact HK.out _ S1.out.drew | exact HK.out _ (by assumption) | assumption)
            ((go_at_call 81; refine (HC.out x _).mono ?_; rintro r w2 ⟨rfl, hbel⟩; have hn := HK.out _ (SAt.later (s5_sat (by assumption)) hbel); clear hbel))
          have hw1 : IntKind.i64.wrap ((m : Int) + 1) = (m : Int) + 1 := by rw [IntKind.wrap_i64]; omega
          rename S5 w g cur e m x _ => hs5
          have S2 := Lib.hid (s5_sat hs5)
          go_wp2
          go_roundw
          case rel =>
            refine ⟨m + 1, hi, by go_num, rfl, by omega, by omega, S2, Lib.hid ⟨fun t h h2 => ?_, I.out.2⟩⟩
            have hxe : L[m] = x := by have := HX.out; rw [List.getElem?_eq_getElem hk] at this; simpa using this
            have hlx : ltF x.ef e := ord_neg.1 hqx
            rcases Nat.lt_or_ge t m with h3 | h3
            · have := srt_at HS.out hk h3
              rw [hxe] at this
              exact lt_tr this hlx
            · obtain rfl : t = m := by omega
              rw [hxe]
              exact hlx
          case measure => simp [intOf]; omega
        · have d1 : decide (ordF x.ef e < 0) = false := decide_eq_false hqx
          go_region_held3 (S5 w g cur e m x) (first | exact HK.out _ S1.out.drew | exact HK.out _ (by assumption) | assumption)
            ((go_at_call 81; refine (HC.out x _).mono ?_; rintro r w2 ⟨rfl, hbel⟩; have hn := HK.out _ (SAt.later (s5_sat (by assumption)) hbel); clear hbel))
          rename S5 w g cur e m x _ => hs5
          have S2 := Lib.hid (s5_sat hs5)
          go_wp2
          go_roundw
          case rel =>
            refine ⟨lo, m, rfl, rfl, by omega, by omega, S2, Lib.hid ⟨I.out.1, fun t h h2 hlt2 => ?_⟩⟩
            have hxe : L[m] = x := by have := HX.out; rw [List.getElem?_eq_getElem hk] at this; simpa using this
            have hlx : ¬ ltF x.ef e := fun c => by have := ord_neg.2 c; omega
            rcases Nat.lt_or_ge m t with h3 | h3
            · have := srt_at HS.out h h3
              rw [hxe] at this
              exact hlx (lt_tr this hlt2)
            · obtain rfl : t = m := by omega
              rw [hxe] at hlt2
              exact hlx hlt2
          case measure => simp [intOf]; omega
      · obtain rfl : hi = lo := by omega
        have hp : plc L e = hi := countP_cut _ L hi hin (fun t h h2 => decide_eq_true (I.out.1 t h h2)) (fun t h h2 => decide_eq_false (I.out.2 t h h2))
        have HP := Lib.hid hp
        clear hp hlt
        by_cases hlt : hi < L.length
        · obtain ⟨x, hx⟩ : ∃ x, L[hi]? = some x := ⟨_, List.getElem?_eq_getElem hlt⟩
          have HX := Lib.hid hx
          clear hx
          have HK := Lib.hid (fun (W : World) (h : SAt w g cur e W) => h.s5 HT.out HX.out)
          have HI : Hid (∀ W, SAt w g cur e W → Srch L e w (.returned (.tuple #[.int .i64 hi, .bool (ordF x.ef e == 0)])) W) := Lib.hid fun W h => by
            refine ⟨?_, h.bel⟩
            have h1 := has_plc HS.out e (by rw [HP.out]; exact hlt)
            have hxe : L[plc L e]'(by rw [HP.out]; exact hlt) = x := by have h2 := HX.out; rw [← HP.out, List.getElem?_eq_getElem (by rw [HP.out]; exact hlt)] at h2; simpa using h2
            rw [hxe] at h1
            rw [h1, HP.out]
            congr 3
          go_wp2
          go_region_held3 (S5 w g cur e hi x) (first | exact HK.out _ S1.out.drew | exact HK.out _ (by assumption) | assumption)
            ((go_at_call 81; refine (HC.out x _).mono ?_; rintro r w2 ⟨rfl, hbel⟩; have hn := HK.out _ (SAt.later (s5_sat (by assumption)) hbel); clear hbel))
          rename S5 w g cur e hi x _ => hs5
          have S2 := Lib.hid (HI.out _ (s5_sat hs5))
          go_wp2
          go_ret2
          exact S2.out
        · have HI : Hid (∀ n, Srch L e w (.returned (.tuple #[.int .i64 hi, .bool false])) (wr.drewN n)) := Lib.hid fun n => by
            refine ⟨?_, S1.out.bel.trans ⟨rfl, rfl, rfl, Nat.le_refl _, fun _ _ => rfl⟩⟩
            rw [has_end HS.out e (by rw [HP.out]; exact hlt), HP.out]
          go_wp2
          go_quiet (fail)
          go_wp2
          go_ret2
          exact HI.out _
end Go.Proofs.Ytbgjiokocjnjhaa.Ded
