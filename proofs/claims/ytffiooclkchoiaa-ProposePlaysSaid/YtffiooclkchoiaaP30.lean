/- The document's Add. -/
import Derived.Test.YtffiooclkchoiaaP29
import Derived.Deep.RegionLaw
namespace Go.Proofs.Ytffiooclkchoiaa.Prp
open Go.RowKit Go.Lib
open Bal (TB bOk ckB ordV eqB eqB_t eqB_f eq_b alloc_b check_any order_any rcheck_any rorder_any)
set_option linter.unusedVariables false
set_option linter.unusedSimpArgs false
set_option maxRecDepth 100000

structure RAdded (base : Nat) (w : World) (b : Nat) (vs : Nat → Value) (s : St) (k : Int) (L : List Et) (u : Int) (w' : World) : Prop where
  px : ∃ vs', Rx base w' b vs' (addS s k L u) ∧ ∀ i, i < 7 → vs' i = vs i ∨ ∀ g, (vs' i).ownBlock = some g → w.heap.size ≤ g
  kp : Keeps (fun j => j = b) w w'
theorem fit_take {L : List Et} {j : Nat} {e : Et} (h : L[j]? = some e) (h1 : fitL (L.take j) = true) (h2 : e.v.size ≤ 65536) : fitL (L.take (j + 1)) = true := by
  rw [List.take_add_one, h]
  unfold fitL at *
  rw [List.all_append, h1, Bool.true_and]
  simp [h2]
theorem fit_bad {L : List Et} {j : Nat} {e : Et} (h : L[j]? = some e) (h2 : ¬ e.v.size ≤ 65536) : fitL L = false := by
  unfold fitL
  rw [Bool.eq_false_iff]
  intro h3
  exact h2 (of_decide_eq_true (List.all_eq_true.1 h3 e (List.mem_of_getElem? h)))
/-- What is behind the two stores: the proposer with one promise more. -/
theorem radd_put {base : Nat} {w W1 W2 W3 : World} {b k : Nat} {vs : Nat → Value} {s : St} {L : List Et} {u : Int} {v' : Value} (x : Rx base w b vs s) (hk : k < 7) (hbase : base ≤ w.heap.size)
    (K1 : Keeps (fun j => j = b) w W1) (bx : W1.heap[b]? = some (.cells ((rboxC s vs).setIfInBounds (5 + k) (.bool true)) TRP (0, 0)))
    (hB : Below W1.heap.size W1 W2) (hg : W2.grownBy W3 (some W1.heap.size)) (hO : OwE W1.heap.size L v' W3) (hok : OkS ⟨s.n, s.r, s.m, s.f, updP s.P k ⟨true, L, u⟩⟩) :
    Rx base ((W3.setCell ⟨b, 12 + k, none⟩ v').setCell ⟨b, 19 + k, none⟩ (.int .i64 u)) b (updV vs k v') ⟨s.n, s.r, s.m, s.f, updP s.P k ⟨true, L, u⟩⟩ ∧
      Keeps (fun j => j = b) w ((W3.setCell ⟨b, 12 + k, none⟩ v').setCell ⟨b, 19 + k, none⟩ (.int .i64 u)) ∧ (∀ g, v'.ownBlock = some g → w.heap.size ≤ g) := by
  have hlt1 : b < W1.heap.size := (Array.getElem?_eq_some_iff.1 bx).1
  have K2 : Keeps (fun j => j = b) w W2 := K1.later hB
  have K3 : Keeps (fun j => j = b) w W3 := K2.grown hg fun g e => .inr (by injection e with e; subst e; exact K1.size)
  have bx3 : W3.heap[b]? = some (.cells ((rboxC s vs).setIfInBounds (5 + k) (.bool true)) TRP (0, 0)) := by
    rw [hg.block b (by have := hB.size; omega) (fun e => by injection e with e; omega), hB.block b hlt1]
    exact bx
  have K5 := (K3.setCell (p := ⟨b, 12 + k, none⟩) (.inl rfl) v').setCell (p := ⟨b, 19 + k, none⟩) (.inl rfl) (.int .i64 u)
  refine ⟨⟨?_, fun i hi => ?_, hok⟩, K5, fun g e => Nat.le_trans K1.size (World.ownsRow.lt hO g e).1⟩
  · rw [← rbox_set s vs k hk v' L u]
    exact Go.heap_setCell_same _ b (19 + k) _ TRP _ (Go.heap_setCell_same W3 b (12 + k) _ TRP _ bx3)
  · by_cases e : i = k
    · subst e
      have e1 : updV vs i v' i = v' := if_pos rfl
      rw [e1]
      show OwE base (updP s.P i ⟨true, L, u⟩ i).l v' _
      rw [updP_same]
      have K4 := ((Keeps.refl (fun j => j = b) W3).setCell (p := ⟨b, 12 + i, none⟩) (.inl rfl) v').setCell (p := ⟨b, 19 + i, none⟩) (.inl rfl) (.int .i64 u)
      exact rows_base (rows_kept hO fun g e => K4.block g (World.ownsRow.lt hO g e).2 (fun h => by have := (World.ownsRow.lt hO g e).1; omega)) (Nat.le_trans hbase K1.size)
    · have e1 : updV vs k v' i = vs i := if_neg e
      rw [e1]
      show OwE base (updP s.P k ⟨true, L, u⟩ i).l (vs i) _
      rw [updP_other _ _ e]
      exact rows_kept (x.lst i hi) fun g e => K5.block g (World.ownsRow.lt (x.lst i hi) g e).2 (fun h => by subst h; exact rrow_te (x.lst i hi) x.box e)

section
variable {base : Nat} {w w' : World} {b : Nat} {vs : Nat → Value} {s : St}
def RAdd (base : Nat) (w : World) (b : Nat) (vs : Nat → Value) (s : St) (k : Int) (L : List Et) (u : Int) (e : Ending) (w' : World) : Prop :=
  e = .returned (.tuple #[.bool (addB s k L u), .int .i64 (addE s k L u)]) ∧ RAdded base w b vs s k L u w'
theorem radd_no (x : Rx base w b vs s) {k : Int} {L : List Et} {u c : Int} (hE : addE s k L u = c) (hc : c ≠ 0) : ∀ W', Below w.heap.size w W' → RAdd base w b vs s k L u (.returned (.tuple #[.bool false, .int .i64 c])) W' := fun W' hb => by
  have e1 : addS s k L u = s := if_neg (by rw [hE]; exact hc)
  have e2 : addB s k L u = false := if_neg (by rw [hE]; exact hc)
  refine ⟨by rw [hE, e2], ⟨vs, by rw [e1]; exact x.later hb, fun i _ => .inl rfl⟩, Keeps.of_below hb⟩
set_option maxHeartbeats 8000000 in
theorem Rx.add (x : Rx base w b vs s) (k : Int) (v : Value) (u : Int) (L : List Et) (w0 : World) (hl : IsE w0 v L) (hb0 : Below w0.heap.size w0 w) (hlo : w0.heap.size ≤ b) (hlen : L.length ≤ 10000) (hbase : base ≤ w.heap.size) :
    Calls Try.prog 28 #[.pointer (some ⟨b, 0, none⟩), .int .i64 k, v, .int .i64 u] w (RAdd base w b vs s k L u) := by
  have hV := Lib.hid x.valid
  have c1 := x.cells.2.1
  have hL := Lib.hid (x.list v L (hl.later hb0) (by omega))
  have hblt := x.lt
  have hNo := Lib.hid (fun c (hE : addE s k L u = c) hc => radd_no x (k := k) (L := L) (u := u) hE hc)
  obtain ⟨a, cap, rfl, _⟩ := id hl
  by_cases hA : argOk s k L u = true
  · obtain ⟨m, rfl, hmn, hu⟩ := arg_k hA
    have hLt : okL s.n s.f L = true := by unfold argOk at hA; simp only [Bool.and_eq_true] at hA; exact hA.1.2
    rw [hLt] at hL
    have hm7 : m < 7 := by have := x.ok.n7; omega
    have k1 : ¬ ((m : Nat) : Int) < 0 := by omega
    have k6 : (0 : Int) ≤ (m : Nat) := by omega
    have k7 : ((m : Nat) : Int) < 7 := by omega
    have k2 : decide (((m : Nat) : Int) < 0) = false := by simp
    have k3 : decide (s.n ≤ ((m : Nat) : Int)) = false := decide_eq_false (by omega)
    have k4 : decide (u < 0) = false := decide_eq_false (by omega)
    have k5 : decide (4096 < u) = false := decide_eq_false (by omega)
    have hX := Lib.hid (fun W (hb : Below w.heap.size w W) => x.later hb)
    have hE11 : fitL L = false → addE s m L u = 11 := fun h => by unfold addE; rw [if_pos hA, if_neg (by rw [h]; decide)]
    have hE6 : fitL L = true → (s.P m).a = true → addE s m L u = 6 := fun h ha => by unfold addE; rw [if_pos hA, if_pos h, Int.toNat_natCast, if_pos ha]
    have hE0 : fitL L = true → (s.P m).a = false → addE s m L u = 0 := fun h ha => by unfold addE; rw [if_pos hA, if_pos h, Int.toNat_natCast, if_neg (by rw [ha]; decide)]
    have hadd := Lib.hid (fun h => x.ok.add m L u |> fun (o : OkS (addS s m L u)) => (show addE s m L u = 0 → OkS ⟨s.n, s.r, s.m, s.f, updP s.P m ⟨true, L, u⟩⟩ from fun h => by unfold addS at o; rw [if_pos h, Int.toNat_natCast] at o; exact o) h)
    replace hE11 := Lib.hid hE11
    replace hE6 := Lib.hid hE6
    replace hE0 := Lib.hid hE0
    replace hb0 := Lib.hid hb0
    replace hl := Lib.hid hl
    have X0 := Lib.hid x
    clear hA hLt x
    obtain ⟨len, hle⟩ : ∃ len, len = L.length := ⟨_, rfl⟩
    rw [← hle] at hlen hl hL ⊢
    replace hle := Lib.hid hle
    go_enter Try.func28, Try.ntmps28
    go_wp2_with (first
      | (go_at_call 35; refine hV.out.mono ?_; rintro e w' ⟨rfl, rfl⟩)
      | (go_at_call 44; refine hL.out.mono ?_; rintro e w5 ⟨rfl, hb5⟩))
    have hl5 : Hid (IsE w5 (.slice a len cap) L) := Lib.hid (hl.out.later (hb0.out.trans (hb5.mono hb0.out.size)))
    have X5 := Lib.hid (hX.out w5 hb5)
    clear hX hV hL c1
    go_loopw [10] (fun iv wr => ∃ j : Nat, j ≤ len ∧ iv = .int .i64 j ∧ w5 = wr ∧ fitL (L.take j) = true) (fun iv _ => len - nOf iv)
    case atStart => exact ⟨0, by omega, rfl, rfl, rfl⟩
    case round =>
      obtain ⟨j, hj, rfl, hw, hf⟩ := hrel
      subst hw
      by_cases hlt : j < len
      · obtain ⟨e, he⟩ : ∃ e, L[j]? = some e := ⟨_, List.getElem?_eq_getElem (by rw [← hle.out]; exact hlt)⟩
        obtain ⟨lb, off, rfl, hlb, _, _, _, e3⟩ := hl5.out.at' he
        have z1 : (0 : Int) ≤ (j : Nat) := by omega
        have z2 : (j : Int) < (len : Nat) := by omega
        have z3 : decide ((j : Int) < (len : Int)) = true := by simpa using z2
        by_cases h2 : e.v.size ≤ 65536
        · have hf2 := Lib.hid (fit_take he hf h2)
          have z4 : decide ((65536 : Int) < (e.v.size : Nat)) = false := decide_eq_false (by omega)
          clear hf he h2
          generalize e.v = ev at *
          as_aux_lemma =>
            go_wp2
            go_roundw
            case rel => exact ⟨j + 1, by omega, by go_num, (by first | rfl | trivial), hf2.out⟩
            case measure => simp [nOf]; omega
        · have hR := Lib.hid (hNo.out 11 (hE11.out (fit_bad he h2)) (by decide))
          have z4 : decide ((65536 : Int) < (e.v.size : Nat)) = true := decide_eq_true (by omega)
          clear hf he h2
          generalize e.v = ev at *
          as_aux_lemma =>
            go_wp2
            go_ret2
            exact hR.out _ hb5
      · obtain rfl : j = len := by omega
        have z3 : decide ((j : Int) < (j : Int)) = false := by simp
        rw [show L.take j = L by rw [hle.out, List.take_length]] at hf
        have hf2 := Lib.hid hf
        have p0 := (X5.out.place m hm7).1
        cases ha : (s.P m).a with
        | true =>
          have hR := Lib.hid (hNo.out 6 (hE6.out hf ha) (by decide))
          rw [ha] at p0
          clear hf ha hE6 hE0 hE11 hadd
          as_aux_lemma =>
            go_wp2
            go_ret2
            exact hR.out _ hb5
        | false =>
          have hE := hE0.out hf ha
          have hok := hadd.out hE
          rw [ha] at p0
          have bx5 := X5.out.box
          have hblt5 := X5.out.lt
          have fz5 := fun i => frozen_of_row w5 b i _ TRP bx5
          have bx1 := Go.heap_setCell_same w5 b (5 + m) _ TRP (.bool true) bx5
          have K1 := (Keeps.refl (fun j => j = b) w5).setCell (p := ⟨b, 5 + m, none⟩) (.inl rfl) (.bool true)
          obtain ⟨W1, hW1⟩ : ∃ W, W = w5.setCell ⟨b, 5 + m, none⟩ (.bool true) := ⟨_, rfl⟩
          rw [← hW1] at bx1 K1
          have hB1 : Below w0.heap.size w0 W1 := (hb0.out.trans (hb5.mono hb0.out.size)).trans (K1.below (Nat.le_trans hb0.out.size hb5.size) fun g e => by subst e; exact hlo)
          have hIs := fun W (hb : Below w0.heap.size w0 W) => hl.out.later hb
          have hown : OwE W1.heap.size [] (.slice (some ⟨W1.heap.size, 0, none⟩) 0 0) (W1.alloc (.cells #[] TE)).drew := ⟨rfl, .inr ⟨W1.heap.size, 0, #[], rfl, Nat.le_refl _, heap_alloc_new _ _, Nat.le_refl _, by unfold maxLen; omega, rfl, rfl⟩⟩
          have hB2 : Below W1.heap.size W1 (W1.alloc (.cells #[] TE)).drew := (alloc_b W1 (.cells #[] TE)).drew
          have hl1 := Lib.hid (hIs _ (hB1.trans (hB2.mono hB1.size)))
          have hsz1 := hB2.size
          have hput : Hid (∀ v' W3, OwE W1.heap.size L v' W3 → (W1.alloc (.cells #[] TE)).drew.grownBy W3 (some W1.heap.size) →
              (W3.cell? ⟨b, 12 + m, none⟩ = some (vs m) ∧ W3.cell? ⟨b, 19 + m, none⟩ = some (.int .i64 (s.P m).u) ∧ ∀ i, W3.frozen? ⟨b, i, none⟩ = false) ∧
              Rx base ((W3.setCell ⟨b, 12 + m, none⟩ v').setCell ⟨b, 19 + m, none⟩ (.int .i64 u)) b (updV vs m v') ⟨s.n, s.r, s.m, s.f, updP s.P m ⟨true, L, u⟩⟩ ∧
              (∀ W', Below ((W3.setCell ⟨b, 12 + m, none⟩ v').setCell ⟨b, 19 + m, none⟩ (.int .i64 u)).heap.size ((W3.setCell ⟨b, 12 + m, none⟩ v').setCell ⟨b, 19 + m, none⟩ (.int .i64 u)) W' → RAdd base w b vs s (m : Nat) L u (.returned (.tuple #[.bool (rdy ⟨s.n, s.r, s.m, s.f, updP s.P m ⟨true, L, u⟩⟩), .int .i64 0])) W')) := Lib.hid fun v' W3 hO hg => by
            obtain ⟨r1, r2, r3⟩ := radd_put (u := u) X5.out hm7 (Nat.le_trans hbase hb5.size) K1 bx1 hB2 hg hO hok
            have bx3 : W3.heap[b]? = some (.cells ((rboxC s vs).setIfInBounds (5 + m) (.bool true)) TRP (0, 0)) := by
              have hlt1 : b < W1.heap.size := (Array.getElem?_eq_some_iff.1 bx1).1
              rw [hg.block b (by have := hB2.size; omega) (fun e => by injection e with e; omega), hB2.block b hlt1]
              exact bx1
            obtain ⟨q0, q1, q2⟩ := rbox_at s vs m hm7
            refine ⟨⟨?_, ?_, fun i => frozen_of_row W3 b i _ TRP bx3⟩, r1, fun W' hb' => ⟨?_, ⟨updV vs m v', ?_, fun i hi => ?_⟩, ?_⟩⟩
            · rw [cell_of_row W3 b (12 + m) _ TRP _ bx3, Array.getElem?_setIfInBounds, if_neg (by omega)]; exact q1
            · rw [cell_of_row W3 b (19 + m) _ TRP _ bx3, Array.getElem?_setIfInBounds, if_neg (by omega)]; exact q2
            · have e1 : addS s m L u = ⟨s.n, s.r, s.m, s.f, updP s.P m ⟨true, L, u⟩⟩ := by unfold addS; rw [if_pos hE, Int.toNat_natCast]
              unfold addB
              rw [hE, if_pos rfl, e1]
            · have e1 : addS s m L u = ⟨s.n, s.r, s.m, s.f, updP s.P m ⟨true, L, u⟩⟩ := by unfold addS; rw [if_pos hE, Int.toNat_natCast]
              rw [e1]
              exact r1.later hb'
            · by_cases e : i = m
              · subst e
                refine .inr fun g hg => ?_
                have e1 : updV vs i v' i = v' := if_pos rfl
                rw [e1] at hg
                exact Nat.le_trans hb5.size (r3 g hg)
              · exact .inl (if_neg e)
            · exact ((Keeps.of_below (F := fun j => j = b) hb5).trans r2 fun i hi _ => hi).later hb'
          have hown' := Lib.hid hown
          have hsz1' := Lib.hid hsz1
          clear hown hsz1 hB2 hIs hB1 K1 bx1 hok hE hf ha bx5
          as_aux_lemma =>
            go_wp2
            rw [← hW1]
            clear hW1
            go_region_law (refine step_append_l rfl (.tmp 64) (.tmp 65) rfl W1.heap.size (.slice (some ⟨W1.heap.size, 0, none⟩) 0 0) _ [] L (by simp [Act.eval, Act.put]) (by simp [Act.eval, Act.put]) hown'.out hl1.out (by decide) (by rw [← hle.out]; exact hlen) hsz1'.out ?_; intro v' w6 hO hg hv; have hp := hput.out v' w6 hO hg; obtain ⟨a', c', rfl⟩ := rows_form hO; obtain ⟨⟨p1, p2, fz⟩, hx6, hr6⟩ := hp; have hR6 := Lib.hid hx6.ready; replace hr6 := Lib.hid hr6; replace hO := Lib.hid hO; replace hg := Lib.hid hg; clear hx6 hv)
            all_goals
              try simp only [List.getElem_toArray, List.getElem_cons_succ, List.getElem_cons_zero]
              go_wp2_with (go_at_call 20; refine hR6.out.mono ?_; rintro e w7 ⟨rfl, hb7⟩)
              go_ret2
              exact hr6.out _ hb7
  · have hE : addE s k L u = 2 := if_neg hA
    have hR := Lib.hid (hNo.out 2 hE (by decide))
    clear hNo hE
    have hcs : k < 0 ∨ (¬ k < 0 ∧ s.n ≤ k) ∨ (¬ k < 0 ∧ ¬ s.n ≤ k ∧ okL s.n s.f L = false) ∨ (¬ k < 0 ∧ ¬ s.n ≤ k ∧ okL s.n s.f L = true ∧ u < 0) ∨ (¬ k < 0 ∧ ¬ s.n ≤ k ∧ okL s.n s.f L = true ∧ ¬ u < 0 ∧ 4096 < u) := by
      by_cases h1 : k < 0
      · exact .inl h1
      · by_cases h2 : s.n ≤ k
        · exact .inr (.inl ⟨h1, h2⟩)
        · cases h3 : okL s.n s.f L with
          | false => exact .inr (.inr (.inl ⟨h1, h2, rfl⟩))
          | true =>
            by_cases h4 : u < 0
            · exact .inr (.inr (.inr (.inl ⟨h1, h2, rfl, h4⟩)))
            · refine .inr (.inr (.inr (.inr ⟨h1, h2, rfl, h4, ?_⟩)))
              apply Classical.byContradiction
              intro h5
              apply hA
              unfold argOk
              rw [h3, decide_eq_true (show 0 ≤ k ∧ k < s.n by omega), decide_eq_true (show 0 ≤ u ∧ u ≤ 4096 by omega)]
              rfl
    clear hA hl hb0 x
    generalize s.n = n at *
    rcases hcs with h1 | ⟨h1, h2⟩ | ⟨h1, h2, h3⟩ | ⟨h1, h2, h3, h4⟩ | ⟨h1, h2, h3, h4, h5⟩
    · have d1 : decide (k < 0) = true := decide_eq_true h1
      clear h1
      go_enter Try.func28, Try.ntmps28
      go_wp2_with (go_at_call 35; refine hV.out.mono ?_; rintro e w' ⟨rfl, rfl⟩)
      go_ret2
      exact hR.out _ (Below.refl _ _)
    · have d1 : decide (k < 0) = false := decide_eq_false h1
      have d2 : decide (n ≤ k) = true := decide_eq_true h2
      clear h1 h2
      go_enter Try.func28, Try.ntmps28
      go_wp2_with (go_at_call 35; refine hV.out.mono ?_; rintro e w' ⟨rfl, rfl⟩)
      go_ret2
      exact hR.out _ (Below.refl _ _)
    · rw [h3] at hL
      have d1 : decide (k < 0) = false := decide_eq_false h1
      have d2 : decide (n ≤ k) = false := decide_eq_false h2
      clear h1 h2 h3
      go_enter Try.func28, Try.ntmps28
      go_wp2_with (first | (go_at_call 35; refine hV.out.mono ?_; rintro e w' ⟨rfl, rfl⟩) | (go_at_call 44; refine hL.out.mono ?_; rintro e w5 ⟨rfl, hb5⟩))
      go_ret2
      exact hR.out _ hb5
    · rw [h3] at hL
      have d1 : decide (k < 0) = false := decide_eq_false h1
      have d2 : decide (n ≤ k) = false := decide_eq_false h2
      have d4 : decide (u < 0) = true := decide_eq_true h4
      clear h1 h2 h3 h4
      go_enter Try.func28, Try.ntmps28
      go_wp2_with (first | (go_at_call 35; refine hV.out.mono ?_; rintro e w' ⟨rfl, rfl⟩) | (go_at_call 44; refine hL.out.mono ?_; rintro e w5 ⟨rfl, hb5⟩))
      go_ret2
      exact hR.out _ hb5
    · rw [h3] at hL
      have d1 : decide (k < 0) = false := decide_eq_false h1
      have d2 : decide (n ≤ k) = false := decide_eq_false h2
      have d4 : decide (u < 0) = false := decide_eq_false h4
      have d5 : decide (4096 < u) = true := decide_eq_true h5
      clear h1 h2 h3 h4 h5
      go_enter Try.func28, Try.ntmps28
      go_wp2_with (first | (go_at_call 35; refine hV.out.mono ?_; rintro e w' ⟨rfl, rfl⟩) | (go_at_call 44; refine hL.out.mono ?_; rintro e w5 ⟨rfl, hb5⟩))
      go_ret2
      exact hR.out _ hb5
end
end Go.Proofs.Ytffiooclkchoiaa.Prp
