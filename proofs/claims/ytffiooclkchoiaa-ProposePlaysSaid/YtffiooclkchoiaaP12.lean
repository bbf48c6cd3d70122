/- Lists that are compared; a proposer of one's own with all its calls; works. -/
import Derived.Test.YtffiooclkchoiaaP11
namespace Go.Proofs.Ytffiooclkchoiaa.Prp
open Go.RowKit Go.Lib
open Bal (TB bOk ckB ordV eqB eqB_t eqB_f eq_b alloc_b check_any order_any)
set_option linter.unusedVariables false
set_option linter.unusedSimpArgs false
set_option maxRecDepth 20000

def eqLs (L M : List Et) : Bool := decide (L = M)
theorem eqLs_t (L : List Et) : eqLs L L = true := decide_eq_true rfl
theorem eqLs_f {L M : List Et} (h : L ≠ M) : eqLs L M = false := decide_eq_false h
set_option maxHeartbeats 1000000 in
theorem same_any (v1 v2 : Value) (L M : List Et) (w : World) (h1 : IsE w v1 L) (h2 : IsE w v2 M) (hl : L.length ≤ 100000) (hm : M.length ≤ 100000) :
    Calls Try.prog 18 #[v1, v2] w fun e w' => e = .returned (.bool (eqLs L M)) ∧ Below w.heap.size w w' := by
  obtain ⟨a1, cap1, rfl, hc1⟩ := h1
  obtain ⟨a2, cap2, rfl, hc2⟩ := h2
  have hE := Lib.hid (show L = M → eqLs L M = true from fun e => by rw [e]; exact eqLs_t M)
  have hN := Lib.hid (show L ≠ M → eqLs L M = false from fun e => eqLs_f e)
  generalize eqLs L M = B at *
  by_cases hlm : L.length = M.length
  · rw [← hlm] at hc2
    have hlen := Lib.hid hlm
    rw [← hlm]
    have hD : Hid (∀ (W : World) (k : Nat), Below w.heap.size w W → k < L.length → ∃ b1 o1 b2 o2 x y, a1 = some ⟨b1, o1, none⟩ ∧ a2 = some ⟨b2, o2, none⟩ ∧ L[k]? = some x ∧ M[k]? = some y ∧
        W.cell? ⟨b1, o1 + k * 4, none⟩ = some (.int .i64 x.s) ∧ W.cell? ⟨b1, o1 + k * 4 + 1, none⟩ = some (.int .i64 x.r) ∧ W.cell? ⟨b1, o1 + k * 4 + 2, none⟩ = some (.int .i64 x.m) ∧ W.cell? ⟨b1, o1 + k * 4 + 3, none⟩ = some (.string x.v) ∧
        W.cell? ⟨b2, o2 + k * 4, none⟩ = some (.int .i64 y.s) ∧ W.cell? ⟨b2, o2 + k * 4 + 1, none⟩ = some (.int .i64 y.r) ∧ W.cell? ⟨b2, o2 + k * 4 + 2, none⟩ = some (.int .i64 y.m) ∧ W.cell? ⟨b2, o2 + k * 4 + 3, none⟩ = some (.string y.v)) := Lib.hid fun W k hb hk => by
      obtain ⟨b1, o1, rfl, hb1, hd1⟩ := hc1 (by omega)
      obtain ⟨b2, o2, rfl, hb2, hd2⟩ := hc2 (by omega)
      have hx := List.getElem?_eq_getElem hk
      have hy := List.getElem?_eq_getElem (show k < M.length by omega)
      obtain ⟨p1, p2, p3, p4⟩ := hd1 k _ hx
      obtain ⟨q1, q2, q3, q4⟩ := hd2 k _ hy
      exact ⟨b1, o1, b2, o2, _, _, rfl, rfl, hx, hy, (hb.cell (p := ⟨b1, _, none⟩) hb1).trans p1, (hb.cell (p := ⟨b1, _, none⟩) hb1).trans p2, (hb.cell (p := ⟨b1, _, none⟩) hb1).trans p3, (hb.cell (p := ⟨b1, _, none⟩) hb1).trans p4,
        (hb.cell (p := ⟨b2, _, none⟩) hb2).trans q1, (hb.cell (p := ⟨b2, _, none⟩) hb2).trans q2, (hb.cell (p := ⟨b2, _, none⟩) hb2).trans q3, (hb.cell (p := ⟨b2, _, none⟩) hb2).trans q4⟩
    clear hc1 hc2 hlm hm
    generalize hn : L.length = n at *
    replace hn := Lib.hid hn
    go_enter Try.func18, Try.ntmps18
    go_wp2
    go_loopw [5] (fun i wr => ∃ k : Nat, k ≤ n ∧ i = .int .i64 k ∧ Below w.heap.size w wr ∧ ∀ j, j < k → L[j]? = M[j]?) (fun i _ => n - (intOf i).toNat)
    case atStart => exact ⟨0, Nat.zero_le _, rfl, Below.refl _ _, fun j h => by omega⟩
    case round =>
      obtain ⟨k, hk, rfl, hbel, hall⟩ := hrel
      replace hall := Lib.hid hall
      by_cases hlt : k < n
      · obtain ⟨b1, o1, b2, o2, x, y, rfl, rfl, hx, hy, p1, p2, p3, p4, q1, q2, q3, q4⟩ := hD.out wr k hbel (by have := hn.out; omega)
        have hx := Lib.hid hx
        have hy := Lib.hid hy
        have i1 : 0 ≤ (k : Int) := by omega
        have i2 : (k : Int) < (n : Int) := by omega
        clear hD
        by_cases hxy : x = y
        · subst hxy
          have hq : ∀ W, (Op.equalIn 10000 TE (vE x) (vE x)).run Try.prog W = .ok true W := fun W => (eq_e x x W).trans (by rw [eqE_t])
          go_wp2
          go_quiet (fail)
          go_wp2
          go_roundw
          case rel => exact ⟨k + 1, by omega, by go_num, below_drewN hbel _, fun j hj => by
            by_cases e : j = k
            · rw [e, hx.out, hy.out]
            · exact hall.out j (by omega)⟩
          case measure => simp [intOf]; omega
        · have hq : ∀ W, (Op.equalIn 10000 TE (vE x) (vE y)).run Try.prog W = .ok false W := fun W => (eq_e x y W).trans (by rw [eqE_f hxy])
          have hne : L ≠ M := fun e => hxy (by
            have h1 := hx.out
            rw [e, hy.out] at h1
            exact (Option.some.inj h1).symm)
          have hB := hN.out hne
          subst hB
          clear hxy hne
          go_wp2
          go_quiet (fail)
          go_wp2
          go_ret
          exact ⟨rfl, below_drewN hbel _⟩
      · have hkn : k = n := by omega
        have hB := hE.out (List.ext_getElem? fun j => by
          by_cases hj : j < k
          · exact hall.out j hj
          · rw [List.getElem?_eq_none (by rw [hn.out]; omega), List.getElem?_eq_none (by rw [← hlen.out]; omega)])
        subst hB
        clear hD
        go_wp2
        go_ret
        exact ⟨rfl, hbel⟩
  · have hB := hN.out (fun e => hlm (by rw [e]))
    subst hB
    have b1 : ((L.length : Int) == (M.length : Int)) = false := by simp; omega
    have b2 : (L.length == M.length) = false := by simp; omega
    clear hc1 hc2 hl hm
    generalize L.length = n at *
    generalize M.length = m at *
    have b3 : ((n : Int) = (m : Int)) = False := by simp; omega
    go_enter Try.func18, Try.ntmps18
    go_wp2
    go_ret
    exact ⟨rfl, Below.refl _ _⟩

/-! A proposer of one's own. -/
structure PAt (w : World) (b : Nat) (s : St) (W : World) : Prop where
  px : ∃ vs, Px w.heap.size W b vs s
  bel : Below w.heap.size w W
  lo : w.heap.size ≤ b
section
variable {w W W' : World} {b : Nat} {s : St}
theorem PAt.ok (h : PAt w b s W) : OkS s := by obtain ⟨vs, x⟩ := h.px; exact x.ok
theorem PAt.lt (h : PAt w b s W) : b < W.heap.size := by obtain ⟨vs, x⟩ := h.px; exact x.lt
theorem PAt.later (h : PAt w b s W) (hb : Below W.heap.size W W') : PAt w b s W' := by
  obtain ⟨vs, x⟩ := h.px
  exact ⟨⟨vs, x.later hb⟩, h.bel.trans (hb.mono h.bel.size), h.lo⟩
theorem PAt.alloc (h : PAt w b s W) (o : Obj) : PAt w b s (W.alloc o) := h.later (alloc_b _ _)
theorem PAt.drew (h : PAt w b s W) : PAt w b s W.drew := h.later (Below.refl _ _).drew
theorem PAt.add (h : PAt w b s W) (k : Int) (v : Value) (u : Int) (L : List Et) (hl : IsE W v L) (hlen : L.length ≤ 100000) :
    Calls Try.prog 27 #[.pointer (some ⟨b, 0, none⟩), .int .i64 k, v, .int .i64 u] W fun e W' => e = .returned (.tuple #[.bool (addB s k L u), .int .i64 (addE s k L u)]) ∧ PAt w b (addS s k L u) W' ∧ Keeps (fun j => j = b) W W' := by
  obtain ⟨vs, x⟩ := h.px
  refine (add_any x k v u L hl hlen h.bel.size).mono ?_
  rintro e W' ⟨rfl, ⟨⟨vs', hx, _⟩, hk⟩⟩
  exact ⟨rfl, ⟨⟨vs', hx⟩, h.bel.trans (hk.below h.bel.size fun k hk => by subst hk; exact h.lo), h.lo⟩, hk⟩
theorem PAt.nodes (h : PAt w b s W) : Calls Try.prog 25 #[.pointer (some ⟨b, 0, none⟩)] W fun e W' => e = .returned (.int .u64 (nodesK s.P 7 : Nat)) ∧ Below W.heap.size W W' := by obtain ⟨vs, x⟩ := h.px; exact nodes_any x
theorem PAt.upto (h : PAt w b s W) : Calls Try.prog 21 #[.pointer (some ⟨b, 0, none⟩)] W fun e W' => e = .returned (.int .i64 (upK s.P 7)) ∧ Below W.heap.size W W' := by obtain ⟨vs, x⟩ := h.px; exact upto_any x
theorem PAt.ready (h : PAt w b s W) : Calls Try.prog 19 #[.pointer (some ⟨b, 0, none⟩)] W fun e W' => e = .returned (.bool (rdy s)) ∧ Below W.heap.size W W' := by obtain ⟨vs, x⟩ := h.px; exact ready_any x
theorem PAt.ballot (h : PAt w b s W) : Calls Try.prog 23 #[.pointer (some ⟨b, 0, none⟩)] W fun e W' => e = .returned (.agg #[.int .i64 s.r, .int .i64 s.m]) ∧ Below W.heap.size W W' := by obtain ⟨vs, x⟩ := h.px; exact ballot_any x
def valE (s : St) : Int := if rdy s then 0 else 9
def valL (s : St) : List Et := if rdy s then valsOf s else []
theorem PAt.values (h : PAt w b s W) : Calls Try.prog 16 #[.pointer (some ⟨b, 0, none⟩)] W fun e W' => ∃ v, e = .returned (.tuple #[v, .int .i64 (valE s)]) ∧ OwE W.heap.size (valL s) v W' ∧ Below W.heap.size W W' := by
  obtain ⟨vs, x⟩ := h.px
  unfold valE valL
  cases hr : rdy s with
  | false =>
    refine (values_bad x hr).mono ?_
    rintro e W' ⟨rfl, hb⟩
    exact ⟨_, rfl, OwE.nil _ _, hb⟩
  | true => exact values_ok x hr
theorem valL_len (h : OkS s) : (valL s).length ≤ 4096 := by
  unfold valL
  split
  · unfold valsOf
    rw [lst_len]
    exact top_le (beg_in h).1 fun e he => (all_mem h 7 e he).1.2.1
  · exact Nat.zero_le _
end
theorem new_at (n r m f : Int) (h : newOk n r m f) (w W : World) (hb : Below w.heap.size w W) :
    Calls Try.prog 12 #[.int .i64 n, .agg #[.int .i64 r, .int .i64 m], .int .i64 f] W fun e W' => ∃ b, e = .returned (.tuple #[.pointer (some ⟨b, 0, none⟩), .int .i64 0]) ∧ PAt w b (newS n r m f) W' ∧ W.heap.size ≤ b ∧ Below W.heap.size W W' := by
  refine (new_any n r m f h W).mono ?_
  rintro e W' ⟨b, rfl, hx, hlo, hb2⟩
  exact ⟨b, rfl, ⟨⟨_, hx.low hb.size⟩, hb.trans (hb2.mono hb.size), Nat.le_trans hb.size hlo⟩, hlo, hb2⟩
/-! works. -/
def Yes (w : World) (e : Ending) (w' : World) : Prop := e = .returned (.bool true) ∧ Below w.heap.size w w'
def s0 : St := newS 3 5 1 2
def s1 : St := addS s0 1 [] 2
def L2 : List Et := [⟨3, 3, 0, ⟨#[120]⟩⟩, ⟨5, 4, 0, ⟨#[121]⟩⟩]
def s2 : St := addS s1 0 L2 3
def L3 : List Et := [⟨3, 5, 1, ⟨#[120]⟩⟩, ⟨4, 5, 1, ⟨#[]⟩⟩, ⟨5, 5, 1, ⟨#[121]⟩⟩]
theorem ex1 : addE s0 1 [] 2 = 0 ∧ addB s0 1 [] 2 = false := by decide +kernel
theorem ex2 : addE s1 0 L2 3 = 0 ∧ addB s1 0 L2 3 = true := by decide +kernel
theorem ex3 : valE s2 = 0 ∧ valL s2 = L3 ∧ upK s2.P 7 = 3 ∧ nodesK s2.P 7 = 3 := by decide +kernel
theorem is_two {w : World} {g : Nat} {e d : Et} (h : w.heap[g]? = some (.cells #[.int .i64 e.s, .int .i64 e.r, .int .i64 e.m, .string e.v, .int .i64 d.s, .int .i64 d.r, .int .i64 d.m, .string d.v] TE (0, 0))) (c : Nat) : IsE w (.slice (some ⟨g, 0, none⟩) 2 c) [e, d] := by
  refine ⟨_, c, rfl, fun _ => ⟨g, 0, rfl, (Array.getElem?_eq_some_iff.1 h).1, fun i x hx => ?_⟩⟩
  match i, hx with
  | 0, hx =>
    simp only [List.getElem?_cons_zero, Option.some.injEq] at hx
    subst hx
    exact ⟨cell_of_row w g 0 _ TE _ h, cell_of_row w g 1 _ TE _ h, cell_of_row w g 2 _ TE _ h, cell_of_row w g 3 _ TE _ h⟩
  | 1, hx =>
    simp only [List.getElem?_cons_succ, List.getElem?_cons_zero, Option.some.injEq] at hx
    subst hx
    exact ⟨cell_of_row w g 4 _ TE _ h, cell_of_row w g 5 _ TE _ h, cell_of_row w g 6 _ TE _ h, cell_of_row w g 7 _ TE _ h⟩
  | n + 2, hx => simp at hx
theorem is_three {w : World} {g : Nat} {e d f : Et} (h : w.heap[g]? = some (.cells #[.int .i64 e.s, .int .i64 e.r, .int .i64 e.m, .string e.v, .int .i64 d.s, .int .i64 d.r, .int .i64 d.m, .string d.v, .int .i64 f.s, .int .i64 f.r, .int .i64 f.m, .string f.v] TE (0, 0))) (c : Nat) : IsE w (.slice (some ⟨g, 0, none⟩) 3 c) [e, d, f] := by
  refine ⟨_, c, rfl, fun _ => ⟨g, 0, rfl, (Array.getElem?_eq_some_iff.1 h).1, fun i x hx => ?_⟩⟩
  match i, hx with
  | 0, hx =>
    simp only [List.getElem?_cons_zero, Option.some.injEq] at hx
    subst hx
    exact ⟨cell_of_row w g 0 _ TE _ h, cell_of_row w g 1 _ TE _ h, cell_of_row w g 2 _ TE _ h, cell_of_row w g 3 _ TE _ h⟩
  | 1, hx =>
    simp only [List.getElem?_cons_succ, List.getElem?_cons_zero, Option.some.injEq] at hx
    subst hx
    exact ⟨cell_of_row w g 4 _ TE _ h, cell_of_row w g 5 _ TE _ h, cell_of_row w g 6 _ TE _ h, cell_of_row w g 7 _ TE _ h⟩
  | 2, hx =>
    simp only [List.getElem?_cons_succ, List.getElem?_cons_zero, Option.some.injEq] at hx
    subst hx
    exact ⟨cell_of_row w g 8 _ TE _ h, cell_of_row w g 9 _ TE _ h, cell_of_row w g 10 _ TE _ h, cell_of_row w g 11 _ TE _ h⟩
  | n + 3, hx => simp at hx
theorem is_nil (w : World) : IsE w (.slice none 0 0) [] := ⟨none, 0, rfl, fun h => by simp at h⟩
set_option maxHeartbeats 2000000 in
theorem works_any (w : World) : Calls Try.prog 11 #[] w (Yes w) := by
  have hN := Lib.hid (new_at 3 5 1 2 (by decide) w w (Below.refl _ _))
  have hA1 : Hid (∀ W b, PAt w b s0 W → Calls Try.prog 27 #[.pointer (some ⟨b, 0, none⟩), .int .i64 1, .slice none 0 0, .int .i64 2] W fun e W' => e = .returned (.tuple #[.bool false, .int .i64 0]) ∧ PAt w b s1 W') := Lib.hid fun W b h => by
    refine (h.add 1 _ 2 [] (is_nil W) (by decide)).mono ?_
    rintro e W' ⟨rfl, h2, _⟩
    exact ⟨by rw [ex1.1, ex1.2], h2⟩
  have hA2 : Hid (∀ W b g, PAt w b s1 W → W.heap[g]? = some (.cells #[.int .i64 3, .int .i64 3, .int .i64 0, .string ⟨#[120]⟩, .int .i64 5, .int .i64 4, .int .i64 0, .string ⟨#[121]⟩] TE (0, 0)) → Calls Try.prog 27 #[.pointer (some ⟨b, 0, none⟩), .int .i64 0, .slice (some ⟨g, 0, none⟩) 2 2, .int .i64 3] W fun e W' => e = .returned (.tuple #[.bool true, .int .i64 0]) ∧ PAt w b s2 W') := Lib.hid fun W b g h hg => by
    refine (h.add 0 _ 3 L2 (is_two (e := ⟨3, 3, 0, ⟨#[120]⟩⟩) (d := ⟨5, 4, 0, ⟨#[121]⟩⟩) hg 2) (by decide)).mono ?_
    rintro e W' ⟨rfl, h2, _⟩
    exact ⟨by rw [ex2.1, ex2.2], h2⟩
  have hVl : Hid (∀ W b, PAt w b s2 W → Calls Try.prog 16 #[.pointer (some ⟨b, 0, none⟩)] W fun e W' => ∃ v, e = .returned (.tuple #[v, .int .i64 0]) ∧ IsE W' v L3 ∧ PAt w b s2 W') := Lib.hid fun W b h => by
    refine h.values.mono ?_
    rintro e W' ⟨v, rfl, hO, hb⟩
    rw [ex3.2.1] at hO
    exact ⟨v, by rw [ex3.1], hO.is, h.later hb⟩
  have hSm : Hid (∀ W v g, IsE W v L3 → W.heap[g]? = some (.cells #[.int .i64 3, .int .i64 5, .int .i64 1, .string ⟨#[120]⟩, .int .i64 4, .int .i64 5, .int .i64 1, .string ⟨#[]⟩, .int .i64 5, .int .i64 5, .int .i64 1, .string ⟨#[121]⟩] TE (0, 0)) → Calls Try.prog 18 #[v, .slice (some ⟨g, 0, none⟩) 3 3] W fun e W' => e = .returned (.bool true) ∧ Below W.heap.size W W') := Lib.hid fun W v g h hg => by
    refine (same_any v _ L3 L3 W h (is_three (e := ⟨3, 5, 1, ⟨#[120]⟩⟩) (d := ⟨4, 5, 1, ⟨#[]⟩⟩) (f := ⟨5, 5, 1, ⟨#[121]⟩⟩) hg 3) (by decide) (by decide)).mono ?_
    rintro e W' ⟨rfl, hb⟩
    exact ⟨by rw [eqLs_t], hb⟩
  have hUp : Hid (∀ W b, PAt w b s2 W → Calls Try.prog 21 #[.pointer (some ⟨b, 0, none⟩)] W fun e W' => e = .returned (.int .i64 3) ∧ Below W.heap.size W W') := Lib.hid fun W b h => by
    have := h.upto
    rwa [ex3.2.2.1] at this
  have hNd : Hid (∀ W b, PAt w b s2 W → Calls Try.prog 25 #[.pointer (some ⟨b, 0, none⟩)] W fun e W' => e = .returned (.int .u64 3) ∧ Below W.heap.size W W') := Lib.hid fun W b h => by
    have := h.nodes
    rwa [ex3.2.2.2] at this
  go_enter Try.func11, Try.ntmps11
  go_wp2_with fail
  refine hN.out.mono ?_
  rintro e W1 ⟨b, rfl, hp1, _, _⟩
  have hp1 : PAt w b s0 W1 := hp1
  go_wp2_with fail
  refine (hA1.out _ _ hp1).mono ?_
  rintro e W2 ⟨rfl, hp2⟩
  have hp2' := hp2.alloc (.cells #[.int .i64 3, .int .i64 3, .int .i64 0, .string ⟨#[120]⟩, .int .i64 5, .int .i64 4, .int .i64 0, .string ⟨#[121]⟩] TE)
  go_wp2_with fail
  refine (hA2.out _ _ _ hp2' (heap_alloc_new _ _)).mono ?_
  rintro e W3 ⟨rfl, hp3⟩
  go_wp2_with fail
  refine (hVl.out _ _ hp3).mono ?_
  rintro e W4 ⟨v, rfl, hv, hp4⟩
  have hx5 := (heap_alloc_new W4 (.cells #[.int .i64 5, .int .i64 1] TB))
  have c0 := cell_of_row _ _ 0 _ TB _ hx5
  have c1 := cell_of_row _ _ 1 _ TB _ hx5
  clear hx5
  go_wp2_with fail
  have hb5 := (alloc_b W4 (.cells #[.int .i64 5, .int .i64 1] TB)).alloc (Below.refl _ _ |>.alloc (Nat.le_refl _) (.cells #[.int .i64 5, .int .i64 1] TB)).size (.cells #[.int .i64 3, .int .i64 5, .int .i64 1, .string ⟨#[120]⟩, .int .i64 4, .int .i64 5, .int .i64 1, .string ⟨#[]⟩, .int .i64 5, .int .i64 5, .int .i64 1, .string ⟨#[121]⟩] TE)
  have hnew := heap_alloc_new (W4.alloc (.cells #[.int .i64 5, .int .i64 1] TB)) (.cells #[.int .i64 3, .int .i64 5, .int .i64 1, .string ⟨#[120]⟩, .int .i64 4, .int .i64 5, .int .i64 1, .string ⟨#[]⟩, .int .i64 5, .int .i64 5, .int .i64 1, .string ⟨#[121]⟩] TE)
  rw [World.size_alloc] at hnew
  refine (hSm.out _ _ _ (hv.later hb5) hnew).mono ?_
  rintro e W6 ⟨rfl, hb6⟩
  have hp6 := (hp4.later hb5).later hb6
  clear hb5 hb6 hnew hv c0 c1 hp4
  go_wp2_with fail
  refine (hUp.out _ _ hp6).mono ?_
  rintro e W7 ⟨rfl, hb7⟩
  have hp7 := hp6.later hb7
  go_wp2_with fail
  refine (hNd.out _ _ hp7).mono ?_
  rintro e W8 ⟨rfl, hb8⟩
  have hp8 := hp7.later hb8
  go_wp2_with fail
  go_ret
  exact ⟨rfl, hp8.bel⟩
end Go.Proofs.Ytffiooclkchoiaa.Prp
