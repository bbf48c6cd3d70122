/- Entries and lists of entries that are compared: Same, entries. -/
import Derived.Test.YtpaoaagphacclaaA07
import Derived.BigQuiet
import Derived.Deep.QuietTactic
namespace Go.Proofs.Ytpaoaagphacclaa.Acc
open Go.RowKit Go.Maps Go.Lib
open Bal (TB bOk ckB ordV alloc_b)
set_option linter.unusedVariables false
set_option linter.unusedSimpArgs false
set_option maxRecDepth 20000

theorem below_drewN {B : Nat} {a w : World} (h : Below B a w) (n : Nat) : Below B a (w.drewN n) := h.trans ⟨rfl, rfl, rfl, Nat.le_refl _, fun _ _ => rfl⟩
instance : DecidableEq Et := fun a b => by
  obtain ⟨a1, a2, a3, a4⟩ := a
  obtain ⟨b1, b2, b3, b4⟩ := b
  exact decidable_of_iff (a1 = b1 ∧ a2 = b2 ∧ a3 = b3 ∧ a4 = b4) (by simp)
def eqE (a b : Et) : Bool := decide (a = b)
theorem eqE_t (a : Et) : eqE a a = true := decide_eq_true rfl
theorem eqE_f {a b : Et} (h : a ≠ b) : eqE a b = false := decide_eq_false h
theorem ba_list {a b : ByteArray} (h : a.toList = b.toList) : a = b := by
  rw [ByteArray.toList_eq, ByteArray.toList_eq] at h
  obtain ⟨⟨a⟩⟩ := a
  obtain ⟨⟨b⟩⟩ := b
  simp only at h
  rw [h]
theorem eq_e (a b : Et) (w : World) : (Op.equalIn 10000 TE (vE a) (vE b)).run Try.prog w = .ok (eqE a b) w := by
  obtain ⟨a1, a2, a3, a4⟩ := a
  obtain ⟨b1, b2, b3, b4⟩ := b
  have e : eqE ⟨a1, a2, a3, a4⟩ ⟨b1, b2, b3, b4⟩ = (a1 == b1 && (a2 == b2 && a3 == b3) && (a4.toList == b4.toList)) := by
    unfold eqE
    by_cases h : (⟨a1, a2, a3, a4⟩ : Et) = ⟨b1, b2, b3, b4⟩
    · rw [decide_eq_true h]
      injection h with h1 h2 h3 h4
      subst h1 h2 h3 h4
      simp
    · rw [decide_eq_false h]
      symm
      rw [Bool.eq_false_iff]
      intro hh
      simp only [Bool.and_eq_true, beq_iff_eq] at hh
      obtain ⟨⟨h1, h2, h3⟩, h4⟩ := hh
      exact h (by rw [h1, h2, h3, ba_list h4])
  rw [e]
  simp [go_sem]
  by_cases h1 : a1 = b1 <;> by_cases h2 : a2 = b2 <;> by_cases h3 : a3 = b3 <;> by_cases h4 : a4.toList = b4.toList <;> simp [*]
def IsE (w : World) (v : Value) (L : List Et) : Prop :=
  ∃ a cap, v = .slice a L.length cap ∧ (0 < L.length → ∃ b off, a = some ⟨b, off, none⟩ ∧ b < w.heap.size ∧ ∀ i e, L[i]? = some e →
    w.cell? ⟨b, off + i * 4, none⟩ = some (.int .i64 e.s) ∧ w.cell? ⟨b, off + i * 4 + 1, none⟩ = some (.int .i64 e.r) ∧ w.cell? ⟨b, off + i * 4 + 2, none⟩ = some (.int .i64 e.m) ∧ w.cell? ⟨b, off + i * 4 + 3, none⟩ = some (.string e.v))
theorem IsE.later {w w' : World} {v : Value} {L : List Et} (h : IsE w v L) (hb : Below w.heap.size w w') : IsE w' v L := by
  obtain ⟨a, cap, rfl, hc⟩ := h
  refine ⟨a, cap, rfl, fun hp => ?_⟩
  obtain ⟨b, off, rfl, hlt, hd⟩ := hc hp
  refine ⟨b, off, rfl, Nat.lt_of_lt_of_le hlt hb.size, fun i e he => ?_⟩
  obtain ⟨h1, h2, h3, h4⟩ := hd i e he
  exact ⟨(hb.cell (p := ⟨b, off + i * 4, none⟩) hlt).trans h1, (hb.cell (p := ⟨b, off + i * 4 + 1, none⟩) hlt).trans h2, (hb.cell (p := ⟨b, off + i * 4 + 2, none⟩) hlt).trans h3, (hb.cell (p := ⟨b, off + i * 4 + 3, none⟩) hlt).trans h4⟩
theorem OwE.is {base : Nat} {L : List Et} {v : Value} {w : World} (h : OwE base L v w) : IsE w v L := by
  obtain ⟨a, cap, rfl⟩ := rows_form h
  refine ⟨a, cap, rfl, fun hp => ?_⟩
  obtain ⟨g, cap', hv, _, hg, hc⟩ := h.cells hp
  injection hv with h1 h2 h3
  refine ⟨g, 0, h1, hg, fun i e he => ?_⟩
  have := hc i e he
  rwa [← Nat.zero_add (i * 4)] at this
theorem is_one {w : World} {g : Nat} {e : Et} (h : w.heap[g]? = some (.cells #[.int .i64 e.s, .int .i64 e.r, .int .i64 e.m, .string e.v] TE (0, 0))) (c : Nat) : IsE w (.slice (some ⟨g, 0, none⟩) 1 c) [e] := by
  refine ⟨_, c, rfl, fun _ => ⟨g, 0, rfl, (Array.getElem?_eq_some_iff.1 h).1, fun i x hx => ?_⟩⟩
  cases i with
  | succ i => simp at hx
  | zero =>
    simp only [List.getElem?_cons_zero, Option.some.injEq] at hx
    subst hx
    exact ⟨cell_of_row w g 0 _ TE _ h, cell_of_row w g 1 _ TE _ h, cell_of_row w g 2 _ TE _ h, cell_of_row w g 3 _ TE _ h⟩
def eqLs (L M : List Et) : Bool := decide (L = M)
theorem eqLs_t (L : List Et) : eqLs L L = true := decide_eq_true rfl
theorem eqLs_f {L M : List Et} (h : L ≠ M) : eqLs L M = false := decide_eq_false h
/-! The walks. -/
set_option maxHeartbeats 1000000 in
theorem same_any (v1 v2 : Value) (L M : List Et) (w : World) (h1 : IsE w v1 L) (h2 : IsE w v2 M) (hl : L.length ≤ 100000) (hm : M.length ≤ 100000) :
    Calls Try.prog 18 #[v1, v2] w fun e w' => e = .returned (.bool (eqLs L M)) ∧ Below w.heap.size w w' := by
  obtain ⟨a1, cap1, rfl, hc1⟩ := h1
  obtain ⟨a2, cap2, rfl, hc2⟩ := h2
  have hE := Lib.hid (show L = M → eqLs L M = true from fun e => by rw [e]; exact eqLs_t M)
  have hN := Lib.hid (show L ≠ M → eqLs L M = false from fun e => eqLs_f e)
  generalize eqLs L M = B at *
  by_cases hlm : L.length = M.length
  · rw [← hlm] at hc2
    have hlen := Lib.hid hlm
    rw [← hlm]
    have hD : Hid (∀ (W : World) (k : Nat), Below w.heap.size w W → k < L.length → ∃ b1 o1 b2 o2 x y, a1 = some ⟨b1, o1, none⟩ ∧ a2 = some ⟨b2, o2, none⟩ ∧ L[k]? = some x ∧ M[k]? = some y ∧
        W.cell? ⟨b1, o1 + k * 4, none⟩ = some (.int .i64 x.s) ∧ W.cell? ⟨b1, o1 + k * 4 + 1, none⟩ = some (.int .i64 x.r) ∧ W.cell? ⟨b1, o1 + k * 4 + 2, none⟩ = some (.int .i64 x.m) ∧ W.cell? ⟨b1, o1 + k * 4 + 3, none⟩ = some (.string x.v) ∧
        W.cell? ⟨b2, o2 + k * 4, none⟩ = some (.int .i64 y.s) ∧ W.cell? ⟨b2, o2 + k * 4 + 1, none⟩ = some (.int .i64 y.r) ∧ W.cell? ⟨b2, o2 + k * 4 + 2, none⟩ = some (.int .i64 y.m) ∧ W.cell? ⟨b2, o2 + k * 4 + 3, none⟩ = some (.string y.v)) := Lib.hid fun W k hb hk => by
      obtain ⟨b1, o1, rfl, hb1, hd1⟩ := hc1 (by omega)
      obtain ⟨b2, o2, rfl, hb2, hd2⟩ := hc2 (by omega)
      have hx := List.getElem?_eq_getElem hk
      have hy := List.getElem?_eq_getElem (show k < M.length by omega)
      obtain ⟨p1, p2, p3, p4⟩ := hd1 k _ hx
      obtain ⟨q1, q2, q3, q4⟩ := hd2 k _ hy
      exact ⟨b1, o1, b2, o2, _, _, rfl, rfl, hx, hy, (hb.cell (p := ⟨b1, _, none⟩) hb1).trans p1, (hb.cell (p := ⟨b1, _, none⟩) hb1).trans p2, (hb.cell (p := ⟨b1, _, none⟩) hb1).trans p3, (hb.cell (p := ⟨b1, _, none⟩) hb1).trans p4,
        (hb.cell (p := ⟨b2, _, none⟩) hb2).trans q1, (hb.cell (p := ⟨b2, _, none⟩) hb2).trans q2, (hb.cell (p := ⟨b2, _, none⟩) hb2).trans q3, (hb.cell (p := ⟨b2, _, none⟩) hb2).trans q4⟩
    clear hc1 hc2 hlm hm
    generalize hn : L.length = n at *
    replace hn := Lib.hid hn
    go_enter Try.func18, Try.ntmps18
    go_wp2
    go_loopw [5] (fun i wr => ∃ k : Nat, k ≤ n ∧ i = .int .i64 k ∧ Below w.heap.size w wr ∧ ∀ j, j < k → L[j]? = M[j]?) (fun i _ => n - (intOf i).toNat)
    case atStart => exact ⟨0, Nat.zero_le _, rfl, Below.refl _ _, fun j h => by omega⟩
    case round =>
      obtain ⟨k, hk, rfl, hbel, hall⟩ := hrel
      replace hall := Lib.hid hall
      by_cases hlt : k < n
      · obtain ⟨b1, o1, b2, o2, x, y, rfl, rfl, hx, hy, p1, p2, p3, p4, q1, q2, q3, q4⟩ := hD.out wr k hbel (by have := hn.out; omega)
        have hx := Lib.hid hx
        have hy := Lib.hid hy
        have i1 : 0 ≤ (k : Int) := by omega
        have i2 : (k : Int) < (n : Int) := by omega
        clear hD
        by_cases hxy : x = y
        · subst hxy
          have hq : ∀ W, (Op.equalIn 10000 TE (vE x) (vE x)).run Try.prog W = .ok true W := fun W => (eq_e x x W).trans (by rw [eqE_t])
          go_wp2
          go_quiet (fail)
          go_wp2
          go_roundw
          case rel => exact ⟨k + 1, by omega, by go_num, below_drewN hbel _, fun j hj => by
            by_cases e : j = k
            · rw [e, hx.out, hy.out]
            · exact hall.out j (by omega)⟩
          case measure => simp [intOf]; omega
        · have hq : ∀ W, (Op.equalIn 10000 TE (vE x) (vE y)).run Try.prog W = .ok false W := fun W => (eq_e x y W).trans (by rw [eqE_f hxy])
          have hne : L ≠ M := fun e => hxy (by
            have h1 := hx.out
            rw [e, hy.out] at h1
            exact (Option.some.inj h1).symm)
          have hB := hN.out hne
          subst hB
          clear hxy hne
          go_wp2
          go_quiet (fail)
          go_wp2
          go_ret
          exact ⟨rfl, below_drewN hbel _⟩
      · have hkn : k = n := by omega
        have hB := hE.out (List.ext_getElem? fun j => by
          by_cases hj : j < k
          · exact hall.out j hj
          · rw [List.getElem?_eq_none (by rw [hn.out]; omega), List.getElem?_eq_none (by rw [← hlen.out]; omega)])
        subst hB
        clear hD
        go_wp2
        go_ret
        exact ⟨rfl, hbel⟩
  · have hB := hN.out (fun e => hlm (by rw [e]))
    subst hB
    have b1 : ((L.length : Int) == (M.length : Int)) = false := by simp; omega
    have b2 : (L.length == M.length) = false := by simp; omega
    clear hc1 hc2 hl hm
    generalize L.length = n at *
    generalize M.length = m at *
    have b3 : ((n : Int) = (m : Int)) = False := by simp; omega
    go_enter Try.func18, Try.ntmps18
    go_wp2
    go_ret
    exact ⟨rfl, Below.refl _ _⟩
set_option maxHeartbeats 1000000 in
theorem entries_any (v1 v2 : Value) (L M : List Et) (w : World) (h1 : IsE w v1 L) (h2 : IsE w v2 M) (hl : L.length ≤ 100000) (hm : M.length ≤ 100000) :
    Calls Try.prog 37 #[v1, v2] w fun e w' => e = .returned (.bool (eqLs L M)) ∧ Below w.heap.size w w' := by
  obtain ⟨a1, cap1, rfl, hc1⟩ := h1
  obtain ⟨a2, cap2, rfl, hc2⟩ := h2
  have hE := Lib.hid (show L = M → eqLs L M = true from fun e => by rw [e]; exact eqLs_t M)
  have hN := Lib.hid (show L ≠ M → eqLs L M = false from fun e => eqLs_f e)
  generalize eqLs L M = B at *
  by_cases hlm : L.length = M.length
  · rw [← hlm] at hc2
    have hlen := Lib.hid hlm
    rw [← hlm]
    have hD : Hid (∀ (W : World) (k : Nat), Below w.heap.size w W → k < L.length → ∃ b1 o1 b2 o2 x y, a1 = some ⟨b1, o1, none⟩ ∧ a2 = some ⟨b2, o2, none⟩ ∧ L[k]? = some x ∧ M[k]? = some y ∧
        W.cell? ⟨b1, o1 + k * 4, none⟩ = some (.int .i64 x.s) ∧ W.cell? ⟨b1, o1 + k * 4 + 1, none⟩ = some (.int .i64 x.r) ∧ W.cell? ⟨b1, o1 + k * 4 + 2, none⟩ = some (.int .i64 x.m) ∧ W.cell? ⟨b1, o1 + k * 4 + 3, none⟩ = some (.string x.v) ∧
        W.cell? ⟨b2, o2 + k * 4, none⟩ = some (.int .i64 y.s) ∧ W.cell? ⟨b2, o2 + k * 4 + 1, none⟩ = some (.int .i64 y.r) ∧ W.cell? ⟨b2, o2 + k * 4 + 2, none⟩ = some (.int .i64 y.m) ∧ W.cell? ⟨b2, o2 + k * 4 + 3, none⟩ = some (.string y.v)) := Lib.hid fun W k hb hk => by
      obtain ⟨b1, o1, rfl, hb1, hd1⟩ := hc1 (by omega)
      obtain ⟨b2, o2, rfl, hb2, hd2⟩ := hc2 (by omega)
      have hx := List.getElem?_eq_getElem hk
      have hy := List.getElem?_eq_getElem (show k < M.length by omega)
      obtain ⟨p1, p2, p3, p4⟩ := hd1 k _ hx
      obtain ⟨q1, q2, q3, q4⟩ := hd2 k _ hy
      exact ⟨b1, o1, b2, o2, _, _, rfl, rfl, hx, hy, (hb.cell (p := ⟨b1, _, none⟩) hb1).trans p1, (hb.cell (p := ⟨b1, _, none⟩) hb1).trans p2, (hb.cell (p := ⟨b1, _, none⟩) hb1).trans p3, (hb.cell (p := ⟨b1, _, none⟩) hb1).trans p4,
        (hb.cell (p := ⟨b2, _, none⟩) hb2).trans q1, (hb.cell (p := ⟨b2, _, none⟩) hb2).trans q2, (hb.cell (p := ⟨b2, _, none⟩) hb2).trans q3, (hb.cell (p := ⟨b2, _, none⟩) hb2).trans q4⟩
    clear hc1 hc2 hlm hm
    generalize hn : L.length = n at *
    replace hn := Lib.hid hn
    go_enter Try.func37, Try.ntmps37
    go_wp2
    go_loopw [5] (fun i wr => ∃ k : Nat, k ≤ n ∧ i = .int .i64 k ∧ Below w.heap.size w wr ∧ ∀ j, j < k → L[j]? = M[j]?) (fun i _ => n - (intOf i).toNat)
    case atStart => exact ⟨0, Nat.zero_le _, rfl, Below.refl _ _, fun j h => by omega⟩
    case round =>
      obtain ⟨k, hk, rfl, hbel, hall⟩ := hrel
      replace hall := Lib.hid hall
      by_cases hlt : k < n
      · obtain ⟨b1, o1, b2, o2, x, y, rfl, rfl, hx, hy, p1, p2, p3, p4, q1, q2, q3, q4⟩ := hD.out wr k hbel (by have := hn.out; omega)
        have hx := Lib.hid hx
        have hy := Lib.hid hy
        have i1 : 0 ≤ (k : Int) := by omega
        have i2 : (k : Int) < (n : Int) := by omega
        clear hD
        by_cases hxy : x = y
        · subst hxy
          have hq : ∀ W, (Op.equalIn 10000 TE (vE x) (vE x)).run Try.prog W = .ok true W := fun W => (eq_e x x W).trans (by rw [eqE_t])
          go_wp2
          go_quiet (fail)
          go_wp2
          go_roundw
          case rel => exact ⟨k + 1, by omega, by go_num, below_drewN hbel _, fun j hj => by
            by_cases e : j = k
            · rw [e, hx.out, hy.out]
            · exact hall.out j (by omega)⟩
          case measure => simp [intOf]; omega
        · have hq : ∀ W, (Op.equalIn 10000 TE (vE x) (vE y)).run Try.prog W = .ok false W := fun W => (eq_e x y W).trans (by rw [eqE_f hxy])
          have hne : L ≠ M := fun e => hxy (by
            have h1 := hx.out
            rw [e, hy.out] at h1
            exact (Option.some.inj h1).symm)
          have hB := hN.out hne
          subst hB
          clear hxy hne
          go_wp2
          go_quiet (fail)
          go_wp2
          go_ret
          exact ⟨rfl, below_drewN hbel _⟩
      · have hkn : k = n := by omega
        have hB := hE.out (List.ext_getElem? fun j => by
          by_cases hj : j < k
          · exact hall.out j hj
          · rw [List.getElem?_eq_none (by rw [hn.out]; omega), List.getElem?_eq_none (by rw [← hlen.out]; omega)])
        subst hB
        clear hD
        go_wp2
        go_ret
        exact ⟨rfl, hbel⟩
  · have hB := hN.out (fun e => hlm (by rw [e]))
    subst hB
    have b1 : ((L.length : Int) == (M.length : Int)) = false := by simp; omega
    have b2 : (L.length == M.length) = false := by simp; omega
    clear hc1 hc2 hl hm
    generalize L.length = n at *
    generalize M.length = m at *
    have b3 : ((n : Int) = (m : Int)) = False := by simp; omega
    go_enter Try.func37, Try.ntmps37
    go_wp2
    go_ret
    exact ⟨rfl, Below.refl _ _⟩
end Go.Proofs.Ytpaoaagphacclaa.Acc
