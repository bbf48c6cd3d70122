/- slices.Equal of numbers and of texts; a log of the call's own, with all its calls. -/
import Derived.Test.YtgeejkedljhcoaaT07
import Derived.BigQuiet
namespace Go.Proofs.Ytgeejkedljhcoaa.Slt
open Go.RowKit Go.Maps Go.Lib
set_option linter.unusedVariables false
set_option linter.unusedSimpArgs false
set_option maxRecDepth 20000

/-! Lists of numbers. -/
theorem OwI.cells {base : Nat} {L : List Int} {v : Value} {w : World} (h : OwI base L v w) (hp : 0 < L.length) : ∃ g cap, v = .slice (some ⟨g, 0, none⟩) L.length cap ∧ base ≤ g ∧ g < w.heap.size ∧
    ∀ i e, L[i]? = some e → w.cell? ⟨g, i, none⟩ = some (.int .i64 e) := by
  rcases h.2 with ⟨_, h0⟩ | ⟨g, cap, cur, rfl, hbg, hg, h1, h2, h3, h4⟩
  · omega
  · refine ⟨g, cap, rfl, hbg, (Array.getElem?_eq_some_iff.1 hg).1, fun i e he => ?_⟩
    have hi : i < L.length := (List.getElem?_eq_some_iff.1 he).1
    have e1 : (ints L)[i]? = some (.int .i64 e) := by simp [ints, he]
    rw [← h4, List.getElem?_take_of_lt (by omega)] at e1
    rw [← e1]
    simp [World.cell?, hg]
def IsI (w : World) (v : Value) (L : List Int) : Prop :=
  ∃ a cap, v = .slice a L.length cap ∧ (0 < L.length → ∃ b off, a = some ⟨b, off, none⟩ ∧ b < w.heap.size ∧ ∀ i e, L[i]? = some e → w.cell? ⟨b, off + i, none⟩ = some (.int .i64 e))
theorem IsI.later {w w' : World} {v : Value} {L : List Int} (h : IsI w v L) (hb : Below w.heap.size w w') : IsI w' v L := by
  obtain ⟨a, cap, rfl, hc⟩ := h
  refine ⟨a, cap, rfl, fun hp => ?_⟩
  obtain ⟨b, off, rfl, hlt, hd⟩ := hc hp
  exact ⟨b, off, rfl, Nat.lt_of_lt_of_le hlt hb.size, fun i e he => (hb.cell (p := ⟨b, off + i, none⟩) hlt).trans (hd i e he)⟩
theorem OwI.later {base : Nat} {L : List Int} {v : Value} {w w' : World} (h : OwI base L v w) (hb : Below w.heap.size w w') : OwI base L v w' := rows_later h hb
theorem OwI.is {base : Nat} {L : List Int} {v : Value} {w : World} (h : OwI base L v w) : IsI w v L := by
  obtain ⟨a, cap, rfl⟩ := rows_form h
  refine ⟨a, cap, rfl, fun hp => ?_⟩
  obtain ⟨g, cap', hv, _, hg, hc⟩ := h.cells hp
  injection hv with h1 h2 h3
  refine ⟨g, 0, h1, hg, fun i e he => ?_⟩
  have := hc i e he
  rwa [← Nat.zero_add i] at this
theorem is_one {w : World} {g : Nat} {e : Int} (h : w.heap[g]? = some (.cells #[.int .i64 e] TI (0, 0))) (c : Nat) : IsI w (.slice (some ⟨g, 0, none⟩) 1 c) [e] := by
  refine ⟨_, c, rfl, fun _ => ⟨g, 0, rfl, (Array.getElem?_eq_some_iff.1 h).1, fun i x hx => ?_⟩⟩
  cases i with
  | succ i => simp at hx
  | zero =>
    simp only [List.getElem?_cons_zero, Option.some.injEq] at hx
    subst hx
    exact cell_of_row w g 0 _ TI _ h
def eqLs (L M : List Int) : Bool := decide (L = M)
theorem eqLs_t (L : List Int) : eqLs L L = true := decide_eq_true rfl
theorem eqLs_f {L M : List Int} (h : L ≠ M) : eqLs L M = false := decide_eq_false h
set_option maxHeartbeats 1000000 in
theorem equal_any (v1 v2 : Value) (L M : List Int) (w : World) (h1 : IsI w v1 L) (h2 : IsI w v2 M) (hl : L.length ≤ 100000) (hm : M.length ≤ 100000) :
    Calls Try.prog 31 #[v1, v2] w fun e w' => e = .returned (.bool (eqLs L M)) ∧ Below w.heap.size w w' := by
  obtain ⟨a1, cap1, rfl, hc1⟩ := h1
  obtain ⟨a2, cap2, rfl, hc2⟩ := h2
  have hE := Lib.hid (show L = M → eqLs L M = true from fun e => by rw [e]; exact eqLs_t M)
  have hN := Lib.hid (show L ≠ M → eqLs L M = false from fun e => eqLs_f e)
  generalize eqLs L M = B at *
  by_cases hlm : L.length = M.length
  · rw [← hlm] at hc2
    have hlen := Lib.hid hlm
    rw [← hlm]
    have hD : Hid (∀ (W : World) (k : Nat), Below w.heap.size w W → k < L.length → ∃ b1 o1 b2 o2 x y, a1 = some ⟨b1, o1, none⟩ ∧ a2 = some ⟨b2, o2, none⟩ ∧ L[k]? = some x ∧ M[k]? = some y ∧
        W.cell? ⟨b1, o1 + k, none⟩ = some (.int .i64 x) ∧ W.cell? ⟨b2, o2 + k, none⟩ = some (.int .i64 y)) := Lib.hid fun W k hb hk => by
      obtain ⟨b1, o1, rfl, hb1, hd1⟩ := hc1 (by omega)
      obtain ⟨b2, o2, rfl, hb2, hd2⟩ := hc2 (by omega)
      have hx := List.getElem?_eq_getElem hk
      have hy := List.getElem?_eq_getElem (show k < M.length by omega)
      exact ⟨b1, o1, b2, o2, _, _, rfl, rfl, hx, hy, (hb.cell (p := ⟨b1, _, none⟩) hb1).trans (hd1 k _ hx), (hb.cell (p := ⟨b2, _, none⟩) hb2).trans (hd2 k _ hy)⟩
    clear hc1 hc2 hlm hm
    generalize hn : L.length = n at *
    replace hn := Lib.hid hn
    go_enter Try.func31, Try.ntmps31
    go_wp2
    go_loopw [13] (fun i wr => ∃ k : Nat, k ≤ n ∧ i = .int .i64 k ∧ Below w.heap.size w wr ∧ ∀ j, j < k → L[j]? = M[j]?) (fun i _ => n - nOf i)
    case atStart => exact ⟨0, Nat.zero_le _, rfl, Below.refl _ _, fun j h => by omega⟩
    case round =>
      obtain ⟨k, hk, rfl, hbel, hall⟩ := hrel
      replace hall := Lib.hid hall
      by_cases hlt : k < n
      · obtain ⟨b1, o1, b2, o2, x, y, rfl, rfl, hx, hy, p1, p2⟩ := hD.out wr k hbel (by have := hn.out; omega)
        have hx := Lib.hid hx
        have hy := Lib.hid hy
        have i1 : 0 ≤ (k : Int) := by omega
        have i2 : (k : Int) < (n : Int) := by omega
        clear hD
        by_cases hxy : x = y
        · subst hxy
          have e1 : (x == x) = true := by simp
          go_wp2
          go_quiet (fail)
          go_wp2
          go_roundw
          case rel => exact ⟨k + 1, by omega, by go_num, below_drewN hbel _, fun j hj => by
            by_cases e : j = k
            · rw [e, hx.out, hy.out]
            · exact hall.out j (by omega)⟩
          case measure => simp [nOf]; omega
        · have e1 : (x == y) = false := by simpa using hxy
          have e2 : (x = y) = False := by simpa using hxy
          have hne : L ≠ M := fun e => hxy (by
            have h1 := hx.out
            rw [e, hy.out] at h1
            exact (Option.some.inj h1).symm)
          have hB := hN.out hne
          subst hB
          clear hxy hne
          go_wp2
          go_quiet (fail)
          go_wp2
          go_ret
          exact ⟨rfl, below_drewN hbel _⟩
      · have hkn : k = n := by omega
        have hB := hE.out (List.ext_getElem? fun j => by
          by_cases hj : j < k
          · exact hall.out j hj
          · rw [List.getElem?_eq_none (by rw [hn.out]; omega), List.getElem?_eq_none (by rw [← hlen.out]; omega)])
        subst hB
        clear hD
        go_wp2
        go_ret
        exact ⟨rfl, hbel⟩
  · have hB := hN.out (fun e => hlm (by rw [e]))
    subst hB
    have b1 : ((L.length : Int) == (M.length : Int)) = false := by simp; omega
    have b2 : (L.length == M.length) = false := by simp; omega
    clear hc1 hc2 hl hm
    generalize L.length = n at *
    generalize M.length = m at *
    have b3 : ((n : Int) = (m : Int)) = False := by simp; omega
    go_enter Try.func31, Try.ntmps31
    go_wp2
    go_ret
    exact ⟨rfl, Below.refl _ _⟩

/-! Lists of texts. -/
theorem OwS.cells {base : Nat} {L : List ByteArray} {v : Value} {w : World} (h : OwS base L v w) (hp : 0 < L.length) : ∃ g cap, v = .slice (some ⟨g, 0, none⟩) L.length cap ∧ base ≤ g ∧ g < w.heap.size ∧
    ∀ i e, L[i]? = some e → w.cell? ⟨g, i, none⟩ = some (.string e) := by
  rcases h.2 with ⟨_, h0⟩ | ⟨g, cap, cur, rfl, hbg, hg, h1, h2, h3, h4⟩
  · omega
  · refine ⟨g, cap, rfl, hbg, (Array.getElem?_eq_some_iff.1 hg).1, fun i e he => ?_⟩
    have hi : i < L.length := (List.getElem?_eq_some_iff.1 he).1
    have e1 : (txts L)[i]? = some (.string e) := by simp [txts, he]
    rw [← h4, List.getElem?_take_of_lt (by omega)] at e1
    rw [← e1]
    simp [World.cell?, hg]
def IsS (w : World) (v : Value) (L : List ByteArray) : Prop :=
  ∃ a cap, v = .slice a L.length cap ∧ (0 < L.length → ∃ b off, a = some ⟨b, off, none⟩ ∧ b < w.heap.size ∧ ∀ i e, L[i]? = some e → w.cell? ⟨b, off + i, none⟩ = some (.string e))
theorem IsS.later {w w' : World} {v : Value} {L : List ByteArray} (h : IsS w v L) (hb : Below w.heap.size w w') : IsS w' v L := by
  obtain ⟨a, cap, rfl, hc⟩ := h
  refine ⟨a, cap, rfl, fun hp => ?_⟩
  obtain ⟨b, off, rfl, hlt, hd⟩ := hc hp
  exact ⟨b, off, rfl, Nat.lt_of_lt_of_le hlt hb.size, fun i e he => (hb.cell (p := ⟨b, off + i, none⟩) hlt).trans (hd i e he)⟩
theorem OwS.later {base : Nat} {L : List ByteArray} {v : Value} {w w' : World} (h : OwS base L v w) (hb : Below w.heap.size w w') : OwS base L v w' := rows_later h hb
theorem OwS.is {base : Nat} {L : List ByteArray} {v : Value} {w : World} (h : OwS base L v w) : IsS w v L := by
  obtain ⟨a, cap, rfl⟩ := rows_form h
  refine ⟨a, cap, rfl, fun hp => ?_⟩
  obtain ⟨g, cap', hv, _, hg, hc⟩ := h.cells hp
  injection hv with h1 h2 h3
  refine ⟨g, 0, h1, hg, fun i e he => ?_⟩
  have := hc i e he
  rwa [← Nat.zero_add i] at this
theorem is_oneS {w : World} {g : Nat} {e : ByteArray} (h : w.heap[g]? = some (.cells #[.string e] TK (0, 0))) (c : Nat) : IsS w (.slice (some ⟨g, 0, none⟩) 1 c) [e] := by
  refine ⟨_, c, rfl, fun _ => ⟨g, 0, rfl, (Array.getElem?_eq_some_iff.1 h).1, fun i x hx => ?_⟩⟩
  cases i with
  | succ i => simp at hx
  | zero =>
    simp only [List.getElem?_cons_zero, Option.some.injEq] at hx
    subst hx
    exact cell_of_row w g 0 _ TK _ h
def eqTs (L M : List ByteArray) : Bool := decide (L = M)
theorem eqTs_t (L : List ByteArray) : eqTs L L = true := decide_eq_true rfl
theorem eqTs_f {L M : List ByteArray} (h : L ≠ M) : eqTs L M = false := decide_eq_false h
set_option maxHeartbeats 1000000 in
theorem equalS_any (v1 v2 : Value) (L M : List ByteArray) (w : World) (h1 : IsS w v1 L) (h2 : IsS w v2 M) (hl : L.length ≤ 100000) (hm : M.length ≤ 100000) :
    Calls Try.prog 34 #[v1, v2] w fun e w' => e = .returned (.bool (eqTs L M)) ∧ Below w.heap.size w w' := by
  obtain ⟨a1, cap1, rfl, hc1⟩ := h1
  obtain ⟨a2, cap2, rfl, hc2⟩ := h2
  have hE := Lib.hid (show L = M → eqTs L M = true from fun e => by rw [e]; exact eqTs_t M)
  have hN := Lib.hid (show L ≠ M → eqTs L M = false from fun e => eqTs_f e)
  generalize eqTs L M = B at *
  by_cases hlm : L.length = M.length
  · rw [← hlm] at hc2
    have hlen := Lib.hid hlm
    rw [← hlm]
    have hD : Hid (∀ (W : World) (k : Nat), Below w.heap.size w W → k < L.length → ∃ b1 o1 b2 o2 x y, a1 = some ⟨b1, o1, none⟩ ∧ a2 = some ⟨b2, o2, none⟩ ∧ L[k]? = some x ∧ M[k]? = some y ∧
        W.cell? ⟨b1, o1 + k, none⟩ = some (.string x) ∧ W.cell? ⟨b2, o2 + k, none⟩ = some (.string y)) := Lib.hid fun W k hb hk => by
      obtain ⟨b1, o1, rfl, hb1, hd1⟩ := hc1 (by omega)
      obtain ⟨b2, o2, rfl, hb2, hd2⟩ := hc2 (by omega)
      have hx := List.getElem?_eq_getElem hk
      have hy := List.getElem?_eq_getElem (show k < M.length by omega)
      exact ⟨b1, o1, b2, o2, _, _, rfl, rfl, hx, hy, (hb.cell (p := ⟨b1, _, none⟩) hb1).trans (hd1 k _ hx), (hb.cell (p := ⟨b2, _, none⟩) hb2).trans (hd2 k _ hy)⟩
    clear hc1 hc2 hlm hm
    generalize hn : L.length = n at *
    replace hn := Lib.hid hn
    go_enter Try.func34, Try.ntmps34
    go_wp2
    go_loopw [13] (fun i wr => ∃ k : Nat, k ≤ n ∧ i = .int .i64 k ∧ Below w.heap.size w wr ∧ ∀ j, j < k → L[j]? = M[j]?) (fun i _ => n - nOf i)
    case atStart => exact ⟨0, Nat.zero_le _, rfl, Below.refl _ _, fun j h => by omega⟩
    case round =>
      obtain ⟨k, hk, rfl, hbel, hall⟩ := hrel
      replace hall := Lib.hid hall
      by_cases hlt : k < n
      · obtain ⟨b1, o1, b2, o2, x, y, rfl, rfl, hx, hy, p1, p2⟩ := hD.out wr k hbel (by have := hn.out; omega)
        have hx := Lib.hid hx
        have hy := Lib.hid hy
        have i1 : 0 ≤ (k : Int) := by omega
        have i2 : (k : Int) < (n : Int) := by omega
        clear hD
        by_cases hxy : x = y
        · subst hxy
          have e1 : (x.toList == x.toList) = true := by simp
          go_wp2
          go_quiet (fail)
          go_wp2
          go_roundw
          case rel => exact ⟨k + 1, by omega, by go_num, below_drewN hbel _, fun j hj => by
            by_cases e : j = k
            · rw [e, hx.out, hy.out]
            · exact hall.out j (by omega)⟩
          case measure => simp [nOf]; omega
        · have e1 : (x.toList == y.toList) = false := by rw [tl_eq]; exact eqT_f hxy
          have hne : L ≠ M := fun e => hxy (by
            have h1 := hx.out
            rw [e, hy.out] at h1
            exact (Option.some.inj h1).symm)
          have hB := hN.out hne
          subst hB
          clear hxy hne
          go_wp2
          go_quiet (fail)
          go_wp2
          go_ret
          exact ⟨rfl, below_drewN hbel _⟩
      · have hkn : k = n := by omega
        have hB := hE.out (List.ext_getElem? fun j => by
          by_cases hj : j < k
          · exact hall.out j hj
          · rw [List.getElem?_eq_none (by rw [hn.out]; omega), List.getElem?_eq_none (by rw [← hlen.out]; omega)])
        subst hB
        clear hD
        go_wp2
        go_ret
        exact ⟨rfl, hbel⟩
  · have hB := hN.out (fun e => hlm (by rw [e]))
    subst hB
    have b1 : ((L.length : Int) == (M.length : Int)) = false := by simp; omega
    have b2 : (L.length == M.length) = false := by simp; omega
    clear hc1 hc2 hl hm
    generalize L.length = n at *
    generalize M.length = m at *
    have b3 : ((n : Int) = (m : Int)) = False := by simp; omega
    go_enter Try.func34, Try.ntmps34
    go_wp2
    go_ret
    exact ⟨rfl, Below.refl _ _⟩

/-! A log that was made since the world w. -/
structure WAt (w : World) (sb mb : Nat) (s : St) (W : World) : Prop where
  ax : Ax W sb mb s
  bel : Below w.heap.size w W
  hs : w.heap.size ≤ sb
  hm : w.heap.size ≤ mb
theorem WAt.later {w W W' : World} {sb mb : Nat} {s : St} (h : WAt w sb mb s W) (hb : Below W.heap.size W W') : WAt w sb mb s W' := ⟨h.ax.later hb, h.bel.trans (hb.mono h.bel.size), h.hs, h.hm⟩
theorem WAt.drew {w W : World} {sb mb : Nat} {s : St} (h : WAt w sb mb s W) : WAt w sb mb s W.drew := h.later (Below.refl _ _).drew
theorem WAt.drewN {w W : World} {sb mb : Nat} {s : St} (h : WAt w sb mb s W) (n : Nat) : WAt w sb mb s (W.drewN n) := h.later (below_drewN (Below.refl _ _) n)
theorem WAt.alloc {w W : World} {sb mb : Nat} {s : St} (h : WAt w sb mb s W) (o : Obj) : WAt w sb mb s (W.alloc o) := h.later (alloc_b _ _)
theorem WAt.step {w W W' : World} {sb mb : Nat} {s s' : St} (h : WAt w sb mb s W) (hA : Ax W' sb mb s') (hk : Keeps (fun k => k = sb ∨ k = mb) W W') : WAt w sb mb s' W' :=
  ⟨hA, h.bel.trans (hk.below h.bel.size fun k hk => by have := h.hs; have := h.hm; omega), h.hs, h.hm⟩
/-- A block of cells that is not the log's box is none of its blocks. -/
theorem Ax.apart {W : World} {sb mb g : Nat} {s : St} {c : Array Value} {t : TypeId} (x : Ax W sb mb s) (hg : W.heap[g]? = some (.cells c t (0, 0))) (ht : t ≠ TA) : ¬ (g = sb ∨ g = mb) := by
  rintro (rfl | rfl)
  · rw [x.box] at hg
    injection hg with hg
    injection hg with _ hg
    exact ht hg.symm
  · obtain ⟨es, clock, hb, _⟩ := x.own
    rw [hb] at hg
    cases hg
theorem new_w (w W : World) (hW : Below w.heap.size w W) :
    Calls Try.prog 13 #[] W fun e W' => ∃ sb mb, e = .returned (.pointer (some ⟨sb, 0, none⟩)) ∧ WAt w sb mb newS W' ∧ Below W.heap.size W W' ∧ W.heap.size ≤ sb ∧ W.heap.size ≤ mb :=
  (new_any W).mono fun e W' ⟨sb, mb, he, hA, h1, h2, hb⟩ => ⟨sb, mb, he, ⟨hA, hW.trans (hb.mono hW.size), Nat.le_trans hW.size h1, Nat.le_trans hW.size h2⟩, hb, h1, h2⟩
section
variable {w W : World} {sb mb : Nat} {s : St}
theorem WAt.put (h : WAt w sb mb s W) (k : Int) (v : ByteArray) {c : Int} {s' : St} (h2 : putE s k v = c) (h3 : putS s k v = s') :
    Calls Try.prog 16 #[.pointer (some ⟨sb, 0, none⟩), .int .i64 k, .string v] W fun e W' =>
      e = .returned (.int .i64 c) ∧ WAt w sb mb s' W' ∧ Keeps (KL sb mb) W W' := by
  subst h2 h3
  exact (put_any k v W h.ax).mono fun e W' ⟨he, hA, hK⟩ => ⟨he, h.step hA (hK.wide fun k h => .inr h), hK.wide fun k h => .inr h⟩
theorem WAt.forget (h : WAt w sb mb s W) (u : Int) {c : Int} {s' : St} (h1 : forE s u = c) (h2 : forS s u = s') :
    Calls Try.prog 18 #[.pointer (some ⟨sb, 0, none⟩), .int .i64 u] W fun e W' =>
      e = .returned (.int .i64 c) ∧ WAt w sb mb s' W' ∧ Keeps (KL sb mb) W W' := by
  subst h1 h2
  exact (forget_any u W h.ax).mono fun e W' ⟨he, hA, hK⟩ => ⟨he, h.step hA hK, hK⟩
theorem WAt.jump (h : WAt w sb mb s W) (u : Int) {c : Int} {s' : St} (h1 : jmpE s u = c) (h2 : jmpS s u = s') :
    Calls Try.prog 20 #[.pointer (some ⟨sb, 0, none⟩), .int .i64 u] W fun e W' =>
      e = .returned (.int .i64 c) ∧ WAt w sb mb s' W' ∧ Keeps (KL sb mb) W W' := by
  subst h1 h2
  exact (jump_any u W h.ax).mono fun e W' ⟨he, hA, hK⟩ => ⟨he, h.step hA hK, hK⟩
theorem WAt.get (h : WAt w sb mb s W) (k : Int) (hk : (Lit.int .i64 k).wf = true) {r : Option Et} (hr : getM s.M k = r) :
    Calls Try.prog 24 #[.pointer (some ⟨sb, 0, none⟩), .int .i64 k] W fun e W' =>
      e = .returned (.tuple #[.string (gK r), .bool r.isSome]) ∧ W = W' := get_any k W h.ax hk hr
theorem WAt.upto (h : WAt w sb mb s W) {u : Int} (hu : uptoV s = u) :
    Calls Try.prog 25 #[.pointer (some ⟨sb, 0, none⟩)] W fun e W' => e = .returned (.int .i64 u) ∧ W = W' := by
  subst hu
  exact upto_any W h.ax
theorem WAt.base (h : WAt w sb mb s W) {u : Int} (hu : s.b = u) :
    Calls Try.prog 26 #[.pointer (some ⟨sb, 0, none⟩)] W fun e W' => e = .returned (.int .i64 u) ∧ W = W' := by
  subst hu
  exact base_any W h.ax
theorem WAt.prefixs (h : WAt w sb mb s W) {L : List ByteArray} (hL : preV s = L) :
    Calls Try.prog 27 #[.pointer (some ⟨sb, 0, none⟩)] W fun e W' =>
      ∃ v, e = .returned v ∧ OwS W.heap.size L v W' ∧ WAt w sb mb s W' ∧ Below W.heap.size W W' := by
  subst hL
  exact (prefix_any W h.ax).mono fun e W' ⟨v, he, hO, hb⟩ => ⟨v, he, hO, h.later hb, hb⟩
theorem WAt.gaps (h : WAt w sb mb s W) {L : List Int} (hL : gapV s = L) :
    Calls Try.prog 28 #[.pointer (some ⟨sb, 0, none⟩)] W fun e W' =>
      ∃ v, e = .returned v ∧ OwI W.heap.size L v W' ∧ WAt w sb mb s W' ∧ Below W.heap.size W W' := by
  subst hL
  exact (gaps_any W h.ax).mono fun e W' ⟨v, he, hO, hb⟩ => ⟨v, he, hO, h.later hb, hb⟩
theorem WAt.copy (h : WAt w sb mb s W) :
    Calls Try.prog 22 #[.pointer (some ⟨sb, 0, none⟩)] W fun e W' =>
      ∃ sb' mb', e = .returned (.pointer (some ⟨sb', 0, none⟩)) ∧ WAt w sb' mb' s W' ∧ WAt w sb mb s W' ∧ Below W.heap.size W W' ∧ W.heap.size ≤ sb' ∧ W.heap.size ≤ mb' :=
  (copy_any W h.ax).mono fun e W' ⟨sb', mb', he, h1, h2, hA, hb⟩ => ⟨sb', mb', he, ⟨hA, h.bel.trans (hb.mono h.bel.size), Nat.le_trans h.bel.size h1, Nat.le_trans h.bel.size h2⟩, h.later hb, hb, h1, h2⟩
/-- A log stays where another one is turned. -/
theorem WAt.beside {W' : World} {sb' mb' : Nat} (h : WAt w sb mb s W) (hk : Keeps (KL sb' mb') W W') (h1 : sb ≠ sb' ∧ sb ≠ mb' ∧ mb ≠ sb' ∧ mb ≠ mb') (h2 : w.heap.size ≤ sb' ∧ w.heap.size ≤ mb') : WAt w sb mb s W' :=
  ⟨h.ax.kept hk (by rintro (e | e) <;> omega) (by rintro (e | e) <;> omega), h.bel.trans (hk.below h.bel.size fun k hk => by rcases hk with e | e <;> omega), h.hs, h.hm⟩
end
/-- A row is none of the log's blocks. -/
theorem own_apart {base size n : Nat} {e : TypeId} {v : Value} {xs : List Value} {W W' : World} {sb mb : Nat} {s : St} (h : W.ownsRow base e size v n xs) (he : e ≠ TA) (x : Ax W sb mb s) (hk : Keeps (KL sb mb) W W') : W'.ownsRow base e size v n xs :=
  rows_kept h fun k ek => by
    refine hk.block k (World.ownsRow.lt h k ek).2 ?_
    rcases h.2 with ⟨rfl, _⟩ | ⟨g, cap, cur, rfl, _, hg, _⟩
    · cases ek
    · injection ek with ek
      subst ek
      exact x.apart hg he
theorem OwI.apart {base : Nat} {L : List Int} {v : Value} {W W' : World} {sb mb : Nat} {s : St} (h : OwI base L v W) (x : Ax W sb mb s) (hk : Keeps (KL sb mb) W W') : OwI base L v W' := own_apart h (by decide) x hk
theorem OwS.apart {base : Nat} {L : List ByteArray} {v : Value} {W W' : World} {sb mb : Nat} {s : St} (h : OwS base L v W) (x : Ax W sb mb s) (hk : Keeps (KL sb mb) W W') : OwS base L v W' := own_apart h (by decide) x hk
end Go.Proofs.Ytgeejkedljhcoaa.Slt
