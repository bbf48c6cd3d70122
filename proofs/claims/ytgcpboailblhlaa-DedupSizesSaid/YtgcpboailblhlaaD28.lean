/- The document's names, ends and Valid; its calls on an empty table. -/
import Derived.Test.YtgcpboailblhlaaD15
namespace Go.Proofs.Ytgcpboailblhlaa.Ded
open Go.RowKit Go.Lib Go.Shelf
open Rng (tx nameOk hasR okR goodB badR tx_size tx_get endOk bl)
open Eff (TE effOk)
set_option linter.unusedVariables false
set_option linter.unusedSimpArgs false
set_option maxRecDepth 100000

/-- What go's test of a byte says. -/
theorem good_cases (c : UInt8) : (goodB c = true ∧ decide ((c.toNat : Int) < 97) = false ∧ decide (122 < (c.toNat : Int)) = false) ∨
    (goodB c = true ∧ decide ((c.toNat : Int) < 97) = true ∧ decide ((c.toNat : Int) < 48) = false ∧ decide (57 < (c.toNat : Int)) = false) ∨
    (goodB c = false ∧ decide ((c.toNat : Int) < 97) = true ∧ decide ((c.toNat : Int) < 48) = true) ∨
    (goodB c = false ∧ decide ((c.toNat : Int) < 97) = true ∧ decide ((c.toNat : Int) < 48) = false ∧ decide (57 < (c.toNat : Int)) = true) ∨
    (goodB c = false ∧ decide ((c.toNat : Int) < 97) = false ∧ decide (122 < (c.toNat : Int)) = true ∧ decide ((c.toNat : Int) < 48) = false ∧ decide (57 < (c.toNat : Int)) = true) := by
  unfold goodB badR
  generalize c.toNat = n
  simp only [Bool.not_eq_true', Bool.not_eq_false', Bool.and_eq_true, Bool.and_eq_false_iff, Bool.or_eq_true, Bool.or_eq_false_iff, decide_eq_true_iff, decide_eq_false_iff_not]
  omega
theorem ref_name (l : List UInt8) (hl : l.length ≤ 9223372036854775807) (w : World) :
    Calls Try.prog 56 #[.string (tx l)] w fun e w' => e = .returned (.bool (nameOk l)) ∧ w = w' := by
  have hz := tx_size l
  have hget : ∀ (k : Nat) (h : k < (tx l).size) (h2 : k < l.length), (tx l)[k]'h = l[k]'h2 := fun k h _ => tx_get l k h
  have hN : ∀ k : Nat, (h : k < l.length) → (l.take k).all goodB = true → goodB l[k] = true → (l.take (k + 1)).all goodB = true := by
    intro k h h1 h2
    rw [List.take_succ_eq_append_getElem h, List.all_append, h1]
    simp [h2]
  have hF : ∀ k : Nat, (h : k < l.length) → goodB l[k] = false → nameOk l = false := by
    intro k h h2
    unfold nameOk
    have : l.all goodB = false := by
      rw [List.all_eq_false]
      exact ⟨l[k], List.getElem_mem h, by simp [h2]⟩
    rw [this, Bool.and_false]
  have hE : (l.take l.length).all goodB = true → nameOk l = decide (1 ≤ l.length ∧ l.length ≤ 16) := by
    intro h
    rw [List.take_length] at h
    unfold nameOk
    rw [h, Bool.and_true]
  generalize hs : tx l = s at *
  have HG := Lib.hid hget
  replace hN := Lib.hid hN
  replace hF := Lib.hid hF
  replace hE := Lib.hid hE
  clear hget hs
  go_enter Try.func56, Try.ntmps56
  go_wp2
  go_loop [3] (fun i => ∃ k : Nat, k ≤ l.length ∧ i = .int .i64 k ∧ (l.take k).all goodB = true) (fun i => l.length - (intOf i).toNat)
  case atStart => exact ⟨0, Nat.zero_le _, rfl, rfl⟩
  case round =>
    obtain ⟨k, hk, rfl, hall⟩ := hrel
    replace hall := Lib.hid hall
    by_cases hlt : k < l.length
    · have hks : k < s.size := by omega
      have hg := good_cases (s[k]'hks)
      have hgk := Lib.hid (HG.out k hks hlt)
      rcases hg with ⟨h1, b1, b2⟩ | ⟨h1, b1, b2, b3⟩ | ⟨h1, b1, b2⟩ | ⟨h1, b1, b2, b3⟩ | ⟨h1, b1, b2, b3, b4⟩
      · rw [hgk.out] at h1
        have hn := Lib.hid (hN.out k hlt hall.out h1)
        clear h1
        go_wp2
        go_round
        case rel => exact ⟨k + 1, by omega, by go_num, hn.out⟩
        case measure => simp [intOf]; omega
      · rw [hgk.out] at h1
        have hn := Lib.hid (hN.out k hlt hall.out h1)
        clear h1
        go_wp2
        go_round
        case rel => exact ⟨k + 1, by omega, by go_num, hn.out⟩
        case measure => simp [intOf]; omega
      all_goals
        rw [hgk.out] at h1
        have hn := Lib.hid (hF.out k hlt h1)
        clear h1
        go_wp2
        go_ret
        exact ⟨by rw [hn.out]; rfl, rfl⟩
    · obtain rfl : k = l.length := by omega
      have hn := Lib.hid (hE.out hall.out)
      clear hlt
      by_cases h1 : 1 ≤ l.length
      · by_cases h2 : l.length ≤ 16
        · have d1 : decide ((1 : Int) ≤ (l.length : Int)) = true := by simp; omega
          have d2 : decide ((l.length : Int) ≤ 16) = true := by simp; omega
          have hr := Lib.hid (show nameOk l = true by rw [hn.out, decide_eq_true ⟨h1, h2⟩])
          clear hn h1 h2
          go_wp2
          go_ret
          exact ⟨by rw [hr.out]; rfl, rfl⟩
        · have d1 : decide ((1 : Int) ≤ (l.length : Int)) = true := by simp; omega
          have d2 : decide ((l.length : Int) ≤ 16) = false := by simp; omega
          have hr := Lib.hid (show nameOk l = false by rw [hn.out, decide_eq_false (fun h => h2 h.2)])
          clear hn h1 h2
          go_wp2
          go_ret
          exact ⟨by rw [hr.out]; rfl, rfl⟩
      · have d1 : decide ((1 : Int) ≤ (l.length : Int)) = false := by simp; omega
        have hr := Lib.hid (show nameOk l = false by rw [hn.out, decide_eq_false (fun h => h1 h.1)])
        clear hn h1
        go_wp2
        go_ret
        exact ⟨by rw [hr.out]; rfl, rfl⟩


theorem tx_l (l : List UInt8) : (tx l).toList = l := by rw [Lib.toList_data, Rng.tx_list]
theorem rend_any (l : List UInt8) (hl : l.length ≤ 9223372036854775807) (w : World) :
    Calls Try.prog 75 #[.string (tx l)] w fun e w' => e = .returned (.bool (endOk l)) ∧ w = w' := by
  have hN := Lib.hid (fun W => ref_name l hl W)
  have hr : endOk l = (l.isEmpty || nameOk l) := rfl
  have e1 : ((tx l).toList == []) = l.isEmpty := by rw [tx_l]; cases l <;> rfl
  have e2 : (tx l).toList.isEmpty = l.isEmpty := by rw [tx_l]
  generalize endOk l = c at *
  generalize l.isEmpty = x at *
  generalize nameOk l = p at *
  generalize tx l = s at *
  cases x <;> cases p
  all_goals
    replace hr := Lib.hid hr
    go_enter Try.func75, Try.ntmps75
    go_wp2_with (go_at_call 56; refine (hN.out _).mono ?_; rintro e w1 ⟨rfl, rfl⟩)
    go_ret
    exact ⟨by rw [hr.out]; rfl, rfl⟩
theorem rvalid_any (r : Rng.Rg) (h1 : r.f.length ≤ 9223372036854775807) (h2 : r.t.length ≤ 9223372036854775807) (w : World) :
    Calls Try.prog 43 #[rgA r] w fun e w' => e = .returned (.bool (okR r)) ∧ Below w.heap.size w w' := by
  obtain ⟨f, t⟩ := r
  show Calls Try.prog 43 #[.agg #[.string (tx f), .string (tx t)]] w _
  have hF := Lib.hid (fun W => rend_any f h1 W)
  have hT := Lib.hid (fun W => rend_any t h2 W)
  have b1 : Op.bytesLess (tx f).toList (tx t).toList = bl f t := by rw [tx_l, tx_l]; rfl
  have hr : okR ⟨f, t⟩ = (endOk f && endOk t && (t.isEmpty || bl f t)) := rfl
  have hx := Rng.bx_new w (tx f) (tx t)
  have hb := hx.bel
  obtain ⟨c0, c1⟩ := hx.cells
  have e2 : ((tx t).toList == []) = t.isEmpty := by rw [tx_l]; cases t <;> rfl
  have e2' : (tx t).toList.isEmpty = t.isEmpty := by rw [tx_l]
  clear h1 h2
  generalize okR ⟨f, t⟩ = c at *
  generalize t.isEmpty = et at *
  generalize endOk f = p at *
  generalize endOk t = q at *
  generalize bl f t = z at *
  generalize tx f = s at *
  generalize tx t = u at *
  cases et <;> cases p <;> cases q <;> cases z
  all_goals
    replace hr := Lib.hid hr
    go_enter Try.func43, Try.ntmps43
    go_wp2_with (first
      | (go_at_call_of 75 (Value.string s); refine (hF.out _).mono ?_; rintro e w1 ⟨rfl, rfl⟩)
      | (go_at_call_of 75 (Value.string u); refine (hT.out _).mono ?_; rintro e w2 ⟨rfl, rfl⟩))
    go_ret
    exact ⟨by rw [hr.out]; rfl, hb⟩

/-! An empty table of the document's. -/
abbrev TRd : TypeId := 89
def Rd (W : World) (b : Nat) (n : Int) : Prop := W.heap[b]? = some (.cells #[.int .i64 n, .slice none 0 0] TRd (0, 0))
theorem Rd.later {W W' : World} {b : Nat} {n : Int} (h : Rd W b n) (hb : Below W.heap.size W W') : Rd W' b n := (hb.block _ (Array.getElem?_eq_some_iff.1 h).1).trans h
theorem Rd.cells {W : World} {b : Nat} {n : Int} (h : Rd W b n) : W.cell? ⟨b, 0, none⟩ = some (.int .i64 n) ∧ W.cell? ⟨b, 1, none⟩ = some (.slice none 0 0) := ⟨cell_of_row _ _ 0 _ _ _ h, cell_of_row _ _ 1 _ _ _ h⟩
theorem Rd.froz {W : World} {b : Nat} {n : Int} (h : Rd W b n) : W.frozen? ⟨b, 0, none⟩ = false ∧ W.frozen? ⟨b, 1, none⟩ = false := ⟨frozen_of_row _ _ 0 _ _ h, frozen_of_row _ _ 1 _ _ h⟩
theorem rnew_bad (n : Int) (w : World) (h : n < 0 ∨ 2048 < n) : Calls Try.prog 13 #[.int .i64 n] w fun e w' => e = .returned (.tuple #[.pointer none, .int .i64 2]) ∧ w = w' := by
  rcases h with h | h
  · have b1 : decide (n < 0) = true := by simpa using h
    go_enter Try.func13, Try.ntmps13
    go_wp2
    go_ret2
    exact ⟨rfl, rfl⟩
  · have b1 : decide (n < 0) = false := by simp; omega
    have b2 : decide (2048 < n) = true := by simpa using h
    clear h
    go_enter Try.func13, Try.ntmps13
    go_wp2
    go_ret2
    exact ⟨rfl, rfl⟩
theorem rnew_ok (n : Int) (w : World) (h0 : 0 ≤ n) (h1 : n ≤ 2048) : Calls Try.prog 13 #[.int .i64 n] w fun e w' => e = .returned (.tuple #[.pointer (some ⟨w.heap.size, 0, none⟩), .int .i64 0]) ∧ Rd w' w.heap.size n ∧ Below w.heap.size w w' := by
  have b1 : decide (n < 0) = false := by simp; omega
  have b2 : decide (2048 < n) = false := by simp; omega
  have HN := Lib.hid (show Rd (w.alloc (.cells #[.int .i64 n, .slice none 0 0] TRd)) w.heap.size n from heap_alloc_new _ _)
  have HB := Lib.hid (alloc_b w (.cells #[.int .i64 n, .slice none 0 0] TRd))
  clear h0 h1
  go_enter Try.func13, Try.ntmps13
  go_wp2
  go_ret2
  exact ⟨rfl, HN.out, HB.out⟩
theorem rfind_any (b : Nat) (n : Int) (e : Ef) (w : World) (h : Rd w b n) :
    Calls Try.prog 58 #[.pointer (some ⟨b, 0, none⟩), efA e] w fun r w' => r = .returned (.int .i64 (-1)) ∧ Below w.heap.size w w' := by
  have hb := alloc_b w (.cells #[.int .i64 e.s, .int .i64 e.t, .int .i64 e.p] TE)
  obtain ⟨c0, c1⟩ := (h.later hb).cells
  obtain ⟨k0, k1⟩ := h.cells
  have HB := Lib.hid hb
  clear hb h
  go_enter Try.func58, Try.ntmps58
  go_wp2
  refine wp_loop_rounds 1 ?_
  rw [rounds_succ]
  go_wp2
  go_ret
  exact ⟨rfl, HB.out⟩
theorem rsorted_nil (w : World) : Calls Try.prog 44 #[.slice none 0 0] w fun e w' => e = .returned (.slice none 0 0) ∧ w = w' := by
  go_enter Try.func44, Try.ntmps44
  go_wp2
  refine wp_loop_rounds 1 ?_
  rw [rounds_succ]
  go_wp2
  go_ret
  exact ⟨rfl, rfl⟩
theorem rall_any (b : Nat) (n : Int) (w : World) (h : Rd w b n) :
    Calls Try.prog 47 #[.pointer (some ⟨b, 0, none⟩)] w fun r w' => r = .returned (.slice none 0 0) ∧ w = w' := by
  obtain ⟨c0, c1⟩ := h.cells
  clear h
  go_enter Try.func47, Try.ntmps47
  go_wp2_with (go_at_call 44; refine (rsorted_nil _).mono ?_; rintro e w' ⟨rfl, rfl⟩)
  go_ret
  exact ⟨rfl, rfl⟩
theorem rlen_any (b : Nat) (n : Int) (w : World) (h : Rd w b n) :
    Calls Try.prog 48 #[.pointer (some ⟨b, 0, none⟩)] w fun r w' => r = .returned (.int .i64 0) ∧ w = w' := by
  obtain ⟨c0, c1⟩ := h.cells
  clear h
  go_enter Try.func48, Try.ntmps48
  go_wp2
  go_ret
  exact ⟨rfl, rfl⟩
theorem rkey_any (b : Nat) (n : Int) (e : Ef) (w : World) (h : Rd w b n) :
    Calls Try.prog 46 #[.pointer (some ⟨b, 0, none⟩), efA e] w fun r w' => r = .returned (.tuple #[.string ⟨#[]⟩, .bool false]) ∧ Below w.heap.size w w' := by
  have hb := alloc_b w (.cells #[.int .i64 e.s, .int .i64 e.t, .int .i64 e.p] TE)
  have hF := Lib.hid (rfind_any b n e _ (h.later hb))
  have hF2 := Lib.hid (rfind_any b n e _ h)
  have HB := Lib.hid hb
  clear hb h
  go_enter Try.func46, Try.ntmps46
  go_wp2_with (first
    | (go_at_call 58; refine hF.out.mono ?_; rintro r w2 ⟨rfl, hb2⟩; have G := Lib.hid (HB.out.trans (hb2.mono HB.out.size)))
    | (go_at_call 58; refine hF2.out.mono ?_; rintro r w2 ⟨rfl, hb2⟩; have G := Lib.hid hb2))
  go_ret2
  exact ⟨rfl, G.out⟩
end Go.Proofs.Ytgcpboailblhlaa.Ded
