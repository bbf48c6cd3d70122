/- Lists of values that came in; few. -/
import Derived.Test.YtnkmiigcglddmaaW20
namespace Go.Proofs.Ytnkmiigcglddmaa.Wire
open Go.RowKit Go.ChangeShapes
set_option linter.unusedVariables false
set_option linter.unusedSimpArgs false

/-- A value that came in: its kind, its number, its text. -/
structure Val where
  k : Nat
  n : Nat
  s : ByteArray
def Val.ok (x : Val) : Prop := x.k < 256 ∧ x.n < 18446744073709551616 ∧ x.s.size ≤ 140737488355328
def zv : Val := ⟨0, 0, ⟨#[]⟩⟩
/-- The slice reads as the values xs. -/
def IsVals (w : World) (a : Option Addr) (len cap : Nat) (xs : List Val) : Prop :=
  xs.length = len ∧ (len ≤ cap ∧ cap ≤ 9223372036854775807) ∧ (∀ x ∈ xs, x.ok) ∧ (0 < len → ∃ b off, a = some ⟨b, off, none⟩ ∧ b < w.heap.size ∧
    ∀ i, i < len → w.cell? ⟨b, off + i * 3, none⟩ = some (.int .u8 ((xs.getD i zv).k : Nat)) ∧ w.cell? ⟨b, off + i * 3 + 1, none⟩ = some (.int .u64 ((xs.getD i zv).n : Nat)) ∧ w.cell? ⟨b, off + i * 3 + 2, none⟩ = some (.string (xs.getD i zv).s))
theorem IsVals.at_ {w W : World} {a : Option Addr} {len cap : Nat} {xs : List Val} (h : IsVals w a len cap xs) (hb : Below w.heap.size w W) {i : Nat} (hi : i < len) :
    ∃ b off, a = some ⟨b, off, none⟩ ∧ W.cell? ⟨b, off + i * 3, none⟩ = some (.int .u8 ((xs.getD i zv).k : Nat)) ∧ W.cell? ⟨b, off + i * 3 + 1, none⟩ = some (.int .u64 ((xs.getD i zv).n : Nat)) ∧ W.cell? ⟨b, off + i * 3 + 2, none⟩ = some (.string (xs.getD i zv).s) := by
  obtain ⟨_, _, _, hc⟩ := h
  obtain ⟨b, off, ha, hlt, hcell⟩ := hc (by omega)
  obtain ⟨h0, h1, h2⟩ := hcell i hi
  exact ⟨b, off, ha, (hb.cell (p := ⟨b, off + i * 3, none⟩) hlt).trans h0, (hb.cell (p := ⟨b, off + i * 3 + 1, none⟩) hlt).trans h1, (hb.cell (p := ⟨b, off + i * 3 + 2, none⟩) hlt).trans h2⟩
theorem IsVals.okAt {w : World} {a : Option Addr} {len cap : Nat} {xs : List Val} (h : IsVals w a len cap xs) {i : Nat} (hi : i < len) : (xs.getD i zv).ok := by
  obtain ⟨hl, _, hok, _⟩ := h
  rw [List.getD_eq_getElem?_getD, List.getElem?_eq_getElem (by omega)]
  exact hok _ (List.getElem_mem _)
/-- How many bytes the texts have together. -/
def tot : List Val → Nat
  | [] => 0
  | x :: l => x.s.size + tot l
theorem tot_append (l m : List Val) : tot (l ++ m) = tot l + tot m := by
  induction l with
  | nil => simp [tot]
  | cons x l ih => rw [List.cons_append, tot, ih, tot]; omega
theorem tot_take (xs : List Val) (i : Nat) (h : i < xs.length) : tot (xs.take (i + 1)) = tot (xs.take i) + (xs.getD i zv).s.size := by
  rw [List.take_succ_eq_append_getElem h, tot_append, List.getD_eq_getElem?_getD, List.getElem?_eq_getElem h]
  simp [tot]
theorem few_step (t s j : Nat) (ht : t ≤ j * 140737488355328) (hs : s ≤ 140737488355328) (hj : j < 100) : (t : Int) + s < 9223372036854775808 ∧ t + s ≤ (j + 1) * 140737488355328 := by
  omega
set_option maxRecDepth 100000 in
set_option maxHeartbeats 1000000 in
theorem few_go (a : Option Addr) (cap : Nat) (xs : List Val) (w W : World) (h : IsVals w a xs.length cap xs) (hb : Below w.heap.size w W) (hl : xs.length ≤ 100) (r : Bool) (hr : decide ((tot xs : Int) ≤ 100000) = r) :
    Calls Try.prog 12 #[.slice a xs.length cap] W (Quiet W (.bool r)) := by
  have HV := Lib.hid h
  have HB := Lib.hid hb
  have HR := Lib.hid hr
  have HL := Lib.hid hl
  have dl : decide ((xs.length : Int) ≤ 100) = true := decide_eq_true (by omega)
  obtain ⟨L, hL⟩ : ∃ L, xs.length = L := ⟨_, rfl⟩
  have HLL := Lib.hid hL
  rw [hL] at dl hl
  rw [hL]
  clear h hb hr hL
  go_enter Try.func12, Try.ntmps12
  go_wp2
  go_loopw [3, 8] (fun n i wr => ∃ (j : Nat), j ≤ L ∧ i = .int .i64 j ∧ n = .int .i64 (tot (xs.take j) : Nat) ∧ tot (xs.take j) ≤ j * 140737488355328 ∧ Below W.heap.size W wr) (fun _ i _ => L - (intOf i).toNat)
  case atStart => exact ⟨0, Nat.zero_le _, rfl, rfl, Nat.le_refl _, Below.refl _ _⟩
  case round =>
    obtain ⟨j, hj, rfl, rfl, ht, hbr⟩ := hrel
    have HBR := Lib.hid hbr
    by_cases hlt : j < L
    · obtain ⟨b, off, ha, c0, c1, c2⟩ := HV.out.at_ (HB.out.trans (hbr.mono HB.out.size)) (show j < xs.length by rw [HLL.out]; exact hlt)
      obtain ⟨_, _, hs⟩ := HV.out.okAt (show j < xs.length by rw [HLL.out]; exact hlt)
      have HT := Lib.hid (tot_take xs j (by rw [HLL.out]; exact hlt))
      subst ha
      clear hbr
      generalize (xs.getD j zv).s = s at *
      generalize (xs.getD j zv).k = k at *
      generalize (xs.getD j zv).n = n at *
      generalize tot (xs.take j) = t at *
      obtain ⟨h63, hnx⟩ := few_step t s.size j ht hs (by omega)
      have HNX := Lib.hid hnx
      clear ht hs hnx
      go_wp2
      go_roundw
      case rel => exact ⟨j + 1, by omega, by go_num, by rw [HT.out]; go_num, by rw [HT.out]; exact HNX.out, HBR.out.alloc HBR.out.size _⟩
      case measure => simp [intOf]; omega
    · obtain rfl : j = L := by omega
      have e : xs.take j = xs := by rw [← HLL.out]; exact List.take_length
      rw [e] at ht ⊢
      have hr := HR.out
      clear hbr ht
      generalize tot xs = t at *
      go_wp2
      go_ret
      exact ⟨by simp, HBR.out⟩
set_option maxRecDepth 100000 in
set_option maxHeartbeats 1000000 in
theorem few_long (a : Option Addr) (cap : Nat) (xs : List Val) (w W : World) (h : IsVals w a xs.length cap xs) (hb : Below w.heap.size w W) (hl : 100 < xs.length) :
    Calls Try.prog 12 #[.slice a xs.length cap] W (Quiet W (.bool false)) := by
  have HV := Lib.hid h
  have HB := Lib.hid hb
  have dl : decide ((xs.length : Int) ≤ 100) = false := decide_eq_false (by omega)
  have h63 : xs.length < 9223372036854775808 := by have := h.2.1; omega
  obtain ⟨L, hL⟩ : ∃ L, xs.length = L := ⟨_, rfl⟩
  have HLL := Lib.hid hL
  rw [hL] at dl hl h63
  rw [hL]
  clear h hb hL
  go_enter Try.func12, Try.ntmps12
  go_wp2
  go_loopw [3, 8] (fun n i wr => ∃ (j : Nat) (z : Int), j ≤ L ∧ i = .int .i64 j ∧ n = .int .i64 z ∧ Below W.heap.size W wr) (fun _ i _ => L - (intOf i).toNat)
  case atStart => exact ⟨0, 0, Nat.zero_le _, rfl, rfl, Below.refl _ _⟩
  case round =>
    obtain ⟨j, z, hj, rfl, rfl, hbr⟩ := hrel
    have HBR := Lib.hid hbr
    by_cases hlt : j < L
    · obtain ⟨b, off, ha, c0, c1, c2⟩ := HV.out.at_ (HB.out.trans (hbr.mono HB.out.size)) (show j < xs.length by rw [HLL.out]; exact hlt)
      subst ha
      clear hbr
      generalize (xs.getD j zv).s = s at *
      generalize (xs.getD j zv).k = k at *
      generalize (xs.getD j zv).n = n at *
      go_wp2
      go_roundw
      case rel => exact ⟨j + 1, _, by omega, by go_num, rfl, HBR.out.alloc HBR.out.size _⟩
      case measure => simp [intOf]; omega
    · obtain rfl : j = L := by omega
      clear hbr
      go_wp2
      go_ret
      exact ⟨rfl, HBR.out⟩
/-- What few answers: whether the values are looked at. -/
theorem few_any (a : Option Addr) (len cap : Nat) (xs : List Val) (w W : World) (h : IsVals w a len cap xs) (hb : Below w.heap.size w W) :
    (len ≤ 100 ∧ tot xs ≤ 100000 ∧ Calls Try.prog 12 #[.slice a len cap] W (Quiet W (.bool true))) ∨ Calls Try.prog 12 #[.slice a len cap] W (Quiet W (.bool false)) := by
  obtain rfl := h.1
  by_cases hl : xs.length ≤ 100
  · by_cases ht : tot xs ≤ 100000
    · exact .inl ⟨hl, ht, few_go a cap xs w W h hb hl true (decide_eq_true (by omega))⟩
    · exact .inr (few_go a cap xs w W h hb hl false (decide_eq_false (by omega)))
  · exact .inr (few_long a cap xs w W h hb (by omega))
theorem tot_ge {xs : List Val} {x : Val} (h : x ∈ xs) : x.s.size ≤ tot xs := by
  induction xs with
  | nil => cases h
  | cons y l ih =>
    rw [tot]
    rcases List.mem_cons.1 h with rfl | h
    · omega
    · have := ih h; omega
end Go.Proofs.Ytnkmiigcglddmaa.Wire
