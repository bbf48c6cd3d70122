/- The document's digits, Text, Parse; the walk of BallotTexts. -/
import Derived.Test.YtabfpdlnljkgpaaDoorB11
import Derived.Test.YtabfpdlnljkgpaaDoorB12
namespace Go.Proofs.YtabfpdlnljkgpaaDoor.Bal
open Go.RowKit Go.Lib
set_option linter.unusedVariables false
set_option linter.unusedSimpArgs false
set_option maxRecDepth 20000

theorem tx_get (l : List UInt8) (k : Nat) (h : k < (tx l).size) : (tx l)[k] = l[k]'(by rw [tx_size] at h; exact h) := by
  show (tx l).data[k] = _
  simp [tx]
theorem dec_last (n : Nat) (h : ¬ n < 10) : decDigits n = decDigits (n / 10) ++ decDigits (n % 10) := by
  rw [decDigits, dif_neg h, decDigits_one (show n % 10 < 10 by omega)]
theorem dig_slice (n : Nat) (h : n < 10) (w : World) : (Instr.slice 9 (.string ⟨#[48, 49, 50, 51, 52, 53, 54, 55, 56, 57]⟩) (some (.int .i64 n)) (some (.int .i64 ((n : Int) + 1))) none).run Tryd.prog w = .ok (.string (tx [UInt8.ofNat (48 + n)])) w := by
  obtain rfl | rfl | rfl | rfl | rfl | rfl | rfl | rfl | rfl | rfl : n = 0 ∨ n = 1 ∨ n = 2 ∨ n = 3 ∨ n = 4 ∨ n = 5 ∨ n = 6 ∨ n = 7 ∨ n = 8 ∨ n = 9 := by omega
  all_goals (rw [run_slice_string _ _ _ _ _ _ _ Tryd.underlying9 (by decide) (by decide) (by decide)]; rfl)
theorem digits_any (n : Nat) : n ≤ 2147483648 → ∀ w : World, Calls Tryd.prog 37 #[.int .i64 n] w fun e w' => e = .returned (.string (tx (decDigits n))) ∧ Below w.heap.size w w' := by
  induction n using Nat.strongRecOn with
  | _ n ih =>
    intro hn w
    by_cases h : n < 10
    · have d1 : decide ((n : Int) < 10) = true := by simp; omega
      have r1 : IntKind.i64.wrap ((n : Int) + 1) = (n : Int) + 1 := wr (by omega) (by omega)
      have hs := dig_slice n h
      rw [decDigits_one h]
      generalize UInt8.ofNat (48 + n) = ch at *
      clear h ih
      go_enter Tryd.func37, Tryd.ntmps37
      go_wp2
      go_ret
      exact ⟨rfl, Below.refl _ _⟩
    · have d1 : decide ((n : Int) < 10) = false := by simp; omega
      have i1 := Lib.hid (ih (n / 10) (by omega) (by omega))
      have i2 := Lib.hid (ih (n % 10) (by omega) (by omega))
      have e1 : ((n / 10 : Nat) : Int) = (n : Int) / 10 := by omega
      have e2 : ((n % 10 : Nat) : Int) = (n : Int) % 10 := by omega
      rw [e1] at i1
      rw [e2] at i2
      have hT : tx (decDigits (n / 10)) ++ tx (decDigits (n % 10)) = tx (decDigits n) := by rw [tx_app, ← dec_last n h]
      have l1 : (tx (decDigits (n / 10))).size ≤ 10 := by rw [tx_size]; exact dec_len 10 _ (by omega) (by omega)
      have l2 : (tx (decDigits (n % 10))).size ≤ 10 := by rw [tx_size]; exact dec_len 10 _ (by omega) (by omega)
      replace hT := Lib.hid hT
      generalize tx (decDigits (n / 10)) = A at *
      generalize tx (decDigits (n % 10)) = B at *
      have m1 : ¬ 9223372036854775807 < A.size + B.size := by omega
      have r1 : IntKind.i64.wrap ((n : Int) / 10) = (n : Int) / 10 := wr (by omega) (by omega)
      clear h ih e1 e2
      go_enter Tryd.func37, Tryd.ntmps37
      go_wp2_with fail
      refine (i1.out _).mono ?_
      rintro e w1 ⟨rfl, hb1⟩
      go_wp2_with fail
      refine (i2.out _).mono ?_
      rintro e w2 ⟨rfl, hb2⟩
      go_wp2
      go_ret
      exact ⟨congrArg (fun s => Ending.returned (.string s)) hT.out, below2 hb1 hb2⟩

theorem rtext_ok (r m : Nat) (h : bOk 7 r m) (w : World) :
    Calls Tryd.prog 22 #[.agg #[.int .i64 r, .int .i64 m]] w fun e w' => e = .returned (.tuple #[.string (tx (tB r m)), .int .i64 0]) ∧ Below w.heap.size w w' := by
  have hc := fun W => rcheck_any r m 7 W
  rw [ck_ok h (by omega)] at hc
  replace hc := Lib.hid hc
  have hx := bx_new w r m
  obtain ⟨c0, c1, _, _⟩ := hx.cells
  have hb : r ≤ 1073741824 ∧ m ≤ 6 := by unfold bOk at h; omega
  have hla := dec_len 10 r (by omega) (by omega)
  have hlb := dec_len 1 m (by omega) (by omega)
  rw [← tx_size] at hla hlb
  have hT : tx (decDigits r) ++ tx [46] ++ tx (decDigits m) = tx (tB r m) := by
    rw [tx_app, tx_app]
    simp [tB, List.append_assoc]
  replace hT := Lib.hid hT
  have hIa := fun w => digits_any r (by omega) w
  have hIb := fun w => digits_any m (by omega) w
  replace hIa := Lib.hid hIa
  replace hIb := Lib.hid hIb
  generalize hA : tx (decDigits r) = A at *
  generalize hB : tx (decDigits m) = B at *
  clear hA hB h hb
  have m1 : ¬ 9223372036854775807 < A.size + 1 := by omega
  have m2 : ¬ 9223372036854775807 < A.size + 1 + B.size := by omega
  have HE : Hid (∀ W, Bx w w.heap.size r m W → W.cell? ⟨w.heap.size, 0, none⟩ = some (.int .i64 r) ∧ W.cell? ⟨w.heap.size, 1, none⟩ = some (.int .i64 m) ∧ Bx w w.heap.size r m W) := fun W h => ⟨h.cells.1, h.cells.2.1, h⟩
  go_enter Tryd.func22, Tryd.ntmps22
  go_wp2_with (go_at_call 15; refine (hc.out _).mono ?_; rintro e w1 ⟨rfl, hb1⟩)
  have hx1 := hx.later hb1
  clear hb1 hx hc c0 c1
  go_region_held3 (fun W => W.cell? ⟨w.heap.size, 0, none⟩ = some (.int .i64 r) ∧ W.cell? ⟨w.heap.size, 1, none⟩ = some (.int .i64 m) ∧ Bx w w.heap.size r m W)
    ((first | exact HE.out _ hx1.drew | exact HE.out _ (by assumption) | exact HE.out _ (Bx.later hx1.drew (by assumption)) | assumption))
    (first
      | (go_at_call_of 37 (Value.int .i64 r); refine (hIa.out _).mono ?_; rintro e w2 ⟨rfl, hb3⟩; have hx2 := hx1.drew.later hb3)
      | (go_at_call_of 37 (Value.int .i64 m); refine (hIb.out _).mono ?_; rintro e w3 ⟨rfl, hb4⟩; have hx3 := hx2.later hb4))
  go_wp2
  go_ret2
  exact ⟨congrArg (fun s => Ending.returned (.tuple #[.string s, .int .i64 0])) hT.out, Bx.bel (by assumption)⟩
theorem rtext_any (r m : Int) (w : World) :
    Calls Tryd.prog 22 #[.agg #[.int .i64 r, .int .i64 m]] w fun e w' => e = .returned (.tuple #[.string (tx (txS r m)), .int .i64 (ckB r m 7)]) ∧ Below w.heap.size w w' := by
  by_cases h : bOk 7 r m
  · rw [show txS r m = tB r.toNat m.toNat from if_pos h, ck_ok h (by omega)]
    obtain ⟨R, M, rfl, rfl, h1, h2⟩ := bOk_nat h
    exact rtext_ok R M h w
  · rw [show txS r m = [] from if_neg h, ck_no h]
    have hc := fun W => rcheck_any r m 7 W
    rw [ck_no h] at hc
    replace hc := Lib.hid hc
    have hx := bx_new w r m
    obtain ⟨c0, c1, _, _⟩ := hx.cells
    go_enter Tryd.func22, Tryd.ntmps22
    go_wp2_with (go_at_call 15; refine (hc.out _).mono ?_; rintro e w1 ⟨rfl, hb1⟩)
    go_ret2
    exact ⟨rfl, (hx.later hb1).bel⟩

/-! The two numbers that are read. -/
structure Pp where
  a : Nat
  b : Nat
  k : Bool
def stp (x : Pp) (c : UInt8) : Pp :=
  if c = 46 then ⟨x.a, x.b, true⟩
  else if isDig c then
    (if x.k then (if x.b ≤ 1073741824 then ⟨x.a, 10 * x.b + (c.toNat - 48), true⟩ else x)
     else (if x.a ≤ 1073741824 then ⟨10 * x.a + (c.toNat - 48), x.b, false⟩ else x))
  else x
def st (l : List UInt8) (n : Nat) : Pp := (l.take n).foldl stp ⟨0, 0, false⟩
theorem st_succ (l : List UInt8) (n : Nat) (h : n < l.length) : st l (n + 1) = stp (st l n) l[n] := by
  unfold st
  rw [List.take_succ_eq_append_getElem h, List.foldl_append]
  rfl
theorem stp_b {x : Pp} (h : x.a ≤ 20000000000 ∧ x.b ≤ 20000000000) (c : UInt8) : (stp x c).a ≤ 20000000000 ∧ (stp x c).b ≤ 20000000000 := by
  have hc : c.toNat < 256 := c.toNat_lt
  unfold stp
  split
  · exact h
  · split
    · split
      · split
        · exact ⟨h.1, by show 10 * x.b + (c.toNat - 48) ≤ _; omega⟩
        · exact h
      · split
        · exact ⟨by show 10 * x.a + (c.toNat - 48) ≤ _; omega, h.2⟩
        · exact h
    · exact h
theorem st_b (l : List UInt8) : ∀ n, (st l n).a ≤ 20000000000 ∧ (st l n).b ≤ 20000000000 := by
  intro n
  unfold st
  have : ∀ (m : List UInt8) (x : Pp), (x.a ≤ 20000000000 ∧ x.b ≤ 20000000000) → ((m.foldl stp x).a ≤ 20000000000 ∧ (m.foldl stp x).b ≤ 20000000000) := by
    intro m
    induction m with
    | nil => intro x h; exact h
    | cons c m ih => intro x h; exact ih _ (stp_b h c)
  exact this _ _ ⟨by decide, by decide⟩
theorem isDig_ne {c : UInt8} (h : isDig c = true) : ¬ c = 46 := by
  rintro rfl
  revert h
  decide
theorem fold_a (m : List UInt8) : ∀ acc b, (∀ c ∈ m, isDig c = true) → val acc m ≤ 1073741824 → m.foldl stp ⟨acc, b, false⟩ = ⟨val acc m, b, false⟩ := by
  induction m with
  | nil => intro acc b _ _; rfl
  | cons c m ih =>
    intro acc b hd hv
    have hg := val_ge m (acc * 10 + (c.toNat - 48))
    have hv' : val (acc * 10 + (c.toNat - 48)) m ≤ 1073741824 := hv
    have hc := hd c List.mem_cons_self
    show m.foldl stp (stp ⟨acc, b, false⟩ c) = _
    have e : stp ⟨acc, b, false⟩ c = ⟨acc * 10 + (c.toNat - 48), b, false⟩ := by
      unfold stp
      rw [if_neg (isDig_ne hc), if_pos hc, if_neg (by simp)]
      simp only
      rw [if_pos (by omega), Nat.mul_comm]
    rw [e]
    exact ih _ _ (fun x hx => hd x (List.mem_cons_of_mem _ hx)) hv'
theorem fold_b (m : List UInt8) : ∀ acc a, (∀ c ∈ m, isDig c = true) → val acc m ≤ 1073741824 → m.foldl stp ⟨a, acc, true⟩ = ⟨a, val acc m, true⟩ := by
  induction m with
  | nil => intro acc b _ _; rfl
  | cons c m ih =>
    intro acc b hd hv
    have hg := val_ge m (acc * 10 + (c.toNat - 48))
    have hv' : val (acc * 10 + (c.toNat - 48)) m ≤ 1073741824 := hv
    have hc := hd c List.mem_cons_self
    show m.foldl stp (stp ⟨b, acc, true⟩ c) = _
    have e : stp ⟨b, acc, true⟩ c = ⟨b, acc * 10 + (c.toNat - 48), true⟩ := by
      unfold stp
      rw [if_neg (isDig_ne hc), if_pos hc, if_pos rfl]
      simp only
      rw [if_pos (by omega), Nat.mul_comm]
    rw [e]
    exact ih _ _ (fun x hx => hd x (List.mem_cons_of_mem _ hx)) hv'
theorem st_tB {l : List UInt8} {r m : Int} (h : IsT l r m) : ((st l l.length).a : Int) = r ∧ ((st l l.length).b : Int) = m := by
  obtain ⟨h1, rfl⟩ := h
  obtain ⟨R, M, rfl, rfl, h2, h3⟩ := bOk_nat h1
  rw [Int.toNat_natCast, Int.toNat_natCast]
  have e : st (tB R M) (tB R M).length = ⟨R, M, true⟩ := by
    unfold st
    rw [List.take_length]
    unfold tB
    rw [List.foldl_append, fold_a _ _ _ (decDigits_dig R) (by rw [val_dec]; exact h2), val_dec]
    show (decDigits M).foldl stp (stp ⟨R, 0, false⟩ 46) = _
    rw [show stp ⟨R, 0, false⟩ 46 = ⟨R, 0, true⟩ from rfl, fold_b _ _ _ (decDigits_dig M) (by rw [val_dec]; omega), val_dec]
  rw [e]
  exact ⟨rfl, rfl⟩
theorem isT_short {l : List UInt8} {r m : Int} (h : IsT l r m) : l.length ≤ 20 := by
  obtain ⟨h1, rfl⟩ := h
  obtain ⟨R, M, rfl, rfl, h2, h3⟩ := bOk_nat h1
  exact tB_len h2 h3
end Go.Proofs.YtabfpdlnljkgpaaDoor.Bal
