/- The document's Digits, Effect. -/
import Derived.Test.YtlbelefabcokiaaDoorI25
import Derived.Laws.BytesString
namespace Go.Proofs.YtlbelefabcokiaaDoor.Ident
open Go.RowKit Go.Lib Go.ChangeShapes
set_option linter.unusedVariables false
set_option linter.unusedSimpArgs false
set_option maxRecDepth 20000

theorem str1 (w : World) (b cap c : Nat) (hc : w.cell? ⟨b, 0, none⟩ = some (.int .u8 (c : Nat))) :
    (convert 61 9 (.slice (some ⟨b, 0, none⟩) 1 cap)).run Tryd.prog w = .ok (.string (tx [UInt8.ofNat c])) w := by
  rw [run_convert_bytes_string w _ _ _ _ _ _ Tryd.underlying61 Tryd.underlying5 Tryd.underlying9]
  have hl : (loadCells ⟨b, 0, none⟩ [Value.int .u8 (c : Nat)].length).run Tryd.prog w = .ok [Value.int .u8 (c : Nat)].toArray w :=
    run_loadCells_list (P := Tryd.prog) w ⟨b, 0, none⟩ _ (fun j v hv => by
      have hj : j = 0 := by
        rcases Nat.eq_zero_or_pos j with h | h
        · exact h
        · rw [List.getElem?_eq_none (by simp; omega)] at hv; cases hv
      subst hj
      have hadd : (⟨b, 0, none⟩ : Addr).add 0 = ⟨b, 0, none⟩ := by unfold Addr.add; rfl
      rw [hadd, hc]
      exact hv)
  have e : [Value.int .u8 (c : Nat)] = [(c : Int)].map (Value.int .u8) := rfl
  rw [e] at hl
  have hl : (loadCells ⟨b, 0, none⟩ 1).run Tryd.prog w = .ok ([(c : Int)].map (Value.int .u8)).toArray w := hl
  rw [run_bytesToString w _ _ _ _ hl]
  simp [tx, ByteArray.push]
theorem dec_last (n : Nat) (h : ¬ n < 10) : decDigits n = decDigits (n / 10) ++ decDigits (n % 10) := by
  rw [decDigits, dif_neg h, decDigits_one (show n % 10 < 10 by omega)]
theorem dec_len_any (n : Nat) (h : n < 10000000) : (decDigits n).length ≤ 7 := by
  rw [decDigits_length]
  by_cases h1 : n < 10
  · rw [nDigits_small h1]; omega
  by_cases h2 : n < 100
  · rw [nDigits_unique 1 n (by omega) (by omega)]; omega
  by_cases h3 : n < 1000
  · rw [nDigits_unique 2 n (by omega) (by omega)]; omega
  by_cases h4 : n < 10000
  · rw [nDigits_unique 3 n (by omega) (by omega)]; omega
  by_cases h5 : n < 100000
  · rw [nDigits_unique 4 n (by omega) (by omega)]; omega
  by_cases h6 : n < 1000000
  · rw [nDigits_unique 5 n (by omega) (by omega)]; omega
  · rw [nDigits_unique 6 n (by omega) (by omega)]; omega
theorem digits_any (n : Nat) : n < 10000000 → ∀ w : World, Calls Tryd.prog 58 #[.int .i64 n] w fun e w' => e = .returned (.string (tx (decDigits n))) ∧ Below w.heap.size w w' := by
  induction n using Nat.strongRecOn with
  | _ n ih =>
    intro hn w
    by_cases h : n < 10
    · have d1 : decide ((n : Int) < 10) = true := by simp; omega
      have r1 : IntKind.i64.wrap (48 + (n : Int)) = 48 + (n : Int) := wr (by omega) (by omega)
      have r2 : IntKind.u8.wrap (48 + (n : Int)) = ((48 + n : Nat) : Int) := by rw [IntKind.wrap_u8']; omega
      have hs := str1 (w.alloc (.cells #[.int .u8 ((48 + n : Nat) : Int)] 5)) w.heap.size 1 (48 + n) (cell_of_row _ _ 0 _ _ _ (heap_alloc_new _ _))
      rw [decDigits_one h]
      generalize 48 + n = c at *
      clear h ih
      go_enter Tryd.func58, Tryd.ntmps58
      go_wp2
      go_ret
      exact ⟨rfl, alloc_b _ _⟩
    · have d1 : decide ((n : Int) < 10) = false := by simp; omega
      have i1 := Lib.hid (ih (n / 10) (by omega) (by omega))
      have i2 := Lib.hid (ih (n % 10) (by omega) (by omega))
      have e1 : ((n / 10 : Nat) : Int) = (n : Int) / 10 := by omega
      have e2 : ((n % 10 : Nat) : Int) = (n : Int) % 10 := by omega
      rw [e1] at i1
      rw [e2] at i2
      have hT : tx (decDigits (n / 10)) ++ tx (decDigits (n % 10)) = tx (decDigits n) := by rw [tx_app, ← dec_last n h]
      have l1 : (tx (decDigits (n / 10))).size ≤ 7 := by rw [tx_size]; exact dec_len_any _ (by omega)
      have l2 : (tx (decDigits (n % 10))).size ≤ 7 := by rw [tx_size]; exact dec_len_any _ (by omega)
      replace hT := Lib.hid hT
      generalize tx (decDigits (n / 10)) = A at *
      generalize tx (decDigits (n % 10)) = B at *
      have m1 : ¬ 9223372036854775807 < A.size + B.size := by omega
      clear h ih e1 e2
      go_enter Tryd.func58, Tryd.ntmps58
      go_wp2_with fail
      refine (i1.out _).mono ?_
      rintro e w1 ⟨rfl, hb1⟩
      go_wp2_with fail
      refine (i2.out _).mono ?_
      rintro e w2 ⟨rfl, hb2⟩
      go_wp2
      go_ret
      exact ⟨congrArg (fun s => Ending.returned (.string s)) hT.out, below2 hb1 hb2⟩
end Go.Proofs.YtlbelefabcokiaaDoor.Ident
