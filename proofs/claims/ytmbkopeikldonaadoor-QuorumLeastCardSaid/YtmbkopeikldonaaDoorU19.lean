/- slices.IsSorted; plain facts on the smallest majorities. -/
import Derived.Test.YtmbkopeikldonaaDoorU12
namespace Go.Proofs.YtmbkopeikldonaaDoor.Quo
open Go.RowKit Go.Lib Go.Shelf
set_option linter.unusedVariables false
set_option linter.unusedSimpArgs false
set_option maxRecDepth 20000

def lit : Nat → List Nat
  | 1 => [1]
  | 2 => [3]
  | 3 => [3, 5, 6]
  | 4 => [7, 11, 13, 14]
  | 5 => [7, 11, 13, 14, 19, 21, 22, 25, 26, 28]
  | 6 => [15, 23, 27, 29, 30, 39, 43, 45, 46, 51, 53, 54, 57, 58, 60]
  | 7 => [15, 23, 27, 29, 30, 39, 43, 45, 46, 51, 53, 54, 57, 58, 60, 71, 75, 77, 78, 83, 85, 86, 89, 90, 92, 99, 101, 102, 105, 106, 108, 113, 114, 116, 120]
  | _ => []
theorem lit_1 : allL 1 = lit 1 := by decide +kernel
theorem lit_2 : allL 2 = lit 2 := by decide +kernel
theorem lit_3 : allL 3 = lit 3 := by decide +kernel
theorem lit_4 : allL 4 = lit 4 := by decide +kernel
theorem lit_5 : allL 5 = lit 5 := by decide +kernel
theorem lit_6 : allL 6 = lit 6 := by decide +kernel
theorem lit_7 : allL 7 = lit 7 := by decide +kernel
theorem all_lit {n : Nat} (h1 : 1 ≤ n) (h7 : n ≤ 7) : allL n = lit n := by
  match n, h1, h7 with
  | 1, _, _ => exact lit_1
  | 2, _, _ => exact lit_2
  | 3, _, _ => exact lit_3
  | 4, _, _ => exact lit_4
  | 5, _, _ => exact lit_5
  | 6, _, _ => exact lit_6
  | 7, _, _ => exact lit_7
theorem lit_sorted : ∀ n, n < 8 → (lit n).Pairwise (· < ·) := by decide +kernel
theorem lit_each : ∀ n, n < 8 → ∀ s ∈ lit n, s < 128 ∧ s ≤ all1 n ∧ pc s = n / 2 + 1 ∧ ∀ k ∈ bitsOf s, k < n ∧ bits .andNot .u64 (s : Nat) (2 ^ k : Nat) = ((s - 2 ^ k : Nat) : Int) ∧ s - 2 ^ k ≤ all1 n ∧ pc (s - 2 ^ k) = n / 2 := by decide +kernel
theorem lit_any : ∀ n, n < 8 → ∀ x, x < 128 → x ≤ all1 n → 1 ≤ n → (lit n).any (fun s => decide (x &&& s = s)) = decide (n / 2 < pc x) := by decide +kernel
def ch (n : Nat) : Nat → Nat
  | 0 => 1
  | k + 1 => ch n k * (n - k) / (k + 1)
theorem lit_len : ∀ n, n < 8 → 1 ≤ n → (lit n).length = ch n (n / 2 + 1) := by decide +kernel
theorem ch_lt : ∀ n, n < 8 → ∀ k, k < 8 → ch n k < 100 ∧ ch n k * (n - k) < 1000 := by decide +kernel

theorem nan_any (a : Nat) (w : World) : Calls Tryd.prog 44 #[.int .u64 a] w fun e w' => e = .returned (.bool false) ∧ w = w' := by
  go_enter Tryd.func44, Tryd.ntmps44
  go_wp2
  go_ret
  exact ⟨rfl, rfl⟩
theorem less_no (a b : Nat) (h : b ≤ a) (w : World) : Calls Tryd.prog 40 #[.int .u64 a, .int .u64 b] w fun e w' => e = .returned (.bool false) ∧ w = w' := by
  have d1 : decide ((a : Int) < (b : Int)) = false := by simp; omega
  have d2 : decide (a < b) = false := by simp; omega
  clear h
  go_enter Tryd.func40, Tryd.ntmps40
  go_wp2_with (go_at_call 44; refine (nan_any _ _).mono ?_; rintro e w' ⟨rfl, rfl⟩)
  go_ret
  exact ⟨rfl, rfl⟩
theorem q_left {P : Program} {f : FuncId} {args : Array Value} {w : World} {n : Nat} {v : Value} (h : Calls P f args (w.drewN n) fun e w' => e = .returned v ∧ w.drewN n = w') :
    Calls P f args (w.drewN n) fun e w'' => e = .returned v ∧ ∃ m, w'' = w.drewN m := h.mono fun _ _ ⟨he, hm⟩ => ⟨he, n, hm.symm⟩
set_option maxHeartbeats 1000000 in
theorem sorted_any (v : Value) (L : List Nat) (w : World) (hv : IsNs .u64 w v L) (hs : L.Pairwise (· < ·)) (hl : L.length ≤ 1000) :
    Calls Tryd.prog 32 #[v] w fun e w' => e = .returned (.bool true) ∧ Below w.heap.size w w' := by
  obtain ⟨a, cap, rfl, hd⟩ := hv
  replace hd := Lib.hid hd
  replace hs := Lib.hid hs
  go_enter Tryd.func32, Tryd.ntmps32
  go_wp2
  go_loopw [3] (fun i wr => ∃ j : Int, -1 ≤ j ∧ j < L.length ∧ i = .int .i64 j ∧ Below w.heap.size w wr) (fun i _ => (intOf i + 1).toNat)
  case atStart => exact ⟨(L.length : Int) - 1, by omega, by omega, rfl, Below.refl _ _⟩
  case round =>
    obtain ⟨j, hj1, hj2, rfl, hb⟩ := hrel
    by_cases hj : 0 < j
    · obtain ⟨k, hk⟩ : ∃ k : Nat, j = (k : Int) + 1 := ⟨(j - 1).toNat, by omega⟩
      subst hk
      have hkl : k + 1 < L.length := by omega
      obtain ⟨b, off, rfl, hc⟩ := hd.out (by omega)
      have hb0 : b < w.heap.size := World.block_lt_of_cell? w _ (hc 0 (by omega))
      have hp := List.pairwise_iff_getElem.1 hs.out k (k + 1) (by omega) hkl (by omega)
      have g1 : wr.cell? ⟨b, off + k, none⟩ = some (.int .u64 (L.getD k 0 : Nat)) := by
        rw [hb.cell (p := ⟨b, off + k, none⟩) hb0]; exact hc k (by omega)
      have g2 : wr.cell? ⟨b, off + (k + 1), none⟩ = some (.int .u64 (L.getD (k + 1) 0 : Nat)) := by
        rw [hb.cell (p := ⟨b, off + (k + 1), none⟩) hb0]; exact hc (k + 1) hkl
      have e1 : L.getD k 0 = L[k] := by rw [List.getD_eq_getElem?_getD, List.getElem?_eq_getElem (by omega)]; rfl
      have e2 : L.getD (k + 1) 0 = L[k + 1] := by rw [List.getD_eq_getElem?_getD, List.getElem?_eq_getElem hkl]; rfl
      rw [e1] at g1
      rw [e2] at g2
      generalize L[k] = x at *
      generalize L[k + 1] = y at *
      have hL := Lib.hid (fun W => less_no y x (by omega) W)
      have i1 : 0 ≤ (k : Int) + 1 := by omega
      have i2 : (k : Int) + 1 < (L.length : Int) := by omega
      have i3 : ((k : Int) + 1).toNat = k + 1 := by omega
      have i4 : IntKind.i64.wrap ((k : Int) + 1 - 1) = (k : Int) := by rw [show (k : Int) + 1 - 1 = k by omega]; exact Quo.wr (by omega) (by omega)
      have i5 : 0 ≤ (k : Int) := by omega
      have i6 : (k : Int) < (L.length : Int) := by omega
      have hbd : Hid (∀ m, Below w.heap.size w (wr.drewN m)) := Lib.hid fun m => hb.trans ⟨rfl, rfl, rfl, Nat.le_refl _, fun _ _ => rfl⟩
      clear hc e1 e2 hp hj hj1 hj2
      go_wp2
      go_quiet ((go_at_call 40; exact q_left (hL.out _)))
      go_wp2
      go_roundw
      case rel => exact ⟨(k : Int), by omega, by omega, rfl, hbd.out _⟩
      case measure => simp [intOf]; omega
    · have d1 : decide (0 < j) = false := by simpa using hj
      go_wp2
      go_ret
      exact ⟨rfl, hb⟩
end Go.Proofs.YtmbkopeikldonaaDoor.Quo
