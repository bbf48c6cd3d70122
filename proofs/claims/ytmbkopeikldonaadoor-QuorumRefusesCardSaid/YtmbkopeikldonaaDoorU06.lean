/- All; the document's Nodes, Count, Check, Size. -/
import Derived.Test.YtmbkopeikldonaaDoorU05
namespace Go.Proofs.YtmbkopeikldonaaDoor.Quo
open Go.RowKit Go.Lib
set_option linter.unusedVariables false
set_option linter.unusedSimpArgs false
set_option maxRecDepth 20000

/-! All. -/
def upL (m k : Nat) : List Nat := (List.range k).filter fun x => decide (pc x = m)
def allL (n : Nat) : List Nat := upL (n / 2 + 1) (2 ^ n)
theorem upL_len (m k : Nat) : (upL m k).length ≤ k := by
  have := List.length_filter_le (fun x => decide (pc x = m)) (List.range k)
  rwa [List.length_range] at this
theorem upL_yes {m k : Nat} (h : pc k = m) : upL m (k + 1) = upL m k ++ [k] := by
  unfold upL; rw [List.range_succ, List.filter_append, List.filter_cons, if_pos (by simpa using h)]; rfl
theorem upL_no {m k : Nat} (h : ¬ pc k = m) : upL m (k + 1) = upL m k := by
  unfold upL; rw [List.range_succ, List.filter_append, List.filter_cons, if_neg (by simpa using h)]; simp
theorem all_bad (n : Int) (hn : n < 1 ∨ 7 < n) (w : World) :
    Calls Tryd.prog 23 #[.int .i64 n] w fun e w' => e = .returned (.tuple #[.slice none 0 0, .int .i64 2]) ∧ w = w' := by
  have hC := Lib.hid (fun W => size_bad n hn W)
  clear hn
  go_enter Tryd.func23, Tryd.ntmps23
  go_wp2_with (go_at_call 21; refine (hC.out _).mono ?_; rintro e w' ⟨rfl, rfl⟩)
  go_ret2
  exact ⟨rfl, rfl⟩
theorem all_plus (n : Nat) (h : n < 64) : IntKind.u64.wrap (((all1 n : Nat) : Int) + 1) = ((2 ^ n : Nat) : Int) := by
  have h1 := pow_lt n h
  have h2 := Nat.two_pow_pos n
  have h3 : all1 n + 1 = 2 ^ n := by unfold all1; omega
  rw [← h3, show ((all1 n : Nat) : Int) + 1 = ((all1 n + 1 : Nat) : Int) by omega]
  exact wu (by omega)
theorem wu1 (k : Nat) (h : k + 1 < 18446744073709551616) : IntKind.u64.wrap ((k : Int) + 1) = ((k + 1 : Nat) : Int) := by
  rw [show (k : Int) + 1 = ((k + 1 : Nat) : Int) by omega]; exact wu h
def AllIs (l : List Nat) (w : World) (e : Ending) (w' : World) : Prop := ∃ v, e = .returned (.tuple #[v, .int .i64 0]) ∧ OwU w.heap.size l v w' ∧ Below w.heap.size w w'
set_option maxHeartbeats 1000000 in
theorem all_ok (n : Nat) (h1 : 1 ≤ n) (h7 : n ≤ 7) (w : World) :
    Calls Tryd.prog 23 #[.int .i64 n] w (AllIs (allL n) w) := by
  have hS := Lib.hid (fun W => size_ok n h1 h7 W)
  have hE := Lib.hid (fun W => everyone_any n (by omega) W)
  have hC := Lib.hid (fun (x : Nat) (hx : x < 200) W => count_any x (by omega) W)
  have hp := all_plus n (by omega)
  have hq : 2 ^ n ≤ 128 := Nat.pow_le_pow_right (n := 2) (by decide) h7
  unfold allL
  generalize all1 n = a at *
  have hm : n / 2 + 1 < 100 := by omega
  generalize n / 2 + 1 = m at *
  generalize 2 ^ n = q at *
  clear h1 h7
  go_enter Tryd.func23, Tryd.ntmps23
  go_wp2_with (first
    | (go_at_call 21; refine (hS.out _).mono ?_; rintro e w' ⟨rfl, rfl⟩)
    | (go_at_call 36; refine (hE.out _).mono ?_; rintro e w' ⟨rfl, rfl⟩))
  clear hp
  go_loopw [6, 19] (fun l i wr => ∃ k : Nat, k ≤ q ∧ i = .int .u64 k ∧ OwU w.heap.size (upL m k) l wr ∧ Below w.heap.size w wr) (fun _ i _ => q - (intOf i).toNat)
  case atStart => exact ⟨0, Nat.zero_le _, rfl, OwU.nil _ _, Below.refl _ _⟩
  case round =>
    obtain ⟨k, hk, rfl, ho, hb⟩ := hrel
    obtain ⟨a1, cap, rfl⟩ := ho.form
    have hlen := upL_len m k
    replace hb := Lib.hid hb
    by_cases hlt : k < q
    · have b1 : decide ((k : Int) < (q : Int)) = true := by simpa using hlt
      have b2 : decide (k < q) = true := by simpa using hlt
      have e1 : IntKind.u64.wrap ((k : Int) + 1) = ((k + 1 : Nat) : Int) := wu1 k (by omega)
      have hCk := Lib.hid (fun W => hC.out k (by omega) W)
      have hpc := pc_le k
      by_cases hc : pc k = m
      · have hup := upL_yes hc
        rw [hc] at hCk
        have ho2 := ho.later (alloc_b wr (.cells #[.int .u64 k] TU))
        have hcell : (wr.alloc (.cells #[.int .u64 k] TU)).cell? ⟨wr.heap.size, 0, none⟩ = some (.int .u64 k) := cell_of_row _ _ 0 _ _ _ (heap_alloc_new wr _)
        have hbs : w.heap.size ≤ (wr.alloc (.cells #[.int .u64 k] TU)).heap.size := Nat.le_trans hb.out.size (alloc_b wr _).size
        have HO := Lib.hid ho
        have HO2 := Lib.hid ho2
        have HU := Lib.hid hup
        have hll : (upL m k).length ≤ 100000 := by omega
        clear ho ho2 hup hc hpc hlen
        generalize upL m k = L at *
        go_wp2_with (first
          | (go_at_call 26; refine (hCk.out _).mono ?_; rintro e w' ⟨rfl, rfl⟩)
          | (at_builtin; refine wpList_append_U rfl _ _ rfl w.heap.size _ L rfl HO2.out wr.heap.size 1 k rfl hcell hll hbs ?_; intro v' w1 ho3 hg3))
        have hb3 := Lib.hid (owBU HO.out hg3 hb.out)
        replace ho3 := Lib.hid ho3
        clear hg3
        go_roundw
        case rel => exact ⟨k + 1, by omega, by go_num, by rw [HU.out]; exact ho3.out, hb3.out⟩
        case measure => simp [intOf]; omega
      · have HU := Lib.hid (upL_no hc)
        have b3 : ((pc k : Int) == (m : Int)) = false := by simp; omega
        have b4 : ¬ (pc k : Int) = (m : Int) := by omega
        generalize pc k = c at *
        replace ho := Lib.hid ho
        generalize upL m k = L at *
        go_wp2_with (go_at_call 26; refine (hCk.out _).mono ?_; rintro e w' ⟨rfl, rfl⟩)
        go_roundw
        case rel => exact ⟨k + 1, by omega, by go_num, by rw [HU.out]; exact ho.out, hb.out⟩
        case measure => simp [intOf]; omega
    · obtain rfl : k = q := by omega
      replace ho := Lib.hid ho
      go_wp2
      go_ret2
      exact ⟨_, rfl, ho.out, hb.out⟩
end Go.Proofs.YtmbkopeikldonaaDoor.Quo
