/- Lists of numbers in slices; only, everyone, check, OnesCount64, TrailingZeros64, Count; what the rows list of the library's table. -/
import Derived.Test.YtmbkopeikldonaaDoorRows
import Derived.Test.YtmbkopeikldonaaDoorU01
import Derived.RegionTactic
import Derived.WalkKit
import Derived.Lib.Hide
import Derived.BigCall
import Derived.BigGuard
import Derived.BigQuiet
import Derived.Deep.QuietTactic
import Derived.Deep.RegionHeld3
import Derived.Deep.RegionWith
import Derived.OwnWalk
import Derived.OpenShut
import Derived.Below
import Derived.ProofKit
import Derived.LaidMore
import Derived.Lib.LaidTab
import Derived.Laws.Bits64b
namespace Go.Proofs.YtmbkopeikldonaaDoor.Quo
open Go.RowKit Go.Lib
set_option linter.unusedVariables false
set_option linter.unusedSimpArgs false
set_option maxRecDepth 20000

/-! The library's table. -/
def tabL : List Int := deBruijn64tab.map fun n : Nat => (n : Int)
def Hv (w : World) : Prop := ∀ i, i < 64 → w.cell? ⟨0, i, none⟩ = some (.int .u8 (deBruijn64tab.getD i 0 : Nat))
theorem Hv.later {w w' : World} (h : Hv w) (hb : Below w.heap.size w w') : Hv w' := fun i hi => by
  rw [hb.cell (p := ⟨_, i, none⟩) (World.block_lt_of_cell? w _ (h i hi))]; exact h i hi
theorem laid_eq : (Rows.laid_math_bits_deBruijn64tab : DataW Unit) = Lib.tabData .u8 tabL := rfl
theorem hv_of_laid {W : World} (h : laidMetH Tryd.prog [("math/bits.deBruijn64tab", Rows.laid_math_bits_deBruijn64tab)] W) : Hv W := by
  rw [MakeChecks.laidMetH_plain _ _ _ (by kernel_rfl), laid_eq] at h
  have hg : Tryd.prog.globalNamed "math/bits.deBruijn64tab" = some 0 := by kernel_rfl
  have ht := Lib.tabIs_of_head (t := 63) (e := 5) (n := 64) hg (by kernel_rfl) Tryd.underlying63 Tryd.underlying5 (by kernel_rfl) (by kernel_rfl) h
  intro i hi
  rw [ht.cell hg i (by unfold tabL; simp [deBruijn64tab]; omega)]
  congr 2
  unfold tabL
  rw [List.getD_eq_getElem?_getD, List.getElem?_map, List.getD_eq_getElem?_getD]
  cases deBruijn64tab[i]? <;> rfl
theorem door_met (os : Os) (args : Array Value) : laidMetH Tryd.prog [("math/bits.deBruijn64tab", Rows.laid_math_bits_deBruijn64tab)] ((World.doorLaid Tryd.prog 400 os).forCall (fun _ _ => 0) ⟨#[], args, []⟩).memory :=
  laidMetH_of_parts3 (fuel := 8) (laidMet_of_run' 8 (by kernel_rfl) (by kernel_rfl)) (by kernel_rfl) (by kernel_rfl)

/-! Numbers. -/
theorem wr {x : Int} (h0 : -9223372036854775808 ≤ x) (h1 : x ≤ 9223372036854775807) : IntKind.i64.wrap x = x := by rw [IntKind.wrap_i64]; omega
theorem wu {x : Nat} (h1 : x < 18446744073709551616) : IntKind.u64.wrap (x : Int) = x := by rw [IntKind.wrap_u64]; omega

/-! Slices of numbers. -/
/-- The value v is a slice of numbers of the kind K that reads as l in w. -/
def IsNs (K : IntKind) (w : World) (v : Value) (l : List Nat) : Prop :=
  ∃ a cap, v = .slice a l.length cap ∧ (0 < l.length → ∃ b off, a = some ⟨b, off, none⟩ ∧ ∀ i, i < l.length → w.cell? ⟨b, off + i, none⟩ = some (.int K (l.getD i 0 : Nat)))
theorem IsNs.later {K : IntKind} {w w' : World} {v : Value} {l : List Nat} (h : IsNs K w v l) (hb : Below w.heap.size w w') : IsNs K w' v l := by
  obtain ⟨a, cap, hv, h⟩ := h
  refine ⟨a, cap, hv, fun hp => ?_⟩
  obtain ⟨b, off, ha, hc⟩ := h hp
  refine ⟨b, off, ha, fun i hi => ?_⟩
  rw [hb.cell (p := ⟨b, off + i, none⟩) (World.block_lt_of_cell? w _ (hc i hi))]
  exact hc i hi
def nums (K : IntKind) (l : List Nat) : List Value := l.map fun n : Nat => Value.int K n
theorem nums_len (K : IntKind) (l : List Nat) : (nums K l).length = l.length := by simp [nums]
theorem nums_one (K : IntKind) (l : List Nat) : ∀ v ∈ nums K l, v.oneCell' = true := by intro v hv; obtain ⟨x, _, rfl⟩ := List.mem_map.1 hv; rfl
theorem nums_get (K : IntKind) (l : List Nat) (i : Nat) (hi : i < l.length) : (nums K l)[i]? = some (.int K (l.getD i 0 : Nat)) := by
  simp [nums, List.getElem?_map, List.getElem?_eq_getElem hi, List.getD_eq_getElem?_getD]
theorem blk_cell {w : World} {g : Nat} {cur : List Value} {e : TypeId} (h : w.heap[g]? = some (.cells cur.toArray e (0, 0))) (i : Nat) (v : Value) (hv : cur[i]? = some v) : w.cell? ⟨g, i, none⟩ = some v := by
  simp [World.cell?, h, hv]
theorem blk_ns {K : IntKind} {w : World} {g n : Nat} {l : List Nat} {t : TypeId} (h : w.heap[g]? = some (.cells (nums K l).toArray t (0, 0))) (hn : n = l.length) : IsNs K w (.slice (some ⟨g, 0, none⟩) n n) l := by
  subst hn
  refine ⟨_, _, rfl, fun _ => ⟨g, 0, rfl, fun i hi => ?_⟩⟩
  rw [Nat.zero_add]
  exact blk_cell h i _ (nums_get K l i hi)
theorem own_ns {K : IntKind} {w : World} {base : Nat} {v : Value} {l : List Nat} {t : TypeId} (h : w.ownsRow base t 1 v l.length (nums K l)) : IsNs K w v l := by
  obtain ⟨_, ⟨rfl, h0⟩ | ⟨g, cap, cur, rfl, hb, hh, hle, _, hsz, hx⟩⟩ := h
  · exact ⟨none, 0, by rw [h0], fun hp => by omega⟩
  · refine ⟨_, cap, rfl, fun _ => ⟨g, 0, rfl, fun i hi => ?_⟩⟩
    have h1 := nums_get K l i hi
    rw [← hx, List.getElem?_take] at h1
    split at h1
    · rw [Nat.zero_add]
      exact blk_cell (cur := cur.toList) (e := t) (by simpa using hh) i _ h1
    · cases h1
theorem ns_nil (K : IntKind) (w : World) : IsNs K w (.slice none 0 0) [] := ⟨none, 0, rfl, fun h => by simp at h⟩
theorem alloc_b (w : World) (o : Obj) : Below w.heap.size w (w.alloc o) := (Below.refl w.heap.size w).alloc (Nat.le_refl _) o
theorem below2 {w w1 w2 : World} (h : Below w.heap.size w w1) (k : Below w1.heap.size w1 w2) : Below w.heap.size w w2 := h.trans (k.mono h.size)

/-! only, everyone. -/
theorem pow_lt (k : Nat) (h : k < 64) : 2 ^ k < 18446744073709551616 := Nat.pow_lt_pow_right (n := 64) (by omega) h
theorem pow_in (k : Nat) (h : k < 64) : IntKind.u64.wrap ((2 : Int) ^ k) = ((2 ^ k : Nat) : Int) := by
  have h1 := pow_lt k h
  have h2 : (2 : Int) ^ k = ((2 ^ k : Nat) : Int) := by rw [Int.natCast_pow]; rfl
  rw [h2]
  exact wu h1
theorem only_any (k : Nat) (hk : k < 64) (w : World) :
    Calls Tryd.prog 37 #[.int .i64 k] w fun e w' => e = .returned (.int .u64 (2 ^ k : Nat)) ∧ w = w' := by
  have hp := pow_in k hk
  go_enter Tryd.func37, Tryd.ntmps37
  go_wp2
  go_ret
  exact ⟨rfl, rfl⟩
def all1 (n : Nat) : Nat := 2 ^ n - 1
theorem all1_lt (n : Nat) (h : n < 64) : all1 n < 18446744073709551616 := by have := pow_lt n h; unfold all1; omega
theorem all_in (n : Nat) (h : n < 64) : IntKind.u64.wrap (((2 ^ n : Nat) : Int) - 1) = (all1 n : Nat) := by
  have h1 := pow_lt n h
  have h2 := Nat.two_pow_pos n
  rw [show ((2 ^ n : Nat) : Int) - 1 = ((2 ^ n - 1 : Nat) : Int) by omega]
  exact wu (by omega)
theorem everyone_any (n : Nat) (hn : n < 64) (w : World) :
    Calls Tryd.prog 36 #[.int .i64 n] w fun e w' => e = .returned (.int .u64 (all1 n : Nat)) ∧ w = w' := by
  have ha := all_in n hn
  have hO := Lib.hid (fun W => only_any n hn W)
  generalize 2 ^ n = q at *
  generalize all1 n = m at *
  go_enter Tryd.func36, Tryd.ntmps36
  go_wp2_with (go_at_call 37; refine (hO.out _).mono ?_; rintro e w' ⟨rfl, rfl⟩)
  go_ret
  exact ⟨rfl, rfl⟩

/-! check. -/
def inAll (n : Nat) (l : List Nat) : Bool := l.all fun x => decide (x ≤ all1 n)
def ckL (n : Nat) (l : List Nat) : Int := if inAll n l then 0 else 2
theorem ckL_t {n : Nat} {l : List Nat} (h : inAll n l = true) : ckL n l = 0 := if_pos h
theorem ckL_f {n : Nat} {l : List Nat} (h : inAll n l = false) : ckL n l = 2 := if_neg (by rw [h]; decide)
theorem check_bad (n : Int) (hn : n < 1 ∨ 7 < n) (v : Value) (w : World) :
    Calls Tryd.prog 34 #[.int .i64 n, v] w fun e w' => e = .returned (.int .i64 2) ∧ w = w' := by
  rcases hn with hn | hn
  · have b1 : decide (n < 1) = true := by simpa using hn
    go_enter Tryd.func34, Tryd.ntmps34
    go_wp2
    go_ret
    exact ⟨rfl, rfl⟩
  · have b1 : decide (n < 1) = false := by simp; omega
    have b2 : decide (7 < n) = true := by simpa using hn
    clear hn
    go_enter Tryd.func34, Tryd.ntmps34
    go_wp2
    go_ret
    exact ⟨rfl, rfl⟩
theorem check_in (n : Nat) (h1 : 1 ≤ n) (h7 : n ≤ 7) (v : Value) (l : List Nat) (w : World) (hv : IsNs .u64 w v l) (hl : l.length ≤ 1000) :
    Calls Tryd.prog 34 #[.int .i64 n, v] w fun e w' => e = .returned (.int .i64 (ckL n l)) ∧ w = w' := by
  obtain ⟨a, cap, rfl, hc⟩ := hv
  have b1 : decide ((n : Int) < 1) = false := by simp; omega
  have b2 : decide ((7 : Int) < n) = false := by simp; omega
  have b3 : decide (7 < n) = false := by simp; omega
  have b4 : decide (n < 1) = false := by simp; omega
  have hE := Lib.hid (fun W => everyone_any n (by omega) W)
  replace hc := Lib.hid hc
  generalize hm : all1 n = m at *
  have HM := Lib.hid hm
  clear hm h1 h7
  go_enter Tryd.func34, Tryd.ntmps34
  go_wp2
  go_loop [15] (fun i => ∃ k : Nat, k ≤ l.length ∧ i = .int .i64 k ∧ ∀ j, j < k → l.getD j 0 ≤ m) (fun i => l.length - (intOf i).toNat)
  case atStart => exact ⟨0, Nat.zero_le _, rfl, fun j h => by omega⟩
  case round =>
    obtain ⟨k, hk, rfl, hall⟩ := hrel
    replace hall := Lib.hid hall
    by_cases hlt : k < l.length
    · obtain ⟨b, off, rfl, hd⟩ := hc.out (by omega)
      have c0 := hd k hlt
      clear hd
      generalize hz : l.getD k 0 = z at *
      have HZ := Lib.hid hz
      clear hz
      by_cases hb : z ≤ m
      · have d1 : decide (m < z) = false := by simp; omega
        have d2 : decide ((m : Int) < z) = false := by simp; omega
        have HB := Lib.hid hb
        clear hb
        go_wp2_with (go_at_call 36; refine (hE.out _).mono ?_; rintro e w' ⟨rfl, rfl⟩)
        go_round
        case rel => exact ⟨k + 1, by omega, by go_num, fun j hj => by
          by_cases e : j = k
          · rw [e, HZ.out]; exact HB.out
          · exact hall.out j (by omega)⟩
        case measure => simp [intOf]; omega
      · have d1 : decide (m < z) = true := by simp; omega
        have d2 : decide ((m : Int) < z) = true := by simp; omega
        have HR : Hid (ckL n l = 2) := by
          refine ckL_f ?_
          unfold inAll
          rw [List.all_eq_false]
          refine ⟨l[k], List.getElem_mem hlt, ?_⟩
          have : l[k] = z := by rw [← HZ.out, List.getD_eq_getElem?_getD, List.getElem?_eq_getElem hlt]; rfl
          rw [this, HM.out]
          simpa using hb
        clear hb
        go_wp2_with (go_at_call 36; refine (hE.out _).mono ?_; rintro e w' ⟨rfl, rfl⟩)
        go_ret
        exact ⟨by rw [HR.out]; rfl, rfl⟩
    · have HR : Hid (ckL n l = 0) := by
        refine ckL_t ?_
        unfold inAll
        rw [List.all_eq_true]
        intro x hx
        obtain ⟨j, hj, rfl⟩ := List.mem_iff_getElem.1 hx
        have := hall.out j (by omega)
        rw [List.getD_eq_getElem?_getD, List.getElem?_eq_getElem hj] at this
        rw [HM.out]
        exact decide_eq_true this
      go_wp2
      go_ret
      exact ⟨by rw [HR.out]; rfl, rfl⟩
end Go.Proofs.YtmbkopeikldonaaDoor.Quo
