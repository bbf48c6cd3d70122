/- Contracts of checksums over bytes at a seat of frame: crc.More, Sum, Check and the document's More and Sum. -/
import Derived.Test.YtojeccmnhgcmcaaDoorK02
import Derived.Below
import Derived.ChangeOld
import Derived.BigQuiet
import Derived.Deep.QuietTactic
namespace Go.Proofs.YtojeccmnhgcmcaaDoor.Crc
open Go.RowKit
set_option linter.unusedVariables false

/-- The value v is a slice of bytes that reads as l in w. -/
def Bs (w : World) (v : Value) (l : List Nat) : Prop :=
  (∀ c ∈ l, c < 256) ∧ ∃ a cap, v = .slice a l.length cap ∧ (0 < l.length → ∃ b off, a = some ⟨b, off, none⟩ ∧ ∀ i, i < l.length → w.cell? ⟨b, off + i, none⟩ = some (.int .u8 (l.getD i 0 : Nat)))
theorem Bs.later {w w' : World} {v : Value} {l : List Nat} (h : Bs w v l) (hb : Below w.heap.size w w') : Bs w' v l := by
  obtain ⟨h8, a, cap, hv, h⟩ := h
  refine ⟨h8, a, cap, hv, fun hp => ?_⟩
  obtain ⟨b, off, ha, hc⟩ := h hp
  refine ⟨b, off, ha, fun i hi => ?_⟩
  rw [hb.cell (p := ⟨b, off + i, none⟩) (World.block_lt_of_cell? w _ (hc i hi))]
  exact hc i hi
theorem Hv.later {w w' : World} (h : Hv w) (hb : Below w.heap.size w w') : Hv w' := by
  intro i hi
  rw [hb.cell (p := ⟨0, i, none⟩) (World.block_lt_of_cell? w _ (h i hi))]
  exact h i hi

theorem getD_lt {l : List Nat} (h : ∀ c ∈ l, c < 256) (i : Nat) : l.getD i 0 < 256 := by
  rw [List.getD_eq_getElem?_getD]
  rcases Nat.lt_or_ge i l.length with h1 | h1
  · rw [List.getElem?_eq_getElem h1]; exact h _ (List.getElem_mem h1)
  · rw [List.getElem?_eq_none h1]; decide
theorem takes_snoc (r : Nat) (l : List Nat) (k : Nat) (h : k < l.length) : takes r (l.take (k + 1)) = takeB (takes r (l.take k)) (l.getD k 0) := by
  rw [List.take_succ_eq_append_getElem h, takes_append, List.getD_eq_getElem?_getD, List.getElem?_eq_getElem h]
  rfl
theorem beq_nat (a b : Nat) : ((a : Int) == (b : Int)) = decide (a = b) := by
  rw [Bool.eq_iff_iff, beq_iff_eq, decide_eq_true_iff]; omega
theorem ones_cast : ((ones : Nat) : Int) = IntKind.u32.max := by decide
theorem inv_any (r : Nat) (hr : r < 4294967296) : bits .xor .u32 IntKind.u32.max (r : Int) = ((inv r : Nat) : Int) :=
  by rw [← ones_cast, inv_eq]; exact u32_xor_nat ones r ones_lt hr

theorem take_any (r c : Nat) (hr : r < 4294967296) (hc : c < 256) (w : World) :
    Calls Tryd.prog 61 #[.int .u32 r, .int .u8 c] w fun e w' => e = .returned (.int .u32 (takeB r c : Nat)) ∧ w = w' := by
  have hx := u32_xor_nat r c hr (by omega)
  have hl : r ^^^ c < 4294967296 := Nat.xor_lt_two_pow (n := 32) hr (by omega)
  have he : takeB r c = stps 8 (r ^^^ c) := rfl
  have hw : IntKind.u32.wrap (c : Int) = c := by rw [IntKind.wrap_u32']; omega
  generalize r ^^^ c = x at *
  have HE := Lib.hid he
  clear he
  go_enter Tryd.func61, Tryd.ntmps61
  go_wp2
  clear hx hw
  go_loop [0, 5] (fun t i => ∃ k : Nat, k ≤ 8 ∧ i = .int .i64 k ∧ t = .int .u32 (stps k x : Nat)) (fun _ i => 8 - (intOf i).toNat)
  case atStart => exact ⟨0, by omega, rfl, rfl⟩
  case round =>
    obtain ⟨k, hk, rfl, rfl⟩ := hrel
    have hs := stps_lt k x hl
    have hn : stp (stps k x) = stps (k + 1) x := by rw [← stps_stp]; rfl
    by_cases hlt : k < 8
    · have HN := Lib.hid hn
      clear hn
      generalize stps k x = y at *
      go_wp2_with (go_at_call 66; refine (step_any _ hs _).mono ?_; rintro e w' ⟨rfl, rfl⟩)
      go_round
      case rel => exact ⟨k + 1, by omega, by go_num, by rw [HN.out]⟩
      case measure => simp [intOf]; omega
    · obtain rfl : k = 8 := by omega
      clear hn
      go_wp2
      go_ret
      exact ⟨ret_u32 (by rw [HE.out]), rfl⟩

theorem more_none (s : Nat) (hs : s < 4294967296) (a : Option Addr) (cap : Nat) (w : World) :
    Calls Tryd.prog 69 #[.int .u32 s, .slice a 0 cap] w fun e w' => e = .returned (.int .u32 s) ∧ w = w' := by
  have hi := inv_any s hs
  have hl := inv_lt s hs
  have hj := inv_any _ hl
  rw [inv_inv] at hj
  generalize inv s = x at *
  go_enter Tryd.func69, Tryd.ntmps69
  go_wp2
  refine wp_loop_rounds 1 ?_
  rw [rounds_succ]
  go_wp2
  go_ret
  exact ⟨rfl, rfl⟩

theorem more_some (s : Nat) (hs : s < 4294967296) (b off cap : Nat) (l : List Nat) (w : World) (hne : 0 < l.length) (hlen : l.length ≤ 140737488355328) (h8 : ∀ c ∈ l, c < 256)
    (hr : ∀ i, i < l.length → w.cell? ⟨b, off + i, none⟩ = some (.int .u8 (l.getD i 0 : Nat))) (hH : Hv w) :
    Calls Tryd.prog 69 #[.int .u32 s, .slice (some ⟨b, off, none⟩) l.length cap] w fun e w' => e = .returned (.int .u32 (more s l : Nat)) ∧ w = w' := by
  have hi := inv_any s hs
  have hl := inv_lt s hs
  have hz : takes (inv s) (l.take 0) = inv s := rfl
  have hfin : more s l = inv (takes (inv s) (l.take l.length)) := by rw [List.take_length]; rfl
  generalize inv s = x at *
  have Hr := Lib.hid hr
  have H8 := Lib.hid h8
  have HF := Lib.hid hfin
  have HZ := Lib.hid hz
  clear hr h8 hfin hz
  go_enter Tryd.func69, Tryd.ntmps69
  go_wp2
  clear hi
  go_loop [5, 12] (fun t i => ∃ k : Nat, k ≤ l.length ∧ i = .int .i64 k ∧ t = .int .u32 (takes x (l.take k) : Nat)) (fun _ i => l.length - (intOf i).toNat)
  case atStart => exact ⟨0, Nat.zero_le _, rfl, by rw [HZ.out]⟩
  case round =>
    obtain ⟨k, hk, rfl, rfl⟩ := hrel
    have ht : takes x (l.take k) < 4294967296 := takes_lt _ x hl (fun c hc => H8.out c (List.mem_of_mem_take hc))
    by_cases hlt : k < l.length
    · have hc := Hr.out k hlt
      have hd := getD_lt H8.out k
      have hn := takes_snoc x l k hlt
      generalize takes x (l.take k) = y at *
      generalize l.getD k 0 = c at *
      have hx := u32_xor_nat y c ht (by omega)
      have hxl : y ^^^ c < 4294967296 := Nat.xor_lt_two_pow (n := 32) ht (by omega)
      have hw : IntKind.u32.wrap (c : Int) = c := by rw [IntKind.wrap_u32']; omega
      unfold takeB at hn
      generalize y ^^^ c = z at *
      have HN := Lib.hid hn
      clear hn
      go_wp2_with (go_at_call 71; refine (eight_any _ hxl _ hH).mono ?_; rintro e w' ⟨rfl, rfl⟩)
      go_round
      case rel => exact ⟨k + 1, by omega, by go_num, by rw [HN.out]⟩
      case measure => simp [intOf]; omega
    · obtain rfl : k = l.length := by omega
      have hj := inv_any _ ht
      have HF2 := HF.out
      clear HF HZ
      generalize takes x (l.take l.length) = y at *
      have HF := Lib.hid HF2
      clear HF2
      go_wp2
      go_ret
      exact ⟨ret_u32 (by rw [HF.out]), rfl⟩

theorem more_any (s : Nat) (hs : s < 4294967296) (v : Value) (l : List Nat) (w : World) (hv : Bs w v l) (hlen : l.length ≤ 140737488355328) (hH : Hv w) :
    Calls Tryd.prog 69 #[.int .u32 s, v] w fun e w' => e = .returned (.int .u32 (more s l : Nat)) ∧ w = w' := by
  obtain ⟨h8, a, cap, rfl, h⟩ := hv
  rcases Nat.eq_zero_or_pos l.length with h0 | h0
  · have hl := List.eq_nil_of_length_eq_zero h0
    subst hl
    refine (more_none s hs a cap w).mono ?_
    rintro e w' ⟨rfl, rfl⟩
    exact ⟨ret_u32 (by rw [show more s [] = s from inv_inv s]), rfl⟩
  · obtain ⟨b, off, rfl, hc⟩ := h h0
    exact more_some s hs b off cap l w h0 hlen h8 hc hH

theorem sum_any (v : Value) (l : List Nat) (w : World) (hv : Bs w v l) (hlen : l.length ≤ 140737488355328) (hH : Hv w) :
    Calls Tryd.prog 65 #[v] w fun e w' => e = .returned (.int .u32 (more 0 l : Nat)) ∧ w = w' := by
  go_enter Tryd.func65, Tryd.ntmps65
  go_wp2_with fail
  refine (more_any 0 (by omega) v l _ hv hlen hH).mono ?_
  rintro e w' ⟨rfl, rfl⟩
  go_wp2
  go_ret
  exact ⟨rfl, rfl⟩
theorem check_any (v : Value) (l : List Nat) (s : Nat) (w : World) (hv : Bs w v l) (hlen : l.length ≤ 140737488355328) (hH : Hv w) :
    Calls Tryd.prog 68 #[v, .int .u32 s] w fun e w' => e = .returned (.bool (decide (more 0 l = s))) ∧ w = w' := by
  go_enter Tryd.func68, Tryd.ntmps68
  go_wp2_with fail
  refine (sum_any v l _ hv hlen hH).mono ?_
  rintro e w' ⟨rfl, rfl⟩
  go_wp2
  go_ret
  exact ⟨by simp; exact beq_nat _ _, rfl⟩
/-! The document's checksums. -/
theorem ref_more_none (s : Nat) (hs : s < 4294967296) (a : Option Addr) (cap : Nat) (w : World) :
    Calls Tryd.prog 56 #[.int .u32 s, .slice a 0 cap] w fun e w' => e = .returned (.int .u32 s) ∧ w = w' := by
  have hi := inv_any s hs
  have hl := inv_lt s hs
  have hj := inv_any _ hl
  rw [inv_inv] at hj
  generalize inv s = x at *
  go_enter Tryd.func56, Tryd.ntmps56
  go_wp2
  refine wp_loop_rounds 1 ?_
  rw [rounds_succ]
  go_wp2
  go_ret
  exact ⟨rfl, rfl⟩
theorem ref_more_some (s : Nat) (hs : s < 4294967296) (b off cap : Nat) (l : List Nat) (w : World) (hne : 0 < l.length) (hlen : l.length ≤ 140737488355328) (h8 : ∀ c ∈ l, c < 256)
    (hr : ∀ i, i < l.length → w.cell? ⟨b, off + i, none⟩ = some (.int .u8 (l.getD i 0 : Nat))) :
    Calls Tryd.prog 56 #[.int .u32 s, .slice (some ⟨b, off, none⟩) l.length cap] w fun e w' => e = .returned (.int .u32 (more s l : Nat)) ∧ w = w' := by
  have hi := inv_any s hs
  have hl := inv_lt s hs
  have hz : takes (inv s) (l.take 0) = inv s := rfl
  have hfin : more s l = inv (takes (inv s) (l.take l.length)) := by rw [List.take_length]; rfl
  generalize inv s = x at *
  have Hr := Lib.hid hr
  have H8 := Lib.hid h8
  have HF := Lib.hid hfin
  have HZ := Lib.hid hz
  clear hr h8 hfin hz
  go_enter Tryd.func56, Tryd.ntmps56
  go_wp2
  clear hi
  go_loop [5, 6] (fun t i => ∃ k : Nat, k ≤ l.length ∧ i = .int .i64 k ∧ t = .int .u32 (takes x (l.take k) : Nat)) (fun _ i => l.length - (intOf i).toNat)
  case atStart => exact ⟨0, Nat.zero_le _, rfl, by rw [HZ.out]⟩
  case round =>
    obtain ⟨k, hk, rfl, rfl⟩ := hrel
    have ht : takes x (l.take k) < 4294967296 := takes_lt _ x hl (fun c hc => H8.out c (List.mem_of_mem_take hc))
    by_cases hlt : k < l.length
    · have hc := Hr.out k hlt
      have hd := getD_lt H8.out k
      have hn := takes_snoc x l k hlt
      generalize takes x (l.take k) = y at *
      generalize l.getD k 0 = c at *
      have HN := Lib.hid hn
      clear hn
      go_wp2_with (go_at_call 61; refine (take_any _ _ ht hd _).mono ?_; rintro e w' ⟨rfl, rfl⟩)
      go_round
      case rel => exact ⟨k + 1, by omega, by go_num, by rw [HN.out]⟩
      case measure => simp [intOf]; omega
    · obtain rfl : k = l.length := by omega
      have hj := inv_any _ ht
      have HF2 := HF.out
      clear HF HZ
      generalize takes x (l.take l.length) = y at *
      have HF := Lib.hid HF2
      clear HF2
      go_wp2
      go_ret
      exact ⟨ret_u32 (by rw [HF.out]), rfl⟩
theorem ref_more_any (s : Nat) (hs : s < 4294967296) (v : Value) (l : List Nat) (w : World) (hv : Bs w v l) (hlen : l.length ≤ 140737488355328) :
    Calls Tryd.prog 56 #[.int .u32 s, v] w fun e w' => e = .returned (.int .u32 (more s l : Nat)) ∧ w = w' := by
  obtain ⟨h8, a, cap, rfl, h⟩ := hv
  rcases Nat.eq_zero_or_pos l.length with h0 | h0
  · have hl := List.eq_nil_of_length_eq_zero h0
    subst hl
    refine (ref_more_none s hs a cap w).mono ?_
    rintro e w' ⟨rfl, rfl⟩
    exact ⟨ret_u32 (by rw [show more s [] = s from inv_inv s]), rfl⟩
  · obtain ⟨b, off, rfl, hc⟩ := h h0
    exact ref_more_some s hs b off cap l w h0 hlen h8 hc
theorem ref_sum_any (v : Value) (l : List Nat) (w : World) (hv : Bs w v l) (hlen : l.length ≤ 140737488355328) :
    Calls Tryd.prog 50 #[v] w fun e w' => e = .returned (.int .u32 (more 0 l : Nat)) ∧ w = w' := by
  go_enter Tryd.func50, Tryd.ntmps50
  go_wp2_with fail
  refine (ref_more_any 0 (by omega) v l _ hv hlen).mono ?_
  rintro e w' ⟨rfl, rfl⟩
  go_wp2
  go_ret
  exact ⟨rfl, rfl⟩
end Go.Proofs.YtojeccmnhgcmcaaDoor.Crc
