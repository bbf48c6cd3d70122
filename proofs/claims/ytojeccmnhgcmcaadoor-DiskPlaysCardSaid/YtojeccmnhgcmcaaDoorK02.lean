/- Contracts of crc's steps. -/
import Derived.Test.YtojeccmnhgcmcaaDoorRows
import Derived.Test.YtojeccmnhgcmcaaDoorK01
import Derived.WalkKit
import Derived.WalkSpells
import Derived.WalkLawsBesides
import Derived.Handy
import Derived.IntWalk
import Derived.Lib.Hide
import Derived.Laws.BitsAllLaws
namespace Go.Proofs.YtojeccmnhgcmcaaDoor.Crc
open Go.RowKit
set_option linter.unusedVariables false

/-- The table of half bytes lies where the program has it. -/
def Hv (w : World) : Prop := ∀ i : Nat, i < 16 → w.cell? ⟨0, i, none⟩ = some (.int .u32 (stps 4 i : Nat))

theorem and15 (r : Nat) (hr : r < 4294967296) : bits .and .u32 (r : Int) 15 = ((r % 16 : Nat) : Int) := by
  rw [show (15 : Int) = ((15 : Nat) : Int) from rfl, u32_and_nat r 15 hr (by omega)]
  congr 1
  exact Nat.and_two_pow_sub_one_eq_mod r 4
theorem and1 (r : Nat) (hr : r < 4294967296) : bits .and .u32 (r : Int) 1 = ((r % 2 : Nat) : Int) := by
  rw [show (1 : Int) = ((1 : Nat) : Int) from rfl, u32_and_nat r 1 hr (by omega)]
  congr 1
  exact Nat.and_two_pow_sub_one_eq_mod r 1
theorem ret_u32 {a b : Int} (h : a = b) : Ending.returned (.int .u32 a) = .returned (.int .u32 b) := by rw [h]
theorem xor_div (r k s : Nat) (hr : r < 4294967296) (hs : s < 4294967296) : bits .xor .u32 ((r : Int) / (k : Int)) (s : Int) = ((r / k ^^^ s : Nat) : Int) := by
  rw [← Int.natCast_ediv]
  exact u32_xor_nat _ _ (Nat.lt_of_le_of_lt (Nat.div_le_self _ _) hr) hs

theorem four_any (r : Nat) (hr : r < 4294967296) (w : World) (hH : Hv w) :
    Calls Tryd.prog 72 #[.int .u32 r] w fun e w' => e = .returned (.int .u32 (stps 4 r : Nat)) ∧ w = w' := by
  have hc := hH (r % 16) (by omega)
  have h1 := and15 r hr
  have hf := four_eq r
  have hl := stps_lt 4 (r % 16) (by omega)
  have hx := xor_div r 16 _ hr hl
  unfold halves at hf
  generalize stps 4 (r % 16) = s at *
  generalize stps 4 r = q at *
  have HF := Lib.hid hf
  have HX := Lib.hid hx
  clear hf hx hH
  go_enter Tryd.func72, Tryd.ntmps72
  go_wp2
  go_ret
  exact ⟨ret_u32 (by rw [HF.out]; exact HX.out), rfl⟩

theorem eight_any (r : Nat) (hr : r < 4294967296) (w : World) (hH : Hv w) :
    Calls Tryd.prog 71 #[.int .u32 r] w fun e w' => e = .returned (.int .u32 (stps 8 r : Nat)) ∧ w = w' := by
  have hl := stps_lt 4 r hr
  have he := stps_add 4 4 r
  generalize h4 : stps 4 r = s at *
  have H4 := Lib.hid h4
  have HE := Lib.hid he
  clear h4 he
  go_enter Tryd.func71, Tryd.ntmps71
  go_wp2_with fail
  refine (four_any r hr _ hH).mono ?_
  rintro e w' ⟨rfl, rfl⟩
  rw [H4.out]
  go_wp2_with fail
  refine (four_any s hl _ hH).mono ?_
  rintro e w' ⟨rfl, rfl⟩
  go_wp2
  go_ret
  exact ⟨ret_u32 (by rw [show (8 : Nat) = 4 + 4 from rfl, HE.out]), rfl⟩

/-! The document's steps. -/
theorem step_any (r : Nat) (hr : r < 4294967296) (w : World) :
    Calls Tryd.prog 66 #[.int .u32 r] w fun e w' => e = .returned (.int .u32 (stp r : Nat)) ∧ w = w' := by
  have hx := xor_div r 2 3988292384 hr (by omega)
  have HX := Lib.hid hx
  clear hx
  by_cases h : r % 2 = 1
  · have h2 : ((r : Int) % 2 == 1) = true := by rw [beq_iff_eq]; omega
    have HF : Hid (stp r = r / 2 ^^^ 3988292384) := by show _ = _; unfold stp; rw [if_pos h]
    clear h
    go_enter Tryd.func66, Tryd.ntmps66
    go_wp2
    go_ret
    exact ⟨ret_u32 (by rw [HF.out]; exact HX.out), rfl⟩
  · have h2 : ((r : Int) % 2 == 1) = false := by rw [beq_eq_false_iff_ne]; omega
    have HF : Hid (stp r = r / 2) := by show _ = _; unfold stp; rw [if_neg h]
    clear h HX
    go_enter Tryd.func66, Tryd.ntmps66
    go_wp2
    go_ret
    exact ⟨ret_u32 (by rw [HF.out]; omega), rfl⟩
end Go.Proofs.YtojeccmnhgcmcaaDoor.Crc
