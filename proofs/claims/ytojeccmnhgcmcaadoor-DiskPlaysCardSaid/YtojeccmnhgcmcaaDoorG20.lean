/- The table of half bytes, out of what the row lists. -/
import Derived.Test.YtojeccmnhgcmcaaDoorG13
import Derived.ProofKit
import Derived.LaidMore
import Derived.OpenShut
import Derived.Lib.LaidTab
namespace Go.Proofs.YtojeccmnhgcmcaaDoor.Frame
open Go.RowKit Go.ChangeShapes
open Crc (Hv stps)
set_option linter.unusedVariables false
set_option maxRecDepth 100000

def halvesL : List Int := (List.range 16).map fun i => ((stps 4 i : Nat) : Int)
theorem laid_eq : (Rows.laid_skald_crc_halves : DataW Unit) = Lib.tabData .u32 halvesL := by
  unfold Rows.laid_skald_crc_halves Lib.tabData
  have e : halvesL = [0, 498536548, 997073096, 651767980, 1994146192, 1802195444, 1303535960, 1342533948, 3988292384, 4027552580, 3604390888, 3412177804, 2607071920, 2262029012, 2685067896, 3183342108] := by decide +kernel
  rw [e]
  rfl
theorem hv_of_laid {W : World} (h : laidMetH Tryd.prog [("skald/crc.halves", Rows.laid_skald_crc_halves)] W) : Hv W := by
  rw [MakeChecks.laidMetH_plain _ _ _ (by kernel_rfl), laid_eq] at h
  have hg : Tryd.prog.globalNamed "skald/crc.halves" = some 0 := by kernel_rfl
  have ht := Lib.tabIs_of_head (t := 102) (e := 72) (n := 16) hg (by kernel_rfl) Tryd.underlying102 Tryd.underlying72 (by kernel_rfl) (by kernel_rfl) h
  intro i hi
  rw [ht.cell hg i (by unfold halvesL; simp; exact hi)]
  congr 2
  unfold halvesL
  rw [List.getD_eq_getElem?_getD, List.getElem?_map, List.getElem?_range hi]
  rfl
theorem door_met (os : Os) (args : Array Value) : laidMetH Tryd.prog [("skald/crc.halves", Rows.laid_skald_crc_halves)] ((World.doorLaid Tryd.prog 400 os).forCall (fun _ _ => 0) ⟨#[], args, []⟩).memory :=
  laidMetH_of_parts3 (fuel := 8) (laidMet_of_run' 8 (by kernel_rfl) (by kernel_rfl)) (by kernel_rfl) (by kernel_rfl)
end Go.Proofs.YtojeccmnhgcmcaaDoor.Frame
