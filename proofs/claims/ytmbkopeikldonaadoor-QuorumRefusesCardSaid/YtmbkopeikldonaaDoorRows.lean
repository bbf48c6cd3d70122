/-
  NARROWER THAN 'FOR EVERY INPUT', by the rows' own cells (each row's printed sentence says how): QuorumSets: laid · QuorumMeets: laid · QuorumSizes: laid · QuorumShares: laid · QuorumGrows: laid · QuorumLeast: laid · QuorumNodes: laid · QuorumCrashes: laid · QuorumRefuses: laid.
  DERIVED. THE GIVEN ROWS OF THIS SEAT. 9 by the template 'for every input the law returns true; each argument reads behind the call as it read before'; 0 by the template 'total and deterministic' (their statements: YtmbkopeikldonaaDoorTotals.lean).
  GIVEN WITH THE SEED: the statements are not yours to turn. If you find one false, say at which input.
  Laid BY PROGRAM, IN A SANDBOX (cutbox-rows.mjs): the forced cells as the released guide's own fill.sh prints them over the translation 952a2cddc1db639d… (all of the seat's roots in one cut). By AI agents, Wed Nov 11 2026. No macro, syntax, notation, axiom, sorry.
-/
import Derived.Test.YtmbkopeikldonaaDoorChecked
import GoSem.Claim
import GoSem.ClaimJoined
import GoSem.ClaimMapViews
import Derived.JoinedTies
import Derived.KernelRfl
namespace Go.Proofs.YtmbkopeikldonaaDoor
/- THE CELL 'sum', in the pinned program and in every row, IS THE sha256 OF THE DUMP (.gsa) THAT YtmbkopeikldonaaDoorProg.lean LOADS. Nothing in Lean hashes anything: it is a label: what it is worth is what the hold of that sum in a sandbox is worth. -/
noncomputable def Tryd.pinned : Pinned := { name := "ytmbkopeikldonaadoor", sum := "952a2cddc1db639dc3c6191c99ade39e78d4b33afc788040bfce256568d2f8d8", checked := Tryd.checked }
namespace Rows
def none {H : Type} : Left H := { results := [], args := [] }

/- WHAT THE LISTED PACKAGE-LEVEL VARIABLES READ AS WHEN THE CALL BEGINS. Each datum BY PROGRAM (the guide's laid-datum.mjs) off the statement by which the dump's own 'gosem.cut.vars' lays the variable. In a bare row this is a premise. The card (YtmbkopeikldonaaDoorCards.lean) ties it to the program's text. -/
def laid_math_bits_deBruijn64tab {H : Type} : DataW H := .agg [.lit (.int .u8 0), .lit (.int .u8 1), .lit (.int .u8 56), .lit (.int .u8 2), .lit (.int .u8 57), .lit (.int .u8 49), .lit (.int .u8 28), .lit (.int .u8 3), .lit (.int .u8 61), .lit (.int .u8 58), .lit (.int .u8 42), .lit (.int .u8 50), .lit (.int .u8 38), .lit (.int .u8 29), .lit (.int .u8 17), .lit (.int .u8 4), .lit (.int .u8 62), .lit (.int .u8 47), .lit (.int .u8 59), .lit (.int .u8 36), .lit (.int .u8 45), .lit (.int .u8 43), .lit (.int .u8 51), .lit (.int .u8 22), .lit (.int .u8 53), .lit (.int .u8 39), .lit (.int .u8 33), .lit (.int .u8 30), .lit (.int .u8 24), .lit (.int .u8 18), .lit (.int .u8 12), .lit (.int .u8 5), .lit (.int .u8 63), .lit (.int .u8 55), .lit (.int .u8 48), .lit (.int .u8 27), .lit (.int .u8 60), .lit (.int .u8 41), .lit (.int .u8 37), .lit (.int .u8 16), .lit (.int .u8 46), .lit (.int .u8 35), .lit (.int .u8 44), .lit (.int .u8 21), .lit (.int .u8 52), .lit (.int .u8 32), .lit (.int .u8 23), .lit (.int .u8 11), .lit (.int .u8 54), .lit (.int .u8 26), .lit (.int .u8 40), .lit (.int .u8 15), .lit (.int .u8 34), .lit (.int .u8 20), .lit (.int .u8 31), .lit (.int .u8 10), .lit (.int .u8 25), .lit (.int .u8 14), .lit (.int .u8 19), .lit (.int .u8 9), .lit (.int .u8 13), .lit (.int .u8 8), .lit (.int .u8 7), .lit (.int .u8 6)]

/-- 'skaldlaw11.QuorumSets': WHATEVER THE INPUT: true; the input reads as it did. -/
def quorumSetsSpec : ChangeSpec := { name := "quorumSets", fn := fun _ => fun
  | [d1, d2, d3] => { results := [.lit (.bool true)], args := [d1, d2, d3] }
  | _ => none }
def quorumSetsRow : OpenClaim := { program := "ytmbkopeikldonaadoor", sum := "952a2cddc1db639dc3c6191c99ade39e78d4b33afc788040bfce256568d2f8d8", func := "skald/skaldlaw11.QuorumSets", spec := "quorumSets", unfollowed := true, recurses := true, named := ["math/bits.deBruijn64tab"], apart := false, laid := [("math/bits.deBruijn64tab", laid_math_bits_deBruijn64tab)] }
def QuorumSetsSaid : Prop := quorumSetsRow.holds Tryd.pinned (OpenSpec.ofChange quorumSetsSpec)

/-- ITS FALSE NEIGHBOUR: 'it returns false'. Refute it at one input. -/
def quorumSetsWrong : ChangeSpec := { name := "quorumSets", fn := fun _ => fun
  | [d1, d2, d3] => { results := [.lit (.bool false)], args := [d1, d2, d3] }
  | _ => none }
def QuorumSetsWrongFalsely : Prop := quorumSetsRow.holds Tryd.pinned (OpenSpec.ofChange quorumSetsWrong)

/-- 'skaldlaw11.QuorumMeets': WHATEVER THE INPUT: true; the input reads as it did. -/
def quorumMeetsSpec : ChangeSpec := { name := "quorumMeets", fn := fun _ => fun
  | [d1, d2, d3] => { results := [.lit (.bool true)], args := [d1, d2, d3] }
  | _ => none }
def quorumMeetsRow : OpenClaim := { program := "ytmbkopeikldonaadoor", sum := "952a2cddc1db639dc3c6191c99ade39e78d4b33afc788040bfce256568d2f8d8", func := "skald/skaldlaw11.QuorumMeets", spec := "quorumMeets", unfollowed := true, recurses := true, named := ["math/bits.deBruijn64tab"], apart := false, laid := [("math/bits.deBruijn64tab", laid_math_bits_deBruijn64tab)] }
def QuorumMeetsSaid : Prop := quorumMeetsRow.holds Tryd.pinned (OpenSpec.ofChange quorumMeetsSpec)

/-- ITS FALSE NEIGHBOUR: 'it returns false'. Refute it at one input. -/
def quorumMeetsWrong : ChangeSpec := { name := "quorumMeets", fn := fun _ => fun
  | [d1, d2, d3] => { results := [.lit (.bool false)], args := [d1, d2, d3] }
  | _ => none }
def QuorumMeetsWrongFalsely : Prop := quorumMeetsRow.holds Tryd.pinned (OpenSpec.ofChange quorumMeetsWrong)

/-- 'skaldlaw11.QuorumSizes': WHATEVER THE INPUT: true; the input reads as it did. -/
def quorumSizesSpec : ChangeSpec := { name := "quorumSizes", fn := fun _ => fun
  | [d1, d2] => { results := [.lit (.bool true)], args := [d1, d2] }
  | _ => none }
def quorumSizesRow : OpenClaim := { program := "ytmbkopeikldonaadoor", sum := "952a2cddc1db639dc3c6191c99ade39e78d4b33afc788040bfce256568d2f8d8", func := "skald/skaldlaw11.QuorumSizes", spec := "quorumSizes", unfollowed := true, recurses := true, named := ["math/bits.deBruijn64tab"], apart := false, laid := [("math/bits.deBruijn64tab", laid_math_bits_deBruijn64tab)] }
def QuorumSizesSaid : Prop := quorumSizesRow.holds Tryd.pinned (OpenSpec.ofChange quorumSizesSpec)

/-- ITS FALSE NEIGHBOUR: 'it returns false'. Refute it at one input. -/
def quorumSizesWrong : ChangeSpec := { name := "quorumSizes", fn := fun _ => fun
  | [d1, d2] => { results := [.lit (.bool false)], args := [d1, d2] }
  | _ => none }
def QuorumSizesWrongFalsely : Prop := quorumSizesRow.holds Tryd.pinned (OpenSpec.ofChange quorumSizesWrong)

/-- 'skaldlaw11.QuorumShares': WHATEVER THE INPUT: true; the input reads as it did. -/
def quorumSharesSpec : ChangeSpec := { name := "quorumShares", fn := fun _ => fun
  | [d1, d2, d3] => { results := [.lit (.bool true)], args := [d1, d2, d3] }
  | _ => none }
def quorumSharesRow : OpenClaim := { program := "ytmbkopeikldonaadoor", sum := "952a2cddc1db639dc3c6191c99ade39e78d4b33afc788040bfce256568d2f8d8", func := "skald/skaldlaw11.QuorumShares", spec := "quorumShares", unfollowed := true, recurses := true, named := ["math/bits.deBruijn64tab"], apart := false, laid := [("math/bits.deBruijn64tab", laid_math_bits_deBruijn64tab)] }
def QuorumSharesSaid : Prop := quorumSharesRow.holds Tryd.pinned (OpenSpec.ofChange quorumSharesSpec)

/-- ITS FALSE NEIGHBOUR: 'it returns false'. Refute it at one input. -/
def quorumSharesWrong : ChangeSpec := { name := "quorumShares", fn := fun _ => fun
  | [d1, d2, d3] => { results := [.lit (.bool false)], args := [d1, d2, d3] }
  | _ => none }
def QuorumSharesWrongFalsely : Prop := quorumSharesRow.holds Tryd.pinned (OpenSpec.ofChange quorumSharesWrong)

/-- 'skaldlaw11.QuorumGrows': WHATEVER THE INPUT: true; the input reads as it did. -/
def quorumGrowsSpec : ChangeSpec := { name := "quorumGrows", fn := fun _ => fun
  | [d1, d2, d3] => { results := [.lit (.bool true)], args := [d1, d2, d3] }
  | _ => none }
def quorumGrowsRow : OpenClaim := { program := "ytmbkopeikldonaadoor", sum := "952a2cddc1db639dc3c6191c99ade39e78d4b33afc788040bfce256568d2f8d8", func := "skald/skaldlaw11.QuorumGrows", spec := "quorumGrows", unfollowed := true, recurses := true, named := ["math/bits.deBruijn64tab"], apart := false, laid := [("math/bits.deBruijn64tab", laid_math_bits_deBruijn64tab)] }
def QuorumGrowsSaid : Prop := quorumGrowsRow.holds Tryd.pinned (OpenSpec.ofChange quorumGrowsSpec)

/-- ITS FALSE NEIGHBOUR: 'it returns false'. Refute it at one input. -/
def quorumGrowsWrong : ChangeSpec := { name := "quorumGrows", fn := fun _ => fun
  | [d1, d2, d3] => { results := [.lit (.bool false)], args := [d1, d2, d3] }
  | _ => none }
def QuorumGrowsWrongFalsely : Prop := quorumGrowsRow.holds Tryd.pinned (OpenSpec.ofChange quorumGrowsWrong)

/-- 'skaldlaw11.QuorumLeast': WHATEVER THE INPUT: true; the input reads as it did. -/
def quorumLeastSpec : ChangeSpec := { name := "quorumLeast", fn := fun _ => fun
  | [d1, d2] => { results := [.lit (.bool true)], args := [d1, d2] }
  | _ => none }
def quorumLeastRow : OpenClaim := { program := "ytmbkopeikldonaadoor", sum := "952a2cddc1db639dc3c6191c99ade39e78d4b33afc788040bfce256568d2f8d8", func := "skald/skaldlaw11.QuorumLeast", spec := "quorumLeast", unfollowed := true, recurses := true, named := ["math/bits.deBruijn64tab"], apart := false, laid := [("math/bits.deBruijn64tab", laid_math_bits_deBruijn64tab)] }
def QuorumLeastSaid : Prop := quorumLeastRow.holds Tryd.pinned (OpenSpec.ofChange quorumLeastSpec)

/-- ITS FALSE NEIGHBOUR: 'it returns false'. Refute it at one input. -/
def quorumLeastWrong : ChangeSpec := { name := "quorumLeast", fn := fun _ => fun
  | [d1, d2] => { results := [.lit (.bool false)], args := [d1, d2] }
  | _ => none }
def QuorumLeastWrongFalsely : Prop := quorumLeastRow.holds Tryd.pinned (OpenSpec.ofChange quorumLeastWrong)

/-- 'skaldlaw11.QuorumNodes': WHATEVER THE INPUT: true; the input reads as it did. -/
def quorumNodesSpec : ChangeSpec := { name := "quorumNodes", fn := fun _ => fun
  | [d] => { results := [.lit (.bool true)], args := [d] }
  | _ => none }
def quorumNodesRow : OpenClaim := { program := "ytmbkopeikldonaadoor", sum := "952a2cddc1db639dc3c6191c99ade39e78d4b33afc788040bfce256568d2f8d8", func := "skald/skaldlaw11.QuorumNodes", spec := "quorumNodes", unfollowed := true, recurses := true, named := ["math/bits.deBruijn64tab"], apart := false, laid := [("math/bits.deBruijn64tab", laid_math_bits_deBruijn64tab)] }
def QuorumNodesSaid : Prop := quorumNodesRow.holds Tryd.pinned (OpenSpec.ofChange quorumNodesSpec)

/-- ITS FALSE NEIGHBOUR: 'it returns false'. Refute it at one input. -/
def quorumNodesWrong : ChangeSpec := { name := "quorumNodes", fn := fun _ => fun
  | [d] => { results := [.lit (.bool false)], args := [d] }
  | _ => none }
def QuorumNodesWrongFalsely : Prop := quorumNodesRow.holds Tryd.pinned (OpenSpec.ofChange quorumNodesWrong)

/-- 'skaldlaw11.QuorumCrashes': WHATEVER THE INPUT: true; the input reads as it did. -/
def quorumCrashesSpec : ChangeSpec := { name := "quorumCrashes", fn := fun _ => fun
  | [d1, d2] => { results := [.lit (.bool true)], args := [d1, d2] }
  | _ => none }
def quorumCrashesRow : OpenClaim := { program := "ytmbkopeikldonaadoor", sum := "952a2cddc1db639dc3c6191c99ade39e78d4b33afc788040bfce256568d2f8d8", func := "skald/skaldlaw11.QuorumCrashes", spec := "quorumCrashes", unfollowed := true, recurses := true, named := ["math/bits.deBruijn64tab"], apart := false, laid := [("math/bits.deBruijn64tab", laid_math_bits_deBruijn64tab)] }
def QuorumCrashesSaid : Prop := quorumCrashesRow.holds Tryd.pinned (OpenSpec.ofChange quorumCrashesSpec)

/-- ITS FALSE NEIGHBOUR: 'it returns false'. Refute it at one input. -/
def quorumCrashesWrong : ChangeSpec := { name := "quorumCrashes", fn := fun _ => fun
  | [d1, d2] => { results := [.lit (.bool false)], args := [d1, d2] }
  | _ => none }
def QuorumCrashesWrongFalsely : Prop := quorumCrashesRow.holds Tryd.pinned (OpenSpec.ofChange quorumCrashesWrong)

/-- 'skaldlaw11.QuorumRefuses': WHATEVER THE INPUT: true; the input reads as it did. -/
def quorumRefusesSpec : ChangeSpec := { name := "quorumRefuses", fn := fun _ => fun
  | [d1, d2, d3] => { results := [.lit (.bool true)], args := [d1, d2, d3] }
  | _ => none }
def quorumRefusesRow : OpenClaim := { program := "ytmbkopeikldonaadoor", sum := "952a2cddc1db639dc3c6191c99ade39e78d4b33afc788040bfce256568d2f8d8", func := "skald/skaldlaw11.QuorumRefuses", spec := "quorumRefuses", unfollowed := true, recurses := true, named := ["math/bits.deBruijn64tab"], apart := false, laid := [("math/bits.deBruijn64tab", laid_math_bits_deBruijn64tab)] }
def QuorumRefusesSaid : Prop := quorumRefusesRow.holds Tryd.pinned (OpenSpec.ofChange quorumRefusesSpec)

/-- ITS FALSE NEIGHBOUR: 'it returns false'. Refute it at one input. -/
def quorumRefusesWrong : ChangeSpec := { name := "quorumRefuses", fn := fun _ => fun
  | [d1, d2, d3] => { results := [.lit (.bool false)], args := [d1, d2, d3] }
  | _ => none }
def QuorumRefusesWrongFalsely : Prop := quorumRefusesRow.holds Tryd.pinned (OpenSpec.ofChange quorumRefusesWrong)

/- THE SECOND FORM. 'bulk': how many values and letters a reading holds, each counted each time it is reached (what is shared counts as often as it is met; a slice's spare places count too). A statement '..UptoSaid' is the law's where the arguments, and the package variables that the reading takes, are together of bulk at most 1048576: NARROWER than '..Said'. Prove '..Said' where nothing that the law and all that it calls make is longer than what came in: it says more and counts as full. Else prove '..UptoSaid'. A law counts once. -/
mutual
def uptoBulk {H : Type} : DataW H → Nat
  | .lit (.string bytes) => bytes.length + 1
  | .lit _ => 1
  | .nil => 1
  | .ptr d => uptoBulk d + 1
  | .slice elems spare => uptoBulkAll elems + uptoBulkAll spare + 1
  | .agg parts => uptoBulkAll parts + 1
  | .iface _ d => uptoBulk d + 1
  | .map entries => uptoBulkEntries entries + 1
  | .held _ => 1
def uptoBulkAll {H : Type} : List (DataW H) → Nat
  | [] => 0
  | d :: r => uptoBulk d + uptoBulkAll r
def uptoBulkEntries {H : Type} : List (Lit × DataW H) → Nat
  | [] => 0
  | x :: r => uptoBulkEntry x + uptoBulkEntries r
def uptoBulkEntry {H : Type} : Lit × DataW H → Nat
  | (.string bytes, d) => bytes.length + uptoBulk d + 1
  | (_, d) => uptoBulk d + 1
 end
def uptoSmall : (H : Type) → List (DataW H) → Bool := fun _ ds => decide (uptoBulkAll ds ≤ 1048576)
def OpenSpec.upto (s : _root_.Go.ChangeSpec) : _root_.Go.OpenSpec := { _root_.Go.OpenSpec.ofChange s with cond := some uptoSmall }

/-- 'skaldlaw11.QuorumSets', WHERE WHAT IT READS IS OF BULK AT MOST 1048576: true; the input reads as it did. -/
def quorumSetsUptoRow : OpenClaim := { program := "ytmbkopeikldonaadoor", sum := "952a2cddc1db639dc3c6191c99ade39e78d4b33afc788040bfce256568d2f8d8", func := "skald/skaldlaw11.QuorumSets", spec := "quorumSets", unfollowed := true, recurses := true, named := ["math/bits.deBruijn64tab"], apart := false, laid := [("math/bits.deBruijn64tab", laid_math_bits_deBruijn64tab)], narrowed := true }
def QuorumSetsUptoSaid : Prop := quorumSetsUptoRow.holds Tryd.pinned (OpenSpec.upto quorumSetsSpec)

/-- 'skaldlaw11.QuorumMeets', WHERE WHAT IT READS IS OF BULK AT MOST 1048576: true; the input reads as it did. -/
def quorumMeetsUptoRow : OpenClaim := { program := "ytmbkopeikldonaadoor", sum := "952a2cddc1db639dc3c6191c99ade39e78d4b33afc788040bfce256568d2f8d8", func := "skald/skaldlaw11.QuorumMeets", spec := "quorumMeets", unfollowed := true, recurses := true, named := ["math/bits.deBruijn64tab"], apart := false, laid := [("math/bits.deBruijn64tab", laid_math_bits_deBruijn64tab)], narrowed := true }
def QuorumMeetsUptoSaid : Prop := quorumMeetsUptoRow.holds Tryd.pinned (OpenSpec.upto quorumMeetsSpec)

/-- 'skaldlaw11.QuorumSizes', WHERE WHAT IT READS IS OF BULK AT MOST 1048576: true; the input reads as it did. -/
def quorumSizesUptoRow : OpenClaim := { program := "ytmbkopeikldonaadoor", sum := "952a2cddc1db639dc3c6191c99ade39e78d4b33afc788040bfce256568d2f8d8", func := "skald/skaldlaw11.QuorumSizes", spec := "quorumSizes", unfollowed := true, recurses := true, named := ["math/bits.deBruijn64tab"], apart := false, laid := [("math/bits.deBruijn64tab", laid_math_bits_deBruijn64tab)], narrowed := true }
def QuorumSizesUptoSaid : Prop := quorumSizesUptoRow.holds Tryd.pinned (OpenSpec.upto quorumSizesSpec)

/-- 'skaldlaw11.QuorumShares', WHERE WHAT IT READS IS OF BULK AT MOST 1048576: true; the input reads as it did. -/
def quorumSharesUptoRow : OpenClaim := { program := "ytmbkopeikldonaadoor", sum := "952a2cddc1db639dc3c6191c99ade39e78d4b33afc788040bfce256568d2f8d8", func := "skald/skaldlaw11.QuorumShares", spec := "quorumShares", unfollowed := true, recurses := true, named := ["math/bits.deBruijn64tab"], apart := false, laid := [("math/bits.deBruijn64tab", laid_math_bits_deBruijn64tab)], narrowed := true }
def QuorumSharesUptoSaid : Prop := quorumSharesUptoRow.holds Tryd.pinned (OpenSpec.upto quorumSharesSpec)

/-- 'skaldlaw11.QuorumGrows', WHERE WHAT IT READS IS OF BULK AT MOST 1048576: true; the input reads as it did. -/
def quorumGrowsUptoRow : OpenClaim := { program := "ytmbkopeikldonaadoor", sum := "952a2cddc1db639dc3c6191c99ade39e78d4b33afc788040bfce256568d2f8d8", func := "skald/skaldlaw11.QuorumGrows", spec := "quorumGrows", unfollowed := true, recurses := true, named := ["math/bits.deBruijn64tab"], apart := false, laid := [("math/bits.deBruijn64tab", laid_math_bits_deBruijn64tab)], narrowed := true }
def QuorumGrowsUptoSaid : Prop := quorumGrowsUptoRow.holds Tryd.pinned (OpenSpec.upto quorumGrowsSpec)

/-- 'skaldlaw11.QuorumLeast', WHERE WHAT IT READS IS OF BULK AT MOST 1048576: true; the input reads as it did. -/
def quorumLeastUptoRow : OpenClaim := { program := "ytmbkopeikldonaadoor", sum := "952a2cddc1db639dc3c6191c99ade39e78d4b33afc788040bfce256568d2f8d8", func := "skald/skaldlaw11.QuorumLeast", spec := "quorumLeast", unfollowed := true, recurses := true, named := ["math/bits.deBruijn64tab"], apart := false, laid := [("math/bits.deBruijn64tab", laid_math_bits_deBruijn64tab)], narrowed := true }
def QuorumLeastUptoSaid : Prop := quorumLeastUptoRow.holds Tryd.pinned (OpenSpec.upto quorumLeastSpec)

/-- 'skaldlaw11.QuorumNodes', WHERE WHAT IT READS IS OF BULK AT MOST 1048576: true; the input reads as it did. -/
def quorumNodesUptoRow : OpenClaim := { program := "ytmbkopeikldonaadoor", sum := "952a2cddc1db639dc3c6191c99ade39e78d4b33afc788040bfce256568d2f8d8", func := "skald/skaldlaw11.QuorumNodes", spec := "quorumNodes", unfollowed := true, recurses := true, named := ["math/bits.deBruijn64tab"], apart := false, laid := [("math/bits.deBruijn64tab", laid_math_bits_deBruijn64tab)], narrowed := true }
def QuorumNodesUptoSaid : Prop := quorumNodesUptoRow.holds Tryd.pinned (OpenSpec.upto quorumNodesSpec)

/-- 'skaldlaw11.QuorumCrashes', WHERE WHAT IT READS IS OF BULK AT MOST 1048576: true; the input reads as it did. -/
def quorumCrashesUptoRow : OpenClaim := { program := "ytmbkopeikldonaadoor", sum := "952a2cddc1db639dc3c6191c99ade39e78d4b33afc788040bfce256568d2f8d8", func := "skald/skaldlaw11.QuorumCrashes", spec := "quorumCrashes", unfollowed := true, recurses := true, named := ["math/bits.deBruijn64tab"], apart := false, laid := [("math/bits.deBruijn64tab", laid_math_bits_deBruijn64tab)], narrowed := true }
def QuorumCrashesUptoSaid : Prop := quorumCrashesUptoRow.holds Tryd.pinned (OpenSpec.upto quorumCrashesSpec)

/-- 'skaldlaw11.QuorumRefuses', WHERE WHAT IT READS IS OF BULK AT MOST 1048576: true; the input reads as it did. -/
def quorumRefusesUptoRow : OpenClaim := { program := "ytmbkopeikldonaadoor", sum := "952a2cddc1db639dc3c6191c99ade39e78d4b33afc788040bfce256568d2f8d8", func := "skald/skaldlaw11.QuorumRefuses", spec := "quorumRefuses", unfollowed := true, recurses := true, named := ["math/bits.deBruijn64tab"], apart := false, laid := [("math/bits.deBruijn64tab", laid_math_bits_deBruijn64tab)], narrowed := true }
def QuorumRefusesUptoSaid : Prop := quorumRefusesUptoRow.holds Tryd.pinned (OpenSpec.upto quorumRefusesSpec)

end Rows
end Go.Proofs.YtmbkopeikldonaaDoor
