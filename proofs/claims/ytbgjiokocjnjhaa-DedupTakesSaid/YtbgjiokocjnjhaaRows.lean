/-
  No cell of these rows narrows 'for every input' (looked for: loops, veiled, ifaces, maps, wideKeys, modest, calm, conditions, laid).
  DERIVED. THE GIVEN ROWS OF THIS SEAT. 8 by the template 'for every input the law returns true; each argument reads behind the call as it read before'; 0 by the template 'total and deterministic' (their statements: YtbgjiokocjnjhaaTotals.lean).
  GIVEN WITH THE SEED: the statements are not yours to turn. If you find one false, say at which input.
  Laid BY PROGRAM, IN A SANDBOX (cutbox-rows.mjs): the forced cells as the released guide's own fill.sh prints them over the translation ea75ba29874b97c8… (all of the seat's roots in one cut). By AI agents, Wed Nov 11 2026. No macro, syntax, notation, axiom, sorry.
-/
import Derived.Test.YtbgjiokocjnjhaaChecked
import GoSem.Claim
import GoSem.ClaimJoined
import GoSem.ClaimMapViews
import Derived.JoinedTies
import Derived.KernelRfl
namespace Go.Proofs.Ytbgjiokocjnjhaa
/- THE CELL 'sum', in the pinned program and in every row, IS THE sha256 OF THE DUMP (.gsa) THAT YtbgjiokocjnjhaaProg.lean LOADS. Nothing in Lean hashes anything: it is a label: what it is worth is what the hold of that sum in a sandbox is worth. -/
noncomputable def Try.pinned : Pinned := { name := "ytbgjiokocjnjhaa", sum := "ea75ba29874b97c862fb79fe4740bcf275db27800b8256ac78f955d030b8f1af", checked := Try.checked }
namespace Rows
def none {H : Type} : Left H := { results := [], args := [] }

/-- 'skaldlaw09.DedupSizes': WHATEVER THE INPUT: true; the input reads as it did. -/
def dedupSizesSpec : ChangeSpec := { name := "dedupSizes", fn := fun _ => fun
  | [d1, d2, d3] => { results := [.lit (.bool true)], args := [d1, d2, d3] }
  | _ => none }
def dedupSizesRow : OpenClaim := { program := "ytbgjiokocjnjhaa", sum := "ea75ba29874b97c862fb79fe4740bcf275db27800b8256ac78f955d030b8f1af", func := "skald/skaldlaw09.DedupSizes", spec := "dedupSizes", inPlace := ["slices.overlaps[skald/dedup.entry]"], unfollowed := true, recurses := true, plainKeys := false, apart := false }
def DedupSizesSaid : Prop := dedupSizesRow.holds Try.pinned (OpenSpec.ofChange dedupSizesSpec)

/-- ITS FALSE NEIGHBOUR: 'it returns false'. Refute it at one input. -/
def dedupSizesWrong : ChangeSpec := { name := "dedupSizes", fn := fun _ => fun
  | [d1, d2, d3] => { results := [.lit (.bool false)], args := [d1, d2, d3] }
  | _ => none }
def DedupSizesWrongFalsely : Prop := dedupSizesRow.holds Try.pinned (OpenSpec.ofChange dedupSizesWrong)

/-- 'skaldlaw09.DedupPlays': WHATEVER THE INPUT: true; the input reads as it did. -/
def dedupPlaysSpec : ChangeSpec := { name := "dedupPlays", fn := fun _ => fun
  | [d1, d2, d3] => { results := [.lit (.bool true)], args := [d1, d2, d3] }
  | _ => none }
def dedupPlaysRow : OpenClaim := { program := "ytbgjiokocjnjhaa", sum := "ea75ba29874b97c862fb79fe4740bcf275db27800b8256ac78f955d030b8f1af", func := "skald/skaldlaw09.DedupPlays", spec := "dedupPlays", inPlace := ["slices.overlaps[skald/dedup.entry]"], unfollowed := true, recurses := true, plainKeys := false, apart := false }
def DedupPlaysSaid : Prop := dedupPlaysRow.holds Try.pinned (OpenSpec.ofChange dedupPlaysSpec)

/-- ITS FALSE NEIGHBOUR: 'it returns false'. Refute it at one input. -/
def dedupPlaysWrong : ChangeSpec := { name := "dedupPlays", fn := fun _ => fun
  | [d1, d2, d3] => { results := [.lit (.bool false)], args := [d1, d2, d3] }
  | _ => none }
def DedupPlaysWrongFalsely : Prop := dedupPlaysRow.holds Try.pinned (OpenSpec.ofChange dedupPlaysWrong)

/-- 'skaldlaw09.DedupOnce': WHATEVER THE INPUT: true; the input reads as it did. -/
def dedupOnceSpec : ChangeSpec := { name := "dedupOnce", fn := fun _ => fun
  | [d1, d2] => { results := [.lit (.bool true)], args := [d1, d2] }
  | _ => none }
def dedupOnceRow : OpenClaim := { program := "ytbgjiokocjnjhaa", sum := "ea75ba29874b97c862fb79fe4740bcf275db27800b8256ac78f955d030b8f1af", func := "skald/skaldlaw09.DedupOnce", spec := "dedupOnce", inPlace := ["internal/abi.NoEscape", "internal/bytealg.MakeNoZero", "slices.overlaps[skald/dedup.entry]"], unfollowed := true, recurses := true, plainKeys := false, apart := false }
def DedupOnceSaid : Prop := dedupOnceRow.holds Try.pinned (OpenSpec.ofChange dedupOnceSpec)

/-- ITS FALSE NEIGHBOUR: 'it returns false'. Refute it at one input. -/
def dedupOnceWrong : ChangeSpec := { name := "dedupOnce", fn := fun _ => fun
  | [d1, d2] => { results := [.lit (.bool false)], args := [d1, d2] }
  | _ => none }
def DedupOnceWrongFalsely : Prop := dedupOnceRow.holds Try.pinned (OpenSpec.ofChange dedupOnceWrong)

/-- 'skaldlaw09.DedupTakes': WHATEVER THE INPUT: true; the input reads as it did. -/
def dedupTakesSpec : ChangeSpec := { name := "dedupTakes", fn := fun _ => fun
  | [d1, d2, d3] => { results := [.lit (.bool true)], args := [d1, d2, d3] }
  | _ => none }
def dedupTakesRow : OpenClaim := { program := "ytbgjiokocjnjhaa", sum := "ea75ba29874b97c862fb79fe4740bcf275db27800b8256ac78f955d030b8f1af", func := "skald/skaldlaw09.DedupTakes", spec := "dedupTakes", inPlace := ["internal/abi.NoEscape", "internal/bytealg.MakeNoZero", "slices.overlaps[skald/dedup.entry]"], unfollowed := true, recurses := true, plainKeys := false, apart := false }
def DedupTakesSaid : Prop := dedupTakesRow.holds Try.pinned (OpenSpec.ofChange dedupTakesSpec)

/-- ITS FALSE NEIGHBOUR: 'it returns false'. Refute it at one input. -/
def dedupTakesWrong : ChangeSpec := { name := "dedupTakes", fn := fun _ => fun
  | [d1, d2, d3] => { results := [.lit (.bool false)], args := [d1, d2, d3] }
  | _ => none }
def DedupTakesWrongFalsely : Prop := dedupTakesRow.holds Try.pinned (OpenSpec.ofChange dedupTakesWrong)

/-- 'skaldlaw09.DedupParts': WHATEVER THE INPUT: true; the input reads as it did. -/
def dedupPartsSpec : ChangeSpec := { name := "dedupParts", fn := fun _ => fun
  | [d1, d2, d3, d4] => { results := [.lit (.bool true)], args := [d1, d2, d3, d4] }
  | _ => none }
def dedupPartsRow : OpenClaim := { program := "ytbgjiokocjnjhaa", sum := "ea75ba29874b97c862fb79fe4740bcf275db27800b8256ac78f955d030b8f1af", func := "skald/skaldlaw09.DedupParts", spec := "dedupParts", inPlace := ["internal/abi.NoEscape", "internal/bytealg.MakeNoZero", "slices.overlaps[skald/dedup.entry]"], unfollowed := true, recurses := true, plainKeys := false, apart := false }
def DedupPartsSaid : Prop := dedupPartsRow.holds Try.pinned (OpenSpec.ofChange dedupPartsSpec)

/-- ITS FALSE NEIGHBOUR: 'it returns false'. Refute it at one input. -/
def dedupPartsWrong : ChangeSpec := { name := "dedupParts", fn := fun _ => fun
  | [d1, d2, d3, d4] => { results := [.lit (.bool false)], args := [d1, d2, d3, d4] }
  | _ => none }
def DedupPartsWrongFalsely : Prop := dedupPartsRow.holds Try.pinned (OpenSpec.ofChange dedupPartsWrong)

/-- 'skaldlaw09.DedupRefuses': WHATEVER THE INPUT: true; the input reads as it did. -/
def dedupRefusesSpec : ChangeSpec := { name := "dedupRefuses", fn := fun _ => fun
  | [d1, d2, d3] => { results := [.lit (.bool true)], args := [d1, d2, d3] }
  | _ => none }
def dedupRefusesRow : OpenClaim := { program := "ytbgjiokocjnjhaa", sum := "ea75ba29874b97c862fb79fe4740bcf275db27800b8256ac78f955d030b8f1af", func := "skald/skaldlaw09.DedupRefuses", spec := "dedupRefuses", inPlace := ["internal/abi.NoEscape", "internal/bytealg.MakeNoZero", "slices.overlaps[skald/dedup.entry]"], unfollowed := true, recurses := true, plainKeys := false, apart := false }
def DedupRefusesSaid : Prop := dedupRefusesRow.holds Try.pinned (OpenSpec.ofChange dedupRefusesSpec)

/-- ITS FALSE NEIGHBOUR: 'it returns false'. Refute it at one input. -/
def dedupRefusesWrong : ChangeSpec := { name := "dedupRefuses", fn := fun _ => fun
  | [d1, d2, d3] => { results := [.lit (.bool false)], args := [d1, d2, d3] }
  | _ => none }
def DedupRefusesWrongFalsely : Prop := dedupRefusesRow.holds Try.pinned (OpenSpec.ofChange dedupRefusesWrong)

/-- 'skaldlaw09.DedupLong': WHATEVER THE INPUT: true; the input reads as it did. -/
def dedupLongSpec : ChangeSpec := { name := "dedupLong", fn := fun _ => fun
  | [d] => { results := [.lit (.bool true)], args := [d] }
  | _ => none }
def dedupLongRow : OpenClaim := { program := "ytbgjiokocjnjhaa", sum := "ea75ba29874b97c862fb79fe4740bcf275db27800b8256ac78f955d030b8f1af", func := "skald/skaldlaw09.DedupLong", spec := "dedupLong", inPlace := ["internal/abi.NoEscape", "internal/bytealg.MakeNoZero", "slices.overlaps[skald/dedup.entry]"], unfollowed := true, recurses := true, plainKeys := false, apart := false }
def DedupLongSaid : Prop := dedupLongRow.holds Try.pinned (OpenSpec.ofChange dedupLongSpec)

/-- ITS FALSE NEIGHBOUR: 'it returns false'. Refute it at one input. -/
def dedupLongWrong : ChangeSpec := { name := "dedupLong", fn := fun _ => fun
  | [d] => { results := [.lit (.bool false)], args := [d] }
  | _ => none }
def DedupLongWrongFalsely : Prop := dedupLongRow.holds Try.pinned (OpenSpec.ofChange dedupLongWrong)

/-- 'skaldlaw09.DedupNil': WHATEVER THE INPUT: true; the input reads as it did. -/
def dedupNilSpec : ChangeSpec := { name := "dedupNil", fn := fun _ => fun
  | [d1, d2] => { results := [.lit (.bool true)], args := [d1, d2] }
  | _ => none }
def dedupNilRow : OpenClaim := { program := "ytbgjiokocjnjhaa", sum := "ea75ba29874b97c862fb79fe4740bcf275db27800b8256ac78f955d030b8f1af", func := "skald/skaldlaw09.DedupNil", spec := "dedupNil", inPlace := ["slices.overlaps[skald/dedup.entry]"], unfollowed := true, recurses := true, plainKeys := false, apart := false }
def DedupNilSaid : Prop := dedupNilRow.holds Try.pinned (OpenSpec.ofChange dedupNilSpec)

/-- ITS FALSE NEIGHBOUR: 'it returns false'. Refute it at one input. -/
def dedupNilWrong : ChangeSpec := { name := "dedupNil", fn := fun _ => fun
  | [d1, d2] => { results := [.lit (.bool false)], args := [d1, d2] }
  | _ => none }
def DedupNilWrongFalsely : Prop := dedupNilRow.holds Try.pinned (OpenSpec.ofChange dedupNilWrong)

/- THE SECOND FORM. 'bulk': how many values and letters a reading holds, each counted each time it is reached (what is shared counts as often as it is met; a slice's spare places count too). A statement '..UptoSaid' is the law's where the arguments, and the package variables that the reading takes, are together of bulk at most 1048576: NARROWER than '..Said'. Prove '..Said' where nothing that the law and all that it calls make is longer than what came in: it says more and counts as full. Else prove '..UptoSaid'. A law counts once. -/
mutual
def uptoBulk {H : Type} : DataW H → Nat
  | .lit (.string bytes) => bytes.length + 1
  | .lit _ => 1
  | .nil => 1
  | .ptr d => uptoBulk d + 1
  | .slice elems spare => uptoBulkAll elems + uptoBulkAll spare + 1
  | .agg parts => uptoBulkAll parts + 1
  | .iface _ d => uptoBulk d + 1
  | .map entries => uptoBulkEntries entries + 1
  | .held _ => 1
def uptoBulkAll {H : Type} : List (DataW H) → Nat
  | [] => 0
  | d :: r => uptoBulk d + uptoBulkAll r
def uptoBulkEntries {H : Type} : List (Lit × DataW H) → Nat
  | [] => 0
  | x :: r => uptoBulkEntry x + uptoBulkEntries r
def uptoBulkEntry {H : Type} : Lit × DataW H → Nat
  | (.string bytes, d) => bytes.length + uptoBulk d + 1
  | (_, d) => uptoBulk d + 1
 end
def uptoSmall : (H : Type) → List (DataW H) → Bool := fun _ ds => decide (uptoBulkAll ds ≤ 1048576)
def OpenSpec.upto (s : _root_.Go.ChangeSpec) : _root_.Go.OpenSpec := { _root_.Go.OpenSpec.ofChange s with cond := some uptoSmall }

/-- 'skaldlaw09.DedupSizes', WHERE WHAT IT READS IS OF BULK AT MOST 1048576: true; the input reads as it did. -/
def dedupSizesUptoRow : OpenClaim := { program := "ytbgjiokocjnjhaa", sum := "ea75ba29874b97c862fb79fe4740bcf275db27800b8256ac78f955d030b8f1af", func := "skald/skaldlaw09.DedupSizes", spec := "dedupSizes", inPlace := ["slices.overlaps[skald/dedup.entry]"], unfollowed := true, recurses := true, plainKeys := false, apart := false, narrowed := true }
def DedupSizesUptoSaid : Prop := dedupSizesUptoRow.holds Try.pinned (OpenSpec.upto dedupSizesSpec)

/-- 'skaldlaw09.DedupPlays', WHERE WHAT IT READS IS OF BULK AT MOST 1048576: true; the input reads as it did. -/
def dedupPlaysUptoRow : OpenClaim := { program := "ytbgjiokocjnjhaa", sum := "ea75ba29874b97c862fb79fe4740bcf275db27800b8256ac78f955d030b8f1af", func := "skald/skaldlaw09.DedupPlays", spec := "dedupPlays", inPlace := ["slices.overlaps[skald/dedup.entry]"], unfollowed := true, recurses := true, plainKeys := false, apart := false, narrowed := true }
def DedupPlaysUptoSaid : Prop := dedupPlaysUptoRow.holds Try.pinned (OpenSpec.upto dedupPlaysSpec)

/-- 'skaldlaw09.DedupOnce', WHERE WHAT IT READS IS OF BULK AT MOST 1048576: true; the input reads as it did. -/
def dedupOnceUptoRow : OpenClaim := { program := "ytbgjiokocjnjhaa", sum := "ea75ba29874b97c862fb79fe4740bcf275db27800b8256ac78f955d030b8f1af", func := "skald/skaldlaw09.DedupOnce", spec := "dedupOnce", inPlace := ["internal/abi.NoEscape", "internal/bytealg.MakeNoZero", "slices.overlaps[skald/dedup.entry]"], unfollowed := true, recurses := true, plainKeys := false, apart := false, narrowed := true }
def DedupOnceUptoSaid : Prop := dedupOnceUptoRow.holds Try.pinned (OpenSpec.upto dedupOnceSpec)

/-- 'skaldlaw09.DedupTakes', WHERE WHAT IT READS IS OF BULK AT MOST 1048576: true; the input reads as it did. -/
def dedupTakesUptoRow : OpenClaim := { program := "ytbgjiokocjnjhaa", sum := "ea75ba29874b97c862fb79fe4740bcf275db27800b8256ac78f955d030b8f1af", func := "skald/skaldlaw09.DedupTakes", spec := "dedupTakes", inPlace := ["internal/abi.NoEscape", "internal/bytealg.MakeNoZero", "slices.overlaps[skald/dedup.entry]"], unfollowed := true, recurses := true, plainKeys := false, apart := false, narrowed := true }
def DedupTakesUptoSaid : Prop := dedupTakesUptoRow.holds Try.pinned (OpenSpec.upto dedupTakesSpec)

/-- 'skaldlaw09.DedupParts', WHERE WHAT IT READS IS OF BULK AT MOST 1048576: true; the input reads as it did. -/
def dedupPartsUptoRow : OpenClaim := { program := "ytbgjiokocjnjhaa", sum := "ea75ba29874b97c862fb79fe4740bcf275db27800b8256ac78f955d030b8f1af", func := "skald/skaldlaw09.DedupParts", spec := "dedupParts", inPlace := ["internal/abi.NoEscape", "internal/bytealg.MakeNoZero", "slices.overlaps[skald/dedup.entry]"], unfollowed := true, recurses := true, plainKeys := false, apart := false, narrowed := true }
def DedupPartsUptoSaid : Prop := dedupPartsUptoRow.holds Try.pinned (OpenSpec.upto dedupPartsSpec)

/-- 'skaldlaw09.DedupRefuses', WHERE WHAT IT READS IS OF BULK AT MOST 1048576: true; the input reads as it did. -/
def dedupRefusesUptoRow : OpenClaim := { program := "ytbgjiokocjnjhaa", sum := "ea75ba29874b97c862fb79fe4740bcf275db27800b8256ac78f955d030b8f1af", func := "skald/skaldlaw09.DedupRefuses", spec := "dedupRefuses", inPlace := ["internal/abi.NoEscape", "internal/bytealg.MakeNoZero", "slices.overlaps[skald/dedup.entry]"], unfollowed := true, recurses := true, plainKeys := false, apart := false, narrowed := true }
def DedupRefusesUptoSaid : Prop := dedupRefusesUptoRow.holds Try.pinned (OpenSpec.upto dedupRefusesSpec)

/-- 'skaldlaw09.DedupLong', WHERE WHAT IT READS IS OF BULK AT MOST 1048576: true; the input reads as it did. -/
def dedupLongUptoRow : OpenClaim := { program := "ytbgjiokocjnjhaa", sum := "ea75ba29874b97c862fb79fe4740bcf275db27800b8256ac78f955d030b8f1af", func := "skald/skaldlaw09.DedupLong", spec := "dedupLong", inPlace := ["internal/abi.NoEscape", "internal/bytealg.MakeNoZero", "slices.overlaps[skald/dedup.entry]"], unfollowed := true, recurses := true, plainKeys := false, apart := false, narrowed := true }
def DedupLongUptoSaid : Prop := dedupLongUptoRow.holds Try.pinned (OpenSpec.upto dedupLongSpec)

/-- 'skaldlaw09.DedupNil', WHERE WHAT IT READS IS OF BULK AT MOST 1048576: true; the input reads as it did. -/
def dedupNilUptoRow : OpenClaim := { program := "ytbgjiokocjnjhaa", sum := "ea75ba29874b97c862fb79fe4740bcf275db27800b8256ac78f955d030b8f1af", func := "skald/skaldlaw09.DedupNil", spec := "dedupNil", inPlace := ["slices.overlaps[skald/dedup.entry]"], unfollowed := true, recurses := true, plainKeys := false, apart := false, narrowed := true }
def DedupNilUptoSaid : Prop := dedupNilUptoRow.holds Try.pinned (OpenSpec.upto dedupNilSpec)

end Rows
end Go.Proofs.Ytbgjiokocjnjhaa
