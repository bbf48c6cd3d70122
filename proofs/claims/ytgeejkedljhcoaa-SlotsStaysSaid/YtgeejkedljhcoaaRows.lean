/-
  No cell of these rows narrows 'for every input' (looked for: loops, veiled, ifaces, maps, wideKeys, modest, calm, conditions, laid).
  DERIVED. THE GIVEN ROWS OF THIS SEAT. 8 by the template 'for every input the law returns true; each argument reads behind the call as it read before'; 0 by the template 'total and deterministic' (their statements: YtgeejkedljhcoaaTotals.lean).
  GIVEN WITH THE SEED: the statements are not yours to turn. If you find one false, say at which input.
  Laid BY PROGRAM, IN A SANDBOX (cutbox-rows.mjs): the forced cells as the released guide's own fill.sh prints them over the translation 6039c637d500fa1c… (all of the seat's roots in one cut). By AI agents, Wed Nov 11 2026. No macro, syntax, notation, axiom, sorry.
-/
import Derived.Test.YtgeejkedljhcoaaChecked
import GoSem.Claim
import GoSem.ClaimJoined
import GoSem.ClaimMapViews
import Derived.JoinedTies
import Derived.KernelRfl
namespace Go.Proofs.Ytgeejkedljhcoaa
/- THE CELL 'sum', in the pinned program and in every row, IS THE sha256 OF THE DUMP (.gsa) THAT YtgeejkedljhcoaaProg.lean LOADS. Nothing in Lean hashes anything: it is a label: what it is worth is what the hold of that sum in a sandbox is worth. -/
noncomputable def Try.pinned : Pinned := { name := "ytgeejkedljhcoaa", sum := "6039c637d500fa1c3c4547c9de8047f65b5c7bdba5f4cc1e442347dddaf595fe", checked := Try.checked }
namespace Rows
def none {H : Type} : Left H := { results := [], args := [] }

/-- 'skaldlaw15.SlotsPlays': WHATEVER THE INPUT: true; the input reads as it did. -/
def slotsPlaysSpec : ChangeSpec := { name := "slotsPlays", fn := fun _ => fun
  | [d1, d2] => { results := [.lit (.bool true)], args := [d1, d2] }
  | _ => none }
def slotsPlaysRow : OpenClaim := { program := "ytgeejkedljhcoaa", sum := "6039c637d500fa1c3c4547c9de8047f65b5c7bdba5f4cc1e442347dddaf595fe", func := "skald/skaldlaw15.SlotsPlays", spec := "slotsPlays", inPlace := ["maps.clone"], unfollowed := true, recurses := true, apart := false }
def SlotsPlaysSaid : Prop := slotsPlaysRow.holds Try.pinned (OpenSpec.ofChange slotsPlaysSpec)

/-- ITS FALSE NEIGHBOUR: 'it returns false'. Refute it at one input. -/
def slotsPlaysWrong : ChangeSpec := { name := "slotsPlays", fn := fun _ => fun
  | [d1, d2] => { results := [.lit (.bool false)], args := [d1, d2] }
  | _ => none }
def SlotsPlaysWrongFalsely : Prop := slotsPlaysRow.holds Try.pinned (OpenSpec.ofChange slotsPlaysWrong)

/-- 'skaldlaw15.SlotsNil': WHATEVER THE INPUT: true; the input reads as it did. -/
def slotsNilSpec : ChangeSpec := { name := "slotsNil", fn := fun _ => fun
  | [d1, d2] => { results := [.lit (.bool true)], args := [d1, d2] }
  | _ => none }
def slotsNilRow : OpenClaim := { program := "ytgeejkedljhcoaa", sum := "6039c637d500fa1c3c4547c9de8047f65b5c7bdba5f4cc1e442347dddaf595fe", func := "skald/skaldlaw15.SlotsNil", spec := "slotsNil", inPlace := ["maps.clone"], unfollowed := true, recurses := true, apart := false }
def SlotsNilSaid : Prop := slotsNilRow.holds Try.pinned (OpenSpec.ofChange slotsNilSpec)

/-- ITS FALSE NEIGHBOUR: 'it returns false'. Refute it at one input. -/
def slotsNilWrong : ChangeSpec := { name := "slotsNil", fn := fun _ => fun
  | [d1, d2] => { results := [.lit (.bool false)], args := [d1, d2] }
  | _ => none }
def SlotsNilWrongFalsely : Prop := slotsNilRow.holds Try.pinned (OpenSpec.ofChange slotsNilWrong)

/-- 'skaldlaw15.SlotsNever': WHATEVER THE INPUT: true; the input reads as it did. -/
def slotsNeverSpec : ChangeSpec := { name := "slotsNever", fn := fun _ => fun
  | [d] => { results := [.lit (.bool true)], args := [d] }
  | _ => none }
def slotsNeverRow : OpenClaim := { program := "ytgeejkedljhcoaa", sum := "6039c637d500fa1c3c4547c9de8047f65b5c7bdba5f4cc1e442347dddaf595fe", func := "skald/skaldlaw15.SlotsNever", spec := "slotsNever", unfollowed := true, recurses := true, apart := false }
def SlotsNeverSaid : Prop := slotsNeverRow.holds Try.pinned (OpenSpec.ofChange slotsNeverSpec)

/-- ITS FALSE NEIGHBOUR: 'it returns false'. Refute it at one input. -/
def slotsNeverWrong : ChangeSpec := { name := "slotsNever", fn := fun _ => fun
  | [d] => { results := [.lit (.bool false)], args := [d] }
  | _ => none }
def SlotsNeverWrongFalsely : Prop := slotsNeverRow.holds Try.pinned (OpenSpec.ofChange slotsNeverWrong)

/-- 'skaldlaw15.SlotsCounts': WHATEVER THE INPUT: true; the input reads as it did. -/
def slotsCountsSpec : ChangeSpec := { name := "slotsCounts", fn := fun _ => fun
  | [d1, d2] => { results := [.lit (.bool true)], args := [d1, d2] }
  | _ => none }
def slotsCountsRow : OpenClaim := { program := "ytgeejkedljhcoaa", sum := "6039c637d500fa1c3c4547c9de8047f65b5c7bdba5f4cc1e442347dddaf595fe", func := "skald/skaldlaw15.SlotsCounts", spec := "slotsCounts", inPlace := ["internal/abi.NoEscape", "internal/bytealg.MakeNoZero"], unfollowed := true, recurses := true, apart := false }
def SlotsCountsSaid : Prop := slotsCountsRow.holds Try.pinned (OpenSpec.ofChange slotsCountsSpec)

/-- ITS FALSE NEIGHBOUR: 'it returns false'. Refute it at one input. -/
def slotsCountsWrong : ChangeSpec := { name := "slotsCounts", fn := fun _ => fun
  | [d1, d2] => { results := [.lit (.bool false)], args := [d1, d2] }
  | _ => none }
def SlotsCountsWrongFalsely : Prop := slotsCountsRow.holds Try.pinned (OpenSpec.ofChange slotsCountsWrong)

/-- 'skaldlaw15.SlotsOrder': WHATEVER THE INPUT: true; the input reads as it did. -/
def slotsOrderSpec : ChangeSpec := { name := "slotsOrder", fn := fun _ => fun
  | [d] => { results := [.lit (.bool true)], args := [d] }
  | _ => none }
def slotsOrderRow : OpenClaim := { program := "ytgeejkedljhcoaa", sum := "6039c637d500fa1c3c4547c9de8047f65b5c7bdba5f4cc1e442347dddaf595fe", func := "skald/skaldlaw15.SlotsOrder", spec := "slotsOrder", unfollowed := true, recurses := true, apart := false }
def SlotsOrderSaid : Prop := slotsOrderRow.holds Try.pinned (OpenSpec.ofChange slotsOrderSpec)

/-- ITS FALSE NEIGHBOUR: 'it returns false'. Refute it at one input. -/
def slotsOrderWrong : ChangeSpec := { name := "slotsOrder", fn := fun _ => fun
  | [d] => { results := [.lit (.bool false)], args := [d] }
  | _ => none }
def SlotsOrderWrongFalsely : Prop := slotsOrderRow.holds Try.pinned (OpenSpec.ofChange slotsOrderWrong)

/-- 'skaldlaw15.SlotsJumps': WHATEVER THE INPUT: true; the input reads as it did. -/
def slotsJumpsSpec : ChangeSpec := { name := "slotsJumps", fn := fun _ => fun
  | [d1, d2] => { results := [.lit (.bool true)], args := [d1, d2] }
  | _ => none }
def slotsJumpsRow : OpenClaim := { program := "ytgeejkedljhcoaa", sum := "6039c637d500fa1c3c4547c9de8047f65b5c7bdba5f4cc1e442347dddaf595fe", func := "skald/skaldlaw15.SlotsJumps", spec := "slotsJumps", inPlace := ["maps.clone"], unfollowed := true, recurses := true, apart := false }
def SlotsJumpsSaid : Prop := slotsJumpsRow.holds Try.pinned (OpenSpec.ofChange slotsJumpsSpec)

/-- ITS FALSE NEIGHBOUR: 'it returns false'. Refute it at one input. -/
def slotsJumpsWrong : ChangeSpec := { name := "slotsJumps", fn := fun _ => fun
  | [d1, d2] => { results := [.lit (.bool false)], args := [d1, d2] }
  | _ => none }
def SlotsJumpsWrongFalsely : Prop := slotsJumpsRow.holds Try.pinned (OpenSpec.ofChange slotsJumpsWrong)

/-- 'skaldlaw15.SlotsStays': WHATEVER THE INPUT: true; the input reads as it did. -/
def slotsStaysSpec : ChangeSpec := { name := "slotsStays", fn := fun _ => fun
  | [d1, d2] => { results := [.lit (.bool true)], args := [d1, d2] }
  | _ => none }
def slotsStaysRow : OpenClaim := { program := "ytgeejkedljhcoaa", sum := "6039c637d500fa1c3c4547c9de8047f65b5c7bdba5f4cc1e442347dddaf595fe", func := "skald/skaldlaw15.SlotsStays", spec := "slotsStays", inPlace := ["maps.clone"], unfollowed := true, recurses := true, apart := false }
def SlotsStaysSaid : Prop := slotsStaysRow.holds Try.pinned (OpenSpec.ofChange slotsStaysSpec)

/-- ITS FALSE NEIGHBOUR: 'it returns false'. Refute it at one input. -/
def slotsStaysWrong : ChangeSpec := { name := "slotsStays", fn := fun _ => fun
  | [d1, d2] => { results := [.lit (.bool false)], args := [d1, d2] }
  | _ => none }
def SlotsStaysWrongFalsely : Prop := slotsStaysRow.holds Try.pinned (OpenSpec.ofChange slotsStaysWrong)

/-- 'skaldlaw15.SlotsFull': WHATEVER THE INPUT: true; the input reads as it did. -/
def slotsFullSpec : ChangeSpec := { name := "slotsFull", fn := fun _ => fun
  | [] => { results := [.lit (.bool true)], args := [] }
  | _ => none }
def slotsFullRow : OpenClaim := { program := "ytgeejkedljhcoaa", sum := "6039c637d500fa1c3c4547c9de8047f65b5c7bdba5f4cc1e442347dddaf595fe", func := "skald/skaldlaw15.SlotsFull", spec := "slotsFull", inPlace := ["internal/abi.NoEscape", "internal/bytealg.MakeNoZero"], unfollowed := true, recurses := true, apart := false }
def SlotsFullSaid : Prop := slotsFullRow.holds Try.pinned (OpenSpec.ofChange slotsFullSpec)

/-- ITS FALSE NEIGHBOUR: 'it returns false'. Refute it at one input. -/
def slotsFullWrong : ChangeSpec := { name := "slotsFull", fn := fun _ => fun
  | [] => { results := [.lit (.bool false)], args := [] }
  | _ => none }
def SlotsFullWrongFalsely : Prop := slotsFullRow.holds Try.pinned (OpenSpec.ofChange slotsFullWrong)

/- THE SECOND FORM. 'bulk': how many values and letters a reading holds, each counted each time it is reached (what is shared counts as often as it is met; a slice's spare places count too). A statement '..UptoSaid' is the law's where the arguments, and the package variables that the reading takes, are together of bulk at most 1048576: NARROWER than '..Said'. Prove '..Said' where nothing that the law and all that it calls make is longer than what came in: it says more and counts as full. Else prove '..UptoSaid'. A law counts once. -/
mutual
def uptoBulk {H : Type} : DataW H → Nat
  | .lit (.string bytes) => bytes.length + 1
  | .lit _ => 1
  | .nil => 1
  | .ptr d => uptoBulk d + 1
  | .slice elems spare => uptoBulkAll elems + uptoBulkAll spare + 1
  | .agg parts => uptoBulkAll parts + 1
  | .iface _ d => uptoBulk d + 1
  | .map entries => uptoBulkEntries entries + 1
  | .held _ => 1
def uptoBulkAll {H : Type} : List (DataW H) → Nat
  | [] => 0
  | d :: r => uptoBulk d + uptoBulkAll r
def uptoBulkEntries {H : Type} : List (Lit × DataW H) → Nat
  | [] => 0
  | x :: r => uptoBulkEntry x + uptoBulkEntries r
def uptoBulkEntry {H : Type} : Lit × DataW H → Nat
  | (.string bytes, d) => bytes.length + uptoBulk d + 1
  | (_, d) => uptoBulk d + 1
 end
def uptoSmall : (H : Type) → List (DataW H) → Bool := fun _ ds => decide (uptoBulkAll ds ≤ 1048576)
def OpenSpec.upto (s : _root_.Go.ChangeSpec) : _root_.Go.OpenSpec := { _root_.Go.OpenSpec.ofChange s with cond := some uptoSmall }

/-- 'skaldlaw15.SlotsPlays', WHERE WHAT IT READS IS OF BULK AT MOST 1048576: true; the input reads as it did. -/
def slotsPlaysUptoRow : OpenClaim := { program := "ytgeejkedljhcoaa", sum := "6039c637d500fa1c3c4547c9de8047f65b5c7bdba5f4cc1e442347dddaf595fe", func := "skald/skaldlaw15.SlotsPlays", spec := "slotsPlays", inPlace := ["maps.clone"], unfollowed := true, recurses := true, apart := false, narrowed := true }
def SlotsPlaysUptoSaid : Prop := slotsPlaysUptoRow.holds Try.pinned (OpenSpec.upto slotsPlaysSpec)

/-- 'skaldlaw15.SlotsNil', WHERE WHAT IT READS IS OF BULK AT MOST 1048576: true; the input reads as it did. -/
def slotsNilUptoRow : OpenClaim := { program := "ytgeejkedljhcoaa", sum := "6039c637d500fa1c3c4547c9de8047f65b5c7bdba5f4cc1e442347dddaf595fe", func := "skald/skaldlaw15.SlotsNil", spec := "slotsNil", inPlace := ["maps.clone"], unfollowed := true, recurses := true, apart := false, narrowed := true }
def SlotsNilUptoSaid : Prop := slotsNilUptoRow.holds Try.pinned (OpenSpec.upto slotsNilSpec)

/-- 'skaldlaw15.SlotsNever', WHERE WHAT IT READS IS OF BULK AT MOST 1048576: true; the input reads as it did. -/
def slotsNeverUptoRow : OpenClaim := { program := "ytgeejkedljhcoaa", sum := "6039c637d500fa1c3c4547c9de8047f65b5c7bdba5f4cc1e442347dddaf595fe", func := "skald/skaldlaw15.SlotsNever", spec := "slotsNever", unfollowed := true, recurses := true, apart := false, narrowed := true }
def SlotsNeverUptoSaid : Prop := slotsNeverUptoRow.holds Try.pinned (OpenSpec.upto slotsNeverSpec)

/-- 'skaldlaw15.SlotsCounts', WHERE WHAT IT READS IS OF BULK AT MOST 1048576: true; the input reads as it did. -/
def slotsCountsUptoRow : OpenClaim := { program := "ytgeejkedljhcoaa", sum := "6039c637d500fa1c3c4547c9de8047f65b5c7bdba5f4cc1e442347dddaf595fe", func := "skald/skaldlaw15.SlotsCounts", spec := "slotsCounts", inPlace := ["internal/abi.NoEscape", "internal/bytealg.MakeNoZero"], unfollowed := true, recurses := true, apart := false, narrowed := true }
def SlotsCountsUptoSaid : Prop := slotsCountsUptoRow.holds Try.pinned (OpenSpec.upto slotsCountsSpec)

/-- 'skaldlaw15.SlotsOrder', WHERE WHAT IT READS IS OF BULK AT MOST 1048576: true; the input reads as it did. -/
def slotsOrderUptoRow : OpenClaim := { program := "ytgeejkedljhcoaa", sum := "6039c637d500fa1c3c4547c9de8047f65b5c7bdba5f4cc1e442347dddaf595fe", func := "skald/skaldlaw15.SlotsOrder", spec := "slotsOrder", unfollowed := true, recurses := true, apart := false, narrowed := true }
def SlotsOrderUptoSaid : Prop := slotsOrderUptoRow.holds Try.pinned (OpenSpec.upto slotsOrderSpec)

/-- 'skaldlaw15.SlotsJumps', WHERE WHAT IT READS IS OF BULK AT MOST 1048576: true; the input reads as it did. -/
def slotsJumpsUptoRow : OpenClaim := { program := "ytgeejkedljhcoaa", sum := "6039c637d500fa1c3c4547c9de8047f65b5c7bdba5f4cc1e442347dddaf595fe", func := "skald/skaldlaw15.SlotsJumps", spec := "slotsJumps", inPlace := ["maps.clone"], unfollowed := true, recurses := true, apart := false, narrowed := true }
def SlotsJumpsUptoSaid : Prop := slotsJumpsUptoRow.holds Try.pinned (OpenSpec.upto slotsJumpsSpec)

/-- 'skaldlaw15.SlotsStays', WHERE WHAT IT READS IS OF BULK AT MOST 1048576: true; the input reads as it did. -/
def slotsStaysUptoRow : OpenClaim := { program := "ytgeejkedljhcoaa", sum := "6039c637d500fa1c3c4547c9de8047f65b5c7bdba5f4cc1e442347dddaf595fe", func := "skald/skaldlaw15.SlotsStays", spec := "slotsStays", inPlace := ["maps.clone"], unfollowed := true, recurses := true, apart := false, narrowed := true }
def SlotsStaysUptoSaid : Prop := slotsStaysUptoRow.holds Try.pinned (OpenSpec.upto slotsStaysSpec)

/-- 'skaldlaw15.SlotsFull', WHERE WHAT IT READS IS OF BULK AT MOST 1048576: true; the input reads as it did. -/
def slotsFullUptoRow : OpenClaim := { program := "ytgeejkedljhcoaa", sum := "6039c637d500fa1c3c4547c9de8047f65b5c7bdba5f4cc1e442347dddaf595fe", func := "skald/skaldlaw15.SlotsFull", spec := "slotsFull", inPlace := ["internal/abi.NoEscape", "internal/bytealg.MakeNoZero"], unfollowed := true, recurses := true, apart := false, narrowed := true }
def SlotsFullUptoSaid : Prop := slotsFullUptoRow.holds Try.pinned (OpenSpec.upto slotsFullSpec)

end Rows
end Go.Proofs.Ytgeejkedljhcoaa
