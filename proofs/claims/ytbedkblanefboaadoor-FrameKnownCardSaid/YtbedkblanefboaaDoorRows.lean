/-
  NARROWER THAN 'FOR EVERY INPUT', by the rows' own cells (each row's printed sentence says how): FrameMakes: laid · FrameReads: laid · FrameTorn: laid · FrameChanged: laid · FrameParts: laid · FrameJoins: laid · FrameAny: laid · FrameKnown: laid.
  DERIVED. THE GIVEN ROWS OF THIS SEAT. 8 by the template 'for every input the law returns true; each argument reads behind the call as it read before'; 0 by the template 'total and deterministic' (their statements: YtbedkblanefboaaDoorTotals.lean).
  GIVEN WITH THE SEED: the statements are not yours to turn. If you find one false, say at which input.
  Laid BY PROGRAM, IN A SANDBOX (cutbox-rows.mjs): the forced cells as the released guide's own fill.sh prints them over the translation a74634ae80458388… (all of the seat's roots in one cut). By AI agents, Wed Nov 11 2026. No macro, syntax, notation, axiom, sorry.
-/
import Derived.Test.YtbedkblanefboaaDoorChecked
import GoSem.Claim
import GoSem.ClaimJoined
import GoSem.ClaimMapViews
import Derived.JoinedTies
import Derived.KernelRfl
namespace Go.Proofs.YtbedkblanefboaaDoor
/- THE CELL 'sum', in the pinned program and in every row, IS THE sha256 OF THE DUMP (.gsa) THAT YtbedkblanefboaaDoorProg.lean LOADS. Nothing in Lean hashes anything: it is a label: what it is worth is what the hold of that sum in a sandbox is worth. -/
noncomputable def Tryd.pinned : Pinned := { name := "ytbedkblanefboaadoor", sum := "a74634ae804583885cc5cc648cf35d47f83b914a90789a8dd2b5cbdd856354ba", checked := Tryd.checked }
namespace Rows
def none {H : Type} : Left H := { results := [], args := [] }

/- WHAT THE LISTED PACKAGE-LEVEL VARIABLES READ AS WHEN THE CALL BEGINS. Each datum BY PROGRAM (the guide's laid-datum.mjs) off the statement by which the dump's own 'gosem.cut.vars' lays the variable. In a bare row this is a premise. The card (YtbedkblanefboaaDoorCards.lean) ties it to the program's text. -/
def laid_skald_crc_halves {H : Type} : DataW H := .agg [.lit (.int .u32 0), .lit (.int .u32 498536548), .lit (.int .u32 997073096), .lit (.int .u32 651767980), .lit (.int .u32 1994146192), .lit (.int .u32 1802195444), .lit (.int .u32 1303535960), .lit (.int .u32 1342533948), .lit (.int .u32 3988292384), .lit (.int .u32 4027552580), .lit (.int .u32 3604390888), .lit (.int .u32 3412177804), .lit (.int .u32 2607071920), .lit (.int .u32 2262029012), .lit (.int .u32 2685067896), .lit (.int .u32 3183342108)]

/-- 'skaldlaw04.FrameMakes': WHATEVER THE INPUT: true; the input reads as it did. -/
def frameMakesSpec : ChangeSpec := { name := "frameMakes", fn := fun _ => fun
  | [d1, d2] => { results := [.lit (.bool true)], args := [d1, d2] }
  | _ => none }
def frameMakesRow : OpenClaim := { program := "ytbedkblanefboaadoor", sum := "a74634ae804583885cc5cc648cf35d47f83b914a90789a8dd2b5cbdd856354ba", func := "skald/skaldlaw04.FrameMakes", spec := "frameMakes", unfollowed := true, recurses := true, named := ["skald/crc.halves"], apart := false, laid := [("skald/crc.halves", laid_skald_crc_halves)] }
def FrameMakesSaid : Prop := frameMakesRow.holds Tryd.pinned (OpenSpec.ofChange frameMakesSpec)

/-- ITS FALSE NEIGHBOUR: 'it returns false'. Refute it at one input. -/
def frameMakesWrong : ChangeSpec := { name := "frameMakes", fn := fun _ => fun
  | [d1, d2] => { results := [.lit (.bool false)], args := [d1, d2] }
  | _ => none }
def FrameMakesWrongFalsely : Prop := frameMakesRow.holds Tryd.pinned (OpenSpec.ofChange frameMakesWrong)

/-- 'skaldlaw04.FrameReads': WHATEVER THE INPUT: true; the input reads as it did. -/
def frameReadsSpec : ChangeSpec := { name := "frameReads", fn := fun _ => fun
  | [d1, d2, d3] => { results := [.lit (.bool true)], args := [d1, d2, d3] }
  | _ => none }
def frameReadsRow : OpenClaim := { program := "ytbedkblanefboaadoor", sum := "a74634ae804583885cc5cc648cf35d47f83b914a90789a8dd2b5cbdd856354ba", func := "skald/skaldlaw04.FrameReads", spec := "frameReads", unfollowed := true, recurses := true, named := ["skald/crc.halves"], apart := false, laid := [("skald/crc.halves", laid_skald_crc_halves)] }
def FrameReadsSaid : Prop := frameReadsRow.holds Tryd.pinned (OpenSpec.ofChange frameReadsSpec)

/-- ITS FALSE NEIGHBOUR: 'it returns false'. Refute it at one input. -/
def frameReadsWrong : ChangeSpec := { name := "frameReads", fn := fun _ => fun
  | [d1, d2, d3] => { results := [.lit (.bool false)], args := [d1, d2, d3] }
  | _ => none }
def FrameReadsWrongFalsely : Prop := frameReadsRow.holds Tryd.pinned (OpenSpec.ofChange frameReadsWrong)

/-- 'skaldlaw04.FrameTorn': WHATEVER THE INPUT: true; the input reads as it did. -/
def frameTornSpec : ChangeSpec := { name := "frameTorn", fn := fun _ => fun
  | [d1, d2] => { results := [.lit (.bool true)], args := [d1, d2] }
  | _ => none }
def frameTornRow : OpenClaim := { program := "ytbedkblanefboaadoor", sum := "a74634ae804583885cc5cc648cf35d47f83b914a90789a8dd2b5cbdd856354ba", func := "skald/skaldlaw04.FrameTorn", spec := "frameTorn", unfollowed := true, recurses := true, named := ["skald/crc.halves"], apart := false, laid := [("skald/crc.halves", laid_skald_crc_halves)] }
def FrameTornSaid : Prop := frameTornRow.holds Tryd.pinned (OpenSpec.ofChange frameTornSpec)

/-- ITS FALSE NEIGHBOUR: 'it returns false'. Refute it at one input. -/
def frameTornWrong : ChangeSpec := { name := "frameTorn", fn := fun _ => fun
  | [d1, d2] => { results := [.lit (.bool false)], args := [d1, d2] }
  | _ => none }
def FrameTornWrongFalsely : Prop := frameTornRow.holds Tryd.pinned (OpenSpec.ofChange frameTornWrong)

/-- 'skaldlaw04.FrameChanged': WHATEVER THE INPUT: true; the input reads as it did. -/
def frameChangedSpec : ChangeSpec := { name := "frameChanged", fn := fun _ => fun
  | [d1, d2, d3, d4] => { results := [.lit (.bool true)], args := [d1, d2, d3, d4] }
  | _ => none }
def frameChangedRow : OpenClaim := { program := "ytbedkblanefboaadoor", sum := "a74634ae804583885cc5cc648cf35d47f83b914a90789a8dd2b5cbdd856354ba", func := "skald/skaldlaw04.FrameChanged", spec := "frameChanged", unfollowed := true, recurses := true, named := ["skald/crc.halves"], apart := false, laid := [("skald/crc.halves", laid_skald_crc_halves)] }
def FrameChangedSaid : Prop := frameChangedRow.holds Tryd.pinned (OpenSpec.ofChange frameChangedSpec)

/-- ITS FALSE NEIGHBOUR: 'it returns false'. Refute it at one input. -/
def frameChangedWrong : ChangeSpec := { name := "frameChanged", fn := fun _ => fun
  | [d1, d2, d3, d4] => { results := [.lit (.bool false)], args := [d1, d2, d3, d4] }
  | _ => none }
def FrameChangedWrongFalsely : Prop := frameChangedRow.holds Tryd.pinned (OpenSpec.ofChange frameChangedWrong)

/-- 'skaldlaw04.FrameParts': WHATEVER THE INPUT: true; the input reads as it did. -/
def framePartsSpec : ChangeSpec := { name := "frameParts", fn := fun _ => fun
  | [d] => { results := [.lit (.bool true)], args := [d] }
  | _ => none }
def framePartsRow : OpenClaim := { program := "ytbedkblanefboaadoor", sum := "a74634ae804583885cc5cc648cf35d47f83b914a90789a8dd2b5cbdd856354ba", func := "skald/skaldlaw04.FrameParts", spec := "frameParts", unfollowed := true, recurses := true, named := ["skald/crc.halves"], apart := false, laid := [("skald/crc.halves", laid_skald_crc_halves)] }
def FramePartsSaid : Prop := framePartsRow.holds Tryd.pinned (OpenSpec.ofChange framePartsSpec)

/-- ITS FALSE NEIGHBOUR: 'it returns false'. Refute it at one input. -/
def framePartsWrong : ChangeSpec := { name := "frameParts", fn := fun _ => fun
  | [d] => { results := [.lit (.bool false)], args := [d] }
  | _ => none }
def FramePartsWrongFalsely : Prop := framePartsRow.holds Tryd.pinned (OpenSpec.ofChange framePartsWrong)

/-- 'skaldlaw04.FrameJoins': WHATEVER THE INPUT: true; the input reads as it did. -/
def frameJoinsSpec : ChangeSpec := { name := "frameJoins", fn := fun _ => fun
  | [d1, d2] => { results := [.lit (.bool true)], args := [d1, d2] }
  | _ => none }
def frameJoinsRow : OpenClaim := { program := "ytbedkblanefboaadoor", sum := "a74634ae804583885cc5cc648cf35d47f83b914a90789a8dd2b5cbdd856354ba", func := "skald/skaldlaw04.FrameJoins", spec := "frameJoins", unfollowed := true, recurses := true, named := ["skald/crc.halves"], apart := false, laid := [("skald/crc.halves", laid_skald_crc_halves)] }
def FrameJoinsSaid : Prop := frameJoinsRow.holds Tryd.pinned (OpenSpec.ofChange frameJoinsSpec)

/-- ITS FALSE NEIGHBOUR: 'it returns false'. Refute it at one input. -/
def frameJoinsWrong : ChangeSpec := { name := "frameJoins", fn := fun _ => fun
  | [d1, d2] => { results := [.lit (.bool false)], args := [d1, d2] }
  | _ => none }
def FrameJoinsWrongFalsely : Prop := frameJoinsRow.holds Tryd.pinned (OpenSpec.ofChange frameJoinsWrong)

/-- 'skaldlaw04.FrameAny': WHATEVER THE INPUT: true; the input reads as it did. -/
def frameAnySpec : ChangeSpec := { name := "frameAny", fn := fun _ => fun
  | [d] => { results := [.lit (.bool true)], args := [d] }
  | _ => none }
def frameAnyRow : OpenClaim := { program := "ytbedkblanefboaadoor", sum := "a74634ae804583885cc5cc648cf35d47f83b914a90789a8dd2b5cbdd856354ba", func := "skald/skaldlaw04.FrameAny", spec := "frameAny", unfollowed := true, recurses := true, named := ["skald/crc.halves"], apart := false, laid := [("skald/crc.halves", laid_skald_crc_halves)] }
def FrameAnySaid : Prop := frameAnyRow.holds Tryd.pinned (OpenSpec.ofChange frameAnySpec)

/-- ITS FALSE NEIGHBOUR: 'it returns false'. Refute it at one input. -/
def frameAnyWrong : ChangeSpec := { name := "frameAny", fn := fun _ => fun
  | [d] => { results := [.lit (.bool false)], args := [d] }
  | _ => none }
def FrameAnyWrongFalsely : Prop := frameAnyRow.holds Tryd.pinned (OpenSpec.ofChange frameAnyWrong)

/-- 'skaldlaw04.FrameKnown': WHATEVER THE INPUT: true; the input reads as it did. -/
def frameKnownSpec : ChangeSpec := { name := "frameKnown", fn := fun _ => fun
  | [] => { results := [.lit (.bool true)], args := [] }
  | _ => none }
def frameKnownRow : OpenClaim := { program := "ytbedkblanefboaadoor", sum := "a74634ae804583885cc5cc648cf35d47f83b914a90789a8dd2b5cbdd856354ba", func := "skald/skaldlaw04.FrameKnown", spec := "frameKnown", unfollowed := true, recurses := true, named := ["skald/crc.halves"], apart := false, laid := [("skald/crc.halves", laid_skald_crc_halves)] }
def FrameKnownSaid : Prop := frameKnownRow.holds Tryd.pinned (OpenSpec.ofChange frameKnownSpec)

/-- ITS FALSE NEIGHBOUR: 'it returns false'. Refute it at one input. -/
def frameKnownWrong : ChangeSpec := { name := "frameKnown", fn := fun _ => fun
  | [] => { results := [.lit (.bool false)], args := [] }
  | _ => none }
def FrameKnownWrongFalsely : Prop := frameKnownRow.holds Tryd.pinned (OpenSpec.ofChange frameKnownWrong)

/- THE SECOND FORM. 'bulk': how many values and letters a reading holds, each counted each time it is reached (what is shared counts as often as it is met; a slice's spare places count too). A statement '..UptoSaid' is the law's where the arguments, and the package variables that the reading takes, are together of bulk at most 1048576: NARROWER than '..Said'. Prove '..Said' where nothing that the law and all that it calls make is longer than what came in: it says more and counts as full. Else prove '..UptoSaid'. A law counts once. -/
mutual
def uptoBulk {H : Type} : DataW H → Nat
  | .lit (.string bytes) => bytes.length + 1
  | .lit _ => 1
  | .nil => 1
  | .ptr d => uptoBulk d + 1
  | .slice elems spare => uptoBulkAll elems + uptoBulkAll spare + 1
  | .agg parts => uptoBulkAll parts + 1
  | .iface _ d => uptoBulk d + 1
  | .map entries => uptoBulkEntries entries + 1
  | .held _ => 1
def uptoBulkAll {H : Type} : List (DataW H) → Nat
  | [] => 0
  | d :: r => uptoBulk d + uptoBulkAll r
def uptoBulkEntries {H : Type} : List (Lit × DataW H) → Nat
  | [] => 0
  | x :: r => uptoBulkEntry x + uptoBulkEntries r
def uptoBulkEntry {H : Type} : Lit × DataW H → Nat
  | (.string bytes, d) => bytes.length + uptoBulk d + 1
  | (_, d) => uptoBulk d + 1
 end
def uptoSmall : (H : Type) → List (DataW H) → Bool := fun _ ds => decide (uptoBulkAll ds ≤ 1048576)
def OpenSpec.upto (s : _root_.Go.ChangeSpec) : _root_.Go.OpenSpec := { _root_.Go.OpenSpec.ofChange s with cond := some uptoSmall }

/-- 'skaldlaw04.FrameMakes', WHERE WHAT IT READS IS OF BULK AT MOST 1048576: true; the input reads as it did. -/
def frameMakesUptoRow : OpenClaim := { program := "ytbedkblanefboaadoor", sum := "a74634ae804583885cc5cc648cf35d47f83b914a90789a8dd2b5cbdd856354ba", func := "skald/skaldlaw04.FrameMakes", spec := "frameMakes", unfollowed := true, recurses := true, named := ["skald/crc.halves"], apart := false, laid := [("skald/crc.halves", laid_skald_crc_halves)], narrowed := true }
def FrameMakesUptoSaid : Prop := frameMakesUptoRow.holds Tryd.pinned (OpenSpec.upto frameMakesSpec)

/-- 'skaldlaw04.FrameReads', WHERE WHAT IT READS IS OF BULK AT MOST 1048576: true; the input reads as it did. -/
def frameReadsUptoRow : OpenClaim := { program := "ytbedkblanefboaadoor", sum := "a74634ae804583885cc5cc648cf35d47f83b914a90789a8dd2b5cbdd856354ba", func := "skald/skaldlaw04.FrameReads", spec := "frameReads", unfollowed := true, recurses := true, named := ["skald/crc.halves"], apart := false, laid := [("skald/crc.halves", laid_skald_crc_halves)], narrowed := true }
def FrameReadsUptoSaid : Prop := frameReadsUptoRow.holds Tryd.pinned (OpenSpec.upto frameReadsSpec)

/-- 'skaldlaw04.FrameTorn', WHERE WHAT IT READS IS OF BULK AT MOST 1048576: true; the input reads as it did. -/
def frameTornUptoRow : OpenClaim := { program := "ytbedkblanefboaadoor", sum := "a74634ae804583885cc5cc648cf35d47f83b914a90789a8dd2b5cbdd856354ba", func := "skald/skaldlaw04.FrameTorn", spec := "frameTorn", unfollowed := true, recurses := true, named := ["skald/crc.halves"], apart := false, laid := [("skald/crc.halves", laid_skald_crc_halves)], narrowed := true }
def FrameTornUptoSaid : Prop := frameTornUptoRow.holds Tryd.pinned (OpenSpec.upto frameTornSpec)

/-- 'skaldlaw04.FrameChanged', WHERE WHAT IT READS IS OF BULK AT MOST 1048576: true; the input reads as it did. -/
def frameChangedUptoRow : OpenClaim := { program := "ytbedkblanefboaadoor", sum := "a74634ae804583885cc5cc648cf35d47f83b914a90789a8dd2b5cbdd856354ba", func := "skald/skaldlaw04.FrameChanged", spec := "frameChanged", unfollowed := true, recurses := true, named := ["skald/crc.halves"], apart := false, laid := [("skald/crc.halves", laid_skald_crc_halves)], narrowed := true }
def FrameChangedUptoSaid : Prop := frameChangedUptoRow.holds Tryd.pinned (OpenSpec.upto frameChangedSpec)

/-- 'skaldlaw04.FrameParts', WHERE WHAT IT READS IS OF BULK AT MOST 1048576: true; the input reads as it did. -/
def framePartsUptoRow : OpenClaim := { program := "ytbedkblanefboaadoor", sum := "a74634ae804583885cc5cc648cf35d47f83b914a90789a8dd2b5cbdd856354ba", func := "skald/skaldlaw04.FrameParts", spec := "frameParts", unfollowed := true, recurses := true, named := ["skald/crc.halves"], apart := false, laid := [("skald/crc.halves", laid_skald_crc_halves)], narrowed := true }
def FramePartsUptoSaid : Prop := framePartsUptoRow.holds Tryd.pinned (OpenSpec.upto framePartsSpec)

/-- 'skaldlaw04.FrameJoins', WHERE WHAT IT READS IS OF BULK AT MOST 1048576: true; the input reads as it did. -/
def frameJoinsUptoRow : OpenClaim := { program := "ytbedkblanefboaadoor", sum := "a74634ae804583885cc5cc648cf35d47f83b914a90789a8dd2b5cbdd856354ba", func := "skald/skaldlaw04.FrameJoins", spec := "frameJoins", unfollowed := true, recurses := true, named := ["skald/crc.halves"], apart := false, laid := [("skald/crc.halves", laid_skald_crc_halves)], narrowed := true }
def FrameJoinsUptoSaid : Prop := frameJoinsUptoRow.holds Tryd.pinned (OpenSpec.upto frameJoinsSpec)

/-- 'skaldlaw04.FrameAny', WHERE WHAT IT READS IS OF BULK AT MOST 1048576: true; the input reads as it did. -/
def frameAnyUptoRow : OpenClaim := { program := "ytbedkblanefboaadoor", sum := "a74634ae804583885cc5cc648cf35d47f83b914a90789a8dd2b5cbdd856354ba", func := "skald/skaldlaw04.FrameAny", spec := "frameAny", unfollowed := true, recurses := true, named := ["skald/crc.halves"], apart := false, laid := [("skald/crc.halves", laid_skald_crc_halves)], narrowed := true }
def FrameAnyUptoSaid : Prop := frameAnyUptoRow.holds Tryd.pinned (OpenSpec.upto frameAnySpec)

/-- 'skaldlaw04.FrameKnown', WHERE WHAT IT READS IS OF BULK AT MOST 1048576: true; the input reads as it did. -/
def frameKnownUptoRow : OpenClaim := { program := "ytbedkblanefboaadoor", sum := "a74634ae804583885cc5cc648cf35d47f83b914a90789a8dd2b5cbdd856354ba", func := "skald/skaldlaw04.FrameKnown", spec := "frameKnown", unfollowed := true, recurses := true, named := ["skald/crc.halves"], apart := false, laid := [("skald/crc.halves", laid_skald_crc_halves)], narrowed := true }
def FrameKnownUptoSaid : Prop := frameKnownUptoRow.holds Tryd.pinned (OpenSpec.upto frameKnownSpec)

end Rows
end Go.Proofs.YtbedkblanefboaaDoor
