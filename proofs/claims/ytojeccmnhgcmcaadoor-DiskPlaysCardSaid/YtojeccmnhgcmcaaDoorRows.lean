/-
  NARROWER THAN 'FOR EVERY INPUT', by the rows' own cells (each row's printed sentence says how): DiskPlays: laid · DiskNil: laid · DiskTorn: laid · DiskAgain: laid · DiskReads: laid · DiskSaves: laid · DiskCopies: laid · DiskKnown: laid.
  DERIVED. THE GIVEN ROWS OF THIS SEAT. 8 by the template 'for every input the law returns true; each argument reads behind the call as it read before'; 0 by the template 'total and deterministic' (their statements: YtojeccmnhgcmcaaDoorTotals.lean).
  GIVEN WITH THE SEED: the statements are not yours to turn. If you find one false, say at which input.
  Laid BY PROGRAM, IN A SANDBOX (cutbox-rows.mjs): the forced cells as the released guide's own fill.sh prints them over the translation 2d7c0d1e47e0664b… (all of the seat's roots in one cut). By AI agents, Wed Nov 11 2026. No macro, syntax, notation, axiom, sorry.
-/
import Derived.Test.YtojeccmnhgcmcaaDoorChecked
import GoSem.Claim
import GoSem.ClaimJoined
import GoSem.ClaimMapViews
import Derived.JoinedTies
import Derived.KernelRfl
namespace Go.Proofs.YtojeccmnhgcmcaaDoor
/- THE CELL 'sum', in the pinned program and in every row, IS THE sha256 OF THE DUMP (.gsa) THAT YtojeccmnhgcmcaaDoorProg.lean LOADS. Nothing in Lean hashes anything: it is a label: what it is worth is what the hold of that sum in a sandbox is worth. -/
noncomputable def Tryd.pinned : Pinned := { name := "ytojeccmnhgcmcaadoor", sum := "2d7c0d1e47e0664b5aa747954ca04bb938815fe5d1f802d5e9af2ca690043b1b", checked := Tryd.checked }
namespace Rows
def none {H : Type} : Left H := { results := [], args := [] }

/- WHAT THE LISTED PACKAGE-LEVEL VARIABLES READ AS WHEN THE CALL BEGINS. Each datum BY PROGRAM (the guide's laid-datum.mjs) off the statement by which the dump's own 'gosem.cut.vars' lays the variable. In a bare row this is a premise. The card (YtojeccmnhgcmcaaDoorCards.lean) ties it to the program's text. -/
def laid_skald_crc_halves {H : Type} : DataW H := .agg [.lit (.int .u32 0), .lit (.int .u32 498536548), .lit (.int .u32 997073096), .lit (.int .u32 651767980), .lit (.int .u32 1994146192), .lit (.int .u32 1802195444), .lit (.int .u32 1303535960), .lit (.int .u32 1342533948), .lit (.int .u32 3988292384), .lit (.int .u32 4027552580), .lit (.int .u32 3604390888), .lit (.int .u32 3412177804), .lit (.int .u32 2607071920), .lit (.int .u32 2262029012), .lit (.int .u32 2685067896), .lit (.int .u32 3183342108)]

/-- 'skaldlaw16.DiskPlays': WHATEVER THE INPUT: true; the input reads as it did. -/
def diskPlaysSpec : ChangeSpec := { name := "diskPlays", fn := fun _ => fun
  | [d] => { results := [.lit (.bool true)], args := [d] }
  | _ => none }
def diskPlaysRow : OpenClaim := { program := "ytojeccmnhgcmcaadoor", sum := "2d7c0d1e47e0664b5aa747954ca04bb938815fe5d1f802d5e9af2ca690043b1b", func := "skald/skaldlaw16.DiskPlays", spec := "diskPlays", unfollowed := true, recurses := true, named := ["skald/crc.halves"], apart := false, laid := [("skald/crc.halves", laid_skald_crc_halves)] }
def DiskPlaysSaid : Prop := diskPlaysRow.holds Tryd.pinned (OpenSpec.ofChange diskPlaysSpec)

/-- ITS FALSE NEIGHBOUR: 'it returns false'. Refute it at one input. -/
def diskPlaysWrong : ChangeSpec := { name := "diskPlays", fn := fun _ => fun
  | [d] => { results := [.lit (.bool false)], args := [d] }
  | _ => none }
def DiskPlaysWrongFalsely : Prop := diskPlaysRow.holds Tryd.pinned (OpenSpec.ofChange diskPlaysWrong)

/-- 'skaldlaw16.DiskNil': WHATEVER THE INPUT: true; the input reads as it did. -/
def diskNilSpec : ChangeSpec := { name := "diskNil", fn := fun _ => fun
  | [d] => { results := [.lit (.bool true)], args := [d] }
  | _ => none }
def diskNilRow : OpenClaim := { program := "ytojeccmnhgcmcaadoor", sum := "2d7c0d1e47e0664b5aa747954ca04bb938815fe5d1f802d5e9af2ca690043b1b", func := "skald/skaldlaw16.DiskNil", spec := "diskNil", unfollowed := true, recurses := true, named := ["skald/crc.halves"], apart := false, laid := [("skald/crc.halves", laid_skald_crc_halves)] }
def DiskNilSaid : Prop := diskNilRow.holds Tryd.pinned (OpenSpec.ofChange diskNilSpec)

/-- ITS FALSE NEIGHBOUR: 'it returns false'. Refute it at one input. -/
def diskNilWrong : ChangeSpec := { name := "diskNil", fn := fun _ => fun
  | [d] => { results := [.lit (.bool false)], args := [d] }
  | _ => none }
def DiskNilWrongFalsely : Prop := diskNilRow.holds Tryd.pinned (OpenSpec.ofChange diskNilWrong)

/-- 'skaldlaw16.DiskTorn': WHATEVER THE INPUT: true; the input reads as it did. -/
def diskTornSpec : ChangeSpec := { name := "diskTorn", fn := fun _ => fun
  | [d1, d2] => { results := [.lit (.bool true)], args := [d1, d2] }
  | _ => none }
def diskTornRow : OpenClaim := { program := "ytojeccmnhgcmcaadoor", sum := "2d7c0d1e47e0664b5aa747954ca04bb938815fe5d1f802d5e9af2ca690043b1b", func := "skald/skaldlaw16.DiskTorn", spec := "diskTorn", unfollowed := true, recurses := true, named := ["skald/crc.halves"], apart := false, laid := [("skald/crc.halves", laid_skald_crc_halves)] }
def DiskTornSaid : Prop := diskTornRow.holds Tryd.pinned (OpenSpec.ofChange diskTornSpec)

/-- ITS FALSE NEIGHBOUR: 'it returns false'. Refute it at one input. -/
def diskTornWrong : ChangeSpec := { name := "diskTorn", fn := fun _ => fun
  | [d1, d2] => { results := [.lit (.bool false)], args := [d1, d2] }
  | _ => none }
def DiskTornWrongFalsely : Prop := diskTornRow.holds Tryd.pinned (OpenSpec.ofChange diskTornWrong)

/-- 'skaldlaw16.DiskAgain': WHATEVER THE INPUT: true; the input reads as it did. -/
def diskAgainSpec : ChangeSpec := { name := "diskAgain", fn := fun _ => fun
  | [d1, d2, d3] => { results := [.lit (.bool true)], args := [d1, d2, d3] }
  | _ => none }
def diskAgainRow : OpenClaim := { program := "ytojeccmnhgcmcaadoor", sum := "2d7c0d1e47e0664b5aa747954ca04bb938815fe5d1f802d5e9af2ca690043b1b", func := "skald/skaldlaw16.DiskAgain", spec := "diskAgain", unfollowed := true, recurses := true, named := ["skald/crc.halves"], apart := false, laid := [("skald/crc.halves", laid_skald_crc_halves)] }
def DiskAgainSaid : Prop := diskAgainRow.holds Tryd.pinned (OpenSpec.ofChange diskAgainSpec)

/-- ITS FALSE NEIGHBOUR: 'it returns false'. Refute it at one input. -/
def diskAgainWrong : ChangeSpec := { name := "diskAgain", fn := fun _ => fun
  | [d1, d2, d3] => { results := [.lit (.bool false)], args := [d1, d2, d3] }
  | _ => none }
def DiskAgainWrongFalsely : Prop := diskAgainRow.holds Tryd.pinned (OpenSpec.ofChange diskAgainWrong)

/-- 'skaldlaw16.DiskReads': WHATEVER THE INPUT: true; the input reads as it did. -/
def diskReadsSpec : ChangeSpec := { name := "diskReads", fn := fun _ => fun
  | [d1, d2] => { results := [.lit (.bool true)], args := [d1, d2] }
  | _ => none }
def diskReadsRow : OpenClaim := { program := "ytojeccmnhgcmcaadoor", sum := "2d7c0d1e47e0664b5aa747954ca04bb938815fe5d1f802d5e9af2ca690043b1b", func := "skald/skaldlaw16.DiskReads", spec := "diskReads", unfollowed := true, recurses := true, named := ["skald/crc.halves"], apart := false, laid := [("skald/crc.halves", laid_skald_crc_halves)] }
def DiskReadsSaid : Prop := diskReadsRow.holds Tryd.pinned (OpenSpec.ofChange diskReadsSpec)

/-- ITS FALSE NEIGHBOUR: 'it returns false'. Refute it at one input. -/
def diskReadsWrong : ChangeSpec := { name := "diskReads", fn := fun _ => fun
  | [d1, d2] => { results := [.lit (.bool false)], args := [d1, d2] }
  | _ => none }
def DiskReadsWrongFalsely : Prop := diskReadsRow.holds Tryd.pinned (OpenSpec.ofChange diskReadsWrong)

/-- 'skaldlaw16.DiskSaves': WHATEVER THE INPUT: true; the input reads as it did. -/
def diskSavesSpec : ChangeSpec := { name := "diskSaves", fn := fun _ => fun
  | [d1, d2, d3] => { results := [.lit (.bool true)], args := [d1, d2, d3] }
  | _ => none }
def diskSavesRow : OpenClaim := { program := "ytojeccmnhgcmcaadoor", sum := "2d7c0d1e47e0664b5aa747954ca04bb938815fe5d1f802d5e9af2ca690043b1b", func := "skald/skaldlaw16.DiskSaves", spec := "diskSaves", unfollowed := true, recurses := true, named := ["skald/crc.halves"], apart := false, laid := [("skald/crc.halves", laid_skald_crc_halves)] }
def DiskSavesSaid : Prop := diskSavesRow.holds Tryd.pinned (OpenSpec.ofChange diskSavesSpec)

/-- ITS FALSE NEIGHBOUR: 'it returns false'. Refute it at one input. -/
def diskSavesWrong : ChangeSpec := { name := "diskSaves", fn := fun _ => fun
  | [d1, d2, d3] => { results := [.lit (.bool false)], args := [d1, d2, d3] }
  | _ => none }
def DiskSavesWrongFalsely : Prop := diskSavesRow.holds Tryd.pinned (OpenSpec.ofChange diskSavesWrong)

/-- 'skaldlaw16.DiskCopies': WHATEVER THE INPUT: true; the input reads as it did. -/
def diskCopiesSpec : ChangeSpec := { name := "diskCopies", fn := fun _ => fun
  | [d1, d2] => { results := [.lit (.bool true)], args := [d1, d2] }
  | _ => none }
def diskCopiesRow : OpenClaim := { program := "ytojeccmnhgcmcaadoor", sum := "2d7c0d1e47e0664b5aa747954ca04bb938815fe5d1f802d5e9af2ca690043b1b", func := "skald/skaldlaw16.DiskCopies", spec := "diskCopies", unfollowed := true, recurses := true, named := ["skald/crc.halves"], apart := false, laid := [("skald/crc.halves", laid_skald_crc_halves)] }
def DiskCopiesSaid : Prop := diskCopiesRow.holds Tryd.pinned (OpenSpec.ofChange diskCopiesSpec)

/-- ITS FALSE NEIGHBOUR: 'it returns false'. Refute it at one input. -/
def diskCopiesWrong : ChangeSpec := { name := "diskCopies", fn := fun _ => fun
  | [d1, d2] => { results := [.lit (.bool false)], args := [d1, d2] }
  | _ => none }
def DiskCopiesWrongFalsely : Prop := diskCopiesRow.holds Tryd.pinned (OpenSpec.ofChange diskCopiesWrong)

/-- 'skaldlaw16.DiskKnown': WHATEVER THE INPUT: true; the input reads as it did. -/
def diskKnownSpec : ChangeSpec := { name := "diskKnown", fn := fun _ => fun
  | [] => { results := [.lit (.bool true)], args := [] }
  | _ => none }
def diskKnownRow : OpenClaim := { program := "ytojeccmnhgcmcaadoor", sum := "2d7c0d1e47e0664b5aa747954ca04bb938815fe5d1f802d5e9af2ca690043b1b", func := "skald/skaldlaw16.DiskKnown", spec := "diskKnown", unfollowed := true, recurses := true, named := ["skald/crc.halves"], apart := false, laid := [("skald/crc.halves", laid_skald_crc_halves)] }
def DiskKnownSaid : Prop := diskKnownRow.holds Tryd.pinned (OpenSpec.ofChange diskKnownSpec)

/-- ITS FALSE NEIGHBOUR: 'it returns false'. Refute it at one input. -/
def diskKnownWrong : ChangeSpec := { name := "diskKnown", fn := fun _ => fun
  | [] => { results := [.lit (.bool false)], args := [] }
  | _ => none }
def DiskKnownWrongFalsely : Prop := diskKnownRow.holds Tryd.pinned (OpenSpec.ofChange diskKnownWrong)

/- THE SECOND FORM. 'bulk': how many values and letters a reading holds, each counted each time it is reached (what is shared counts as often as it is met; a slice's spare places count too). A statement '..UptoSaid' is the law's where the arguments, and the package variables that the reading takes, are together of bulk at most 1048576: NARROWER than '..Said'. Prove '..Said' where nothing that the law and all that it calls make is longer than what came in: it says more and counts as full. Else prove '..UptoSaid'. A law counts once. -/
mutual
def uptoBulk {H : Type} : DataW H → Nat
  | .lit (.string bytes) => bytes.length + 1
  | .lit _ => 1
  | .nil => 1
  | .ptr d => uptoBulk d + 1
  | .slice elems spare => uptoBulkAll elems + uptoBulkAll spare + 1
  | .agg parts => uptoBulkAll parts + 1
  | .iface _ d => uptoBulk d + 1
  | .map entries => uptoBulkEntries entries + 1
  | .held _ => 1
def uptoBulkAll {H : Type} : List (DataW H) → Nat
  | [] => 0
  | d :: r => uptoBulk d + uptoBulkAll r
def uptoBulkEntries {H : Type} : List (Lit × DataW H) → Nat
  | [] => 0
  | x :: r => uptoBulkEntry x + uptoBulkEntries r
def uptoBulkEntry {H : Type} : Lit × DataW H → Nat
  | (.string bytes, d) => bytes.length + uptoBulk d + 1
  | (_, d) => uptoBulk d + 1
 end
def uptoSmall : (H : Type) → List (DataW H) → Bool := fun _ ds => decide (uptoBulkAll ds ≤ 1048576)
def OpenSpec.upto (s : _root_.Go.ChangeSpec) : _root_.Go.OpenSpec := { _root_.Go.OpenSpec.ofChange s with cond := some uptoSmall }

/-- 'skaldlaw16.DiskPlays', WHERE WHAT IT READS IS OF BULK AT MOST 1048576: true; the input reads as it did. -/
def diskPlaysUptoRow : OpenClaim := { program := "ytojeccmnhgcmcaadoor", sum := "2d7c0d1e47e0664b5aa747954ca04bb938815fe5d1f802d5e9af2ca690043b1b", func := "skald/skaldlaw16.DiskPlays", spec := "diskPlays", unfollowed := true, recurses := true, named := ["skald/crc.halves"], apart := false, laid := [("skald/crc.halves", laid_skald_crc_halves)], narrowed := true }
def DiskPlaysUptoSaid : Prop := diskPlaysUptoRow.holds Tryd.pinned (OpenSpec.upto diskPlaysSpec)

/-- 'skaldlaw16.DiskNil', WHERE WHAT IT READS IS OF BULK AT MOST 1048576: true; the input reads as it did. -/
def diskNilUptoRow : OpenClaim := { program := "ytojeccmnhgcmcaadoor", sum := "2d7c0d1e47e0664b5aa747954ca04bb938815fe5d1f802d5e9af2ca690043b1b", func := "skald/skaldlaw16.DiskNil", spec := "diskNil", unfollowed := true, recurses := true, named := ["skald/crc.halves"], apart := false, laid := [("skald/crc.halves", laid_skald_crc_halves)], narrowed := true }
def DiskNilUptoSaid : Prop := diskNilUptoRow.holds Tryd.pinned (OpenSpec.upto diskNilSpec)

/-- 'skaldlaw16.DiskTorn', WHERE WHAT IT READS IS OF BULK AT MOST 1048576: true; the input reads as it did. -/
def diskTornUptoRow : OpenClaim := { program := "ytojeccmnhgcmcaadoor", sum := "2d7c0d1e47e0664b5aa747954ca04bb938815fe5d1f802d5e9af2ca690043b1b", func := "skald/skaldlaw16.DiskTorn", spec := "diskTorn", unfollowed := true, recurses := true, named := ["skald/crc.halves"], apart := false, laid := [("skald/crc.halves", laid_skald_crc_halves)], narrowed := true }
def DiskTornUptoSaid : Prop := diskTornUptoRow.holds Tryd.pinned (OpenSpec.upto diskTornSpec)

/-- 'skaldlaw16.DiskAgain', WHERE WHAT IT READS IS OF BULK AT MOST 1048576: true; the input reads as it did. -/
def diskAgainUptoRow : OpenClaim := { program := "ytojeccmnhgcmcaadoor", sum := "2d7c0d1e47e0664b5aa747954ca04bb938815fe5d1f802d5e9af2ca690043b1b", func := "skald/skaldlaw16.DiskAgain", spec := "diskAgain", unfollowed := true, recurses := true, named := ["skald/crc.halves"], apart := false, laid := [("skald/crc.halves", laid_skald_crc_halves)], narrowed := true }
def DiskAgainUptoSaid : Prop := diskAgainUptoRow.holds Tryd.pinned (OpenSpec.upto diskAgainSpec)

/-- 'skaldlaw16.DiskReads', WHERE WHAT IT READS IS OF BULK AT MOST 1048576: true; the input reads as it did. -/
def diskReadsUptoRow : OpenClaim := { program := "ytojeccmnhgcmcaadoor", sum := "2d7c0d1e47e0664b5aa747954ca04bb938815fe5d1f802d5e9af2ca690043b1b", func := "skald/skaldlaw16.DiskReads", spec := "diskReads", unfollowed := true, recurses := true, named := ["skald/crc.halves"], apart := false, laid := [("skald/crc.halves", laid_skald_crc_halves)], narrowed := true }
def DiskReadsUptoSaid : Prop := diskReadsUptoRow.holds Tryd.pinned (OpenSpec.upto diskReadsSpec)

/-- 'skaldlaw16.DiskSaves', WHERE WHAT IT READS IS OF BULK AT MOST 1048576: true; the input reads as it did. -/
def diskSavesUptoRow : OpenClaim := { program := "ytojeccmnhgcmcaadoor", sum := "2d7c0d1e47e0664b5aa747954ca04bb938815fe5d1f802d5e9af2ca690043b1b", func := "skald/skaldlaw16.DiskSaves", spec := "diskSaves", unfollowed := true, recurses := true, named := ["skald/crc.halves"], apart := false, laid := [("skald/crc.halves", laid_skald_crc_halves)], narrowed := true }
def DiskSavesUptoSaid : Prop := diskSavesUptoRow.holds Tryd.pinned (OpenSpec.upto diskSavesSpec)

/-- 'skaldlaw16.DiskCopies', WHERE WHAT IT READS IS OF BULK AT MOST 1048576: true; the input reads as it did. -/
def diskCopiesUptoRow : OpenClaim := { program := "ytojeccmnhgcmcaadoor", sum := "2d7c0d1e47e0664b5aa747954ca04bb938815fe5d1f802d5e9af2ca690043b1b", func := "skald/skaldlaw16.DiskCopies", spec := "diskCopies", unfollowed := true, recurses := true, named := ["skald/crc.halves"], apart := false, laid := [("skald/crc.halves", laid_skald_crc_halves)], narrowed := true }
def DiskCopiesUptoSaid : Prop := diskCopiesUptoRow.holds Tryd.pinned (OpenSpec.upto diskCopiesSpec)

/-- 'skaldlaw16.DiskKnown', WHERE WHAT IT READS IS OF BULK AT MOST 1048576: true; the input reads as it did. -/
def diskKnownUptoRow : OpenClaim := { program := "ytojeccmnhgcmcaadoor", sum := "2d7c0d1e47e0664b5aa747954ca04bb938815fe5d1f802d5e9af2ca690043b1b", func := "skald/skaldlaw16.DiskKnown", spec := "diskKnown", unfollowed := true, recurses := true, named := ["skald/crc.halves"], apart := false, laid := [("skald/crc.halves", laid_skald_crc_halves)], narrowed := true }
def DiskKnownUptoSaid : Prop := diskKnownUptoRow.holds Tryd.pinned (OpenSpec.upto diskKnownSpec)

end Rows
end Go.Proofs.YtojeccmnhgcmcaaDoor
