/-
  NARROWER THAN 'FOR EVERY INPUT', by the rows' own cells (each row's printed sentence says how): CrcSums: laid · CrcJoins: laid · CrcTexts: laid · CrcParts: laid · CrcBursts: laid · CrcThree: laid · CrcOrder: laid · CrcRefuses: laid · CrcTables: laid · CrcBack: laid.
  DERIVED. THE GIVEN ROWS OF THIS SEAT. 10 by the template 'for every input the law returns true; each argument reads behind the call as it read before'; 0 by the template 'total and deterministic' (their statements: YtnpkdieblejliaaDoorTotals.lean).
  GIVEN WITH THE SEED: the statements are not yours to turn. If you find one false, say at which input.
  Laid BY PROGRAM, IN A SANDBOX (cutbox-rows.mjs): the forced cells as the released guide's own fill.sh prints them over the translation 00ae0a09cf52473a… (all of the seat's roots in one cut). By AI agents, Wed Nov 11 2026. No macro, syntax, notation, axiom, sorry.
-/
import Derived.Test.YtnpkdieblejliaaDoorChecked
import GoSem.Claim
import GoSem.ClaimJoined
import GoSem.ClaimMapViews
import Derived.JoinedTies
import Derived.KernelRfl
namespace Go.Proofs.YtnpkdieblejliaaDoor
/- THE CELL 'sum', in the pinned program and in every row, IS THE sha256 OF THE DUMP (.gsa) THAT YtnpkdieblejliaaDoorProg.lean LOADS. Nothing in Lean hashes anything: it is a label: what it is worth is what the hold of that sum in a sandbox is worth. -/
noncomputable def Tryd.pinned : Pinned := { name := "ytnpkdieblejliaadoor", sum := "00ae0a09cf52473a6416ed3e1260290d65e2d5ca1a7d74d6ee28ff8e1a2ae9db", checked := Tryd.checked }
namespace Rows
def none {H : Type} : Left H := { results := [], args := [] }

/- WHAT THE LISTED PACKAGE-LEVEL VARIABLES READ AS WHEN THE CALL BEGINS. Each datum BY PROGRAM (the guide's laid-datum.mjs) off the statement by which the dump's own 'gosem.cut.vars' lays the variable. In a bare row this is a premise. The card (YtnpkdieblejliaaDoorCards.lean) ties it to the program's text. -/
def laid_skald_crc_halves {H : Type} : DataW H := .agg [.lit (.int .u32 0), .lit (.int .u32 498536548), .lit (.int .u32 997073096), .lit (.int .u32 651767980), .lit (.int .u32 1994146192), .lit (.int .u32 1802195444), .lit (.int .u32 1303535960), .lit (.int .u32 1342533948), .lit (.int .u32 3988292384), .lit (.int .u32 4027552580), .lit (.int .u32 3604390888), .lit (.int .u32 3412177804), .lit (.int .u32 2607071920), .lit (.int .u32 2262029012), .lit (.int .u32 2685067896), .lit (.int .u32 3183342108)]

/-- 'skaldlaw02.CrcSums': WHATEVER THE INPUT: true; the input reads as it did. -/
def crcSumsSpec : ChangeSpec := { name := "crcSums", fn := fun _ => fun
  | [d1, d2] => { results := [.lit (.bool true)], args := [d1, d2] }
  | _ => none }
def crcSumsRow : OpenClaim := { program := "ytnpkdieblejliaadoor", sum := "00ae0a09cf52473a6416ed3e1260290d65e2d5ca1a7d74d6ee28ff8e1a2ae9db", func := "skald/skaldlaw02.CrcSums", spec := "crcSums", inPlace := ["internal/bytealg.IndexByteString"], named := ["skald/crc.halves"], apart := false, laid := [("skald/crc.halves", laid_skald_crc_halves)] }
def CrcSumsSaid : Prop := crcSumsRow.holds Tryd.pinned (OpenSpec.ofChange crcSumsSpec)

/-- ITS FALSE NEIGHBOUR: 'it returns false'. Refute it at one input. -/
def crcSumsWrong : ChangeSpec := { name := "crcSums", fn := fun _ => fun
  | [d1, d2] => { results := [.lit (.bool false)], args := [d1, d2] }
  | _ => none }
def CrcSumsWrongFalsely : Prop := crcSumsRow.holds Tryd.pinned (OpenSpec.ofChange crcSumsWrong)

/-- 'skaldlaw02.CrcJoins': WHATEVER THE INPUT: true; the input reads as it did. -/
def crcJoinsSpec : ChangeSpec := { name := "crcJoins", fn := fun _ => fun
  | [d1, d2, d3] => { results := [.lit (.bool true)], args := [d1, d2, d3] }
  | _ => none }
def crcJoinsRow : OpenClaim := { program := "ytnpkdieblejliaadoor", sum := "00ae0a09cf52473a6416ed3e1260290d65e2d5ca1a7d74d6ee28ff8e1a2ae9db", func := "skald/skaldlaw02.CrcJoins", spec := "crcJoins", inPlace := ["internal/bytealg.IndexByteString"], named := ["skald/crc.halves"], apart := false, laid := [("skald/crc.halves", laid_skald_crc_halves)] }
def CrcJoinsSaid : Prop := crcJoinsRow.holds Tryd.pinned (OpenSpec.ofChange crcJoinsSpec)

/-- ITS FALSE NEIGHBOUR: 'it returns false'. Refute it at one input. -/
def crcJoinsWrong : ChangeSpec := { name := "crcJoins", fn := fun _ => fun
  | [d1, d2, d3] => { results := [.lit (.bool false)], args := [d1, d2, d3] }
  | _ => none }
def CrcJoinsWrongFalsely : Prop := crcJoinsRow.holds Tryd.pinned (OpenSpec.ofChange crcJoinsWrong)

/-- 'skaldlaw02.CrcTexts': WHATEVER THE INPUT: true; the input reads as it did. -/
def crcTextsSpec : ChangeSpec := { name := "crcTexts", fn := fun _ => fun
  | [d1, d2] => { results := [.lit (.bool true)], args := [d1, d2] }
  | _ => none }
def crcTextsRow : OpenClaim := { program := "ytnpkdieblejliaadoor", sum := "00ae0a09cf52473a6416ed3e1260290d65e2d5ca1a7d74d6ee28ff8e1a2ae9db", func := "skald/skaldlaw02.CrcTexts", spec := "crcTexts", inPlace := ["internal/bytealg.IndexByteString"], named := ["skald/crc.halves"], apart := false, laid := [("skald/crc.halves", laid_skald_crc_halves)] }
def CrcTextsSaid : Prop := crcTextsRow.holds Tryd.pinned (OpenSpec.ofChange crcTextsSpec)

/-- ITS FALSE NEIGHBOUR: 'it returns false'. Refute it at one input. -/
def crcTextsWrong : ChangeSpec := { name := "crcTexts", fn := fun _ => fun
  | [d1, d2] => { results := [.lit (.bool false)], args := [d1, d2] }
  | _ => none }
def CrcTextsWrongFalsely : Prop := crcTextsRow.holds Tryd.pinned (OpenSpec.ofChange crcTextsWrong)

/-- 'skaldlaw02.CrcParts': WHATEVER THE INPUT: true; the input reads as it did. -/
def crcPartsSpec : ChangeSpec := { name := "crcParts", fn := fun _ => fun
  | [d1, d2] => { results := [.lit (.bool true)], args := [d1, d2] }
  | _ => none }
def crcPartsRow : OpenClaim := { program := "ytnpkdieblejliaadoor", sum := "00ae0a09cf52473a6416ed3e1260290d65e2d5ca1a7d74d6ee28ff8e1a2ae9db", func := "skald/skaldlaw02.CrcParts", spec := "crcParts", inPlace := ["internal/bytealg.IndexByteString"], named := ["skald/crc.halves"], apart := false, laid := [("skald/crc.halves", laid_skald_crc_halves)] }
def CrcPartsSaid : Prop := crcPartsRow.holds Tryd.pinned (OpenSpec.ofChange crcPartsSpec)

/-- ITS FALSE NEIGHBOUR: 'it returns false'. Refute it at one input. -/
def crcPartsWrong : ChangeSpec := { name := "crcParts", fn := fun _ => fun
  | [d1, d2] => { results := [.lit (.bool false)], args := [d1, d2] }
  | _ => none }
def CrcPartsWrongFalsely : Prop := crcPartsRow.holds Tryd.pinned (OpenSpec.ofChange crcPartsWrong)

/-- 'skaldlaw02.CrcBursts': WHATEVER THE INPUT: true; the input reads as it did. -/
def crcBurstsSpec : ChangeSpec := { name := "crcBursts", fn := fun _ => fun
  | [d1, d2, d3] => { results := [.lit (.bool true)], args := [d1, d2, d3] }
  | _ => none }
def crcBurstsRow : OpenClaim := { program := "ytnpkdieblejliaadoor", sum := "00ae0a09cf52473a6416ed3e1260290d65e2d5ca1a7d74d6ee28ff8e1a2ae9db", func := "skald/skaldlaw02.CrcBursts", spec := "crcBursts", inPlace := ["internal/bytealg.IndexByteString"], named := ["skald/crc.halves"], apart := false, laid := [("skald/crc.halves", laid_skald_crc_halves)] }
def CrcBurstsSaid : Prop := crcBurstsRow.holds Tryd.pinned (OpenSpec.ofChange crcBurstsSpec)

/-- ITS FALSE NEIGHBOUR: 'it returns false'. Refute it at one input. -/
def crcBurstsWrong : ChangeSpec := { name := "crcBursts", fn := fun _ => fun
  | [d1, d2, d3] => { results := [.lit (.bool false)], args := [d1, d2, d3] }
  | _ => none }
def CrcBurstsWrongFalsely : Prop := crcBurstsRow.holds Tryd.pinned (OpenSpec.ofChange crcBurstsWrong)

/-- 'skaldlaw02.CrcThree': WHATEVER THE INPUT: true; the input reads as it did. -/
def crcThreeSpec : ChangeSpec := { name := "crcThree", fn := fun _ => fun
  | [d1, d2, d3] => { results := [.lit (.bool true)], args := [d1, d2, d3] }
  | _ => none }
def crcThreeRow : OpenClaim := { program := "ytnpkdieblejliaadoor", sum := "00ae0a09cf52473a6416ed3e1260290d65e2d5ca1a7d74d6ee28ff8e1a2ae9db", func := "skald/skaldlaw02.CrcThree", spec := "crcThree", inPlace := ["internal/bytealg.IndexByteString"], named := ["skald/crc.halves"], apart := false, laid := [("skald/crc.halves", laid_skald_crc_halves)] }
def CrcThreeSaid : Prop := crcThreeRow.holds Tryd.pinned (OpenSpec.ofChange crcThreeSpec)

/-- ITS FALSE NEIGHBOUR: 'it returns false'. Refute it at one input. -/
def crcThreeWrong : ChangeSpec := { name := "crcThree", fn := fun _ => fun
  | [d1, d2, d3] => { results := [.lit (.bool false)], args := [d1, d2, d3] }
  | _ => none }
def CrcThreeWrongFalsely : Prop := crcThreeRow.holds Tryd.pinned (OpenSpec.ofChange crcThreeWrong)

/-- 'skaldlaw02.CrcOrder': WHATEVER THE INPUT: true; the input reads as it did. -/
def crcOrderSpec : ChangeSpec := { name := "crcOrder", fn := fun _ => fun
  | [d1, d2, d3, d4, d5] => { results := [.lit (.bool true)], args := [d1, d2, d3, d4, d5] }
  | _ => none }
def crcOrderRow : OpenClaim := { program := "ytnpkdieblejliaadoor", sum := "00ae0a09cf52473a6416ed3e1260290d65e2d5ca1a7d74d6ee28ff8e1a2ae9db", func := "skald/skaldlaw02.CrcOrder", spec := "crcOrder", inPlace := ["internal/bytealg.IndexByteString"], named := ["skald/crc.halves"], apart := false, laid := [("skald/crc.halves", laid_skald_crc_halves)] }
def CrcOrderSaid : Prop := crcOrderRow.holds Tryd.pinned (OpenSpec.ofChange crcOrderSpec)

/-- ITS FALSE NEIGHBOUR: 'it returns false'. Refute it at one input. -/
def crcOrderWrong : ChangeSpec := { name := "crcOrder", fn := fun _ => fun
  | [d1, d2, d3, d4, d5] => { results := [.lit (.bool false)], args := [d1, d2, d3, d4, d5] }
  | _ => none }
def CrcOrderWrongFalsely : Prop := crcOrderRow.holds Tryd.pinned (OpenSpec.ofChange crcOrderWrong)

/-- 'skaldlaw02.CrcRefuses': WHATEVER THE INPUT: true; the input reads as it did. -/
def crcRefusesSpec : ChangeSpec := { name := "crcRefuses", fn := fun _ => fun
  | [d1, d2, d3] => { results := [.lit (.bool true)], args := [d1, d2, d3] }
  | _ => none }
def crcRefusesRow : OpenClaim := { program := "ytnpkdieblejliaadoor", sum := "00ae0a09cf52473a6416ed3e1260290d65e2d5ca1a7d74d6ee28ff8e1a2ae9db", func := "skald/skaldlaw02.CrcRefuses", spec := "crcRefuses", inPlace := ["internal/bytealg.IndexByteString"], named := ["skald/crc.halves"], apart := false, laid := [("skald/crc.halves", laid_skald_crc_halves)] }
def CrcRefusesSaid : Prop := crcRefusesRow.holds Tryd.pinned (OpenSpec.ofChange crcRefusesSpec)

/-- ITS FALSE NEIGHBOUR: 'it returns false'. Refute it at one input. -/
def crcRefusesWrong : ChangeSpec := { name := "crcRefuses", fn := fun _ => fun
  | [d1, d2, d3] => { results := [.lit (.bool false)], args := [d1, d2, d3] }
  | _ => none }
def CrcRefusesWrongFalsely : Prop := crcRefusesRow.holds Tryd.pinned (OpenSpec.ofChange crcRefusesWrong)

/-- 'skaldlaw02.CrcTables': WHATEVER THE INPUT: true; the input reads as it did. -/
def crcTablesSpec : ChangeSpec := { name := "crcTables", fn := fun _ => fun
  | [d1, d2, d3] => { results := [.lit (.bool true)], args := [d1, d2, d3] }
  | _ => none }
def crcTablesRow : OpenClaim := { program := "ytnpkdieblejliaadoor", sum := "00ae0a09cf52473a6416ed3e1260290d65e2d5ca1a7d74d6ee28ff8e1a2ae9db", func := "skald/skaldlaw02.CrcTables", spec := "crcTables", inPlace := ["internal/bytealg.IndexByteString"], named := ["skald/crc.halves"], apart := false, laid := [("skald/crc.halves", laid_skald_crc_halves)] }
def CrcTablesSaid : Prop := crcTablesRow.holds Tryd.pinned (OpenSpec.ofChange crcTablesSpec)

/-- ITS FALSE NEIGHBOUR: 'it returns false'. Refute it at one input. -/
def crcTablesWrong : ChangeSpec := { name := "crcTables", fn := fun _ => fun
  | [d1, d2, d3] => { results := [.lit (.bool false)], args := [d1, d2, d3] }
  | _ => none }
def CrcTablesWrongFalsely : Prop := crcTablesRow.holds Tryd.pinned (OpenSpec.ofChange crcTablesWrong)

/-- 'skaldlaw02.CrcBack': WHATEVER THE INPUT: true; the input reads as it did. -/
def crcBackSpec : ChangeSpec := { name := "crcBack", fn := fun _ => fun
  | [d1, d2] => { results := [.lit (.bool true)], args := [d1, d2] }
  | _ => none }
def crcBackRow : OpenClaim := { program := "ytnpkdieblejliaadoor", sum := "00ae0a09cf52473a6416ed3e1260290d65e2d5ca1a7d74d6ee28ff8e1a2ae9db", func := "skald/skaldlaw02.CrcBack", spec := "crcBack", inPlace := ["internal/bytealg.IndexByteString"], named := ["skald/crc.halves"], apart := false, laid := [("skald/crc.halves", laid_skald_crc_halves)] }
def CrcBackSaid : Prop := crcBackRow.holds Tryd.pinned (OpenSpec.ofChange crcBackSpec)

/-- ITS FALSE NEIGHBOUR: 'it returns false'. Refute it at one input. -/
def crcBackWrong : ChangeSpec := { name := "crcBack", fn := fun _ => fun
  | [d1, d2] => { results := [.lit (.bool false)], args := [d1, d2] }
  | _ => none }
def CrcBackWrongFalsely : Prop := crcBackRow.holds Tryd.pinned (OpenSpec.ofChange crcBackWrong)

/- THE SECOND FORM. 'bulk': how many values and letters a reading holds, each counted each time it is reached (what is shared counts as often as it is met; a slice's spare places count too). A statement '..UptoSaid' is the law's where the arguments, and the package variables that the reading takes, are together of bulk at most 1048576: NARROWER than '..Said'. Prove '..Said' where nothing that the law and all that it calls make is longer than what came in: it says more and counts as full. Else prove '..UptoSaid'. A law counts once. -/
mutual
def uptoBulk {H : Type} : DataW H → Nat
  | .lit (.string bytes) => bytes.length + 1
  | .lit _ => 1
  | .nil => 1
  | .ptr d => uptoBulk d + 1
  | .slice elems spare => uptoBulkAll elems + uptoBulkAll spare + 1
  | .agg parts => uptoBulkAll parts + 1
  | .iface _ d => uptoBulk d + 1
  | .map entries => uptoBulkEntries entries + 1
  | .held _ => 1
def uptoBulkAll {H : Type} : List (DataW H) → Nat
  | [] => 0
  | d :: r => uptoBulk d + uptoBulkAll r
def uptoBulkEntries {H : Type} : List (Lit × DataW H) → Nat
  | [] => 0
  | x :: r => uptoBulkEntry x + uptoBulkEntries r
def uptoBulkEntry {H : Type} : Lit × DataW H → Nat
  | (.string bytes, d) => bytes.length + uptoBulk d + 1
  | (_, d) => uptoBulk d + 1
 end
def uptoSmall : (H : Type) → List (DataW H) → Bool := fun _ ds => decide (uptoBulkAll ds ≤ 1048576)
def OpenSpec.upto (s : _root_.Go.ChangeSpec) : _root_.Go.OpenSpec := { _root_.Go.OpenSpec.ofChange s with cond := some uptoSmall }

/-- 'skaldlaw02.CrcSums', WHERE WHAT IT READS IS OF BULK AT MOST 1048576: true; the input reads as it did. -/
def crcSumsUptoRow : OpenClaim := { program := "ytnpkdieblejliaadoor", sum := "00ae0a09cf52473a6416ed3e1260290d65e2d5ca1a7d74d6ee28ff8e1a2ae9db", func := "skald/skaldlaw02.CrcSums", spec := "crcSums", inPlace := ["internal/bytealg.IndexByteString"], named := ["skald/crc.halves"], apart := false, laid := [("skald/crc.halves", laid_skald_crc_halves)], narrowed := true }
def CrcSumsUptoSaid : Prop := crcSumsUptoRow.holds Tryd.pinned (OpenSpec.upto crcSumsSpec)

/-- 'skaldlaw02.CrcJoins', WHERE WHAT IT READS IS OF BULK AT MOST 1048576: true; the input reads as it did. -/
def crcJoinsUptoRow : OpenClaim := { program := "ytnpkdieblejliaadoor", sum := "00ae0a09cf52473a6416ed3e1260290d65e2d5ca1a7d74d6ee28ff8e1a2ae9db", func := "skald/skaldlaw02.CrcJoins", spec := "crcJoins", inPlace := ["internal/bytealg.IndexByteString"], named := ["skald/crc.halves"], apart := false, laid := [("skald/crc.halves", laid_skald_crc_halves)], narrowed := true }
def CrcJoinsUptoSaid : Prop := crcJoinsUptoRow.holds Tryd.pinned (OpenSpec.upto crcJoinsSpec)

/-- 'skaldlaw02.CrcTexts', WHERE WHAT IT READS IS OF BULK AT MOST 1048576: true; the input reads as it did. -/
def crcTextsUptoRow : OpenClaim := { program := "ytnpkdieblejliaadoor", sum := "00ae0a09cf52473a6416ed3e1260290d65e2d5ca1a7d74d6ee28ff8e1a2ae9db", func := "skald/skaldlaw02.CrcTexts", spec := "crcTexts", inPlace := ["internal/bytealg.IndexByteString"], named := ["skald/crc.halves"], apart := false, laid := [("skald/crc.halves", laid_skald_crc_halves)], narrowed := true }
def CrcTextsUptoSaid : Prop := crcTextsUptoRow.holds Tryd.pinned (OpenSpec.upto crcTextsSpec)

/-- 'skaldlaw02.CrcParts', WHERE WHAT IT READS IS OF BULK AT MOST 1048576: true; the input reads as it did. -/
def crcPartsUptoRow : OpenClaim := { program := "ytnpkdieblejliaadoor", sum := "00ae0a09cf52473a6416ed3e1260290d65e2d5ca1a7d74d6ee28ff8e1a2ae9db", func := "skald/skaldlaw02.CrcParts", spec := "crcParts", inPlace := ["internal/bytealg.IndexByteString"], named := ["skald/crc.halves"], apart := false, laid := [("skald/crc.halves", laid_skald_crc_halves)], narrowed := true }
def CrcPartsUptoSaid : Prop := crcPartsUptoRow.holds Tryd.pinned (OpenSpec.upto crcPartsSpec)

/-- 'skaldlaw02.CrcBursts', WHERE WHAT IT READS IS OF BULK AT MOST 1048576: true; the input reads as it did. -/
def crcBurstsUptoRow : OpenClaim := { program := "ytnpkdieblejliaadoor", sum := "00ae0a09cf52473a6416ed3e1260290d65e2d5ca1a7d74d6ee28ff8e1a2ae9db", func := "skald/skaldlaw02.CrcBursts", spec := "crcBursts", inPlace := ["internal/bytealg.IndexByteString"], named := ["skald/crc.halves"], apart := false, laid := [("skald/crc.halves", laid_skald_crc_halves)], narrowed := true }
def CrcBurstsUptoSaid : Prop := crcBurstsUptoRow.holds Tryd.pinned (OpenSpec.upto crcBurstsSpec)

/-- 'skaldlaw02.CrcThree', WHERE WHAT IT READS IS OF BULK AT MOST 1048576: true; the input reads as it did. -/
def crcThreeUptoRow : OpenClaim := { program := "ytnpkdieblejliaadoor", sum := "00ae0a09cf52473a6416ed3e1260290d65e2d5ca1a7d74d6ee28ff8e1a2ae9db", func := "skald/skaldlaw02.CrcThree", spec := "crcThree", inPlace := ["internal/bytealg.IndexByteString"], named := ["skald/crc.halves"], apart := false, laid := [("skald/crc.halves", laid_skald_crc_halves)], narrowed := true }
def CrcThreeUptoSaid : Prop := crcThreeUptoRow.holds Tryd.pinned (OpenSpec.upto crcThreeSpec)

/-- 'skaldlaw02.CrcOrder', WHERE WHAT IT READS IS OF BULK AT MOST 1048576: true; the input reads as it did. -/
def crcOrderUptoRow : OpenClaim := { program := "ytnpkdieblejliaadoor", sum := "00ae0a09cf52473a6416ed3e1260290d65e2d5ca1a7d74d6ee28ff8e1a2ae9db", func := "skald/skaldlaw02.CrcOrder", spec := "crcOrder", inPlace := ["internal/bytealg.IndexByteString"], named := ["skald/crc.halves"], apart := false, laid := [("skald/crc.halves", laid_skald_crc_halves)], narrowed := true }
def CrcOrderUptoSaid : Prop := crcOrderUptoRow.holds Tryd.pinned (OpenSpec.upto crcOrderSpec)

/-- 'skaldlaw02.CrcRefuses', WHERE WHAT IT READS IS OF BULK AT MOST 1048576: true; the input reads as it did. -/
def crcRefusesUptoRow : OpenClaim := { program := "ytnpkdieblejliaadoor", sum := "00ae0a09cf52473a6416ed3e1260290d65e2d5ca1a7d74d6ee28ff8e1a2ae9db", func := "skald/skaldlaw02.CrcRefuses", spec := "crcRefuses", inPlace := ["internal/bytealg.IndexByteString"], named := ["skald/crc.halves"], apart := false, laid := [("skald/crc.halves", laid_skald_crc_halves)], narrowed := true }
def CrcRefusesUptoSaid : Prop := crcRefusesUptoRow.holds Tryd.pinned (OpenSpec.upto crcRefusesSpec)

/-- 'skaldlaw02.CrcTables', WHERE WHAT IT READS IS OF BULK AT MOST 1048576: true; the input reads as it did. -/
def crcTablesUptoRow : OpenClaim := { program := "ytnpkdieblejliaadoor", sum := "00ae0a09cf52473a6416ed3e1260290d65e2d5ca1a7d74d6ee28ff8e1a2ae9db", func := "skald/skaldlaw02.CrcTables", spec := "crcTables", inPlace := ["internal/bytealg.IndexByteString"], named := ["skald/crc.halves"], apart := false, laid := [("skald/crc.halves", laid_skald_crc_halves)], narrowed := true }
def CrcTablesUptoSaid : Prop := crcTablesUptoRow.holds Tryd.pinned (OpenSpec.upto crcTablesSpec)

/-- 'skaldlaw02.CrcBack', WHERE WHAT IT READS IS OF BULK AT MOST 1048576: true; the input reads as it did. -/
def crcBackUptoRow : OpenClaim := { program := "ytnpkdieblejliaadoor", sum := "00ae0a09cf52473a6416ed3e1260290d65e2d5ca1a7d74d6ee28ff8e1a2ae9db", func := "skald/skaldlaw02.CrcBack", spec := "crcBack", inPlace := ["internal/bytealg.IndexByteString"], named := ["skald/crc.halves"], apart := false, laid := [("skald/crc.halves", laid_skald_crc_halves)], narrowed := true }
def CrcBackUptoSaid : Prop := crcBackUptoRow.holds Tryd.pinned (OpenSpec.upto crcBackSpec)

end Rows
end Go.Proofs.YtnpkdieblejliaaDoor
