/-
  NARROWER THAN 'FOR EVERY INPUT', by the rows' own cells (each row's printed sentence says how): PytokenScans: laid · PytokenCovers: laid · PytokenTexts: laid · PytokenSplit: laid · PytokenOwn: laid · PytokenKnown: laid.
  DERIVED. THE GIVEN ROWS OF THIS SEAT. 6 by the template 'for every input the law returns true; each argument reads behind the call as it read before'; 0 by the template 'total and deterministic' (their statements: YtogbgllmmdgaaaaDoorTotals.lean).
  GIVEN WITH THE SEED: the statements are not yours to turn. If you find one false, say at which input.
  Laid BY PROGRAM, IN A SANDBOX (cutbox-rows.mjs): the forced cells as the released guide's own fill.sh prints them over the translation d6555398d22ddc1c… (all of the seat's roots in one cut). By AI agents, Wed Nov 11 2026. No macro, syntax, notation, axiom, sorry.
-/
import Derived.Test.YtogbgllmmdgaaaaDoorChecked
import GoSem.PinnedTables
import GoSem.Claim
import GoSem.ClaimJoined
import GoSem.ClaimMapViews
import Derived.JoinedTies
import Derived.KernelRfl
namespace Go.Proofs.YtogbgllmmdgaaaaDoor
/- THE CELL 'sum', in the pinned program and in every row, IS THE sha256 OF THE DUMP (.gsa) THAT YtogbgllmmdgaaaaDoorProg.lean LOADS. Nothing in Lean hashes anything: it is a label: what it is worth is what the hold of that sum in a sandbox is worth. -/
noncomputable def Tryd.pinned : Pinned := { name := "ytogbgllmmdgaaaadoor", sum := "d6555398d22ddc1ca588ce42c814846a83cd664eec3af19763d9b1a7ce9231bd", checked := Tryd.checked }
namespace Rows
def none {H : Type} : Left H := { results := [], args := [] }

/- WHAT THE LISTED PACKAGE-LEVEL VARIABLES READ AS WHEN THE CALL BEGINS. Each datum BY PROGRAM (the guide's laid-datum.mjs) off the statement by which the dump's own 'gosem.cut.vars' lays the variable. In a bare row this is a premise. The card (YtogbgllmmdgaaaaDoorCards.lean) ties it to the program's text. -/
def laid_unicode_utf8_acceptRanges {H : Type} : DataW H := .agg [.agg [.lit (.int .u8 128), .lit (.int .u8 191)], .agg [.lit (.int .u8 160), .lit (.int .u8 191)], .agg [.lit (.int .u8 128), .lit (.int .u8 159)], .agg [.lit (.int .u8 144), .lit (.int .u8 191)], .agg [.lit (.int .u8 128), .lit (.int .u8 143)], .agg [.lit (.int .u8 0), .lit (.int .u8 0)], .agg [.lit (.int .u8 0), .lit (.int .u8 0)], .agg [.lit (.int .u8 0), .lit (.int .u8 0)], .agg [.lit (.int .u8 0), .lit (.int .u8 0)], .agg [.lit (.int .u8 0), .lit (.int .u8 0)], .agg [.lit (.int .u8 0), .lit (.int .u8 0)], .agg [.lit (.int .u8 0), .lit (.int .u8 0)], .agg [.lit (.int .u8 0), .lit (.int .u8 0)], .agg [.lit (.int .u8 0), .lit (.int .u8 0)], .agg [.lit (.int .u8 0), .lit (.int .u8 0)], .agg [.lit (.int .u8 0), .lit (.int .u8 0)]]
def laid_indenture_pytoken_quotes {H : Type} : DataW H := .agg [.lit (.string []), .lit (.string [39, 39, 39]), .lit (.string [34, 34, 34]), .lit (.string [39]), .lit (.string [34])]
/-- One of Go's own tables, pinned by name: the form's constant. -/
def laid_unicode_CaseRanges : DataW Unit := Go.Pinned.caseRanges
/-- One of Go's own tables, pinned by name: the form's constant. -/
def laid_unicode_utf8_first : DataW Unit := Go.Pinned.utf8First

/-- 'indenturelaw11.PytokenScans': WHATEVER THE INPUT: true; the input reads as it did. -/
def pytokenScansSpec : ChangeSpec := { name := "pytokenScans", fn := fun _ => fun
  | [d1, d2, d3, d4] => { results := [.lit (.bool true)], args := [d1, d2, d3, d4] }
  | _ => none }
def pytokenScansRow : OpenClaim := { program := "ytogbgllmmdgaaaadoor", sum := "d6555398d22ddc1ca588ce42c814846a83cd664eec3af19763d9b1a7ce9231bd", func := "indenture/indenturelaw11.PytokenScans", spec := "pytokenScans", inPlace := ["internal/bytealg.IndexByteString", "internal/bytealg.IndexString", "internal/abi.NoEscape", "internal/bytealg.MakeNoZero"], unfollowed := true, recurses := true, named := ["internal/bytealg.MaxLen", "indenture/pytoken.quotes", "unicode/utf8.first", "unicode/utf8.acceptRanges", "unicode.CaseRanges"], apart := false, laid := [("unicode/utf8.acceptRanges", laid_unicode_utf8_acceptRanges), ("indenture/pytoken.quotes", laid_indenture_pytoken_quotes), ("unicode.CaseRanges", laid_unicode_CaseRanges), ("unicode/utf8.first", laid_unicode_utf8_first)] }
def PytokenScansSaid : Prop := pytokenScansRow.holds Tryd.pinned (OpenSpec.ofChange pytokenScansSpec)

/-- ITS FALSE NEIGHBOUR: 'it returns false'. Refute it at one input. -/
def pytokenScansWrong : ChangeSpec := { name := "pytokenScans", fn := fun _ => fun
  | [d1, d2, d3, d4] => { results := [.lit (.bool false)], args := [d1, d2, d3, d4] }
  | _ => none }
def PytokenScansWrongFalsely : Prop := pytokenScansRow.holds Tryd.pinned (OpenSpec.ofChange pytokenScansWrong)

/-- 'indenturelaw11.PytokenCovers': WHATEVER THE INPUT: true; the input reads as it did. -/
def pytokenCoversSpec : ChangeSpec := { name := "pytokenCovers", fn := fun _ => fun
  | [d1, d2, d3] => { results := [.lit (.bool true)], args := [d1, d2, d3] }
  | _ => none }
def pytokenCoversRow : OpenClaim := { program := "ytogbgllmmdgaaaadoor", sum := "d6555398d22ddc1ca588ce42c814846a83cd664eec3af19763d9b1a7ce9231bd", func := "indenture/indenturelaw11.PytokenCovers", spec := "pytokenCovers", inPlace := ["internal/bytealg.IndexByteString", "internal/bytealg.IndexString", "internal/abi.NoEscape", "internal/bytealg.MakeNoZero"], unfollowed := true, recurses := true, named := ["internal/bytealg.MaxLen", "indenture/pytoken.quotes", "unicode/utf8.first", "unicode/utf8.acceptRanges", "unicode.CaseRanges"], apart := false, laid := [("unicode/utf8.acceptRanges", laid_unicode_utf8_acceptRanges), ("indenture/pytoken.quotes", laid_indenture_pytoken_quotes), ("unicode.CaseRanges", laid_unicode_CaseRanges), ("unicode/utf8.first", laid_unicode_utf8_first)] }
def PytokenCoversSaid : Prop := pytokenCoversRow.holds Tryd.pinned (OpenSpec.ofChange pytokenCoversSpec)

/-- ITS FALSE NEIGHBOUR: 'it returns false'. Refute it at one input. -/
def pytokenCoversWrong : ChangeSpec := { name := "pytokenCovers", fn := fun _ => fun
  | [d1, d2, d3] => { results := [.lit (.bool false)], args := [d1, d2, d3] }
  | _ => none }
def PytokenCoversWrongFalsely : Prop := pytokenCoversRow.holds Tryd.pinned (OpenSpec.ofChange pytokenCoversWrong)

/-- 'indenturelaw11.PytokenTexts': WHATEVER THE INPUT: true; the input reads as it did. -/
def pytokenTextsSpec : ChangeSpec := { name := "pytokenTexts", fn := fun _ => fun
  | [d1, d2, d3] => { results := [.lit (.bool true)], args := [d1, d2, d3] }
  | _ => none }
def pytokenTextsRow : OpenClaim := { program := "ytogbgllmmdgaaaadoor", sum := "d6555398d22ddc1ca588ce42c814846a83cd664eec3af19763d9b1a7ce9231bd", func := "indenture/indenturelaw11.PytokenTexts", spec := "pytokenTexts", inPlace := ["internal/bytealg.IndexByteString", "internal/bytealg.IndexString", "internal/abi.NoEscape", "internal/bytealg.MakeNoZero"], unfollowed := true, recurses := true, named := ["internal/bytealg.MaxLen", "indenture/pytoken.quotes", "unicode/utf8.first", "unicode/utf8.acceptRanges", "unicode.CaseRanges"], apart := false, laid := [("unicode/utf8.acceptRanges", laid_unicode_utf8_acceptRanges), ("indenture/pytoken.quotes", laid_indenture_pytoken_quotes), ("unicode.CaseRanges", laid_unicode_CaseRanges), ("unicode/utf8.first", laid_unicode_utf8_first)] }
def PytokenTextsSaid : Prop := pytokenTextsRow.holds Tryd.pinned (OpenSpec.ofChange pytokenTextsSpec)

/-- ITS FALSE NEIGHBOUR: 'it returns false'. Refute it at one input. -/
def pytokenTextsWrong : ChangeSpec := { name := "pytokenTexts", fn := fun _ => fun
  | [d1, d2, d3] => { results := [.lit (.bool false)], args := [d1, d2, d3] }
  | _ => none }
def PytokenTextsWrongFalsely : Prop := pytokenTextsRow.holds Tryd.pinned (OpenSpec.ofChange pytokenTextsWrong)

/-- 'indenturelaw11.PytokenSplit': WHATEVER THE INPUT: true; the input reads as it did. -/
def pytokenSplitSpec : ChangeSpec := { name := "pytokenSplit", fn := fun _ => fun
  | [d1, d2, d3] => { results := [.lit (.bool true)], args := [d1, d2, d3] }
  | _ => none }
def pytokenSplitRow : OpenClaim := { program := "ytogbgllmmdgaaaadoor", sum := "d6555398d22ddc1ca588ce42c814846a83cd664eec3af19763d9b1a7ce9231bd", func := "indenture/indenturelaw11.PytokenSplit", spec := "pytokenSplit", inPlace := ["internal/bytealg.IndexByteString", "internal/bytealg.IndexString", "internal/abi.NoEscape", "internal/bytealg.MakeNoZero"], unfollowed := true, recurses := true, named := ["internal/bytealg.MaxLen", "indenture/pytoken.quotes", "unicode/utf8.first", "unicode/utf8.acceptRanges", "unicode.CaseRanges"], apart := false, laid := [("unicode/utf8.acceptRanges", laid_unicode_utf8_acceptRanges), ("indenture/pytoken.quotes", laid_indenture_pytoken_quotes), ("unicode.CaseRanges", laid_unicode_CaseRanges), ("unicode/utf8.first", laid_unicode_utf8_first)] }
def PytokenSplitSaid : Prop := pytokenSplitRow.holds Tryd.pinned (OpenSpec.ofChange pytokenSplitSpec)

/-- ITS FALSE NEIGHBOUR: 'it returns false'. Refute it at one input. -/
def pytokenSplitWrong : ChangeSpec := { name := "pytokenSplit", fn := fun _ => fun
  | [d1, d2, d3] => { results := [.lit (.bool false)], args := [d1, d2, d3] }
  | _ => none }
def PytokenSplitWrongFalsely : Prop := pytokenSplitRow.holds Tryd.pinned (OpenSpec.ofChange pytokenSplitWrong)

/-- 'indenturelaw11.PytokenOwn': WHATEVER THE INPUT: true; the input reads as it did. -/
def pytokenOwnSpec : ChangeSpec := { name := "pytokenOwn", fn := fun _ => fun
  | [d1, d2, d3] => { results := [.lit (.bool true)], args := [d1, d2, d3] }
  | _ => none }
def pytokenOwnRow : OpenClaim := { program := "ytogbgllmmdgaaaadoor", sum := "d6555398d22ddc1ca588ce42c814846a83cd664eec3af19763d9b1a7ce9231bd", func := "indenture/indenturelaw11.PytokenOwn", spec := "pytokenOwn", inPlace := ["internal/bytealg.IndexByteString", "internal/bytealg.IndexString", "internal/abi.NoEscape", "internal/bytealg.MakeNoZero"], unfollowed := true, recurses := true, named := ["internal/bytealg.MaxLen", "indenture/pytoken.quotes", "unicode/utf8.first", "unicode/utf8.acceptRanges", "unicode.CaseRanges"], apart := false, laid := [("unicode/utf8.acceptRanges", laid_unicode_utf8_acceptRanges), ("indenture/pytoken.quotes", laid_indenture_pytoken_quotes), ("unicode.CaseRanges", laid_unicode_CaseRanges), ("unicode/utf8.first", laid_unicode_utf8_first)] }
def PytokenOwnSaid : Prop := pytokenOwnRow.holds Tryd.pinned (OpenSpec.ofChange pytokenOwnSpec)

/-- ITS FALSE NEIGHBOUR: 'it returns false'. Refute it at one input. -/
def pytokenOwnWrong : ChangeSpec := { name := "pytokenOwn", fn := fun _ => fun
  | [d1, d2, d3] => { results := [.lit (.bool false)], args := [d1, d2, d3] }
  | _ => none }
def PytokenOwnWrongFalsely : Prop := pytokenOwnRow.holds Tryd.pinned (OpenSpec.ofChange pytokenOwnWrong)

/-- 'indenturelaw11.PytokenKnown': WHATEVER THE INPUT: true; the input reads as it did. -/
def pytokenKnownSpec : ChangeSpec := { name := "pytokenKnown", fn := fun _ => fun
  | [] => { results := [.lit (.bool true)], args := [] }
  | _ => none }
def pytokenKnownRow : OpenClaim := { program := "ytogbgllmmdgaaaadoor", sum := "d6555398d22ddc1ca588ce42c814846a83cd664eec3af19763d9b1a7ce9231bd", func := "indenture/indenturelaw11.PytokenKnown", spec := "pytokenKnown", inPlace := ["internal/bytealg.IndexByteString", "internal/bytealg.IndexString", "internal/abi.NoEscape", "internal/bytealg.MakeNoZero"], unfollowed := true, recurses := true, named := ["internal/bytealg.MaxLen", "indenture/pytoken.quotes", "unicode/utf8.first", "unicode/utf8.acceptRanges", "unicode.CaseRanges"], apart := false, laid := [("unicode/utf8.acceptRanges", laid_unicode_utf8_acceptRanges), ("indenture/pytoken.quotes", laid_indenture_pytoken_quotes), ("unicode.CaseRanges", laid_unicode_CaseRanges), ("unicode/utf8.first", laid_unicode_utf8_first)] }
def PytokenKnownSaid : Prop := pytokenKnownRow.holds Tryd.pinned (OpenSpec.ofChange pytokenKnownSpec)

/-- ITS FALSE NEIGHBOUR: 'it returns false'. Refute it at one input. -/
def pytokenKnownWrong : ChangeSpec := { name := "pytokenKnown", fn := fun _ => fun
  | [] => { results := [.lit (.bool false)], args := [] }
  | _ => none }
def PytokenKnownWrongFalsely : Prop := pytokenKnownRow.holds Tryd.pinned (OpenSpec.ofChange pytokenKnownWrong)

/- THE SECOND FORM. 'bulk': how many values and letters a reading holds, each counted each time it is reached (what is shared counts as often as it is met; a slice's spare places count too). A statement '..UptoSaid' is the law's where the arguments, and the package variables that the reading takes, are together of bulk at most 1048576: NARROWER than '..Said'. Prove '..Said' where nothing that the law and all that it calls make is longer than what came in: it says more and counts as full. Else prove '..UptoSaid'. A law counts once. -/
mutual
def uptoBulk {H : Type} : DataW H → Nat
  | .lit (.string bytes) => bytes.length + 1
  | .lit _ => 1
  | .nil => 1
  | .ptr d => uptoBulk d + 1
  | .slice elems spare => uptoBulkAll elems + uptoBulkAll spare + 1
  | .agg parts => uptoBulkAll parts + 1
  | .iface _ d => uptoBulk d + 1
  | .map entries => uptoBulkEntries entries + 1
  | .held _ => 1
def uptoBulkAll {H : Type} : List (DataW H) → Nat
  | [] => 0
  | d :: r => uptoBulk d + uptoBulkAll r
def uptoBulkEntries {H : Type} : List (Lit × DataW H) → Nat
  | [] => 0
  | x :: r => uptoBulkEntry x + uptoBulkEntries r
def uptoBulkEntry {H : Type} : Lit × DataW H → Nat
  | (.string bytes, d) => bytes.length + uptoBulk d + 1
  | (_, d) => uptoBulk d + 1
 end
def uptoSmall : (H : Type) → List (DataW H) → Bool := fun _ ds => decide (uptoBulkAll ds ≤ 1048576)
def OpenSpec.upto (s : _root_.Go.ChangeSpec) : _root_.Go.OpenSpec := { _root_.Go.OpenSpec.ofChange s with cond := some uptoSmall }

/-- 'indenturelaw11.PytokenScans', WHERE WHAT IT READS IS OF BULK AT MOST 1048576: true; the input reads as it did. -/
def pytokenScansUptoRow : OpenClaim := { program := "ytogbgllmmdgaaaadoor", sum := "d6555398d22ddc1ca588ce42c814846a83cd664eec3af19763d9b1a7ce9231bd", func := "indenture/indenturelaw11.PytokenScans", spec := "pytokenScans", inPlace := ["internal/bytealg.IndexByteString", "internal/bytealg.IndexString", "internal/abi.NoEscape", "internal/bytealg.MakeNoZero"], unfollowed := true, recurses := true, named := ["internal/bytealg.MaxLen", "indenture/pytoken.quotes", "unicode/utf8.first", "unicode/utf8.acceptRanges", "unicode.CaseRanges"], apart := false, laid := [("unicode/utf8.acceptRanges", laid_unicode_utf8_acceptRanges), ("indenture/pytoken.quotes", laid_indenture_pytoken_quotes), ("unicode.CaseRanges", laid_unicode_CaseRanges), ("unicode/utf8.first", laid_unicode_utf8_first)], narrowed := true }
def PytokenScansUptoSaid : Prop := pytokenScansUptoRow.holds Tryd.pinned (OpenSpec.upto pytokenScansSpec)

/-- 'indenturelaw11.PytokenCovers', WHERE WHAT IT READS IS OF BULK AT MOST 1048576: true; the input reads as it did. -/
def pytokenCoversUptoRow : OpenClaim := { program := "ytogbgllmmdgaaaadoor", sum := "d6555398d22ddc1ca588ce42c814846a83cd664eec3af19763d9b1a7ce9231bd", func := "indenture/indenturelaw11.PytokenCovers", spec := "pytokenCovers", inPlace := ["internal/bytealg.IndexByteString", "internal/bytealg.IndexString", "internal/abi.NoEscape", "internal/bytealg.MakeNoZero"], unfollowed := true, recurses := true, named := ["internal/bytealg.MaxLen", "indenture/pytoken.quotes", "unicode/utf8.first", "unicode/utf8.acceptRanges", "unicode.CaseRanges"], apart := false, laid := [("unicode/utf8.acceptRanges", laid_unicode_utf8_acceptRanges), ("indenture/pytoken.quotes", laid_indenture_pytoken_quotes), ("unicode.CaseRanges", laid_unicode_CaseRanges), ("unicode/utf8.first", laid_unicode_utf8_first)], narrowed := true }
def PytokenCoversUptoSaid : Prop := pytokenCoversUptoRow.holds Tryd.pinned (OpenSpec.upto pytokenCoversSpec)

/-- 'indenturelaw11.PytokenTexts', WHERE WHAT IT READS IS OF BULK AT MOST 1048576: true; the input reads as it did. -/
def pytokenTextsUptoRow : OpenClaim := { program := "ytogbgllmmdgaaaadoor", sum := "d6555398d22ddc1ca588ce42c814846a83cd664eec3af19763d9b1a7ce9231bd", func := "indenture/indenturelaw11.PytokenTexts", spec := "pytokenTexts", inPlace := ["internal/bytealg.IndexByteString", "internal/bytealg.IndexString", "internal/abi.NoEscape", "internal/bytealg.MakeNoZero"], unfollowed := true, recurses := true, named := ["internal/bytealg.MaxLen", "indenture/pytoken.quotes", "unicode/utf8.first", "unicode/utf8.acceptRanges", "unicode.CaseRanges"], apart := false, laid := [("unicode/utf8.acceptRanges", laid_unicode_utf8_acceptRanges), ("indenture/pytoken.quotes", laid_indenture_pytoken_quotes), ("unicode.CaseRanges", laid_unicode_CaseRanges), ("unicode/utf8.first", laid_unicode_utf8_first)], narrowed := true }
def PytokenTextsUptoSaid : Prop := pytokenTextsUptoRow.holds Tryd.pinned (OpenSpec.upto pytokenTextsSpec)

/-- 'indenturelaw11.PytokenSplit', WHERE WHAT IT READS IS OF BULK AT MOST 1048576: true; the input reads as it did. -/
def pytokenSplitUptoRow : OpenClaim := { program := "ytogbgllmmdgaaaadoor", sum := "d6555398d22ddc1ca588ce42c814846a83cd664eec3af19763d9b1a7ce9231bd", func := "indenture/indenturelaw11.PytokenSplit", spec := "pytokenSplit", inPlace := ["internal/bytealg.IndexByteString", "internal/bytealg.IndexString", "internal/abi.NoEscape", "internal/bytealg.MakeNoZero"], unfollowed := true, recurses := true, named := ["internal/bytealg.MaxLen", "indenture/pytoken.quotes", "unicode/utf8.first", "unicode/utf8.acceptRanges", "unicode.CaseRanges"], apart := false, laid := [("unicode/utf8.acceptRanges", laid_unicode_utf8_acceptRanges), ("indenture/pytoken.quotes", laid_indenture_pytoken_quotes), ("unicode.CaseRanges", laid_unicode_CaseRanges), ("unicode/utf8.first", laid_unicode_utf8_first)], narrowed := true }
def PytokenSplitUptoSaid : Prop := pytokenSplitUptoRow.holds Tryd.pinned (OpenSpec.upto pytokenSplitSpec)

/-- 'indenturelaw11.PytokenOwn', WHERE WHAT IT READS IS OF BULK AT MOST 1048576: true; the input reads as it did. -/
def pytokenOwnUptoRow : OpenClaim := { program := "ytogbgllmmdgaaaadoor", sum := "d6555398d22ddc1ca588ce42c814846a83cd664eec3af19763d9b1a7ce9231bd", func := "indenture/indenturelaw11.PytokenOwn", spec := "pytokenOwn", inPlace := ["internal/bytealg.IndexByteString", "internal/bytealg.IndexString", "internal/abi.NoEscape", "internal/bytealg.MakeNoZero"], unfollowed := true, recurses := true, named := ["internal/bytealg.MaxLen", "indenture/pytoken.quotes", "unicode/utf8.first", "unicode/utf8.acceptRanges", "unicode.CaseRanges"], apart := false, laid := [("unicode/utf8.acceptRanges", laid_unicode_utf8_acceptRanges), ("indenture/pytoken.quotes", laid_indenture_pytoken_quotes), ("unicode.CaseRanges", laid_unicode_CaseRanges), ("unicode/utf8.first", laid_unicode_utf8_first)], narrowed := true }
def PytokenOwnUptoSaid : Prop := pytokenOwnUptoRow.holds Tryd.pinned (OpenSpec.upto pytokenOwnSpec)

/-- 'indenturelaw11.PytokenKnown', WHERE WHAT IT READS IS OF BULK AT MOST 1048576: true; the input reads as it did. -/
def pytokenKnownUptoRow : OpenClaim := { program := "ytogbgllmmdgaaaadoor", sum := "d6555398d22ddc1ca588ce42c814846a83cd664eec3af19763d9b1a7ce9231bd", func := "indenture/indenturelaw11.PytokenKnown", spec := "pytokenKnown", inPlace := ["internal/bytealg.IndexByteString", "internal/bytealg.IndexString", "internal/abi.NoEscape", "internal/bytealg.MakeNoZero"], unfollowed := true, recurses := true, named := ["internal/bytealg.MaxLen", "indenture/pytoken.quotes", "unicode/utf8.first", "unicode/utf8.acceptRanges", "unicode.CaseRanges"], apart := false, laid := [("unicode/utf8.acceptRanges", laid_unicode_utf8_acceptRanges), ("indenture/pytoken.quotes", laid_indenture_pytoken_quotes), ("unicode.CaseRanges", laid_unicode_CaseRanges), ("unicode/utf8.first", laid_unicode_utf8_first)], narrowed := true }
def PytokenKnownUptoSaid : Prop := pytokenKnownUptoRow.holds Tryd.pinned (OpenSpec.upto pytokenKnownSpec)

end Rows
end Go.Proofs.YtogbgllmmdgaaaaDoor
