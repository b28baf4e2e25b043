/-
  NARROWER THAN 'FOR EVERY INPUT', by the rows' own cells (each row's printed sentence says how): PlaceTells: laid · PlaceNil: laid · PlaceBack: laid · PlaceChars: laid.
  DERIVED. THE GIVEN ROWS OF THIS SEAT. 4 by the template 'for every input the law returns true; each argument reads behind the call as it read before'; 0 by the template 'total and deterministic' (their statements: YtfcpieodgflmnaaDoorTotals.lean).
  GIVEN WITH THE SEED: the statements are not yours to turn. If you find one false, say at which input.
  Laid BY PROGRAM, IN A SANDBOX (cutbox-rows.mjs): the forced cells as the released guide's own fill.sh prints them over the translation 770b7dec82891816… (all of the seat's roots in one cut). By AI agents, Wed Nov 11 2026. No macro, syntax, notation, axiom, sorry.
-/
import Derived.Test.YtfcpieodgflmnaaDoorChecked
import GoSem.Claim
import GoSem.ClaimJoined
import GoSem.ClaimMapViews
import Derived.JoinedTies
import Derived.KernelRfl
namespace Go.Proofs.YtfcpieodgflmnaaDoor
/- THE CELL 'sum', in the pinned program and in every row, IS THE sha256 OF THE DUMP (.gsa) THAT YtfcpieodgflmnaaDoorProg.lean LOADS. Nothing in Lean hashes anything: it is a label: what it is worth is what the hold of that sum in a sandbox is worth. -/
noncomputable def Tryd.pinned : Pinned := { name := "ytfcpieodgflmnaadoor", sum := "770b7dec8289181660d9a8a05377d7f6926fcdc79f2cc2b9b9b78014f9e5f6b9", checked := Tryd.checked }
namespace Rows
def none {H : Type} : Left H := { results := [], args := [] }

/- WHAT THE LISTED PACKAGE-LEVEL VARIABLES READ AS WHEN THE CALL BEGINS. Each datum BY PROGRAM (the guide's laid-datum.mjs) off the statement by which the dump's own 'gosem.cut.vars' lays the variable. In a bare row this is a premise. The card (YtfcpieodgflmnaaDoorCards.lean) ties it to the program's text. -/
def laid_indenture_utf_sizes {H : Type} : DataW H := .agg [.lit (.int .i64 1), .lit (.int .i64 1), .lit (.int .i64 1), .lit (.int .i64 1), .lit (.int .i64 1), .lit (.int .i64 1), .lit (.int .i64 1), .lit (.int .i64 1), .lit (.int .i64 1), .lit (.int .i64 1), .lit (.int .i64 1), .lit (.int .i64 1), .lit (.int .i64 1), .lit (.int .i64 1), .lit (.int .i64 1), .lit (.int .i64 1), .lit (.int .i64 0), .lit (.int .i64 0), .lit (.int .i64 0), .lit (.int .i64 0), .lit (.int .i64 0), .lit (.int .i64 0), .lit (.int .i64 0), .lit (.int .i64 0), .lit (.int .i64 2), .lit (.int .i64 2), .lit (.int .i64 2), .lit (.int .i64 2), .lit (.int .i64 3), .lit (.int .i64 3), .lit (.int .i64 4), .lit (.int .i64 0)]
def laid_indenture_utf_leads {H : Type} : DataW H := .agg [.lit (.int .u8 0), .lit (.int .u8 0), .lit (.int .u8 192), .lit (.int .u8 224), .lit (.int .u8 240)]
def laid_indenture_utf_leasts {H : Type} : DataW H := .agg [.lit (.int .i32 0), .lit (.int .i32 0), .lit (.int .i32 128), .lit (.int .i32 2048), .lit (.int .i32 65536)]

/-- 'indenturelaw03.PlaceTells': WHATEVER THE INPUT: true; the input reads as it did. -/
def placeTellsSpec : ChangeSpec := { name := "placeTells", fn := fun _ => fun
  | [d1, d2, d3, d4] => { results := [.lit (.bool true)], args := [d1, d2, d3, d4] }
  | _ => none }
def placeTellsRow : OpenClaim := { program := "ytfcpieodgflmnaadoor", sum := "770b7dec8289181660d9a8a05377d7f6926fcdc79f2cc2b9b9b78014f9e5f6b9", func := "indenture/indenturelaw03.PlaceTells", spec := "placeTells", inPlace := ["internal/bytealg.CountString", "internal/bytealg.IndexByteString", "internal/bytealg.IndexString", "internal/abi.NoEscape", "internal/bytealg.MakeNoZero"], unfollowed := true, recurses := true, named := ["internal/bytealg.MaxLen", "indenture/utf.sizes", "indenture/utf.leads", "indenture/utf.leasts"], apart := false, laid := [("indenture/utf.sizes", laid_indenture_utf_sizes), ("indenture/utf.leads", laid_indenture_utf_leads), ("indenture/utf.leasts", laid_indenture_utf_leasts)] }
def PlaceTellsSaid : Prop := placeTellsRow.holds Tryd.pinned (OpenSpec.ofChange placeTellsSpec)

/-- ITS FALSE NEIGHBOUR: 'it returns false'. Refute it at one input. -/
def placeTellsWrong : ChangeSpec := { name := "placeTells", fn := fun _ => fun
  | [d1, d2, d3, d4] => { results := [.lit (.bool false)], args := [d1, d2, d3, d4] }
  | _ => none }
def PlaceTellsWrongFalsely : Prop := placeTellsRow.holds Tryd.pinned (OpenSpec.ofChange placeTellsWrong)

/-- 'indenturelaw03.PlaceNil': WHATEVER THE INPUT: true; the input reads as it did. -/
def placeNilSpec : ChangeSpec := { name := "placeNil", fn := fun _ => fun
  | [d1, d2, d3] => { results := [.lit (.bool true)], args := [d1, d2, d3] }
  | _ => none }
def placeNilRow : OpenClaim := { program := "ytfcpieodgflmnaadoor", sum := "770b7dec8289181660d9a8a05377d7f6926fcdc79f2cc2b9b9b78014f9e5f6b9", func := "indenture/indenturelaw03.PlaceNil", spec := "placeNil", inPlace := ["internal/bytealg.CountString", "internal/bytealg.IndexByteString", "internal/bytealg.IndexString", "internal/abi.NoEscape", "internal/bytealg.MakeNoZero"], unfollowed := true, recurses := true, named := ["internal/bytealg.MaxLen", "indenture/utf.sizes", "indenture/utf.leads", "indenture/utf.leasts"], apart := false, laid := [("indenture/utf.sizes", laid_indenture_utf_sizes), ("indenture/utf.leads", laid_indenture_utf_leads), ("indenture/utf.leasts", laid_indenture_utf_leasts)] }
def PlaceNilSaid : Prop := placeNilRow.holds Tryd.pinned (OpenSpec.ofChange placeNilSpec)

/-- ITS FALSE NEIGHBOUR: 'it returns false'. Refute it at one input. -/
def placeNilWrong : ChangeSpec := { name := "placeNil", fn := fun _ => fun
  | [d1, d2, d3] => { results := [.lit (.bool false)], args := [d1, d2, d3] }
  | _ => none }
def PlaceNilWrongFalsely : Prop := placeNilRow.holds Tryd.pinned (OpenSpec.ofChange placeNilWrong)

/-- 'indenturelaw03.PlaceBack': WHATEVER THE INPUT: true; the input reads as it did. -/
def placeBackSpec : ChangeSpec := { name := "placeBack", fn := fun _ => fun
  | [d1, d2, d3, d4] => { results := [.lit (.bool true)], args := [d1, d2, d3, d4] }
  | _ => none }
def placeBackRow : OpenClaim := { program := "ytfcpieodgflmnaadoor", sum := "770b7dec8289181660d9a8a05377d7f6926fcdc79f2cc2b9b9b78014f9e5f6b9", func := "indenture/indenturelaw03.PlaceBack", spec := "placeBack", inPlace := ["internal/bytealg.CountString", "internal/bytealg.IndexByteString", "internal/bytealg.IndexString", "internal/abi.NoEscape", "internal/bytealg.MakeNoZero"], unfollowed := true, recurses := true, named := ["internal/bytealg.MaxLen", "indenture/utf.sizes", "indenture/utf.leads", "indenture/utf.leasts"], apart := false, laid := [("indenture/utf.sizes", laid_indenture_utf_sizes), ("indenture/utf.leads", laid_indenture_utf_leads), ("indenture/utf.leasts", laid_indenture_utf_leasts)] }
def PlaceBackSaid : Prop := placeBackRow.holds Tryd.pinned (OpenSpec.ofChange placeBackSpec)

/-- ITS FALSE NEIGHBOUR: 'it returns false'. Refute it at one input. -/
def placeBackWrong : ChangeSpec := { name := "placeBack", fn := fun _ => fun
  | [d1, d2, d3, d4] => { results := [.lit (.bool false)], args := [d1, d2, d3, d4] }
  | _ => none }
def PlaceBackWrongFalsely : Prop := placeBackRow.holds Tryd.pinned (OpenSpec.ofChange placeBackWrong)

/-- 'indenturelaw03.PlaceChars': WHATEVER THE INPUT: true; the input reads as it did. -/
def placeCharsSpec : ChangeSpec := { name := "placeChars", fn := fun _ => fun
  | [d1, d2, d3] => { results := [.lit (.bool true)], args := [d1, d2, d3] }
  | _ => none }
def placeCharsRow : OpenClaim := { program := "ytfcpieodgflmnaadoor", sum := "770b7dec8289181660d9a8a05377d7f6926fcdc79f2cc2b9b9b78014f9e5f6b9", func := "indenture/indenturelaw03.PlaceChars", spec := "placeChars", inPlace := ["internal/bytealg.CountString", "internal/bytealg.IndexByteString", "internal/bytealg.IndexString", "internal/abi.NoEscape", "internal/bytealg.MakeNoZero"], unfollowed := true, recurses := true, named := ["internal/bytealg.MaxLen", "indenture/utf.sizes", "indenture/utf.leads", "indenture/utf.leasts"], apart := false, laid := [("indenture/utf.sizes", laid_indenture_utf_sizes), ("indenture/utf.leads", laid_indenture_utf_leads), ("indenture/utf.leasts", laid_indenture_utf_leasts)] }
def PlaceCharsSaid : Prop := placeCharsRow.holds Tryd.pinned (OpenSpec.ofChange placeCharsSpec)

/-- ITS FALSE NEIGHBOUR: 'it returns false'. Refute it at one input. -/
def placeCharsWrong : ChangeSpec := { name := "placeChars", fn := fun _ => fun
  | [d1, d2, d3] => { results := [.lit (.bool false)], args := [d1, d2, d3] }
  | _ => none }
def PlaceCharsWrongFalsely : Prop := placeCharsRow.holds Tryd.pinned (OpenSpec.ofChange placeCharsWrong)

/- THE SECOND FORM. 'bulk': how many values and letters a reading holds, each counted each time it is reached (what is shared counts as often as it is met; a slice's spare places count too). A statement '..UptoSaid' is the law's where the arguments, and the package variables that the reading takes, are together of bulk at most 1048576: NARROWER than '..Said'. Prove '..Said' where nothing that the law and all that it calls make is longer than what came in: it says more and counts as full. Else prove '..UptoSaid'. A law counts once. -/
mutual
def uptoBulk {H : Type} : DataW H → Nat
  | .lit (.string bytes) => bytes.length + 1
  | .lit _ => 1
  | .nil => 1
  | .ptr d => uptoBulk d + 1
  | .slice elems spare => uptoBulkAll elems + uptoBulkAll spare + 1
  | .agg parts => uptoBulkAll parts + 1
  | .iface _ d => uptoBulk d + 1
  | .map entries => uptoBulkEntries entries + 1
  | .held _ => 1
def uptoBulkAll {H : Type} : List (DataW H) → Nat
  | [] => 0
  | d :: r => uptoBulk d + uptoBulkAll r
def uptoBulkEntries {H : Type} : List (Lit × DataW H) → Nat
  | [] => 0
  | x :: r => uptoBulkEntry x + uptoBulkEntries r
def uptoBulkEntry {H : Type} : Lit × DataW H → Nat
  | (.string bytes, d) => bytes.length + uptoBulk d + 1
  | (_, d) => uptoBulk d + 1
 end
def uptoSmall : (H : Type) → List (DataW H) → Bool := fun _ ds => decide (uptoBulkAll ds ≤ 1048576)
def OpenSpec.upto (s : _root_.Go.ChangeSpec) : _root_.Go.OpenSpec := { _root_.Go.OpenSpec.ofChange s with cond := some uptoSmall }

/-- 'indenturelaw03.PlaceTells', WHERE WHAT IT READS IS OF BULK AT MOST 1048576: true; the input reads as it did. -/
def placeTellsUptoRow : OpenClaim := { program := "ytfcpieodgflmnaadoor", sum := "770b7dec8289181660d9a8a05377d7f6926fcdc79f2cc2b9b9b78014f9e5f6b9", func := "indenture/indenturelaw03.PlaceTells", spec := "placeTells", inPlace := ["internal/bytealg.CountString", "internal/bytealg.IndexByteString", "internal/bytealg.IndexString", "internal/abi.NoEscape", "internal/bytealg.MakeNoZero"], unfollowed := true, recurses := true, named := ["internal/bytealg.MaxLen", "indenture/utf.sizes", "indenture/utf.leads", "indenture/utf.leasts"], apart := false, laid := [("indenture/utf.sizes", laid_indenture_utf_sizes), ("indenture/utf.leads", laid_indenture_utf_leads), ("indenture/utf.leasts", laid_indenture_utf_leasts)], narrowed := true }
def PlaceTellsUptoSaid : Prop := placeTellsUptoRow.holds Tryd.pinned (OpenSpec.upto placeTellsSpec)

/-- 'indenturelaw03.PlaceNil', WHERE WHAT IT READS IS OF BULK AT MOST 1048576: true; the input reads as it did. -/
def placeNilUptoRow : OpenClaim := { program := "ytfcpieodgflmnaadoor", sum := "770b7dec8289181660d9a8a05377d7f6926fcdc79f2cc2b9b9b78014f9e5f6b9", func := "indenture/indenturelaw03.PlaceNil", spec := "placeNil", inPlace := ["internal/bytealg.CountString", "internal/bytealg.IndexByteString", "internal/bytealg.IndexString", "internal/abi.NoEscape", "internal/bytealg.MakeNoZero"], unfollowed := true, recurses := true, named := ["internal/bytealg.MaxLen", "indenture/utf.sizes", "indenture/utf.leads", "indenture/utf.leasts"], apart := false, laid := [("indenture/utf.sizes", laid_indenture_utf_sizes), ("indenture/utf.leads", laid_indenture_utf_leads), ("indenture/utf.leasts", laid_indenture_utf_leasts)], narrowed := true }
def PlaceNilUptoSaid : Prop := placeNilUptoRow.holds Tryd.pinned (OpenSpec.upto placeNilSpec)

/-- 'indenturelaw03.PlaceBack', WHERE WHAT IT READS IS OF BULK AT MOST 1048576: true; the input reads as it did. -/
def placeBackUptoRow : OpenClaim := { program := "ytfcpieodgflmnaadoor", sum := "770b7dec8289181660d9a8a05377d7f6926fcdc79f2cc2b9b9b78014f9e5f6b9", func := "indenture/indenturelaw03.PlaceBack", spec := "placeBack", inPlace := ["internal/bytealg.CountString", "internal/bytealg.IndexByteString", "internal/bytealg.IndexString", "internal/abi.NoEscape", "internal/bytealg.MakeNoZero"], unfollowed := true, recurses := true, named := ["internal/bytealg.MaxLen", "indenture/utf.sizes", "indenture/utf.leads", "indenture/utf.leasts"], apart := false, laid := [("indenture/utf.sizes", laid_indenture_utf_sizes), ("indenture/utf.leads", laid_indenture_utf_leads), ("indenture/utf.leasts", laid_indenture_utf_leasts)], narrowed := true }
def PlaceBackUptoSaid : Prop := placeBackUptoRow.holds Tryd.pinned (OpenSpec.upto placeBackSpec)

/-- 'indenturelaw03.PlaceChars', WHERE WHAT IT READS IS OF BULK AT MOST 1048576: true; the input reads as it did. -/
def placeCharsUptoRow : OpenClaim := { program := "ytfcpieodgflmnaadoor", sum := "770b7dec8289181660d9a8a05377d7f6926fcdc79f2cc2b9b9b78014f9e5f6b9", func := "indenture/indenturelaw03.PlaceChars", spec := "placeChars", inPlace := ["internal/bytealg.CountString", "internal/bytealg.IndexByteString", "internal/bytealg.IndexString", "internal/abi.NoEscape", "internal/bytealg.MakeNoZero"], unfollowed := true, recurses := true, named := ["internal/bytealg.MaxLen", "indenture/utf.sizes", "indenture/utf.leads", "indenture/utf.leasts"], apart := false, laid := [("indenture/utf.sizes", laid_indenture_utf_sizes), ("indenture/utf.leads", laid_indenture_utf_leads), ("indenture/utf.leasts", laid_indenture_utf_leasts)], narrowed := true }
def PlaceCharsUptoSaid : Prop := placeCharsUptoRow.holds Tryd.pinned (OpenSpec.upto placeCharsSpec)

end Rows
end Go.Proofs.YtfcpieodgflmnaaDoor
