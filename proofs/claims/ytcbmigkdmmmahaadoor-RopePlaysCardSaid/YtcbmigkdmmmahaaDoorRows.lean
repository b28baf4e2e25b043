/-
  NARROWER THAN 'FOR EVERY INPUT', by the rows' own cells (each row's printed sentence says how): RopeTells: laid · RopePlays: laid · RopeFull: laid · RopeNil: laid · RopeLines: laid · RopeOne: laid.
  DERIVED. THE GIVEN ROWS OF THIS SEAT. 6 by the template 'for every input the law returns true; each argument reads behind the call as it read before'; 0 by the template 'total and deterministic' (their statements: YtcbmigkdmmmahaaDoorTotals.lean).
  GIVEN WITH THE SEED: the statements are not yours to turn. If you find one false, say at which input.
  Laid BY PROGRAM, IN A SANDBOX (cutbox-rows.mjs): the forced cells as the released guide's own fill.sh prints them over the translation 1a51f979322aad01… (all of the seat's roots in one cut). By AI agents, Wed Nov 11 2026. No macro, syntax, notation, axiom, sorry.
-/
import Derived.Test.YtcbmigkdmmmahaaDoorChecked
import GoSem.Claim
import GoSem.ClaimJoined
import GoSem.ClaimMapViews
import Derived.JoinedTies
import Derived.KernelRfl
namespace Go.Proofs.YtcbmigkdmmmahaaDoor
/- THE CELL 'sum', in the pinned program and in every row, IS THE sha256 OF THE DUMP (.gsa) THAT YtcbmigkdmmmahaaDoorProg.lean LOADS. Nothing in Lean hashes anything: it is a label: what it is worth is what the hold of that sum in a sandbox is worth. -/
noncomputable def Tryd.pinned : Pinned := { name := "ytcbmigkdmmmahaadoor", sum := "1a51f979322aad014239a0280f890b00a2e30f4a4a401f7841a687f3e1179614", checked := Tryd.checked }
namespace Rows
def none {H : Type} : Left H := { results := [], args := [] }

/- WHAT THE LISTED PACKAGE-LEVEL VARIABLES READ AS WHEN THE CALL BEGINS. Each datum BY PROGRAM (the guide's laid-datum.mjs) off the statement by which the dump's own 'gosem.cut.vars' lays the variable. In a bare row this is a premise. The card (YtcbmigkdmmmahaaDoorCards.lean) ties it to the program's text. -/
def laid_indenture_utf_sizes {H : Type} : DataW H := .agg [.lit (.int .i64 1), .lit (.int .i64 1), .lit (.int .i64 1), .lit (.int .i64 1), .lit (.int .i64 1), .lit (.int .i64 1), .lit (.int .i64 1), .lit (.int .i64 1), .lit (.int .i64 1), .lit (.int .i64 1), .lit (.int .i64 1), .lit (.int .i64 1), .lit (.int .i64 1), .lit (.int .i64 1), .lit (.int .i64 1), .lit (.int .i64 1), .lit (.int .i64 0), .lit (.int .i64 0), .lit (.int .i64 0), .lit (.int .i64 0), .lit (.int .i64 0), .lit (.int .i64 0), .lit (.int .i64 0), .lit (.int .i64 0), .lit (.int .i64 2), .lit (.int .i64 2), .lit (.int .i64 2), .lit (.int .i64 2), .lit (.int .i64 3), .lit (.int .i64 3), .lit (.int .i64 4), .lit (.int .i64 0)]
def laid_indenture_utf_leads {H : Type} : DataW H := .agg [.lit (.int .u8 0), .lit (.int .u8 0), .lit (.int .u8 192), .lit (.int .u8 224), .lit (.int .u8 240)]
def laid_indenture_utf_leasts {H : Type} : DataW H := .agg [.lit (.int .i32 0), .lit (.int .i32 0), .lit (.int .i32 128), .lit (.int .i32 2048), .lit (.int .i32 65536)]

/-- 'indenturelaw02.RopeTells': WHATEVER THE INPUT: true; the input reads as it did. -/
def ropeTellsSpec : ChangeSpec := { name := "ropeTells", fn := fun _ => fun
  | [d1, d2, d3, d4, d5] => { results := [.lit (.bool true)], args := [d1, d2, d3, d4, d5] }
  | _ => none }
def ropeTellsRow : OpenClaim := { program := "ytcbmigkdmmmahaadoor", sum := "1a51f979322aad014239a0280f890b00a2e30f4a4a401f7841a687f3e1179614", func := "indenture/indenturelaw02.RopeTells", spec := "ropeTells", inPlace := ["internal/bytealg.CountString", "internal/bytealg.IndexByteString", "internal/bytealg.IndexString", "internal/abi.NoEscape", "internal/bytealg.MakeNoZero"], unfollowed := true, recurses := true, named := ["internal/bytealg.MaxLen", "indenture/utf.sizes", "indenture/utf.leads", "indenture/utf.leasts"], apart := false, laid := [("indenture/utf.sizes", laid_indenture_utf_sizes), ("indenture/utf.leads", laid_indenture_utf_leads), ("indenture/utf.leasts", laid_indenture_utf_leasts)] }
def RopeTellsSaid : Prop := ropeTellsRow.holds Tryd.pinned (OpenSpec.ofChange ropeTellsSpec)

/-- ITS FALSE NEIGHBOUR: 'it returns false'. Refute it at one input. -/
def ropeTellsWrong : ChangeSpec := { name := "ropeTells", fn := fun _ => fun
  | [d1, d2, d3, d4, d5] => { results := [.lit (.bool false)], args := [d1, d2, d3, d4, d5] }
  | _ => none }
def RopeTellsWrongFalsely : Prop := ropeTellsRow.holds Tryd.pinned (OpenSpec.ofChange ropeTellsWrong)

/-- 'indenturelaw02.RopePlays': WHATEVER THE INPUT: true; the input reads as it did. -/
def ropePlaysSpec : ChangeSpec := { name := "ropePlays", fn := fun _ => fun
  | [d1, d2, d3, d4, d5, d6] => { results := [.lit (.bool true)], args := [d1, d2, d3, d4, d5, d6] }
  | _ => none }
def ropePlaysRow : OpenClaim := { program := "ytcbmigkdmmmahaadoor", sum := "1a51f979322aad014239a0280f890b00a2e30f4a4a401f7841a687f3e1179614", func := "indenture/indenturelaw02.RopePlays", spec := "ropePlays", inPlace := ["internal/bytealg.CountString", "internal/bytealg.IndexByteString", "internal/bytealg.IndexString", "internal/abi.NoEscape", "internal/bytealg.MakeNoZero"], unfollowed := true, recurses := true, named := ["internal/bytealg.MaxLen", "indenture/utf.sizes", "indenture/utf.leads", "indenture/utf.leasts"], apart := false, laid := [("indenture/utf.sizes", laid_indenture_utf_sizes), ("indenture/utf.leads", laid_indenture_utf_leads), ("indenture/utf.leasts", laid_indenture_utf_leasts)] }
def RopePlaysSaid : Prop := ropePlaysRow.holds Tryd.pinned (OpenSpec.ofChange ropePlaysSpec)

/-- ITS FALSE NEIGHBOUR: 'it returns false'. Refute it at one input. -/
def ropePlaysWrong : ChangeSpec := { name := "ropePlays", fn := fun _ => fun
  | [d1, d2, d3, d4, d5, d6] => { results := [.lit (.bool false)], args := [d1, d2, d3, d4, d5, d6] }
  | _ => none }
def RopePlaysWrongFalsely : Prop := ropePlaysRow.holds Tryd.pinned (OpenSpec.ofChange ropePlaysWrong)

/-- 'indenturelaw02.RopeFull': WHATEVER THE INPUT: true; the input reads as it did. -/
def ropeFullSpec : ChangeSpec := { name := "ropeFull", fn := fun _ => fun
  | [] => { results := [.lit (.bool true)], args := [] }
  | _ => none }
def ropeFullRow : OpenClaim := { program := "ytcbmigkdmmmahaadoor", sum := "1a51f979322aad014239a0280f890b00a2e30f4a4a401f7841a687f3e1179614", func := "indenture/indenturelaw02.RopeFull", spec := "ropeFull", inPlace := ["internal/bytealg.CountString", "internal/bytealg.IndexByteString", "internal/bytealg.IndexString", "internal/abi.NoEscape", "internal/bytealg.MakeNoZero"], unfollowed := true, recurses := true, named := ["internal/bytealg.MaxLen", "indenture/utf.sizes", "indenture/utf.leads", "indenture/utf.leasts"], apart := false, laid := [("indenture/utf.sizes", laid_indenture_utf_sizes), ("indenture/utf.leads", laid_indenture_utf_leads), ("indenture/utf.leasts", laid_indenture_utf_leasts)] }
def RopeFullSaid : Prop := ropeFullRow.holds Tryd.pinned (OpenSpec.ofChange ropeFullSpec)

/-- ITS FALSE NEIGHBOUR: 'it returns false'. Refute it at one input. -/
def ropeFullWrong : ChangeSpec := { name := "ropeFull", fn := fun _ => fun
  | [] => { results := [.lit (.bool false)], args := [] }
  | _ => none }
def RopeFullWrongFalsely : Prop := ropeFullRow.holds Tryd.pinned (OpenSpec.ofChange ropeFullWrong)

/-- 'indenturelaw02.RopeNil': WHATEVER THE INPUT: true; the input reads as it did. -/
def ropeNilSpec : ChangeSpec := { name := "ropeNil", fn := fun _ => fun
  | [d1, d2] => { results := [.lit (.bool true)], args := [d1, d2] }
  | _ => none }
def ropeNilRow : OpenClaim := { program := "ytcbmigkdmmmahaadoor", sum := "1a51f979322aad014239a0280f890b00a2e30f4a4a401f7841a687f3e1179614", func := "indenture/indenturelaw02.RopeNil", spec := "ropeNil", inPlace := ["internal/abi.NoEscape", "internal/bytealg.MakeNoZero", "internal/bytealg.CountString", "internal/bytealg.IndexByteString", "internal/bytealg.IndexString"], unfollowed := true, recurses := true, named := ["internal/bytealg.MaxLen", "indenture/utf.sizes", "indenture/utf.leads", "indenture/utf.leasts"], apart := false, laid := [("indenture/utf.sizes", laid_indenture_utf_sizes), ("indenture/utf.leads", laid_indenture_utf_leads), ("indenture/utf.leasts", laid_indenture_utf_leasts)] }
def RopeNilSaid : Prop := ropeNilRow.holds Tryd.pinned (OpenSpec.ofChange ropeNilSpec)

/-- ITS FALSE NEIGHBOUR: 'it returns false'. Refute it at one input. -/
def ropeNilWrong : ChangeSpec := { name := "ropeNil", fn := fun _ => fun
  | [d1, d2] => { results := [.lit (.bool false)], args := [d1, d2] }
  | _ => none }
def RopeNilWrongFalsely : Prop := ropeNilRow.holds Tryd.pinned (OpenSpec.ofChange ropeNilWrong)

/-- 'indenturelaw02.RopeLines': WHATEVER THE INPUT: true; the input reads as it did. -/
def ropeLinesSpec : ChangeSpec := { name := "ropeLines", fn := fun _ => fun
  | [d1, d2] => { results := [.lit (.bool true)], args := [d1, d2] }
  | _ => none }
def ropeLinesRow : OpenClaim := { program := "ytcbmigkdmmmahaadoor", sum := "1a51f979322aad014239a0280f890b00a2e30f4a4a401f7841a687f3e1179614", func := "indenture/indenturelaw02.RopeLines", spec := "ropeLines", inPlace := ["internal/bytealg.CountString", "internal/bytealg.IndexByteString", "internal/bytealg.IndexString", "internal/abi.NoEscape", "internal/bytealg.MakeNoZero"], unfollowed := true, recurses := true, named := ["internal/bytealg.MaxLen", "indenture/utf.sizes", "indenture/utf.leads", "indenture/utf.leasts"], apart := false, laid := [("indenture/utf.sizes", laid_indenture_utf_sizes), ("indenture/utf.leads", laid_indenture_utf_leads), ("indenture/utf.leasts", laid_indenture_utf_leasts)] }
def RopeLinesSaid : Prop := ropeLinesRow.holds Tryd.pinned (OpenSpec.ofChange ropeLinesSpec)

/-- ITS FALSE NEIGHBOUR: 'it returns false'. Refute it at one input. -/
def ropeLinesWrong : ChangeSpec := { name := "ropeLines", fn := fun _ => fun
  | [d1, d2] => { results := [.lit (.bool false)], args := [d1, d2] }
  | _ => none }
def RopeLinesWrongFalsely : Prop := ropeLinesRow.holds Tryd.pinned (OpenSpec.ofChange ropeLinesWrong)

/-- 'indenturelaw02.RopeOne': WHATEVER THE INPUT: true; the input reads as it did. -/
def ropeOneSpec : ChangeSpec := { name := "ropeOne", fn := fun _ => fun
  | [d1, d2, d3, d4, d5] => { results := [.lit (.bool true)], args := [d1, d2, d3, d4, d5] }
  | _ => none }
def ropeOneRow : OpenClaim := { program := "ytcbmigkdmmmahaadoor", sum := "1a51f979322aad014239a0280f890b00a2e30f4a4a401f7841a687f3e1179614", func := "indenture/indenturelaw02.RopeOne", spec := "ropeOne", inPlace := ["internal/bytealg.CountString", "internal/bytealg.IndexByteString", "internal/bytealg.IndexString", "internal/abi.NoEscape", "internal/bytealg.MakeNoZero"], unfollowed := true, recurses := true, named := ["internal/bytealg.MaxLen", "indenture/utf.sizes", "indenture/utf.leads", "indenture/utf.leasts"], apart := false, laid := [("indenture/utf.sizes", laid_indenture_utf_sizes), ("indenture/utf.leads", laid_indenture_utf_leads), ("indenture/utf.leasts", laid_indenture_utf_leasts)] }
def RopeOneSaid : Prop := ropeOneRow.holds Tryd.pinned (OpenSpec.ofChange ropeOneSpec)

/-- ITS FALSE NEIGHBOUR: 'it returns false'. Refute it at one input. -/
def ropeOneWrong : ChangeSpec := { name := "ropeOne", fn := fun _ => fun
  | [d1, d2, d3, d4, d5] => { results := [.lit (.bool false)], args := [d1, d2, d3, d4, d5] }
  | _ => none }
def RopeOneWrongFalsely : Prop := ropeOneRow.holds Tryd.pinned (OpenSpec.ofChange ropeOneWrong)

/- THE SECOND FORM. 'bulk': how many values and letters a reading holds, each counted each time it is reached (what is shared counts as often as it is met; a slice's spare places count too). A statement '..UptoSaid' is the law's where the arguments, and the package variables that the reading takes, are together of bulk at most 1048576: NARROWER than '..Said'. Prove '..Said' where nothing that the law and all that it calls make is longer than what came in: it says more and counts as full. Else prove '..UptoSaid'. A law counts once. -/
mutual
def uptoBulk {H : Type} : DataW H → Nat
  | .lit (.string bytes) => bytes.length + 1
  | .lit _ => 1
  | .nil => 1
  | .ptr d => uptoBulk d + 1
  | .slice elems spare => uptoBulkAll elems + uptoBulkAll spare + 1
  | .agg parts => uptoBulkAll parts + 1
  | .iface _ d => uptoBulk d + 1
  | .map entries => uptoBulkEntries entries + 1
  | .held _ => 1
def uptoBulkAll {H : Type} : List (DataW H) → Nat
  | [] => 0
  | d :: r => uptoBulk d + uptoBulkAll r
def uptoBulkEntries {H : Type} : List (Lit × DataW H) → Nat
  | [] => 0
  | x :: r => uptoBulkEntry x + uptoBulkEntries r
def uptoBulkEntry {H : Type} : Lit × DataW H → Nat
  | (.string bytes, d) => bytes.length + uptoBulk d + 1
  | (_, d) => uptoBulk d + 1
 end
def uptoSmall : (H : Type) → List (DataW H) → Bool := fun _ ds => decide (uptoBulkAll ds ≤ 1048576)
def OpenSpec.upto (s : _root_.Go.ChangeSpec) : _root_.Go.OpenSpec := { _root_.Go.OpenSpec.ofChange s with cond := some uptoSmall }

/-- 'indenturelaw02.RopeTells', WHERE WHAT IT READS IS OF BULK AT MOST 1048576: true; the input reads as it did. -/
def ropeTellsUptoRow : OpenClaim := { program := "ytcbmigkdmmmahaadoor", sum := "1a51f979322aad014239a0280f890b00a2e30f4a4a401f7841a687f3e1179614", func := "indenture/indenturelaw02.RopeTells", spec := "ropeTells", inPlace := ["internal/bytealg.CountString", "internal/bytealg.IndexByteString", "internal/bytealg.IndexString", "internal/abi.NoEscape", "internal/bytealg.MakeNoZero"], unfollowed := true, recurses := true, named := ["internal/bytealg.MaxLen", "indenture/utf.sizes", "indenture/utf.leads", "indenture/utf.leasts"], apart := false, laid := [("indenture/utf.sizes", laid_indenture_utf_sizes), ("indenture/utf.leads", laid_indenture_utf_leads), ("indenture/utf.leasts", laid_indenture_utf_leasts)], narrowed := true }
def RopeTellsUptoSaid : Prop := ropeTellsUptoRow.holds Tryd.pinned (OpenSpec.upto ropeTellsSpec)

/-- 'indenturelaw02.RopePlays', WHERE WHAT IT READS IS OF BULK AT MOST 1048576: true; the input reads as it did. -/
def ropePlaysUptoRow : OpenClaim := { program := "ytcbmigkdmmmahaadoor", sum := "1a51f979322aad014239a0280f890b00a2e30f4a4a401f7841a687f3e1179614", func := "indenture/indenturelaw02.RopePlays", spec := "ropePlays", inPlace := ["internal/bytealg.CountString", "internal/bytealg.IndexByteString", "internal/bytealg.IndexString", "internal/abi.NoEscape", "internal/bytealg.MakeNoZero"], unfollowed := true, recurses := true, named := ["internal/bytealg.MaxLen", "indenture/utf.sizes", "indenture/utf.leads", "indenture/utf.leasts"], apart := false, laid := [("indenture/utf.sizes", laid_indenture_utf_sizes), ("indenture/utf.leads", laid_indenture_utf_leads), ("indenture/utf.leasts", laid_indenture_utf_leasts)], narrowed := true }
def RopePlaysUptoSaid : Prop := ropePlaysUptoRow.holds Tryd.pinned (OpenSpec.upto ropePlaysSpec)

/-- 'indenturelaw02.RopeFull', WHERE WHAT IT READS IS OF BULK AT MOST 1048576: true; the input reads as it did. -/
def ropeFullUptoRow : OpenClaim := { program := "ytcbmigkdmmmahaadoor", sum := "1a51f979322aad014239a0280f890b00a2e30f4a4a401f7841a687f3e1179614", func := "indenture/indenturelaw02.RopeFull", spec := "ropeFull", inPlace := ["internal/bytealg.CountString", "internal/bytealg.IndexByteString", "internal/bytealg.IndexString", "internal/abi.NoEscape", "internal/bytealg.MakeNoZero"], unfollowed := true, recurses := true, named := ["internal/bytealg.MaxLen", "indenture/utf.sizes", "indenture/utf.leads", "indenture/utf.leasts"], apart := false, laid := [("indenture/utf.sizes", laid_indenture_utf_sizes), ("indenture/utf.leads", laid_indenture_utf_leads), ("indenture/utf.leasts", laid_indenture_utf_leasts)], narrowed := true }
def RopeFullUptoSaid : Prop := ropeFullUptoRow.holds Tryd.pinned (OpenSpec.upto ropeFullSpec)

/-- 'indenturelaw02.RopeNil', WHERE WHAT IT READS IS OF BULK AT MOST 1048576: true; the input reads as it did. -/
def ropeNilUptoRow : OpenClaim := { program := "ytcbmigkdmmmahaadoor", sum := "1a51f979322aad014239a0280f890b00a2e30f4a4a401f7841a687f3e1179614", func := "indenture/indenturelaw02.RopeNil", spec := "ropeNil", inPlace := ["internal/abi.NoEscape", "internal/bytealg.MakeNoZero", "internal/bytealg.CountString", "internal/bytealg.IndexByteString", "internal/bytealg.IndexString"], unfollowed := true, recurses := true, named := ["internal/bytealg.MaxLen", "indenture/utf.sizes", "indenture/utf.leads", "indenture/utf.leasts"], apart := false, laid := [("indenture/utf.sizes", laid_indenture_utf_sizes), ("indenture/utf.leads", laid_indenture_utf_leads), ("indenture/utf.leasts", laid_indenture_utf_leasts)], narrowed := true }
def RopeNilUptoSaid : Prop := ropeNilUptoRow.holds Tryd.pinned (OpenSpec.upto ropeNilSpec)

/-- 'indenturelaw02.RopeLines', WHERE WHAT IT READS IS OF BULK AT MOST 1048576: true; the input reads as it did. -/
def ropeLinesUptoRow : OpenClaim := { program := "ytcbmigkdmmmahaadoor", sum := "1a51f979322aad014239a0280f890b00a2e30f4a4a401f7841a687f3e1179614", func := "indenture/indenturelaw02.RopeLines", spec := "ropeLines", inPlace := ["internal/bytealg.CountString", "internal/bytealg.IndexByteString", "internal/bytealg.IndexString", "internal/abi.NoEscape", "internal/bytealg.MakeNoZero"], unfollowed := true, recurses := true, named := ["internal/bytealg.MaxLen", "indenture/utf.sizes", "indenture/utf.leads", "indenture/utf.leasts"], apart := false, laid := [("indenture/utf.sizes", laid_indenture_utf_sizes), ("indenture/utf.leads", laid_indenture_utf_leads), ("indenture/utf.leasts", laid_indenture_utf_leasts)], narrowed := true }
def RopeLinesUptoSaid : Prop := ropeLinesUptoRow.holds Tryd.pinned (OpenSpec.upto ropeLinesSpec)

/-- 'indenturelaw02.RopeOne', WHERE WHAT IT READS IS OF BULK AT MOST 1048576: true; the input reads as it did. -/
def ropeOneUptoRow : OpenClaim := { program := "ytcbmigkdmmmahaadoor", sum := "1a51f979322aad014239a0280f890b00a2e30f4a4a401f7841a687f3e1179614", func := "indenture/indenturelaw02.RopeOne", spec := "ropeOne", inPlace := ["internal/bytealg.CountString", "internal/bytealg.IndexByteString", "internal/bytealg.IndexString", "internal/abi.NoEscape", "internal/bytealg.MakeNoZero"], unfollowed := true, recurses := true, named := ["internal/bytealg.MaxLen", "indenture/utf.sizes", "indenture/utf.leads", "indenture/utf.leasts"], apart := false, laid := [("indenture/utf.sizes", laid_indenture_utf_sizes), ("indenture/utf.leads", laid_indenture_utf_leads), ("indenture/utf.leasts", laid_indenture_utf_leasts)], narrowed := true }
def RopeOneUptoSaid : Prop := ropeOneUptoRow.holds Tryd.pinned (OpenSpec.upto ropeOneSpec)

end Rows
end Go.Proofs.YtcbmigkdmmmahaaDoor
