/-
  NARROWER THAN 'FOR EVERY INPUT', by the rows' own cells (each row's printed sentence says how): TabIndents: laid · TabTakes: laid · TabEnds: laid · TabWhole: laid.
  DERIVED. THE GIVEN ROWS OF THIS SEAT. 4 by the template 'for every input the law returns true; each argument reads behind the call as it read before'; 0 by the template 'total and deterministic' (their statements: YtjlkdpnpkdchgaaDoorTotals.lean).
  GIVEN WITH THE SEED: the statements are not yours to turn. If you find one false, say at which input.
  Laid BY PROGRAM, IN A SANDBOX (cutbox-rows.mjs): the forced cells as the released guide's own fill.sh prints them over the translation eb09ace8bb2c8efc… (all of the seat's roots in one cut). By AI agents, Wed Nov 11 2026. No macro, syntax, notation, axiom, sorry.
-/
import Derived.Test.YtjlkdpnpkdchgaaDoorChecked
import GoSem.PinnedTables
import GoSem.Claim
import GoSem.ClaimJoined
import GoSem.ClaimMapViews
import Derived.JoinedTies
import Derived.KernelRfl
namespace Go.Proofs.YtjlkdpnpkdchgaaDoor
/- THE CELL 'sum', in the pinned program and in every row, IS THE sha256 OF THE DUMP (.gsa) THAT YtjlkdpnpkdchgaaDoorProg.lean LOADS. Nothing in Lean hashes anything: it is a label: what it is worth is what the hold of that sum in a sandbox is worth. -/
noncomputable def Tryd.pinned : Pinned := { name := "ytjlkdpnpkdchgaadoor", sum := "eb09ace8bb2c8efc36bc1423b5250e172041b9fd015e4919a4834593fad70dc0", checked := Tryd.checked }
namespace Rows
def none {H : Type} : Left H := { results := [], args := [] }

/- WHAT THE LISTED PACKAGE-LEVEL VARIABLES READ AS WHEN THE CALL BEGINS. Each datum BY PROGRAM (the guide's laid-datum.mjs) off the statement by which the dump's own 'gosem.cut.vars' lays the variable. In a bare row this is a premise. The card (YtjlkdpnpkdchgaaDoorCards.lean) ties it to the program's text. -/
def laid_unicode_utf8_acceptRanges {H : Type} : DataW H := .agg [.agg [.lit (.int .u8 128), .lit (.int .u8 191)], .agg [.lit (.int .u8 160), .lit (.int .u8 191)], .agg [.lit (.int .u8 128), .lit (.int .u8 159)], .agg [.lit (.int .u8 144), .lit (.int .u8 191)], .agg [.lit (.int .u8 128), .lit (.int .u8 143)], .agg [.lit (.int .u8 0), .lit (.int .u8 0)], .agg [.lit (.int .u8 0), .lit (.int .u8 0)], .agg [.lit (.int .u8 0), .lit (.int .u8 0)], .agg [.lit (.int .u8 0), .lit (.int .u8 0)], .agg [.lit (.int .u8 0), .lit (.int .u8 0)], .agg [.lit (.int .u8 0), .lit (.int .u8 0)], .agg [.lit (.int .u8 0), .lit (.int .u8 0)], .agg [.lit (.int .u8 0), .lit (.int .u8 0)], .agg [.lit (.int .u8 0), .lit (.int .u8 0)], .agg [.lit (.int .u8 0), .lit (.int .u8 0)], .agg [.lit (.int .u8 0), .lit (.int .u8 0)]]
/-- One of Go's own tables, pinned by name: the form's constant. -/
def laid_unicode_utf8_first : DataW Unit := Go.Pinned.utf8First

/-- 'indenturelaw09.TabIndents': WHATEVER THE INPUT: true; the input reads as it did. -/
def tabIndentsSpec : ChangeSpec := { name := "tabIndents", fn := fun _ => fun
  | [d1, d2, d3, d4] => { results := [.lit (.bool true)], args := [d1, d2, d3, d4] }
  | _ => none }
def tabIndentsRow : OpenClaim := { program := "ytjlkdpnpkdchgaadoor", sum := "eb09ace8bb2c8efc36bc1423b5250e172041b9fd015e4919a4834593fad70dc0", func := "indenture/indenturelaw09.TabIndents", spec := "tabIndents", inPlace := ["internal/bytealg.IndexByteString", "internal/bytealg.IndexString"], unfollowed := true, recurses := true, named := ["unicode/utf8.first", "unicode/utf8.acceptRanges", "internal/bytealg.MaxLen"], apart := false, laid := [("unicode/utf8.acceptRanges", laid_unicode_utf8_acceptRanges), ("unicode/utf8.first", laid_unicode_utf8_first)] }
def TabIndentsSaid : Prop := tabIndentsRow.holds Tryd.pinned (OpenSpec.ofChange tabIndentsSpec)

/-- ITS FALSE NEIGHBOUR: 'it returns false'. Refute it at one input. -/
def tabIndentsWrong : ChangeSpec := { name := "tabIndents", fn := fun _ => fun
  | [d1, d2, d3, d4] => { results := [.lit (.bool false)], args := [d1, d2, d3, d4] }
  | _ => none }
def TabIndentsWrongFalsely : Prop := tabIndentsRow.holds Tryd.pinned (OpenSpec.ofChange tabIndentsWrong)

/-- 'indenturelaw09.TabTakes': WHATEVER THE INPUT: true; the input reads as it did. -/
def tabTakesSpec : ChangeSpec := { name := "tabTakes", fn := fun _ => fun
  | [d1, d2, d3, d4, d5] => { results := [.lit (.bool true)], args := [d1, d2, d3, d4, d5] }
  | _ => none }
def tabTakesRow : OpenClaim := { program := "ytjlkdpnpkdchgaadoor", sum := "eb09ace8bb2c8efc36bc1423b5250e172041b9fd015e4919a4834593fad70dc0", func := "indenture/indenturelaw09.TabTakes", spec := "tabTakes", inPlace := ["internal/bytealg.IndexByteString", "internal/bytealg.IndexString"], unfollowed := true, recurses := true, named := ["unicode/utf8.first", "unicode/utf8.acceptRanges", "internal/bytealg.MaxLen"], apart := false, laid := [("unicode/utf8.acceptRanges", laid_unicode_utf8_acceptRanges), ("unicode/utf8.first", laid_unicode_utf8_first)] }
def TabTakesSaid : Prop := tabTakesRow.holds Tryd.pinned (OpenSpec.ofChange tabTakesSpec)

/-- ITS FALSE NEIGHBOUR: 'it returns false'. Refute it at one input. -/
def tabTakesWrong : ChangeSpec := { name := "tabTakes", fn := fun _ => fun
  | [d1, d2, d3, d4, d5] => { results := [.lit (.bool false)], args := [d1, d2, d3, d4, d5] }
  | _ => none }
def TabTakesWrongFalsely : Prop := tabTakesRow.holds Tryd.pinned (OpenSpec.ofChange tabTakesWrong)

/-- 'indenturelaw09.TabEnds': WHATEVER THE INPUT: true; the input reads as it did. -/
def tabEndsSpec : ChangeSpec := { name := "tabEnds", fn := fun _ => fun
  | [d1, d2] => { results := [.lit (.bool true)], args := [d1, d2] }
  | _ => none }
def tabEndsRow : OpenClaim := { program := "ytjlkdpnpkdchgaadoor", sum := "eb09ace8bb2c8efc36bc1423b5250e172041b9fd015e4919a4834593fad70dc0", func := "indenture/indenturelaw09.TabEnds", spec := "tabEnds", inPlace := ["internal/bytealg.IndexByteString", "internal/bytealg.IndexString"], unfollowed := true, recurses := true, named := ["unicode/utf8.first", "unicode/utf8.acceptRanges", "internal/bytealg.MaxLen"], apart := false, laid := [("unicode/utf8.acceptRanges", laid_unicode_utf8_acceptRanges), ("unicode/utf8.first", laid_unicode_utf8_first)] }
def TabEndsSaid : Prop := tabEndsRow.holds Tryd.pinned (OpenSpec.ofChange tabEndsSpec)

/-- ITS FALSE NEIGHBOUR: 'it returns false'. Refute it at one input. -/
def tabEndsWrong : ChangeSpec := { name := "tabEnds", fn := fun _ => fun
  | [d1, d2] => { results := [.lit (.bool false)], args := [d1, d2] }
  | _ => none }
def TabEndsWrongFalsely : Prop := tabEndsRow.holds Tryd.pinned (OpenSpec.ofChange tabEndsWrong)

/-- 'indenturelaw09.TabWhole': WHATEVER THE INPUT: true; the input reads as it did. -/
def tabWholeSpec : ChangeSpec := { name := "tabWhole", fn := fun _ => fun
  | [d1, d2, d3, d4, d5] => { results := [.lit (.bool true)], args := [d1, d2, d3, d4, d5] }
  | _ => none }
def tabWholeRow : OpenClaim := { program := "ytjlkdpnpkdchgaadoor", sum := "eb09ace8bb2c8efc36bc1423b5250e172041b9fd015e4919a4834593fad70dc0", func := "indenture/indenturelaw09.TabWhole", spec := "tabWhole", inPlace := ["internal/bytealg.IndexByteString", "internal/bytealg.IndexString"], unfollowed := true, recurses := true, named := ["unicode/utf8.first", "unicode/utf8.acceptRanges", "internal/bytealg.MaxLen"], apart := false, laid := [("unicode/utf8.acceptRanges", laid_unicode_utf8_acceptRanges), ("unicode/utf8.first", laid_unicode_utf8_first)] }
def TabWholeSaid : Prop := tabWholeRow.holds Tryd.pinned (OpenSpec.ofChange tabWholeSpec)

/-- ITS FALSE NEIGHBOUR: 'it returns false'. Refute it at one input. -/
def tabWholeWrong : ChangeSpec := { name := "tabWhole", fn := fun _ => fun
  | [d1, d2, d3, d4, d5] => { results := [.lit (.bool false)], args := [d1, d2, d3, d4, d5] }
  | _ => none }
def TabWholeWrongFalsely : Prop := tabWholeRow.holds Tryd.pinned (OpenSpec.ofChange tabWholeWrong)

/- THE SECOND FORM. 'bulk': how many values and letters a reading holds, each counted each time it is reached (what is shared counts as often as it is met; a slice's spare places count too). A statement '..UptoSaid' is the law's where the arguments, and the package variables that the reading takes, are together of bulk at most 1048576: NARROWER than '..Said'. Prove '..Said' where nothing that the law and all that it calls make is longer than what came in: it says more and counts as full. Else prove '..UptoSaid'. A law counts once. -/
mutual
def uptoBulk {H : Type} : DataW H → Nat
  | .lit (.string bytes) => bytes.length + 1
  | .lit _ => 1
  | .nil => 1
  | .ptr d => uptoBulk d + 1
  | .slice elems spare => uptoBulkAll elems + uptoBulkAll spare + 1
  | .agg parts => uptoBulkAll parts + 1
  | .iface _ d => uptoBulk d + 1
  | .map entries => uptoBulkEntries entries + 1
  | .held _ => 1
def uptoBulkAll {H : Type} : List (DataW H) → Nat
  | [] => 0
  | d :: r => uptoBulk d + uptoBulkAll r
def uptoBulkEntries {H : Type} : List (Lit × DataW H) → Nat
  | [] => 0
  | x :: r => uptoBulkEntry x + uptoBulkEntries r
def uptoBulkEntry {H : Type} : Lit × DataW H → Nat
  | (.string bytes, d) => bytes.length + uptoBulk d + 1
  | (_, d) => uptoBulk d + 1
 end
def uptoSmall : (H : Type) → List (DataW H) → Bool := fun _ ds => decide (uptoBulkAll ds ≤ 1048576)
def OpenSpec.upto (s : _root_.Go.ChangeSpec) : _root_.Go.OpenSpec := { _root_.Go.OpenSpec.ofChange s with cond := some uptoSmall }

/-- 'indenturelaw09.TabIndents', WHERE WHAT IT READS IS OF BULK AT MOST 1048576: true; the input reads as it did. -/
def tabIndentsUptoRow : OpenClaim := { program := "ytjlkdpnpkdchgaadoor", sum := "eb09ace8bb2c8efc36bc1423b5250e172041b9fd015e4919a4834593fad70dc0", func := "indenture/indenturelaw09.TabIndents", spec := "tabIndents", inPlace := ["internal/bytealg.IndexByteString", "internal/bytealg.IndexString"], unfollowed := true, recurses := true, named := ["unicode/utf8.first", "unicode/utf8.acceptRanges", "internal/bytealg.MaxLen"], apart := false, laid := [("unicode/utf8.acceptRanges", laid_unicode_utf8_acceptRanges), ("unicode/utf8.first", laid_unicode_utf8_first)], narrowed := true }
def TabIndentsUptoSaid : Prop := tabIndentsUptoRow.holds Tryd.pinned (OpenSpec.upto tabIndentsSpec)

/-- 'indenturelaw09.TabTakes', WHERE WHAT IT READS IS OF BULK AT MOST 1048576: true; the input reads as it did. -/
def tabTakesUptoRow : OpenClaim := { program := "ytjlkdpnpkdchgaadoor", sum := "eb09ace8bb2c8efc36bc1423b5250e172041b9fd015e4919a4834593fad70dc0", func := "indenture/indenturelaw09.TabTakes", spec := "tabTakes", inPlace := ["internal/bytealg.IndexByteString", "internal/bytealg.IndexString"], unfollowed := true, recurses := true, named := ["unicode/utf8.first", "unicode/utf8.acceptRanges", "internal/bytealg.MaxLen"], apart := false, laid := [("unicode/utf8.acceptRanges", laid_unicode_utf8_acceptRanges), ("unicode/utf8.first", laid_unicode_utf8_first)], narrowed := true }
def TabTakesUptoSaid : Prop := tabTakesUptoRow.holds Tryd.pinned (OpenSpec.upto tabTakesSpec)

/-- 'indenturelaw09.TabEnds', WHERE WHAT IT READS IS OF BULK AT MOST 1048576: true; the input reads as it did. -/
def tabEndsUptoRow : OpenClaim := { program := "ytjlkdpnpkdchgaadoor", sum := "eb09ace8bb2c8efc36bc1423b5250e172041b9fd015e4919a4834593fad70dc0", func := "indenture/indenturelaw09.TabEnds", spec := "tabEnds", inPlace := ["internal/bytealg.IndexByteString", "internal/bytealg.IndexString"], unfollowed := true, recurses := true, named := ["unicode/utf8.first", "unicode/utf8.acceptRanges", "internal/bytealg.MaxLen"], apart := false, laid := [("unicode/utf8.acceptRanges", laid_unicode_utf8_acceptRanges), ("unicode/utf8.first", laid_unicode_utf8_first)], narrowed := true }
def TabEndsUptoSaid : Prop := tabEndsUptoRow.holds Tryd.pinned (OpenSpec.upto tabEndsSpec)

/-- 'indenturelaw09.TabWhole', WHERE WHAT IT READS IS OF BULK AT MOST 1048576: true; the input reads as it did. -/
def tabWholeUptoRow : OpenClaim := { program := "ytjlkdpnpkdchgaadoor", sum := "eb09ace8bb2c8efc36bc1423b5250e172041b9fd015e4919a4834593fad70dc0", func := "indenture/indenturelaw09.TabWhole", spec := "tabWhole", inPlace := ["internal/bytealg.IndexByteString", "internal/bytealg.IndexString"], unfollowed := true, recurses := true, named := ["unicode/utf8.first", "unicode/utf8.acceptRanges", "internal/bytealg.MaxLen"], apart := false, laid := [("unicode/utf8.acceptRanges", laid_unicode_utf8_acceptRanges), ("unicode/utf8.first", laid_unicode_utf8_first)], narrowed := true }
def TabWholeUptoSaid : Prop := tabWholeUptoRow.holds Tryd.pinned (OpenSpec.upto tabWholeSpec)

end Rows
end Go.Proofs.YtjlkdpnpkdchgaaDoor
