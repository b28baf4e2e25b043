/-
  NARROWER THAN 'FOR EVERY INPUT', by the rows' own cells (each row's printed sentence says how): UtfChars: laid · UtfPuts: laid · UtfSteps: laid · UtfBack: laid · UtfWhole: laid · UtfJoins: laid.
  DERIVED. THE GIVEN ROWS OF THIS SEAT. 6 by the template 'for every input the law returns true; each argument reads behind the call as it read before'; 0 by the template 'total and deterministic' (their statements: YtibodioapkmgkaaDoorTotals.lean).
  GIVEN WITH THE SEED: the statements are not yours to turn. If you find one false, say at which input.
  Laid BY PROGRAM, IN A SANDBOX (cutbox-rows.mjs): the forced cells as the released guide's own fill.sh prints them over the translation 3c28c2d3fae00d9e… (all of the seat's roots in one cut). By AI agents, Wed Nov 11 2026. No macro, syntax, notation, axiom, sorry.
-/
import Derived.Test.YtibodioapkmgkaaDoorChecked
import GoSem.Claim
import GoSem.ClaimJoined
import GoSem.ClaimMapViews
import Derived.JoinedTies
import Derived.KernelRfl
namespace Go.Proofs.YtibodioapkmgkaaDoor
/- THE CELL 'sum', in the pinned program and in every row, IS THE sha256 OF THE DUMP (.gsa) THAT YtibodioapkmgkaaDoorProg.lean LOADS. Nothing in Lean hashes anything: it is a label: what it is worth is what the hold of that sum in a sandbox is worth. -/
noncomputable def Tryd.pinned : Pinned := { name := "ytibodioapkmgkaadoor", sum := "3c28c2d3fae00d9ec5849dc88165b4812103742623f739624b19743afeaa05df", checked := Tryd.checked }
namespace Rows
def none {H : Type} : Left H := { results := [], args := [] }

/- WHAT THE LISTED PACKAGE-LEVEL VARIABLES READ AS WHEN THE CALL BEGINS. Each datum BY PROGRAM (the guide's laid-datum.mjs) off the statement by which the dump's own 'gosem.cut.vars' lays the variable. In a bare row this is a premise. The card (YtibodioapkmgkaaDoorCards.lean) ties it to the program's text. -/
def laid_indenture_utf_sizes {H : Type} : DataW H := .agg [.lit (.int .i64 1), .lit (.int .i64 1), .lit (.int .i64 1), .lit (.int .i64 1), .lit (.int .i64 1), .lit (.int .i64 1), .lit (.int .i64 1), .lit (.int .i64 1), .lit (.int .i64 1), .lit (.int .i64 1), .lit (.int .i64 1), .lit (.int .i64 1), .lit (.int .i64 1), .lit (.int .i64 1), .lit (.int .i64 1), .lit (.int .i64 1), .lit (.int .i64 0), .lit (.int .i64 0), .lit (.int .i64 0), .lit (.int .i64 0), .lit (.int .i64 0), .lit (.int .i64 0), .lit (.int .i64 0), .lit (.int .i64 0), .lit (.int .i64 2), .lit (.int .i64 2), .lit (.int .i64 2), .lit (.int .i64 2), .lit (.int .i64 3), .lit (.int .i64 3), .lit (.int .i64 4), .lit (.int .i64 0)]
def laid_indenture_utf_leads {H : Type} : DataW H := .agg [.lit (.int .u8 0), .lit (.int .u8 0), .lit (.int .u8 192), .lit (.int .u8 224), .lit (.int .u8 240)]
def laid_indenture_utf_leasts {H : Type} : DataW H := .agg [.lit (.int .i32 0), .lit (.int .i32 0), .lit (.int .i32 128), .lit (.int .i32 2048), .lit (.int .i32 65536)]

/-- 'indenturelaw01.UtfChars': WHATEVER THE INPUT: true; the input reads as it did. -/
def utfCharsSpec : ChangeSpec := { name := "utfChars", fn := fun _ => fun
  | [d1, d2] => { results := [.lit (.bool true)], args := [d1, d2] }
  | _ => none }
def utfCharsRow : OpenClaim := { program := "ytibodioapkmgkaadoor", sum := "3c28c2d3fae00d9ec5849dc88165b4812103742623f739624b19743afeaa05df", func := "indenture/indenturelaw01.UtfChars", spec := "utfChars", unfollowed := true, recurses := true, named := ["indenture/utf.sizes", "indenture/utf.leads", "indenture/utf.leasts"], apart := false, laid := [("indenture/utf.sizes", laid_indenture_utf_sizes), ("indenture/utf.leads", laid_indenture_utf_leads), ("indenture/utf.leasts", laid_indenture_utf_leasts)] }
def UtfCharsSaid : Prop := utfCharsRow.holds Tryd.pinned (OpenSpec.ofChange utfCharsSpec)

/-- ITS FALSE NEIGHBOUR: 'it returns false'. Refute it at one input. -/
def utfCharsWrong : ChangeSpec := { name := "utfChars", fn := fun _ => fun
  | [d1, d2] => { results := [.lit (.bool false)], args := [d1, d2] }
  | _ => none }
def UtfCharsWrongFalsely : Prop := utfCharsRow.holds Tryd.pinned (OpenSpec.ofChange utfCharsWrong)

/-- 'indenturelaw01.UtfPuts': WHATEVER THE INPUT: true; the input reads as it did. -/
def utfPutsSpec : ChangeSpec := { name := "utfPuts", fn := fun _ => fun
  | [d] => { results := [.lit (.bool true)], args := [d] }
  | _ => none }
def utfPutsRow : OpenClaim := { program := "ytibodioapkmgkaadoor", sum := "3c28c2d3fae00d9ec5849dc88165b4812103742623f739624b19743afeaa05df", func := "indenture/indenturelaw01.UtfPuts", spec := "utfPuts", unfollowed := true, recurses := true, named := ["indenture/utf.leads", "indenture/utf.leasts", "indenture/utf.sizes"], apart := false, laid := [("indenture/utf.sizes", laid_indenture_utf_sizes), ("indenture/utf.leads", laid_indenture_utf_leads), ("indenture/utf.leasts", laid_indenture_utf_leasts)] }
def UtfPutsSaid : Prop := utfPutsRow.holds Tryd.pinned (OpenSpec.ofChange utfPutsSpec)

/-- ITS FALSE NEIGHBOUR: 'it returns false'. Refute it at one input. -/
def utfPutsWrong : ChangeSpec := { name := "utfPuts", fn := fun _ => fun
  | [d] => { results := [.lit (.bool false)], args := [d] }
  | _ => none }
def UtfPutsWrongFalsely : Prop := utfPutsRow.holds Tryd.pinned (OpenSpec.ofChange utfPutsWrong)

/-- 'indenturelaw01.UtfSteps': WHATEVER THE INPUT: true; the input reads as it did. -/
def utfStepsSpec : ChangeSpec := { name := "utfSteps", fn := fun _ => fun
  | [d1, d2] => { results := [.lit (.bool true)], args := [d1, d2] }
  | _ => none }
def utfStepsRow : OpenClaim := { program := "ytibodioapkmgkaadoor", sum := "3c28c2d3fae00d9ec5849dc88165b4812103742623f739624b19743afeaa05df", func := "indenture/indenturelaw01.UtfSteps", spec := "utfSteps", unfollowed := true, recurses := true, named := ["indenture/utf.sizes", "indenture/utf.leads", "indenture/utf.leasts"], apart := false, laid := [("indenture/utf.sizes", laid_indenture_utf_sizes), ("indenture/utf.leads", laid_indenture_utf_leads), ("indenture/utf.leasts", laid_indenture_utf_leasts)] }
def UtfStepsSaid : Prop := utfStepsRow.holds Tryd.pinned (OpenSpec.ofChange utfStepsSpec)

/-- ITS FALSE NEIGHBOUR: 'it returns false'. Refute it at one input. -/
def utfStepsWrong : ChangeSpec := { name := "utfSteps", fn := fun _ => fun
  | [d1, d2] => { results := [.lit (.bool false)], args := [d1, d2] }
  | _ => none }
def UtfStepsWrongFalsely : Prop := utfStepsRow.holds Tryd.pinned (OpenSpec.ofChange utfStepsWrong)

/-- 'indenturelaw01.UtfBack': WHATEVER THE INPUT: true; the input reads as it did. -/
def utfBackSpec : ChangeSpec := { name := "utfBack", fn := fun _ => fun
  | [d1, d2, d3] => { results := [.lit (.bool true)], args := [d1, d2, d3] }
  | _ => none }
def utfBackRow : OpenClaim := { program := "ytibodioapkmgkaadoor", sum := "3c28c2d3fae00d9ec5849dc88165b4812103742623f739624b19743afeaa05df", func := "indenture/indenturelaw01.UtfBack", spec := "utfBack", unfollowed := true, recurses := true, named := ["indenture/utf.leads", "indenture/utf.leasts", "indenture/utf.sizes"], apart := false, laid := [("indenture/utf.sizes", laid_indenture_utf_sizes), ("indenture/utf.leads", laid_indenture_utf_leads), ("indenture/utf.leasts", laid_indenture_utf_leasts)] }
def UtfBackSaid : Prop := utfBackRow.holds Tryd.pinned (OpenSpec.ofChange utfBackSpec)

/-- ITS FALSE NEIGHBOUR: 'it returns false'. Refute it at one input. -/
def utfBackWrong : ChangeSpec := { name := "utfBack", fn := fun _ => fun
  | [d1, d2, d3] => { results := [.lit (.bool false)], args := [d1, d2, d3] }
  | _ => none }
def UtfBackWrongFalsely : Prop := utfBackRow.holds Tryd.pinned (OpenSpec.ofChange utfBackWrong)

/-- 'indenturelaw01.UtfWhole': WHATEVER THE INPUT: true; the input reads as it did. -/
def utfWholeSpec : ChangeSpec := { name := "utfWhole", fn := fun _ => fun
  | [d] => { results := [.lit (.bool true)], args := [d] }
  | _ => none }
def utfWholeRow : OpenClaim := { program := "ytibodioapkmgkaadoor", sum := "3c28c2d3fae00d9ec5849dc88165b4812103742623f739624b19743afeaa05df", func := "indenture/indenturelaw01.UtfWhole", spec := "utfWhole", unfollowed := true, recurses := true, named := ["indenture/utf.sizes", "indenture/utf.leads", "indenture/utf.leasts"], apart := false, laid := [("indenture/utf.sizes", laid_indenture_utf_sizes), ("indenture/utf.leads", laid_indenture_utf_leads), ("indenture/utf.leasts", laid_indenture_utf_leasts)] }
def UtfWholeSaid : Prop := utfWholeRow.holds Tryd.pinned (OpenSpec.ofChange utfWholeSpec)

/-- ITS FALSE NEIGHBOUR: 'it returns false'. Refute it at one input. -/
def utfWholeWrong : ChangeSpec := { name := "utfWhole", fn := fun _ => fun
  | [d] => { results := [.lit (.bool false)], args := [d] }
  | _ => none }
def UtfWholeWrongFalsely : Prop := utfWholeRow.holds Tryd.pinned (OpenSpec.ofChange utfWholeWrong)

/-- 'indenturelaw01.UtfJoins': WHATEVER THE INPUT: true; the input reads as it did. -/
def utfJoinsSpec : ChangeSpec := { name := "utfJoins", fn := fun _ => fun
  | [d1, d2] => { results := [.lit (.bool true)], args := [d1, d2] }
  | _ => none }
def utfJoinsRow : OpenClaim := { program := "ytibodioapkmgkaadoor", sum := "3c28c2d3fae00d9ec5849dc88165b4812103742623f739624b19743afeaa05df", func := "indenture/indenturelaw01.UtfJoins", spec := "utfJoins", unfollowed := true, recurses := true, named := ["indenture/utf.sizes", "indenture/utf.leads", "indenture/utf.leasts"], apart := false, laid := [("indenture/utf.sizes", laid_indenture_utf_sizes), ("indenture/utf.leads", laid_indenture_utf_leads), ("indenture/utf.leasts", laid_indenture_utf_leasts)] }
def UtfJoinsSaid : Prop := utfJoinsRow.holds Tryd.pinned (OpenSpec.ofChange utfJoinsSpec)

/-- ITS FALSE NEIGHBOUR: 'it returns false'. Refute it at one input. -/
def utfJoinsWrong : ChangeSpec := { name := "utfJoins", fn := fun _ => fun
  | [d1, d2] => { results := [.lit (.bool false)], args := [d1, d2] }
  | _ => none }
def UtfJoinsWrongFalsely : Prop := utfJoinsRow.holds Tryd.pinned (OpenSpec.ofChange utfJoinsWrong)

/- THE SECOND FORM. 'bulk': how many values and letters a reading holds, each counted each time it is reached (what is shared counts as often as it is met; a slice's spare places count too). A statement '..UptoSaid' is the law's where the arguments, and the package variables that the reading takes, are together of bulk at most 1048576: NARROWER than '..Said'. Prove '..Said' where nothing that the law and all that it calls make is longer than what came in: it says more and counts as full. Else prove '..UptoSaid'. A law counts once. -/
mutual
def uptoBulk {H : Type} : DataW H → Nat
  | .lit (.string bytes) => bytes.length + 1
  | .lit _ => 1
  | .nil => 1
  | .ptr d => uptoBulk d + 1
  | .slice elems spare => uptoBulkAll elems + uptoBulkAll spare + 1
  | .agg parts => uptoBulkAll parts + 1
  | .iface _ d => uptoBulk d + 1
  | .map entries => uptoBulkEntries entries + 1
  | .held _ => 1
def uptoBulkAll {H : Type} : List (DataW H) → Nat
  | [] => 0
  | d :: r => uptoBulk d + uptoBulkAll r
def uptoBulkEntries {H : Type} : List (Lit × DataW H) → Nat
  | [] => 0
  | x :: r => uptoBulkEntry x + uptoBulkEntries r
def uptoBulkEntry {H : Type} : Lit × DataW H → Nat
  | (.string bytes, d) => bytes.length + uptoBulk d + 1
  | (_, d) => uptoBulk d + 1
 end
def uptoSmall : (H : Type) → List (DataW H) → Bool := fun _ ds => decide (uptoBulkAll ds ≤ 1048576)
def OpenSpec.upto (s : _root_.Go.ChangeSpec) : _root_.Go.OpenSpec := { _root_.Go.OpenSpec.ofChange s with cond := some uptoSmall }

/-- 'indenturelaw01.UtfChars', WHERE WHAT IT READS IS OF BULK AT MOST 1048576: true; the input reads as it did. -/
def utfCharsUptoRow : OpenClaim := { program := "ytibodioapkmgkaadoor", sum := "3c28c2d3fae00d9ec5849dc88165b4812103742623f739624b19743afeaa05df", func := "indenture/indenturelaw01.UtfChars", spec := "utfChars", unfollowed := true, recurses := true, named := ["indenture/utf.sizes", "indenture/utf.leads", "indenture/utf.leasts"], apart := false, laid := [("indenture/utf.sizes", laid_indenture_utf_sizes), ("indenture/utf.leads", laid_indenture_utf_leads), ("indenture/utf.leasts", laid_indenture_utf_leasts)], narrowed := true }
def UtfCharsUptoSaid : Prop := utfCharsUptoRow.holds Tryd.pinned (OpenSpec.upto utfCharsSpec)

/-- 'indenturelaw01.UtfPuts', WHERE WHAT IT READS IS OF BULK AT MOST 1048576: true; the input reads as it did. -/
def utfPutsUptoRow : OpenClaim := { program := "ytibodioapkmgkaadoor", sum := "3c28c2d3fae00d9ec5849dc88165b4812103742623f739624b19743afeaa05df", func := "indenture/indenturelaw01.UtfPuts", spec := "utfPuts", unfollowed := true, recurses := true, named := ["indenture/utf.leads", "indenture/utf.leasts", "indenture/utf.sizes"], apart := false, laid := [("indenture/utf.sizes", laid_indenture_utf_sizes), ("indenture/utf.leads", laid_indenture_utf_leads), ("indenture/utf.leasts", laid_indenture_utf_leasts)], narrowed := true }
def UtfPutsUptoSaid : Prop := utfPutsUptoRow.holds Tryd.pinned (OpenSpec.upto utfPutsSpec)

/-- 'indenturelaw01.UtfSteps', WHERE WHAT IT READS IS OF BULK AT MOST 1048576: true; the input reads as it did. -/
def utfStepsUptoRow : OpenClaim := { program := "ytibodioapkmgkaadoor", sum := "3c28c2d3fae00d9ec5849dc88165b4812103742623f739624b19743afeaa05df", func := "indenture/indenturelaw01.UtfSteps", spec := "utfSteps", unfollowed := true, recurses := true, named := ["indenture/utf.sizes", "indenture/utf.leads", "indenture/utf.leasts"], apart := false, laid := [("indenture/utf.sizes", laid_indenture_utf_sizes), ("indenture/utf.leads", laid_indenture_utf_leads), ("indenture/utf.leasts", laid_indenture_utf_leasts)], narrowed := true }
def UtfStepsUptoSaid : Prop := utfStepsUptoRow.holds Tryd.pinned (OpenSpec.upto utfStepsSpec)

/-- 'indenturelaw01.UtfBack', WHERE WHAT IT READS IS OF BULK AT MOST 1048576: true; the input reads as it did. -/
def utfBackUptoRow : OpenClaim := { program := "ytibodioapkmgkaadoor", sum := "3c28c2d3fae00d9ec5849dc88165b4812103742623f739624b19743afeaa05df", func := "indenture/indenturelaw01.UtfBack", spec := "utfBack", unfollowed := true, recurses := true, named := ["indenture/utf.leads", "indenture/utf.leasts", "indenture/utf.sizes"], apart := false, laid := [("indenture/utf.sizes", laid_indenture_utf_sizes), ("indenture/utf.leads", laid_indenture_utf_leads), ("indenture/utf.leasts", laid_indenture_utf_leasts)], narrowed := true }
def UtfBackUptoSaid : Prop := utfBackUptoRow.holds Tryd.pinned (OpenSpec.upto utfBackSpec)

/-- 'indenturelaw01.UtfWhole', WHERE WHAT IT READS IS OF BULK AT MOST 1048576: true; the input reads as it did. -/
def utfWholeUptoRow : OpenClaim := { program := "ytibodioapkmgkaadoor", sum := "3c28c2d3fae00d9ec5849dc88165b4812103742623f739624b19743afeaa05df", func := "indenture/indenturelaw01.UtfWhole", spec := "utfWhole", unfollowed := true, recurses := true, named := ["indenture/utf.sizes", "indenture/utf.leads", "indenture/utf.leasts"], apart := false, laid := [("indenture/utf.sizes", laid_indenture_utf_sizes), ("indenture/utf.leads", laid_indenture_utf_leads), ("indenture/utf.leasts", laid_indenture_utf_leasts)], narrowed := true }
def UtfWholeUptoSaid : Prop := utfWholeUptoRow.holds Tryd.pinned (OpenSpec.upto utfWholeSpec)

/-- 'indenturelaw01.UtfJoins', WHERE WHAT IT READS IS OF BULK AT MOST 1048576: true; the input reads as it did. -/
def utfJoinsUptoRow : OpenClaim := { program := "ytibodioapkmgkaadoor", sum := "3c28c2d3fae00d9ec5849dc88165b4812103742623f739624b19743afeaa05df", func := "indenture/indenturelaw01.UtfJoins", spec := "utfJoins", unfollowed := true, recurses := true, named := ["indenture/utf.sizes", "indenture/utf.leads", "indenture/utf.leasts"], apart := false, laid := [("indenture/utf.sizes", laid_indenture_utf_sizes), ("indenture/utf.leads", laid_indenture_utf_leads), ("indenture/utf.leasts", laid_indenture_utf_leasts)], narrowed := true }
def UtfJoinsUptoSaid : Prop := utfJoinsUptoRow.holds Tryd.pinned (OpenSpec.upto utfJoinsSpec)

end Rows
end Go.Proofs.YtibodioapkmgkaaDoor
