/-
  DERIVED. GIVEN WITH THE SEED: THE CARDS: each row of YtlpkflioikmgjaaDoorRows.lean that lists a variable, with what it lists TIED to the program's text (the seventh form; the later family's looks); each row that meets fmt, with fmt's text TOLD by the authors' own Lean function (tested against real Go, not proved from fmt's source: count such statements apart). THE CARD IS WHAT COUNTS. Prove the row's statement (the work); the ties are given (YtlpkflioikmgjaaDoorTie.lean); close each card by the builder's one call (the guide's Derived/Test/ToyasCard.lean, 'card_holds'). Laid BY PROGRAM, IN A SANDBOX (cutbox-door.mjs). By AI agents, Wed Nov 11 2026. No macro, syntax, notation, axiom, sorry.
-/
import Derived.Test.YtlpkflioikmgjaaDoorRows
import GoSem.ClaimSeven
namespace Go.Proofs.YtlpkflioikmgjaaDoor
namespace Rows

/-- THE TIED CARD OF 'indenturelaw11.PytokenScans'. -/
def pytokenScansCard : Claim7 := { stood := { row := pytokenScansRow, standIns := [], harness := (true, "f693cc3e5815ebcdd6689c552bdf0563d05dddf843ceba1b1b5bd71a4d1e72ac"), looks := false }, kinds := [], alts := [], laidByText := true, laidKinds := [.data, .data, .pinned, .pinned], laidTests := true, laidLooks := .later }
def PytokenScansCardSaid : Prop := Claim7.holds Tryd.pinned (.plain (OpenSpec.ofChange pytokenScansSpec)) pytokenScansCard

/-- THE TIED CARD OF 'indenturelaw11.PytokenKnown'. -/
def pytokenKnownCard : Claim7 := { stood := { row := pytokenKnownRow, standIns := [], harness := (true, "f693cc3e5815ebcdd6689c552bdf0563d05dddf843ceba1b1b5bd71a4d1e72ac"), looks := false }, kinds := [], alts := [], laidByText := true, laidKinds := [.data, .data, .pinned, .pinned], laidTests := true, laidLooks := .later }
def PytokenKnownCardSaid : Prop := Claim7.holds Tryd.pinned (.plain (OpenSpec.ofChange pytokenKnownSpec)) pytokenKnownCard

/-- THE SECOND FORM's CARD OF 'indenturelaw11.PytokenScans'. -/
def pytokenScansUptoCard : Claim7 := { stood := { row := pytokenScansUptoRow, standIns := [], harness := (true, "f693cc3e5815ebcdd6689c552bdf0563d05dddf843ceba1b1b5bd71a4d1e72ac"), looks := false }, kinds := [], alts := [], laidByText := true, laidKinds := [.data, .data, .pinned, .pinned], laidTests := true, laidLooks := .later }
def PytokenScansUptoCardSaid : Prop := Claim7.holds Tryd.pinned (.plain (OpenSpec.upto pytokenScansSpec)) pytokenScansUptoCard

/-- THE SECOND FORM's CARD OF 'indenturelaw11.PytokenKnown'. -/
def pytokenKnownUptoCard : Claim7 := { stood := { row := pytokenKnownUptoRow, standIns := [], harness := (true, "f693cc3e5815ebcdd6689c552bdf0563d05dddf843ceba1b1b5bd71a4d1e72ac"), looks := false }, kinds := [], alts := [], laidByText := true, laidKinds := [.data, .data, .pinned, .pinned], laidTests := true, laidLooks := .later }
def PytokenKnownUptoCardSaid : Prop := Claim7.holds Tryd.pinned (.plain (OpenSpec.upto pytokenKnownSpec)) pytokenKnownUptoCard
end Rows
end Go.Proofs.YtlpkflioikmgjaaDoor
