/-
  DERIVED. GIVEN WITH THE SEED: THE CARDS: each row of YtogbgllmmdgaaaaDoorRows.lean that lists a variable, with what it lists TIED to the program's text (the seventh form; the later family's looks); each row that meets fmt, with fmt's text TOLD by the authors' own Lean function (tested against real Go, not proved from fmt's source: count such statements apart). THE CARD IS WHAT COUNTS. Prove the row's statement (the work); the ties are given (YtogbgllmmdgaaaaDoorTie.lean); close each card by the builder's one call (the guide's Derived/Test/ToyasCard.lean, 'card_holds'). Laid BY PROGRAM, IN A SANDBOX (cutbox-door.mjs). By AI agents, Wed Nov 11 2026. No macro, syntax, notation, axiom, sorry.
-/
import Derived.Test.YtogbgllmmdgaaaaDoorRows
import GoSem.ClaimSeven
namespace Go.Proofs.YtogbgllmmdgaaaaDoor
namespace Rows

/-- THE TIED CARD OF 'indenturelaw11.PytokenScans'. -/
def pytokenScansCard : Claim7 := { stood := { row := pytokenScansRow, standIns := [], harness := (true, "8be6e4298c29ecbd91d72d33fe49f7aeece887b6c45f25dea10ecd8ebddae0cc"), looks := false }, kinds := [], alts := [], laidByText := true, laidKinds := [.data, .data, .pinned, .pinned], laidTests := true, laidLooks := .later }
def PytokenScansCardSaid : Prop := Claim7.holds Tryd.pinned (.plain (OpenSpec.ofChange pytokenScansSpec)) pytokenScansCard

/-- THE TIED CARD OF 'indenturelaw11.PytokenCovers'. -/
def pytokenCoversCard : Claim7 := { stood := { row := pytokenCoversRow, standIns := [], harness := (true, "8be6e4298c29ecbd91d72d33fe49f7aeece887b6c45f25dea10ecd8ebddae0cc"), looks := false }, kinds := [], alts := [], laidByText := true, laidKinds := [.data, .data, .pinned, .pinned], laidTests := true, laidLooks := .later }
def PytokenCoversCardSaid : Prop := Claim7.holds Tryd.pinned (.plain (OpenSpec.ofChange pytokenCoversSpec)) pytokenCoversCard

/-- THE TIED CARD OF 'indenturelaw11.PytokenTexts'. -/
def pytokenTextsCard : Claim7 := { stood := { row := pytokenTextsRow, standIns := [], harness := (true, "8be6e4298c29ecbd91d72d33fe49f7aeece887b6c45f25dea10ecd8ebddae0cc"), looks := false }, kinds := [], alts := [], laidByText := true, laidKinds := [.data, .data, .pinned, .pinned], laidTests := true, laidLooks := .later }
def PytokenTextsCardSaid : Prop := Claim7.holds Tryd.pinned (.plain (OpenSpec.ofChange pytokenTextsSpec)) pytokenTextsCard

/-- THE TIED CARD OF 'indenturelaw11.PytokenSplit'. -/
def pytokenSplitCard : Claim7 := { stood := { row := pytokenSplitRow, standIns := [], harness := (true, "8be6e4298c29ecbd91d72d33fe49f7aeece887b6c45f25dea10ecd8ebddae0cc"), looks := false }, kinds := [], alts := [], laidByText := true, laidKinds := [.data, .data, .pinned, .pinned], laidTests := true, laidLooks := .later }
def PytokenSplitCardSaid : Prop := Claim7.holds Tryd.pinned (.plain (OpenSpec.ofChange pytokenSplitSpec)) pytokenSplitCard

/-- THE TIED CARD OF 'indenturelaw11.PytokenOwn'. -/
def pytokenOwnCard : Claim7 := { stood := { row := pytokenOwnRow, standIns := [], harness := (true, "8be6e4298c29ecbd91d72d33fe49f7aeece887b6c45f25dea10ecd8ebddae0cc"), looks := false }, kinds := [], alts := [], laidByText := true, laidKinds := [.data, .data, .pinned, .pinned], laidTests := true, laidLooks := .later }
def PytokenOwnCardSaid : Prop := Claim7.holds Tryd.pinned (.plain (OpenSpec.ofChange pytokenOwnSpec)) pytokenOwnCard

/-- THE TIED CARD OF 'indenturelaw11.PytokenKnown'. -/
def pytokenKnownCard : Claim7 := { stood := { row := pytokenKnownRow, standIns := [], harness := (true, "8be6e4298c29ecbd91d72d33fe49f7aeece887b6c45f25dea10ecd8ebddae0cc"), looks := false }, kinds := [], alts := [], laidByText := true, laidKinds := [.data, .data, .pinned, .pinned], laidTests := true, laidLooks := .later }
def PytokenKnownCardSaid : Prop := Claim7.holds Tryd.pinned (.plain (OpenSpec.ofChange pytokenKnownSpec)) pytokenKnownCard

/-- THE SECOND FORM's CARD OF 'indenturelaw11.PytokenScans'. -/
def pytokenScansUptoCard : Claim7 := { stood := { row := pytokenScansUptoRow, standIns := [], harness := (true, "8be6e4298c29ecbd91d72d33fe49f7aeece887b6c45f25dea10ecd8ebddae0cc"), looks := false }, kinds := [], alts := [], laidByText := true, laidKinds := [.data, .data, .pinned, .pinned], laidTests := true, laidLooks := .later }
def PytokenScansUptoCardSaid : Prop := Claim7.holds Tryd.pinned (.plain (OpenSpec.upto pytokenScansSpec)) pytokenScansUptoCard

/-- THE SECOND FORM's CARD OF 'indenturelaw11.PytokenCovers'. -/
def pytokenCoversUptoCard : Claim7 := { stood := { row := pytokenCoversUptoRow, standIns := [], harness := (true, "8be6e4298c29ecbd91d72d33fe49f7aeece887b6c45f25dea10ecd8ebddae0cc"), looks := false }, kinds := [], alts := [], laidByText := true, laidKinds := [.data, .data, .pinned, .pinned], laidTests := true, laidLooks := .later }
def PytokenCoversUptoCardSaid : Prop := Claim7.holds Tryd.pinned (.plain (OpenSpec.upto pytokenCoversSpec)) pytokenCoversUptoCard

/-- THE SECOND FORM's CARD OF 'indenturelaw11.PytokenTexts'. -/
def pytokenTextsUptoCard : Claim7 := { stood := { row := pytokenTextsUptoRow, standIns := [], harness := (true, "8be6e4298c29ecbd91d72d33fe49f7aeece887b6c45f25dea10ecd8ebddae0cc"), looks := false }, kinds := [], alts := [], laidByText := true, laidKinds := [.data, .data, .pinned, .pinned], laidTests := true, laidLooks := .later }
def PytokenTextsUptoCardSaid : Prop := Claim7.holds Tryd.pinned (.plain (OpenSpec.upto pytokenTextsSpec)) pytokenTextsUptoCard

/-- THE SECOND FORM's CARD OF 'indenturelaw11.PytokenSplit'. -/
def pytokenSplitUptoCard : Claim7 := { stood := { row := pytokenSplitUptoRow, standIns := [], harness := (true, "8be6e4298c29ecbd91d72d33fe49f7aeece887b6c45f25dea10ecd8ebddae0cc"), looks := false }, kinds := [], alts := [], laidByText := true, laidKinds := [.data, .data, .pinned, .pinned], laidTests := true, laidLooks := .later }
def PytokenSplitUptoCardSaid : Prop := Claim7.holds Tryd.pinned (.plain (OpenSpec.upto pytokenSplitSpec)) pytokenSplitUptoCard

/-- THE SECOND FORM's CARD OF 'indenturelaw11.PytokenOwn'. -/
def pytokenOwnUptoCard : Claim7 := { stood := { row := pytokenOwnUptoRow, standIns := [], harness := (true, "8be6e4298c29ecbd91d72d33fe49f7aeece887b6c45f25dea10ecd8ebddae0cc"), looks := false }, kinds := [], alts := [], laidByText := true, laidKinds := [.data, .data, .pinned, .pinned], laidTests := true, laidLooks := .later }
def PytokenOwnUptoCardSaid : Prop := Claim7.holds Tryd.pinned (.plain (OpenSpec.upto pytokenOwnSpec)) pytokenOwnUptoCard

/-- THE SECOND FORM's CARD OF 'indenturelaw11.PytokenKnown'. -/
def pytokenKnownUptoCard : Claim7 := { stood := { row := pytokenKnownUptoRow, standIns := [], harness := (true, "8be6e4298c29ecbd91d72d33fe49f7aeece887b6c45f25dea10ecd8ebddae0cc"), looks := false }, kinds := [], alts := [], laidByText := true, laidKinds := [.data, .data, .pinned, .pinned], laidTests := true, laidLooks := .later }
def PytokenKnownUptoCardSaid : Prop := Claim7.holds Tryd.pinned (.plain (OpenSpec.upto pytokenKnownSpec)) pytokenKnownUptoCard
end Rows
end Go.Proofs.YtogbgllmmdgaaaaDoor
