/-
  DERIVED. GIVEN WITH THE SEED: THE CARDS: each row of YtilpfngjiolmaaaDoorRows.lean that lists a variable, with what it lists TIED to the program's text (the seventh form; the later family's looks); each row that meets fmt, with fmt's text TOLD by the authors' own Lean function (tested against real Go, not proved from fmt's source: count such statements apart). THE CARD IS WHAT COUNTS. Prove the row's statement (the work); the ties are given (YtilpfngjiolmaaaDoorTie.lean); close each card by the builder's one call (the guide's Derived/Test/ToyasCard.lean, 'card_holds'). Laid BY PROGRAM, IN A SANDBOX (cutbox-door.mjs). By AI agents, Wed Nov 11 2026. No macro, syntax, notation, axiom, sorry.
-/
import Derived.Test.YtilpfngjiolmaaaDoorRows
import GoSem.ClaimSeven
namespace Go.Proofs.YtilpfngjiolmaaaDoor
namespace Rows

/-- THE TIED CARD OF 'indenturelaw12.PylayoutBlocks'. -/
def pylayoutBlocksCard : Claim7 := { stood := { row := pylayoutBlocksRow, standIns := [], harness := (true, "4fe26ebde9e40929fdf754a1ff2d88e91c437adbfbbcad9948f166a29b409e40"), looks := false }, kinds := [], alts := [], laidByText := true, laidKinds := [.data, .data, .pinned, .pinned], laidTests := true, laidLooks := .later }
def PylayoutBlocksCardSaid : Prop := Claim7.holds Tryd.pinned (.plain (OpenSpec.ofChange pylayoutBlocksSpec)) pylayoutBlocksCard

/-- THE TIED CARD OF 'indenturelaw12.PylayoutJoins'. -/
def pylayoutJoinsCard : Claim7 := { stood := { row := pylayoutJoinsRow, standIns := [], harness := (true, "4fe26ebde9e40929fdf754a1ff2d88e91c437adbfbbcad9948f166a29b409e40"), looks := false }, kinds := [], alts := [], laidByText := true, laidKinds := [.data, .data, .pinned, .pinned], laidTests := true, laidLooks := .later }
def PylayoutJoinsCardSaid : Prop := Claim7.holds Tryd.pinned (.plain (OpenSpec.ofChange pylayoutJoinsSpec)) pylayoutJoinsCard

/-- THE TIED CARD OF 'indenturelaw12.PylayoutKnown'. -/
def pylayoutKnownCard : Claim7 := { stood := { row := pylayoutKnownRow, standIns := [], harness := (true, "4fe26ebde9e40929fdf754a1ff2d88e91c437adbfbbcad9948f166a29b409e40"), looks := false }, kinds := [], alts := [], laidByText := true, laidKinds := [.data, .data, .pinned, .pinned], laidTests := true, laidLooks := .later }
def PylayoutKnownCardSaid : Prop := Claim7.holds Tryd.pinned (.plain (OpenSpec.ofChange pylayoutKnownSpec)) pylayoutKnownCard

/-- THE SECOND FORM's CARD OF 'indenturelaw12.PylayoutBlocks'. -/
def pylayoutBlocksUptoCard : Claim7 := { stood := { row := pylayoutBlocksUptoRow, standIns := [], harness := (true, "4fe26ebde9e40929fdf754a1ff2d88e91c437adbfbbcad9948f166a29b409e40"), looks := false }, kinds := [], alts := [], laidByText := true, laidKinds := [.data, .data, .pinned, .pinned], laidTests := true, laidLooks := .later }
def PylayoutBlocksUptoCardSaid : Prop := Claim7.holds Tryd.pinned (.plain (OpenSpec.upto pylayoutBlocksSpec)) pylayoutBlocksUptoCard

/-- THE SECOND FORM's CARD OF 'indenturelaw12.PylayoutJoins'. -/
def pylayoutJoinsUptoCard : Claim7 := { stood := { row := pylayoutJoinsUptoRow, standIns := [], harness := (true, "4fe26ebde9e40929fdf754a1ff2d88e91c437adbfbbcad9948f166a29b409e40"), looks := false }, kinds := [], alts := [], laidByText := true, laidKinds := [.data, .data, .pinned, .pinned], laidTests := true, laidLooks := .later }
def PylayoutJoinsUptoCardSaid : Prop := Claim7.holds Tryd.pinned (.plain (OpenSpec.upto pylayoutJoinsSpec)) pylayoutJoinsUptoCard

/-- THE SECOND FORM's CARD OF 'indenturelaw12.PylayoutKnown'. -/
def pylayoutKnownUptoCard : Claim7 := { stood := { row := pylayoutKnownUptoRow, standIns := [], harness := (true, "4fe26ebde9e40929fdf754a1ff2d88e91c437adbfbbcad9948f166a29b409e40"), looks := false }, kinds := [], alts := [], laidByText := true, laidKinds := [.data, .data, .pinned, .pinned], laidTests := true, laidLooks := .later }
def PylayoutKnownUptoCardSaid : Prop := Claim7.holds Tryd.pinned (.plain (OpenSpec.upto pylayoutKnownSpec)) pylayoutKnownUptoCard
end Rows
end Go.Proofs.YtilpfngjiolmaaaDoor
