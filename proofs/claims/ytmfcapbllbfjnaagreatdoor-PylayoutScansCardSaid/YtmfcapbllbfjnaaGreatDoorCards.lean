/-
  DERIVED. GIVEN WITH THE SEED: THE CARDS: each row of YtmfcapbllbfjnaaGreatDoorRows.lean that lists a variable, with what it lists TIED to the program's text (the seventh form; the later family's looks); each row that meets fmt, with fmt's text TOLD by the authors' own Lean function (tested against real Go, not proved from fmt's source: count such statements apart). THE CARD IS WHAT COUNTS. Prove the row's statement (the work); the ties are given (YtmfcapbllbfjnaaGreatDoorTie.lean); close each card by the builder's one call (the guide's Derived/Test/ToyasCard.lean, 'card_holds'). Laid BY PROGRAM, IN A SANDBOX (cutbox-door.mjs). By AI agents, Wed Nov 11 2026. No macro, syntax, notation, axiom, sorry.
-/
import Derived.Test.YtmfcapbllbfjnaaGreatDoorRows
import GoSem.ClaimSeven
namespace Go.Proofs.YtmfcapbllbfjnaaGreatDoor
namespace Rows

/-- THE TIED CARD OF 'indenturelaw12.PylayoutScans'. -/
def pylayoutScansCard : Claim7 := { stood := { row := pylayoutScansRow, standIns := [], harness := (true, "8221bb46a3905e39a9e6d22d2b60e6189f563dc4efe374d4dd345308f69ea306"), looks := false }, kinds := [], alts := [], laidByText := true, laidKinds := [.data, .data, .pinned, .pinned], laidTests := true, laidLooks := .later }
def PylayoutScansCardSaid : Prop := Claim7.holds Tryz.pinned (.plain (OpenSpec.ofChange pylayoutScansSpec)) pylayoutScansCard

/-- THE SECOND FORM's CARD OF 'indenturelaw12.PylayoutScans'. -/
def pylayoutScansUptoCard : Claim7 := { stood := { row := pylayoutScansUptoRow, standIns := [], harness := (true, "8221bb46a3905e39a9e6d22d2b60e6189f563dc4efe374d4dd345308f69ea306"), looks := false }, kinds := [], alts := [], laidByText := true, laidKinds := [.data, .data, .pinned, .pinned], laidTests := true, laidLooks := .later }
def PylayoutScansUptoCardSaid : Prop := Claim7.holds Tryz.pinned (.plain (OpenSpec.upto pylayoutScansSpec)) pylayoutScansUptoCard
end Rows
end Go.Proofs.YtmfcapbllbfjnaaGreatDoor
