/-
  DERIVED. GIVEN WITH THE SEED: THE CARDS: each row of YtfcpieodgflmnaaDoorRows.lean that lists a variable, with what it lists TIED to the program's text (the seventh form; the later family's looks); each row that meets fmt, with fmt's text TOLD by the authors' own Lean function (tested against real Go, not proved from fmt's source: count such statements apart). THE CARD IS WHAT COUNTS. Prove the row's statement (the work); the ties are given (YtfcpieodgflmnaaDoorTie.lean); close each card by the builder's one call (the guide's Derived/Test/ToyasCard.lean, 'card_holds'). Laid BY PROGRAM, IN A SANDBOX (cutbox-door.mjs). By AI agents, Wed Nov 11 2026. No macro, syntax, notation, axiom, sorry.
-/
import Derived.Test.YtfcpieodgflmnaaDoorRows
import GoSem.ClaimSeven
namespace Go.Proofs.YtfcpieodgflmnaaDoor
namespace Rows

/-- THE TIED CARD OF 'indenturelaw03.PlaceTells'. -/
def placeTellsCard : Claim7 := { stood := { row := placeTellsRow, standIns := [], harness := (true, "b8acfd9bc5288e8cf1d49c56d8c1e9ec93a13bef4fd1e6a6bc062b42bf577b9e"), looks := false }, kinds := [], alts := [], laidByText := true, laidKinds := [.data, .data, .data], laidTests := true, laidLooks := .later }
def PlaceTellsCardSaid : Prop := Claim7.holds Tryd.pinned (.plain (OpenSpec.ofChange placeTellsSpec)) placeTellsCard

/-- THE TIED CARD OF 'indenturelaw03.PlaceNil'. -/
def placeNilCard : Claim7 := { stood := { row := placeNilRow, standIns := [], harness := (true, "b8acfd9bc5288e8cf1d49c56d8c1e9ec93a13bef4fd1e6a6bc062b42bf577b9e"), looks := false }, kinds := [], alts := [], laidByText := true, laidKinds := [.data, .data, .data], laidTests := true, laidLooks := .later }
def PlaceNilCardSaid : Prop := Claim7.holds Tryd.pinned (.plain (OpenSpec.ofChange placeNilSpec)) placeNilCard

/-- THE TIED CARD OF 'indenturelaw03.PlaceBack'. -/
def placeBackCard : Claim7 := { stood := { row := placeBackRow, standIns := [], harness := (true, "b8acfd9bc5288e8cf1d49c56d8c1e9ec93a13bef4fd1e6a6bc062b42bf577b9e"), looks := false }, kinds := [], alts := [], laidByText := true, laidKinds := [.data, .data, .data], laidTests := true, laidLooks := .later }
def PlaceBackCardSaid : Prop := Claim7.holds Tryd.pinned (.plain (OpenSpec.ofChange placeBackSpec)) placeBackCard

/-- THE TIED CARD OF 'indenturelaw03.PlaceChars'. -/
def placeCharsCard : Claim7 := { stood := { row := placeCharsRow, standIns := [], harness := (true, "b8acfd9bc5288e8cf1d49c56d8c1e9ec93a13bef4fd1e6a6bc062b42bf577b9e"), looks := false }, kinds := [], alts := [], laidByText := true, laidKinds := [.data, .data, .data], laidTests := true, laidLooks := .later }
def PlaceCharsCardSaid : Prop := Claim7.holds Tryd.pinned (.plain (OpenSpec.ofChange placeCharsSpec)) placeCharsCard

/-- THE SECOND FORM's CARD OF 'indenturelaw03.PlaceTells'. -/
def placeTellsUptoCard : Claim7 := { stood := { row := placeTellsUptoRow, standIns := [], harness := (true, "b8acfd9bc5288e8cf1d49c56d8c1e9ec93a13bef4fd1e6a6bc062b42bf577b9e"), looks := false }, kinds := [], alts := [], laidByText := true, laidKinds := [.data, .data, .data], laidTests := true, laidLooks := .later }
def PlaceTellsUptoCardSaid : Prop := Claim7.holds Tryd.pinned (.plain (OpenSpec.upto placeTellsSpec)) placeTellsUptoCard

/-- THE SECOND FORM's CARD OF 'indenturelaw03.PlaceNil'. -/
def placeNilUptoCard : Claim7 := { stood := { row := placeNilUptoRow, standIns := [], harness := (true, "b8acfd9bc5288e8cf1d49c56d8c1e9ec93a13bef4fd1e6a6bc062b42bf577b9e"), looks := false }, kinds := [], alts := [], laidByText := true, laidKinds := [.data, .data, .data], laidTests := true, laidLooks := .later }
def PlaceNilUptoCardSaid : Prop := Claim7.holds Tryd.pinned (.plain (OpenSpec.upto placeNilSpec)) placeNilUptoCard

/-- THE SECOND FORM's CARD OF 'indenturelaw03.PlaceBack'. -/
def placeBackUptoCard : Claim7 := { stood := { row := placeBackUptoRow, standIns := [], harness := (true, "b8acfd9bc5288e8cf1d49c56d8c1e9ec93a13bef4fd1e6a6bc062b42bf577b9e"), looks := false }, kinds := [], alts := [], laidByText := true, laidKinds := [.data, .data, .data], laidTests := true, laidLooks := .later }
def PlaceBackUptoCardSaid : Prop := Claim7.holds Tryd.pinned (.plain (OpenSpec.upto placeBackSpec)) placeBackUptoCard

/-- THE SECOND FORM's CARD OF 'indenturelaw03.PlaceChars'. -/
def placeCharsUptoCard : Claim7 := { stood := { row := placeCharsUptoRow, standIns := [], harness := (true, "b8acfd9bc5288e8cf1d49c56d8c1e9ec93a13bef4fd1e6a6bc062b42bf577b9e"), looks := false }, kinds := [], alts := [], laidByText := true, laidKinds := [.data, .data, .data], laidTests := true, laidLooks := .later }
def PlaceCharsUptoCardSaid : Prop := Claim7.holds Tryd.pinned (.plain (OpenSpec.upto placeCharsSpec)) placeCharsUptoCard
end Rows
end Go.Proofs.YtfcpieodgflmnaaDoor
