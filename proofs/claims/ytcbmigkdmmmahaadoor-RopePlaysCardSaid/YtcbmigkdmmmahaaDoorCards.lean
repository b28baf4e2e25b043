/-
  DERIVED. GIVEN WITH THE SEED: THE CARDS: each row of YtcbmigkdmmmahaaDoorRows.lean that lists a variable, with what it lists TIED to the program's text (the seventh form; the later family's looks); each row that meets fmt, with fmt's text TOLD by the authors' own Lean function (tested against real Go, not proved from fmt's source: count such statements apart). THE CARD IS WHAT COUNTS. Prove the row's statement (the work); the ties are given (YtcbmigkdmmmahaaDoorTie.lean); close each card by the builder's one call (the guide's Derived/Test/ToyasCard.lean, 'card_holds'). Laid BY PROGRAM, IN A SANDBOX (cutbox-door.mjs). By AI agents, Wed Nov 11 2026. No macro, syntax, notation, axiom, sorry.
-/
import Derived.Test.YtcbmigkdmmmahaaDoorRows
import GoSem.ClaimSeven
namespace Go.Proofs.YtcbmigkdmmmahaaDoor
namespace Rows

/-- THE TIED CARD OF 'indenturelaw02.RopeTells'. -/
def ropeTellsCard : Claim7 := { stood := { row := ropeTellsRow, standIns := [], harness := (true, "142c47d2ec41e3e9d2b01a9ab529cd1170f667b12d6cc480641b0cf02a6d496d"), looks := false }, kinds := [], alts := [], laidByText := true, laidKinds := [.data, .data, .data], laidTests := true, laidLooks := .later }
def RopeTellsCardSaid : Prop := Claim7.holds Tryd.pinned (.plain (OpenSpec.ofChange ropeTellsSpec)) ropeTellsCard

/-- THE TIED CARD OF 'indenturelaw02.RopePlays'. -/
def ropePlaysCard : Claim7 := { stood := { row := ropePlaysRow, standIns := [], harness := (true, "142c47d2ec41e3e9d2b01a9ab529cd1170f667b12d6cc480641b0cf02a6d496d"), looks := false }, kinds := [], alts := [], laidByText := true, laidKinds := [.data, .data, .data], laidTests := true, laidLooks := .later }
def RopePlaysCardSaid : Prop := Claim7.holds Tryd.pinned (.plain (OpenSpec.ofChange ropePlaysSpec)) ropePlaysCard

/-- THE TIED CARD OF 'indenturelaw02.RopeFull'. -/
def ropeFullCard : Claim7 := { stood := { row := ropeFullRow, standIns := [], harness := (true, "142c47d2ec41e3e9d2b01a9ab529cd1170f667b12d6cc480641b0cf02a6d496d"), looks := false }, kinds := [], alts := [], laidByText := true, laidKinds := [.data, .data, .data], laidTests := true, laidLooks := .later }
def RopeFullCardSaid : Prop := Claim7.holds Tryd.pinned (.plain (OpenSpec.ofChange ropeFullSpec)) ropeFullCard

/-- THE TIED CARD OF 'indenturelaw02.RopeNil'. -/
def ropeNilCard : Claim7 := { stood := { row := ropeNilRow, standIns := [], harness := (true, "142c47d2ec41e3e9d2b01a9ab529cd1170f667b12d6cc480641b0cf02a6d496d"), looks := false }, kinds := [], alts := [], laidByText := true, laidKinds := [.data, .data, .data], laidTests := true, laidLooks := .later }
def RopeNilCardSaid : Prop := Claim7.holds Tryd.pinned (.plain (OpenSpec.ofChange ropeNilSpec)) ropeNilCard

/-- THE TIED CARD OF 'indenturelaw02.RopeLines'. -/
def ropeLinesCard : Claim7 := { stood := { row := ropeLinesRow, standIns := [], harness := (true, "142c47d2ec41e3e9d2b01a9ab529cd1170f667b12d6cc480641b0cf02a6d496d"), looks := false }, kinds := [], alts := [], laidByText := true, laidKinds := [.data, .data, .data], laidTests := true, laidLooks := .later }
def RopeLinesCardSaid : Prop := Claim7.holds Tryd.pinned (.plain (OpenSpec.ofChange ropeLinesSpec)) ropeLinesCard

/-- THE TIED CARD OF 'indenturelaw02.RopeOne'. -/
def ropeOneCard : Claim7 := { stood := { row := ropeOneRow, standIns := [], harness := (true, "142c47d2ec41e3e9d2b01a9ab529cd1170f667b12d6cc480641b0cf02a6d496d"), looks := false }, kinds := [], alts := [], laidByText := true, laidKinds := [.data, .data, .data], laidTests := true, laidLooks := .later }
def RopeOneCardSaid : Prop := Claim7.holds Tryd.pinned (.plain (OpenSpec.ofChange ropeOneSpec)) ropeOneCard

/-- THE SECOND FORM's CARD OF 'indenturelaw02.RopeTells'. -/
def ropeTellsUptoCard : Claim7 := { stood := { row := ropeTellsUptoRow, standIns := [], harness := (true, "142c47d2ec41e3e9d2b01a9ab529cd1170f667b12d6cc480641b0cf02a6d496d"), looks := false }, kinds := [], alts := [], laidByText := true, laidKinds := [.data, .data, .data], laidTests := true, laidLooks := .later }
def RopeTellsUptoCardSaid : Prop := Claim7.holds Tryd.pinned (.plain (OpenSpec.upto ropeTellsSpec)) ropeTellsUptoCard

/-- THE SECOND FORM's CARD OF 'indenturelaw02.RopePlays'. -/
def ropePlaysUptoCard : Claim7 := { stood := { row := ropePlaysUptoRow, standIns := [], harness := (true, "142c47d2ec41e3e9d2b01a9ab529cd1170f667b12d6cc480641b0cf02a6d496d"), looks := false }, kinds := [], alts := [], laidByText := true, laidKinds := [.data, .data, .data], laidTests := true, laidLooks := .later }
def RopePlaysUptoCardSaid : Prop := Claim7.holds Tryd.pinned (.plain (OpenSpec.upto ropePlaysSpec)) ropePlaysUptoCard

/-- THE SECOND FORM's CARD OF 'indenturelaw02.RopeFull'. -/
def ropeFullUptoCard : Claim7 := { stood := { row := ropeFullUptoRow, standIns := [], harness := (true, "142c47d2ec41e3e9d2b01a9ab529cd1170f667b12d6cc480641b0cf02a6d496d"), looks := false }, kinds := [], alts := [], laidByText := true, laidKinds := [.data, .data, .data], laidTests := true, laidLooks := .later }
def RopeFullUptoCardSaid : Prop := Claim7.holds Tryd.pinned (.plain (OpenSpec.upto ropeFullSpec)) ropeFullUptoCard

/-- THE SECOND FORM's CARD OF 'indenturelaw02.RopeNil'. -/
def ropeNilUptoCard : Claim7 := { stood := { row := ropeNilUptoRow, standIns := [], harness := (true, "142c47d2ec41e3e9d2b01a9ab529cd1170f667b12d6cc480641b0cf02a6d496d"), looks := false }, kinds := [], alts := [], laidByText := true, laidKinds := [.data, .data, .data], laidTests := true, laidLooks := .later }
def RopeNilUptoCardSaid : Prop := Claim7.holds Tryd.pinned (.plain (OpenSpec.upto ropeNilSpec)) ropeNilUptoCard

/-- THE SECOND FORM's CARD OF 'indenturelaw02.RopeLines'. -/
def ropeLinesUptoCard : Claim7 := { stood := { row := ropeLinesUptoRow, standIns := [], harness := (true, "142c47d2ec41e3e9d2b01a9ab529cd1170f667b12d6cc480641b0cf02a6d496d"), looks := false }, kinds := [], alts := [], laidByText := true, laidKinds := [.data, .data, .data], laidTests := true, laidLooks := .later }
def RopeLinesUptoCardSaid : Prop := Claim7.holds Tryd.pinned (.plain (OpenSpec.upto ropeLinesSpec)) ropeLinesUptoCard

/-- THE SECOND FORM's CARD OF 'indenturelaw02.RopeOne'. -/
def ropeOneUptoCard : Claim7 := { stood := { row := ropeOneUptoRow, standIns := [], harness := (true, "142c47d2ec41e3e9d2b01a9ab529cd1170f667b12d6cc480641b0cf02a6d496d"), looks := false }, kinds := [], alts := [], laidByText := true, laidKinds := [.data, .data, .data], laidTests := true, laidLooks := .later }
def RopeOneUptoCardSaid : Prop := Claim7.holds Tryd.pinned (.plain (OpenSpec.upto ropeOneSpec)) ropeOneUptoCard
end Rows
end Go.Proofs.YtcbmigkdmmmahaaDoor
