/-
  DERIVED. GIVEN WITH THE SEED: THE CARDS: each row of YtjlkdpnpkdchgaaDoorRows.lean that lists a variable, with what it lists TIED to the program's text (the seventh form; the later family's looks); each row that meets fmt, with fmt's text TOLD by the authors' own Lean function (tested against real Go, not proved from fmt's source: count such statements apart). THE CARD IS WHAT COUNTS. Prove the row's statement (the work); the ties are given (YtjlkdpnpkdchgaaDoorTie.lean); close each card by the builder's one call (the guide's Derived/Test/ToyasCard.lean, 'card_holds'). Laid BY PROGRAM, IN A SANDBOX (cutbox-door.mjs). By AI agents, Wed Nov 11 2026. No macro, syntax, notation, axiom, sorry.
-/
import Derived.Test.YtjlkdpnpkdchgaaDoorRows
import GoSem.ClaimSeven
namespace Go.Proofs.YtjlkdpnpkdchgaaDoor
namespace Rows

/-- THE TIED CARD OF 'indenturelaw09.TabIndents'. -/
def tabIndentsCard : Claim7 := { stood := { row := tabIndentsRow, standIns := [], harness := (true, "83107225a05ecde4a13e2ce57865a8cfc2c7bf9d74659b1e589d61caaee823bf"), looks := false }, kinds := [], alts := [], laidByText := true, laidKinds := [.data, .pinned], laidTests := true, laidLooks := .later }
def TabIndentsCardSaid : Prop := Claim7.holds Tryd.pinned (.plain (OpenSpec.ofChange tabIndentsSpec)) tabIndentsCard

/-- THE TIED CARD OF 'indenturelaw09.TabTakes'. -/
def tabTakesCard : Claim7 := { stood := { row := tabTakesRow, standIns := [], harness := (true, "83107225a05ecde4a13e2ce57865a8cfc2c7bf9d74659b1e589d61caaee823bf"), looks := false }, kinds := [], alts := [], laidByText := true, laidKinds := [.data, .pinned], laidTests := true, laidLooks := .later }
def TabTakesCardSaid : Prop := Claim7.holds Tryd.pinned (.plain (OpenSpec.ofChange tabTakesSpec)) tabTakesCard

/-- THE TIED CARD OF 'indenturelaw09.TabEnds'. -/
def tabEndsCard : Claim7 := { stood := { row := tabEndsRow, standIns := [], harness := (true, "83107225a05ecde4a13e2ce57865a8cfc2c7bf9d74659b1e589d61caaee823bf"), looks := false }, kinds := [], alts := [], laidByText := true, laidKinds := [.data, .pinned], laidTests := true, laidLooks := .later }
def TabEndsCardSaid : Prop := Claim7.holds Tryd.pinned (.plain (OpenSpec.ofChange tabEndsSpec)) tabEndsCard

/-- THE TIED CARD OF 'indenturelaw09.TabWhole'. -/
def tabWholeCard : Claim7 := { stood := { row := tabWholeRow, standIns := [], harness := (true, "83107225a05ecde4a13e2ce57865a8cfc2c7bf9d74659b1e589d61caaee823bf"), looks := false }, kinds := [], alts := [], laidByText := true, laidKinds := [.data, .pinned], laidTests := true, laidLooks := .later }
def TabWholeCardSaid : Prop := Claim7.holds Tryd.pinned (.plain (OpenSpec.ofChange tabWholeSpec)) tabWholeCard

/-- THE SECOND FORM's CARD OF 'indenturelaw09.TabIndents'. -/
def tabIndentsUptoCard : Claim7 := { stood := { row := tabIndentsUptoRow, standIns := [], harness := (true, "83107225a05ecde4a13e2ce57865a8cfc2c7bf9d74659b1e589d61caaee823bf"), looks := false }, kinds := [], alts := [], laidByText := true, laidKinds := [.data, .pinned], laidTests := true, laidLooks := .later }
def TabIndentsUptoCardSaid : Prop := Claim7.holds Tryd.pinned (.plain (OpenSpec.upto tabIndentsSpec)) tabIndentsUptoCard

/-- THE SECOND FORM's CARD OF 'indenturelaw09.TabTakes'. -/
def tabTakesUptoCard : Claim7 := { stood := { row := tabTakesUptoRow, standIns := [], harness := (true, "83107225a05ecde4a13e2ce57865a8cfc2c7bf9d74659b1e589d61caaee823bf"), looks := false }, kinds := [], alts := [], laidByText := true, laidKinds := [.data, .pinned], laidTests := true, laidLooks := .later }
def TabTakesUptoCardSaid : Prop := Claim7.holds Tryd.pinned (.plain (OpenSpec.upto tabTakesSpec)) tabTakesUptoCard

/-- THE SECOND FORM's CARD OF 'indenturelaw09.TabEnds'. -/
def tabEndsUptoCard : Claim7 := { stood := { row := tabEndsUptoRow, standIns := [], harness := (true, "83107225a05ecde4a13e2ce57865a8cfc2c7bf9d74659b1e589d61caaee823bf"), looks := false }, kinds := [], alts := [], laidByText := true, laidKinds := [.data, .pinned], laidTests := true, laidLooks := .later }
def TabEndsUptoCardSaid : Prop := Claim7.holds Tryd.pinned (.plain (OpenSpec.upto tabEndsSpec)) tabEndsUptoCard

/-- THE SECOND FORM's CARD OF 'indenturelaw09.TabWhole'. -/
def tabWholeUptoCard : Claim7 := { stood := { row := tabWholeUptoRow, standIns := [], harness := (true, "83107225a05ecde4a13e2ce57865a8cfc2c7bf9d74659b1e589d61caaee823bf"), looks := false }, kinds := [], alts := [], laidByText := true, laidKinds := [.data, .pinned], laidTests := true, laidLooks := .later }
def TabWholeUptoCardSaid : Prop := Claim7.holds Tryd.pinned (.plain (OpenSpec.upto tabWholeSpec)) tabWholeUptoCard
end Rows
end Go.Proofs.YtjlkdpnpkdchgaaDoor
