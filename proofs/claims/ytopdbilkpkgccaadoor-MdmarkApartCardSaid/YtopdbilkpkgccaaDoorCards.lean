/-
  DERIVED. GIVEN WITH THE SEED: THE CARDS: each row of YtopdbilkpkgccaaDoorRows.lean that lists a variable, with what it lists TIED to the program's text (the seventh form; the later family's looks); each row that meets fmt, with fmt's text TOLD by the authors' own Lean function (tested against real Go, not proved from fmt's source: count such statements apart). THE CARD IS WHAT COUNTS. Prove the row's statement (the work); the ties are given (YtopdbilkpkgccaaDoorTie.lean); close each card by the builder's one call (the guide's Derived/Test/ToyasCard.lean, 'card_holds'). Laid BY PROGRAM, IN A SANDBOX (cutbox-door.mjs). By AI agents, Wed Nov 11 2026. No macro, syntax, notation, axiom, sorry.
-/
import Derived.Test.YtopdbilkpkgccaaDoorRows
import GoSem.ClaimSeven
namespace Go.Proofs.YtopdbilkpkgccaaDoor
namespace Rows

/-- THE TIED CARD OF 'indenturelaw18.MdmarkApart'. -/
def mdmarkApartCard : Claim7 := { stood := { row := mdmarkApartRow, standIns := [], harness := (true, "a544ca4b5f49a0142d2d094c1b2f7359002f2cd5b442872e240e9b295539b965"), looks := true }, kinds := [], alts := [], laidByText := true, laidKinds := [.data, .data, .data, .data, .sentinel, .sentinel, .pinned], laidTests := true, laidLooks := .later }
def MdmarkApartCardSaid : Prop := Claim7.holds Tryd.pinned (.plain (OpenSpec.ofChange mdmarkApartSpec)) mdmarkApartCard

/-- THE TIED CARD OF 'indenturelaw18.MdmarkWhole'. -/
def mdmarkWholeCard : Claim7 := { stood := { row := mdmarkWholeRow, standIns := [], harness := (true, "a544ca4b5f49a0142d2d094c1b2f7359002f2cd5b442872e240e9b295539b965"), looks := true }, kinds := [], alts := [], laidByText := true, laidKinds := [.data, .pinned], laidTests := true, laidLooks := .later }
def MdmarkWholeCardSaid : Prop := Claim7.holds Tryd.pinned (.plain (OpenSpec.ofChange mdmarkWholeSpec)) mdmarkWholeCard

/-- THE TIED CARD OF 'indenturelaw18.MdmarkRows'. -/
def mdmarkRowsCard : Claim7 := { stood := { row := mdmarkRowsRow, standIns := [], harness := (true, "a544ca4b5f49a0142d2d094c1b2f7359002f2cd5b442872e240e9b295539b965"), looks := true }, kinds := [], alts := [], laidByText := true, laidKinds := [.data, .pinned], laidTests := true, laidLooks := .later }
def MdmarkRowsCardSaid : Prop := Claim7.holds Tryd.pinned (.plain (OpenSpec.ofChange mdmarkRowsSpec)) mdmarkRowsCard

/-- THE TIED CARD OF 'indenturelaw18.MdmarkKnown'. -/
def mdmarkKnownCard : Claim7 := { stood := { row := mdmarkKnownRow, standIns := [], harness := (true, "a544ca4b5f49a0142d2d094c1b2f7359002f2cd5b442872e240e9b295539b965"), looks := true }, kinds := [], alts := [], laidByText := true, laidKinds := [.data, .data, .data, .data, .sentinel, .sentinel, .pinned], laidTests := true, laidLooks := .later }
def MdmarkKnownCardSaid : Prop := Claim7.holds Tryd.pinned (.plain (OpenSpec.ofChange mdmarkKnownSpec)) mdmarkKnownCard

/-- THE SECOND FORM's CARD OF 'indenturelaw18.MdmarkApart'. -/
def mdmarkApartUptoCard : Claim7 := { stood := { row := mdmarkApartUptoRow, standIns := [], harness := (true, "a544ca4b5f49a0142d2d094c1b2f7359002f2cd5b442872e240e9b295539b965"), looks := true }, kinds := [], alts := [], laidByText := true, laidKinds := [.data, .data, .data, .data, .sentinel, .sentinel, .pinned], laidTests := true, laidLooks := .later }
def MdmarkApartUptoCardSaid : Prop := Claim7.holds Tryd.pinned (.plain (OpenSpec.upto mdmarkApartSpec)) mdmarkApartUptoCard

/-- THE SECOND FORM's CARD OF 'indenturelaw18.MdmarkWhole'. -/
def mdmarkWholeUptoCard : Claim7 := { stood := { row := mdmarkWholeUptoRow, standIns := [], harness := (true, "a544ca4b5f49a0142d2d094c1b2f7359002f2cd5b442872e240e9b295539b965"), looks := true }, kinds := [], alts := [], laidByText := true, laidKinds := [.data, .pinned], laidTests := true, laidLooks := .later }
def MdmarkWholeUptoCardSaid : Prop := Claim7.holds Tryd.pinned (.plain (OpenSpec.upto mdmarkWholeSpec)) mdmarkWholeUptoCard

/-- THE SECOND FORM's CARD OF 'indenturelaw18.MdmarkRows'. -/
def mdmarkRowsUptoCard : Claim7 := { stood := { row := mdmarkRowsUptoRow, standIns := [], harness := (true, "a544ca4b5f49a0142d2d094c1b2f7359002f2cd5b442872e240e9b295539b965"), looks := true }, kinds := [], alts := [], laidByText := true, laidKinds := [.data, .pinned], laidTests := true, laidLooks := .later }
def MdmarkRowsUptoCardSaid : Prop := Claim7.holds Tryd.pinned (.plain (OpenSpec.upto mdmarkRowsSpec)) mdmarkRowsUptoCard

/-- THE SECOND FORM's CARD OF 'indenturelaw18.MdmarkKnown'. -/
def mdmarkKnownUptoCard : Claim7 := { stood := { row := mdmarkKnownUptoRow, standIns := [], harness := (true, "a544ca4b5f49a0142d2d094c1b2f7359002f2cd5b442872e240e9b295539b965"), looks := true }, kinds := [], alts := [], laidByText := true, laidKinds := [.data, .data, .data, .data, .sentinel, .sentinel, .pinned], laidTests := true, laidLooks := .later }
def MdmarkKnownUptoCardSaid : Prop := Claim7.holds Tryd.pinned (.plain (OpenSpec.upto mdmarkKnownSpec)) mdmarkKnownUptoCard
end Rows
end Go.Proofs.YtopdbilkpkgccaaDoor
