/-
  DERIVED. GIVEN WITH THE SEED: THE CARDS: each row of YtbcmnldeienggaaDoorRows.lean that lists a variable, with what it lists TIED to the program's text (the seventh form; the later family's looks); each row that meets fmt, with fmt's text TOLD by the authors' own Lean function (tested against real Go, not proved from fmt's source: count such statements apart). THE CARD IS WHAT COUNTS. Prove the row's statement (the work); the ties are given (YtbcmnldeienggaaDoorTie.lean); close each card by the builder's one call (the guide's Derived/Test/ToyasCard.lean, 'card_holds'). Laid BY PROGRAM, IN A SANDBOX (cutbox-door.mjs). By AI agents, Wed Nov 11 2026. No macro, syntax, notation, axiom, sorry.
-/
import Derived.Test.YtbcmnldeienggaaDoorRows
import GoSem.ClaimSeven
namespace Go.Proofs.YtbcmnldeienggaaDoor
namespace Rows

/-- THE TIED CARD OF 'indenturelaw12.PylayoutEnds'. -/
def pylayoutEndsCard : Claim7 := { stood := { row := pylayoutEndsRow, standIns := [], harness := (true, "e79bafbbf359a311b5b48f0264b1efd3bfef63ce74e089c1acd6775ae950d997"), looks := false }, kinds := [], alts := [], laidByText := true, laidKinds := [.data, .data, .pinned, .pinned], laidTests := true, laidLooks := .later }
def PylayoutEndsCardSaid : Prop := Claim7.holds Tryd.pinned (.plain (OpenSpec.ofChange pylayoutEndsSpec)) pylayoutEndsCard

/-- THE TIED CARD OF 'indenturelaw12.PylayoutSound'. -/
def pylayoutSoundCard : Claim7 := { stood := { row := pylayoutSoundRow, standIns := [], harness := (true, "e79bafbbf359a311b5b48f0264b1efd3bfef63ce74e089c1acd6775ae950d997"), looks := false }, kinds := [], alts := [], laidByText := true, laidKinds := [.data, .data, .pinned, .pinned], laidTests := true, laidLooks := .later }
def PylayoutSoundCardSaid : Prop := Claim7.holds Tryd.pinned (.plain (OpenSpec.ofChange pylayoutSoundSpec)) pylayoutSoundCard

/-- THE TIED CARD OF 'indenturelaw12.PylayoutBlocks'. -/
def pylayoutBlocksCard : Claim7 := { stood := { row := pylayoutBlocksRow, standIns := [], harness := (true, "e79bafbbf359a311b5b48f0264b1efd3bfef63ce74e089c1acd6775ae950d997"), looks := false }, kinds := [], alts := [], laidByText := true, laidKinds := [.data, .data, .pinned, .pinned], laidTests := true, laidLooks := .later }
def PylayoutBlocksCardSaid : Prop := Claim7.holds Tryd.pinned (.plain (OpenSpec.ofChange pylayoutBlocksSpec)) pylayoutBlocksCard

/-- THE TIED CARD OF 'indenturelaw12.PylayoutJoins'. -/
def pylayoutJoinsCard : Claim7 := { stood := { row := pylayoutJoinsRow, standIns := [], harness := (true, "e79bafbbf359a311b5b48f0264b1efd3bfef63ce74e089c1acd6775ae950d997"), looks := false }, kinds := [], alts := [], laidByText := true, laidKinds := [.data, .data, .pinned, .pinned], laidTests := true, laidLooks := .later }
def PylayoutJoinsCardSaid : Prop := Claim7.holds Tryd.pinned (.plain (OpenSpec.ofChange pylayoutJoinsSpec)) pylayoutJoinsCard

/-- THE TIED CARD OF 'indenturelaw12.PylayoutKnown'. -/
def pylayoutKnownCard : Claim7 := { stood := { row := pylayoutKnownRow, standIns := [], harness := (true, "e79bafbbf359a311b5b48f0264b1efd3bfef63ce74e089c1acd6775ae950d997"), looks := false }, kinds := [], alts := [], laidByText := true, laidKinds := [.data, .data, .pinned, .pinned], laidTests := true, laidLooks := .later }
def PylayoutKnownCardSaid : Prop := Claim7.holds Tryd.pinned (.plain (OpenSpec.ofChange pylayoutKnownSpec)) pylayoutKnownCard

/-- THE SECOND FORM's CARD OF 'indenturelaw12.PylayoutEnds'. -/
def pylayoutEndsUptoCard : Claim7 := { stood := { row := pylayoutEndsUptoRow, standIns := [], harness := (true, "e79bafbbf359a311b5b48f0264b1efd3bfef63ce74e089c1acd6775ae950d997"), looks := false }, kinds := [], alts := [], laidByText := true, laidKinds := [.data, .data, .pinned, .pinned], laidTests := true, laidLooks := .later }
def PylayoutEndsUptoCardSaid : Prop := Claim7.holds Tryd.pinned (.plain (OpenSpec.upto pylayoutEndsSpec)) pylayoutEndsUptoCard

/-- THE SECOND FORM's CARD OF 'indenturelaw12.PylayoutSound'. -/
def pylayoutSoundUptoCard : Claim7 := { stood := { row := pylayoutSoundUptoRow, standIns := [], harness := (true, "e79bafbbf359a311b5b48f0264b1efd3bfef63ce74e089c1acd6775ae950d997"), looks := false }, kinds := [], alts := [], laidByText := true, laidKinds := [.data, .data, .pinned, .pinned], laidTests := true, laidLooks := .later }
def PylayoutSoundUptoCardSaid : Prop := Claim7.holds Tryd.pinned (.plain (OpenSpec.upto pylayoutSoundSpec)) pylayoutSoundUptoCard

/-- THE SECOND FORM's CARD OF 'indenturelaw12.PylayoutBlocks'. -/
def pylayoutBlocksUptoCard : Claim7 := { stood := { row := pylayoutBlocksUptoRow, standIns := [], harness := (true, "e79bafbbf359a311b5b48f0264b1efd3bfef63ce74e089c1acd6775ae950d997"), looks := false }, kinds := [], alts := [], laidByText := true, laidKinds := [.data, .data, .pinned, .pinned], laidTests := true, laidLooks := .later }
def PylayoutBlocksUptoCardSaid : Prop := Claim7.holds Tryd.pinned (.plain (OpenSpec.upto pylayoutBlocksSpec)) pylayoutBlocksUptoCard

/-- THE SECOND FORM's CARD OF 'indenturelaw12.PylayoutJoins'. -/
def pylayoutJoinsUptoCard : Claim7 := { stood := { row := pylayoutJoinsUptoRow, standIns := [], harness := (true, "e79bafbbf359a311b5b48f0264b1efd3bfef63ce74e089c1acd6775ae950d997"), looks := false }, kinds := [], alts := [], laidByText := true, laidKinds := [.data, .data, .pinned, .pinned], laidTests := true, laidLooks := .later }
def PylayoutJoinsUptoCardSaid : Prop := Claim7.holds Tryd.pinned (.plain (OpenSpec.upto pylayoutJoinsSpec)) pylayoutJoinsUptoCard

/-- THE SECOND FORM's CARD OF 'indenturelaw12.PylayoutKnown'. -/
def pylayoutKnownUptoCard : Claim7 := { stood := { row := pylayoutKnownUptoRow, standIns := [], harness := (true, "e79bafbbf359a311b5b48f0264b1efd3bfef63ce74e089c1acd6775ae950d997"), looks := false }, kinds := [], alts := [], laidByText := true, laidKinds := [.data, .data, .pinned, .pinned], laidTests := true, laidLooks := .later }
def PylayoutKnownUptoCardSaid : Prop := Claim7.holds Tryd.pinned (.plain (OpenSpec.upto pylayoutKnownSpec)) pylayoutKnownUptoCard
end Rows
end Go.Proofs.YtbcmnldeienggaaDoor
