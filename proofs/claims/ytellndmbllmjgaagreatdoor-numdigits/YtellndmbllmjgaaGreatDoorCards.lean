/-
  DERIVED. GIVEN WITH THE SEED: THE CARDS: each row of YtellndmbllmjgaaGreatDoorRows.lean that lists a variable, with what it lists TIED to the program's text (the seventh form; the later family's looks); each row that meets fmt, with fmt's text TOLD by the authors' own Lean function (tested against real Go, not proved from fmt's source: count such statements apart). THE CARD IS WHAT COUNTS. Prove the row's statement (the work); the ties are given (YtellndmbllmjgaaGreatDoorTie.lean); close each card by the builder's one call (the guide's Derived/Test/ToyasCard.lean, 'card_holds'). Laid BY PROGRAM, IN A SANDBOX (cutbox-door.mjs). By AI agents, Wed Nov 11 2026. No macro, syntax, notation, axiom, sorry.
-/
import Derived.Test.YtellndmbllmjgaaGreatDoorRows
import GoSem.ClaimSeven
namespace Go.Proofs.YtellndmbllmjgaaGreatDoor
namespace Rows

/-- THE TIED CARD OF 'ecmacorelaw1.NumWritten'. -/
def numWrittenCard : Claim7 := { stood := { row := numWrittenRow, standIns := [], harness := (true, "e772f3abe8b933af59a21f67d26917e62edbb8896af56b090d1bce357a5bd856"), looks := true }, kinds := [], alts := [], laidByText := true, laidKinds := [.data, .data, .data, .data, .data, .sentinel, .sentinel, .pinned, .pinned, .pinned], laidTests := true, laidLooks := .later }
def NumWrittenCardSaid : Prop := Claim7.holds Tryz.pinned (.plain (OpenSpec.ofChange numWrittenSpec)) numWrittenCard

/-- THE TIED CARD OF 'ecmacorelaw1.NumRead'. -/
def numReadCard : Claim7 := { stood := { row := numReadRow, standIns := [], harness := (true, "e772f3abe8b933af59a21f67d26917e62edbb8896af56b090d1bce357a5bd856"), looks := true }, kinds := [], alts := [], laidByText := true, laidKinds := [.data, .data, .widerDeep, .widerDeep, .data, .data, .data, .data, .data, .data, .sentinel, .sentinel, .listed, .pinned, .pinned, .pinned], laidTests := true, laidLooks := .later }
def NumReadCardSaid : Prop := Claim7.holds Tryz.pinned (.plain (OpenSpec.ofChange numReadSpec)) numReadCard

/-- THE TIED CARD OF 'ecmacorelaw1.NumDigits'. -/
def numDigitsCard : Claim7 := { stood := { row := numDigitsRow, standIns := [], harness := (true, "e772f3abe8b933af59a21f67d26917e62edbb8896af56b090d1bce357a5bd856"), looks := true }, kinds := [], alts := [], laidByText := true, laidKinds := [.data, .data, .data, .data, .data, .handle, .sentinel, .sentinel, .pinned, .pinned, .pinned], laidTests := true, laidLooks := .later }
def NumDigitsCardSaid : Prop := Claim7.holds Tryz.pinned (.plain (OpenSpec.ofChange numDigitsSpec)) numDigitsCard

/-- THE TIED CARD OF 'ecmacorelaw1.NumShort'. -/
def numShortCard : Claim7 := { stood := { row := numShortRow, standIns := [], harness := (true, "e772f3abe8b933af59a21f67d26917e62edbb8896af56b090d1bce357a5bd856"), looks := true }, kinds := [], alts := [], laidByText := true, laidKinds := [.data, .data, .widerDeep, .widerDeep, .data, .data, .data, .data, .data, .data, .sentinel, .sentinel, .listed, .pinned, .pinned, .pinned], laidTests := true, laidLooks := .later }
def NumShortCardSaid : Prop := Claim7.holds Tryz.pinned (.plain (OpenSpec.ofChange numShortSpec)) numShortCard

/-- THE SECOND FORM's CARD OF 'ecmacorelaw1.NumWritten'. -/
def numWrittenUptoCard : Claim7 := { stood := { row := numWrittenUptoRow, standIns := [], harness := (true, "e772f3abe8b933af59a21f67d26917e62edbb8896af56b090d1bce357a5bd856"), looks := true }, kinds := [], alts := [], laidByText := true, laidKinds := [.data, .data, .data, .data, .data, .sentinel, .sentinel, .pinned, .pinned, .pinned], laidTests := true, laidLooks := .later }
def NumWrittenUptoCardSaid : Prop := Claim7.holds Tryz.pinned (.plain (OpenSpec.upto numWrittenSpec)) numWrittenUptoCard

/-- THE SECOND FORM's CARD OF 'ecmacorelaw1.NumRead'. -/
def numReadUptoCard : Claim7 := { stood := { row := numReadUptoRow, standIns := [], harness := (true, "e772f3abe8b933af59a21f67d26917e62edbb8896af56b090d1bce357a5bd856"), looks := true }, kinds := [], alts := [], laidByText := true, laidKinds := [.data, .data, .widerDeep, .widerDeep, .data, .data, .data, .data, .data, .data, .sentinel, .sentinel, .listed, .pinned, .pinned, .pinned], laidTests := true, laidLooks := .later }
def NumReadUptoCardSaid : Prop := Claim7.holds Tryz.pinned (.plain (OpenSpec.upto numReadSpec)) numReadUptoCard

/-- THE SECOND FORM's CARD OF 'ecmacorelaw1.NumDigits'. -/
def numDigitsUptoCard : Claim7 := { stood := { row := numDigitsUptoRow, standIns := [], harness := (true, "e772f3abe8b933af59a21f67d26917e62edbb8896af56b090d1bce357a5bd856"), looks := true }, kinds := [], alts := [], laidByText := true, laidKinds := [.data, .data, .data, .data, .data, .handle, .sentinel, .sentinel, .pinned, .pinned, .pinned], laidTests := true, laidLooks := .later }
def NumDigitsUptoCardSaid : Prop := Claim7.holds Tryz.pinned (.plain (OpenSpec.upto numDigitsSpec)) numDigitsUptoCard

/-- THE SECOND FORM's CARD OF 'ecmacorelaw1.NumShort'. -/
def numShortUptoCard : Claim7 := { stood := { row := numShortUptoRow, standIns := [], harness := (true, "e772f3abe8b933af59a21f67d26917e62edbb8896af56b090d1bce357a5bd856"), looks := true }, kinds := [], alts := [], laidByText := true, laidKinds := [.data, .data, .widerDeep, .widerDeep, .data, .data, .data, .data, .data, .data, .sentinel, .sentinel, .listed, .pinned, .pinned, .pinned], laidTests := true, laidLooks := .later }
def NumShortUptoCardSaid : Prop := Claim7.holds Tryz.pinned (.plain (OpenSpec.upto numShortSpec)) numShortUptoCard
end Rows
end Go.Proofs.YtellndmbllmjgaaGreatDoor
