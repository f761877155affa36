/-
  DERIVED. GIVEN WITH THE SEED: THE CARDS: each row of YtmicdbplkfdfnaaGreatDoorRows.lean that lists a variable, with what it lists TIED to the program's text (the seventh form; the later family's looks); each row that meets fmt, with fmt's text TOLD by the authors' own Lean function (tested against real Go, not proved from fmt's source: count such statements apart). THE CARD IS WHAT COUNTS. Prove the row's statement (the work); the ties are given (YtmicdbplkfdfnaaGreatDoorTie.lean); close each card by the builder's one call (the guide's Derived/Test/ToyasCard.lean, 'card_holds'). Laid BY PROGRAM, IN A SANDBOX (cutbox-door.mjs). By AI agents, Wed Nov 11 2026. No macro, syntax, notation, axiom, sorry.
-/
import Derived.Test.YtmicdbplkfdfnaaGreatDoorRows
import GoSem.ClaimSeven
namespace Go.Proofs.YtmicdbplkfdfnaaGreatDoor
namespace Rows

/-- THE TIED CARD OF 'ecmacorelaw4.HeapFrozen'. -/
def heapFrozenCard : Claim7 := { stood := { row := heapFrozenRow, standIns := [], harness := (true, "f438aa91eab3b59ec471ac2d85be4e14c4d065dc77f62a085cd474ab8827a9bc"), looks := true }, kinds := [], alts := [], laidByText := true, laidKinds := [.data, .data, .data, .data, .handle, .pinned], laidTests := true, laidLooks := .later }
def HeapFrozenCardSaid : Prop := Claim7.holds Tryz.pinned (.plain (OpenSpec.ofChange heapFrozenSpec)) heapFrozenCard

/-- THE TIED CARD OF 'ecmacorelaw4.HeapShape'. -/
def heapShapeCard : Claim7 := { stood := { row := heapShapeRow, standIns := [], harness := (true, "f438aa91eab3b59ec471ac2d85be4e14c4d065dc77f62a085cd474ab8827a9bc"), looks := true }, kinds := [], alts := [], laidByText := true, laidKinds := [.data, .data, .data, .data, .handle, .pinned], laidTests := true, laidLooks := .later }
def HeapShapeCardSaid : Prop := Claim7.holds Tryz.pinned (.plain (OpenSpec.ofChange heapShapeSpec)) heapShapeCard

/-- THE SECOND FORM's CARD OF 'ecmacorelaw4.HeapFrozen'. -/
def heapFrozenUptoCard : Claim7 := { stood := { row := heapFrozenUptoRow, standIns := [], harness := (true, "f438aa91eab3b59ec471ac2d85be4e14c4d065dc77f62a085cd474ab8827a9bc"), looks := true }, kinds := [], alts := [], laidByText := true, laidKinds := [.data, .data, .data, .data, .handle, .pinned], laidTests := true, laidLooks := .later }
def HeapFrozenUptoCardSaid : Prop := Claim7.holds Tryz.pinned (.plain (OpenSpec.upto heapFrozenSpec)) heapFrozenUptoCard

/-- THE SECOND FORM's CARD OF 'ecmacorelaw4.HeapShape'. -/
def heapShapeUptoCard : Claim7 := { stood := { row := heapShapeUptoRow, standIns := [], harness := (true, "f438aa91eab3b59ec471ac2d85be4e14c4d065dc77f62a085cd474ab8827a9bc"), looks := true }, kinds := [], alts := [], laidByText := true, laidKinds := [.data, .data, .data, .data, .handle, .pinned], laidTests := true, laidLooks := .later }
def HeapShapeUptoCardSaid : Prop := Claim7.holds Tryz.pinned (.plain (OpenSpec.upto heapShapeSpec)) heapShapeUptoCard
end Rows
end Go.Proofs.YtmicdbplkfdfnaaGreatDoor
