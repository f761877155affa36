/- NumWritten's row: its closed facts. -/
import Derived.Test.YtellndmbllmjgaaGreatDoorRows
import Derived.ProofKit
import Derived.OpenShut
import Derived.ChangeOld
import Derived.Deep.DeepHandedRow
namespace Go.Proofs.YtellndmbllmjgaaGreatDoor.numWritten

theorem closed : joinedFacts Tryz.pinned.checked.prog 3 Tryz.f3 (OpenSpec.ofChange Rows.numWrittenSpec).bare Rows.numWrittenRow = true := by kernel_rfl
end Go.Proofs.YtellndmbllmjgaaGreatDoor.numWritten
