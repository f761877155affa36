/- NumShort's row: its closed facts. -/
import Derived.Test.YtellndmbllmjgaaGreatDoorRows
import Derived.ProofKit
import Derived.OpenShut
import Derived.ChangeOld
import Derived.Deep.DeepHandedRow
namespace Go.Proofs.YtellndmbllmjgaaGreatDoor.numShort

theorem closed : joinedFacts Tryz.pinned.checked.prog 6 Tryz.f6 (OpenSpec.ofChange Rows.numShortSpec).bare Rows.numShortRow = true := by kernel_rfl
end Go.Proofs.YtellndmbllmjgaaGreatDoor.numShort
