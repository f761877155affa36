/- HeapShape's row: its closed facts. -/
import Derived.Test.YtmicdbplkfdfnaaGreatDoorRows
import Derived.ProofKit
import Derived.OpenShut
import Derived.ChangeOld
import Derived.Deep.DeepHandedRow
namespace Go.Proofs.YtmicdbplkfdfnaaGreatDoor.heapShape

theorem closed : joinedFacts Tryz.pinned.checked.prog 4 Tryz.f4 (Rows.OpenSpec.upto Rows.heapShapeSpec).bare Rows.heapShapeUptoRow = true := by kernel_rfl
end Go.Proofs.YtmicdbplkfdfnaaGreatDoor.heapShape
