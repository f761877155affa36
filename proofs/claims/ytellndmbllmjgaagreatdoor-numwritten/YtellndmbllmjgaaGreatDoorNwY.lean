/- The table of powers, and all of them. -/
import Derived.Test.YtellndmbllmjgaaGreatDoorNwX
set_option linter.unusedVariables false
namespace Go.Proofs.YtellndmbllmjgaaGreatDoor
open Go.RowKit Go.Shelf Go.Lib Fs

theorem piece3 (os : Os) : LaidIn Tryz.prog ((laidW (World.holding Tryz.prog os ⟨newBlocks, #[], []⟩) (World.settled Tryz.prog os).heap.size).forCall (fun _ _ => 0) ⟨#[], #[.int .u64 0], []⟩).memory ((Rows.numWrittenRow.laid.drop 8).take 1) [11] :=
  pow_in (by kernel_rfl) (by kernel_rfl)
theorem laid_met (os : Os) : laidMet Tryz.prog Rows.numWrittenRow.laid ((laidW (World.holding Tryz.prog os ⟨newBlocks, #[], []⟩) (World.settled Tryz.prog os).heap.size).forCall (fun _ _ => 0) ⟨#[], #[.int .u64 0], []⟩).memory :=
  (((((piece0 os).append (piece1 os) (by kernel_rfl)).append (piece2 os) (by kernel_rfl)).append (piece3 os) (by kernel_rfl)).append (piece4 os) (by kernel_rfl)).met
end Go.Proofs.YtellndmbllmjgaaGreatDoor
