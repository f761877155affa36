/- The world holds the row's tables. -/
import Derived.Test.YtellndmbllmjgaaGreatDoorNwW
set_option linter.unusedVariables false
namespace Go.Proofs.YtellndmbllmjgaaGreatDoor
open Go.RowKit Go.Shelf Go.Lib Fs

theorem piece0 (os : Os) : LaidIn Tryz.prog ((laidW (World.holding Tryz.prog os ⟨newBlocks, #[], []⟩) (World.settled Tryz.prog os).heap.size).forCall (fun _ _ => 0) ⟨#[], #[.int .u64 0], []⟩).memory (Rows.numWrittenRow.laid.take 5) [13, 4, 7, 10, 2] :=
  LaidIn.of_run _ 8 (by kernel_rfl) (by kernel_rfl) (by kernel_rfl) (by kernel_rfl)
theorem piece1 (os : Os) : LaidIn Tryz.prog ((laidW (World.holding Tryz.prog os ⟨newBlocks, #[], []⟩) (World.settled Tryz.prog os).heap.size).forCall (fun _ _ => 0) ⟨#[], #[.int .u64 0], []⟩).memory ((Rows.numWrittenRow.laid.drop 5).take 2) [9, 8, (World.settled Tryz.prog default).heap.size, (World.settled Tryz.prog default).heap.size + 1] :=
  LaidIn.of_run _ 8 (by kernel_rfl) (by kernel_rfl) (by kernel_rfl) (by kernel_rfl)
theorem piece2 (os : Os) : LaidIn Tryz.prog ((laidW (World.holding Tryz.prog os ⟨newBlocks, #[], []⟩) (World.settled Tryz.prog os).heap.size).forCall (fun _ _ => 0) ⟨#[], #[.int .u64 0], []⟩).memory ((Rows.numWrittenRow.laid.drop 7).take 1) [12, (World.settled Tryz.prog default).heap.size + 2] :=
  LaidIn.of_run _ 8 (by kernel_rfl) (by kernel_rfl) (by kernel_rfl) (by kernel_rfl)
theorem piece4 (os : Os) : LaidIn Tryz.prog ((laidW (World.holding Tryz.prog os ⟨newBlocks, #[], []⟩) (World.settled Tryz.prog os).heap.size).forCall (fun _ _ => 0) ⟨#[], #[.int .u64 0], []⟩).memory (Rows.numWrittenRow.laid.drop 9) [1] :=
  LaidIn.of_run _ 8 (by kernel_rfl) (by kernel_rfl) (by kernel_rfl) (by kernel_rfl)
end Go.Proofs.YtellndmbllmjgaaGreatDoor
