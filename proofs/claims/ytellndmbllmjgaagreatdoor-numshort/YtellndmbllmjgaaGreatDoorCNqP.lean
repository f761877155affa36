/- The world holds the row's tables. -/
import Derived.Test.YtellndmbllmjgaaGreatDoorCNqW
set_option linter.unusedVariables false
namespace Go.Proofs.YtellndmbllmjgaaGreatDoor
open Go.RowKit Go.Shelf Go.Lib Fs

theorem piece0 (os : Os) : LaidIn Tryz.prog ((laidW (World.holding Tryz.prog os ⟨newBlocks (World.settled Tryz.prog os).heap.size, #[], []⟩) (World.settled Tryz.prog os).heap.size).forCall (fun _ _ => 0) ⟨#[], #[.int .u64 0], []⟩).memory (Rows.numShortRow.laid.take 5) [13, 4, 14, 15, 7] :=
  LaidIn.of_run _ 8 (by kernel_rfl) (by kernel_rfl) (by kernel_rfl) (by kernel_rfl)
theorem piece1 (os : Os) : LaidIn Tryz.prog ((laidW (World.holding Tryz.prog os ⟨newBlocks (World.settled Tryz.prog os).heap.size, #[], []⟩) (World.settled Tryz.prog os).heap.size).forCall (fun _ _ => 0) ⟨#[], #[.int .u64 0], []⟩).memory ((Rows.numShortRow.laid.drop 5).take 3) [17, 18, 16, (World.settled Tryz.prog default).heap.size + 3, (World.settled Tryz.prog default).heap.size + 4, (World.settled Tryz.prog default).heap.size + 5] :=
  LaidIn.of_run _ 8 (by kernel_rfl) (by kernel_rfl) (by kernel_rfl) (by kernel_rfl)
theorem piece2 (os : Os) : LaidIn Tryz.prog ((laidW (World.holding Tryz.prog os ⟨newBlocks (World.settled Tryz.prog os).heap.size, #[], []⟩) (World.settled Tryz.prog os).heap.size).forCall (fun _ _ => 0) ⟨#[], #[.int .u64 0], []⟩).memory ((Rows.numShortRow.laid.drop 8).take 2) [10, 2] :=
  LaidIn.of_run _ 8 (by kernel_rfl) (by kernel_rfl) (by kernel_rfl) (by kernel_rfl)
theorem piece3 (os : Os) : LaidIn Tryz.prog ((laidW (World.holding Tryz.prog os ⟨newBlocks (World.settled Tryz.prog os).heap.size, #[], []⟩) (World.settled Tryz.prog os).heap.size).forCall (fun _ _ => 0) ⟨#[], #[.int .u64 0], []⟩).memory ((Rows.numShortRow.laid.drop 10).take 2) [9, 8, (World.settled Tryz.prog default).heap.size, (World.settled Tryz.prog default).heap.size + 1] :=
  LaidIn.of_run _ 8 (by kernel_rfl) (by kernel_rfl) (by kernel_rfl) (by kernel_rfl)
theorem piece4 (os : Os) : LaidIn Tryz.prog ((laidW (World.holding Tryz.prog os ⟨newBlocks (World.settled Tryz.prog os).heap.size, #[], []⟩) (World.settled Tryz.prog os).heap.size).forCall (fun _ _ => 0) ⟨#[], #[.int .u64 0], []⟩).memory ((Rows.numShortRow.laid.drop 12).take 1) [3, (World.settled Tryz.prog default).heap.size + 7, (World.settled Tryz.prog default).heap.size + 6] :=
  LaidIn.of_run _ 8 (by kernel_rfl) (by kernel_rfl) (by kernel_rfl) (by kernel_rfl)
theorem piece5 (os : Os) : LaidIn Tryz.prog ((laidW (World.holding Tryz.prog os ⟨newBlocks (World.settled Tryz.prog os).heap.size, #[], []⟩) (World.settled Tryz.prog os).heap.size).forCall (fun _ _ => 0) ⟨#[], #[.int .u64 0], []⟩).memory ((Rows.numShortRow.laid.drop 13).take 1) [12, (World.settled Tryz.prog default).heap.size + 2] :=
  LaidIn.of_run _ 8 (by kernel_rfl) (by kernel_rfl) (by kernel_rfl) (by kernel_rfl)
theorem piece7 (os : Os) : LaidIn Tryz.prog ((laidW (World.holding Tryz.prog os ⟨newBlocks (World.settled Tryz.prog os).heap.size, #[], []⟩) (World.settled Tryz.prog os).heap.size).forCall (fun _ _ => 0) ⟨#[], #[.int .u64 0], []⟩).memory (Rows.numShortRow.laid.drop 15) [1] :=
  LaidIn.of_run _ 8 (by kernel_rfl) (by kernel_rfl) (by kernel_rfl) (by kernel_rfl)
end Go.Proofs.YtellndmbllmjgaaGreatDoor
/- The table of powers, and all of them. -/
set_option linter.unusedVariables false
namespace Go.Proofs.YtellndmbllmjgaaGreatDoor
open Go.RowKit Go.Shelf Go.Lib Fs

theorem piece6 (os : Os) : LaidIn Tryz.prog ((laidW (World.holding Tryz.prog os ⟨newBlocks (World.settled Tryz.prog os).heap.size, #[], []⟩) (World.settled Tryz.prog os).heap.size).forCall (fun _ _ => 0) ⟨#[], #[.int .u64 0], []⟩).memory ((Rows.numShortRow.laid.drop 14).take 1) [11] :=
  pow_in (by kernel_rfl) (by kernel_rfl)
theorem laid_met (os : Os) : laidMet Tryz.prog Rows.numShortRow.laid ((laidW (World.holding Tryz.prog os ⟨newBlocks (World.settled Tryz.prog os).heap.size, #[], []⟩) (World.settled Tryz.prog os).heap.size).forCall (fun _ _ => 0) ⟨#[], #[.int .u64 0], []⟩).memory :=
  ((((((((piece0 os).append (piece1 os) (by kernel_rfl)).append (piece2 os) (by kernel_rfl)).append (piece3 os) (by kernel_rfl)).append (piece4 os) (by kernel_rfl)).append (piece5 os) (by kernel_rfl)).append (piece6 os) (by kernel_rfl)).append (piece7 os) (by kernel_rfl)).met
end Go.Proofs.YtellndmbllmjgaaGreatDoor
