/- The walks of Told, number and plain.Compile. -/
import Derived.Test.YtpaaladlddifjaaGreatDoorE2
set_option linter.unusedVariables false
namespace Go.Proofs.YtpaaladlddifjaaGreatDoor
open Go.RowKit Re

set_option maxRecDepth 100000 in
theorem told_nil (w : World) : Calls Tryz.prog 15 #[.nilIface] w fun e w' => e = .returned (.tuple #[.int .i64 0, .int .i64 (-1)]) ∧ Kx [] w w' := by
  go_enter Tryz.func15, Tryz.ntmps15
  go_wp2
  go_ret2
  exact ⟨rfl, (Kx.alloc _ _ _).alc _⟩
theorem number_nil (w : World) : Calls Tryz.prog 9 #[.nilIface] w fun e w' => e = .returned (.int .i64 0) ∧ Kx [] w w' := by
  have ct := told_nil w
  go_enter Tryz.func9, Tryz.ntmps9
  go_wp2_with (first | (go_at_call 15; refine ct.mono ?_; rintro e w1 ⟨rfl, hk⟩))
  go_ret
  exact ⟨rfl, hk⟩
set_option maxRecDepth 100000 in
theorem pcompile_u (us : List Nat) (hu : ∀ u ∈ us, u < 65536) (hn : us.length ≤ 300) (w : World) :
    Calls Tryz.prog 5 #[.string (txt (pat us)), .string ⟨#[]⟩] w fun e w' => ∃ P, e = .returned (.tuple #[.pointer (some ⟨P, 0, none⟩), .int .i64 0]) ∧ w.heap.size ≤ P ∧ PatIs w' w.heap.size P us ∧ Kx [] w w' := by
  have cc := compile_u us hu hn w
  go_enter Tryz.func5, Tryz.ntmps5
  go_wp2_with (first | (go_at_call 8; refine cc.mono ?_; rintro e w1 ⟨P, rfl, r1, r2, r3⟩; have H : Hid (w.heap.size ≤ P ∧ PatIs w1 w.heap.size P us ∧ Kx [] w w1) := ⟨r1, r2, r3⟩; clear r1 r2 r3) | (go_at_call 9; refine (number_nil _).mono ?_; rintro e w2 ⟨rfl, hk⟩))
  go_ret2
  exact ⟨P, rfl, H.out.1, H.out.2.1.kept hk (by simp), H.out.2.2.same hk⟩
end Go.Proofs.YtpaaladlddifjaaGreatDoor
