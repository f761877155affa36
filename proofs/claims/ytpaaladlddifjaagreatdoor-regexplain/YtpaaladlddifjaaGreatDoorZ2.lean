/- RegexPlain: the row holds: for every list of units that is looked for, every text of units and every place the law returns true, and its arguments read as before; no condition beside the row's own. -/
import Derived.Test.YtpaaladlddifjaaGreatDoorZ1
set_option linter.unusedVariables false
namespace Go.Proofs.YtpaaladlddifjaaGreatDoor
open Go.ChangeShapes Go.WideShapes Go.ChangeAt Go.RowKit
/-- **RegexPlain, for every input.** -/
theorem regexPlain_holds : Rows.RegexPlainSaid :=
  OpenClaim.holds_of_wide 3 Tryz.f3 rfl rfl rfl rfl rfl rfl rfl ⟨rfl, rfl, rfl, rfl, rfl⟩ rfl rfl rfl rfl rfl (by kernel_rfl) Tryz.func3 (by kernel_rfl)
    (of_decide_eq_true (by kernel_rfl)) (by unfold Func.isWrapper; first | (rw [if_pos (by decide +kernel)]; kernel_rfl) | (rw [if_neg (by decide +kernel)]; exact ⟨rfl, rfl⟩))
    (fun os started H enc _ => lifted os started H enc)
#print axioms regexPlain_holds
end Go.Proofs.YtpaaladlddifjaaGreatDoor
