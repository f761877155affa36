/-
  NumWritten: for every word of 64 bits, read as a float64, the law answers true: num.Text writes it as the document's own NumText does (NaN, both zeros, both infinities, whole numbers, the fewest digits of all others), and the argument is left as it was. Conditions: the tables that the row lists hold what the program's text, or the form's own copy of Go's tables, lays (the card ties them).
-/
import Derived.Test.YtellndmbllmjgaaGreatDoorNwL
import Derived.Test.YtellndmbllmjgaaGreatDoorNwC
import Derived.Test.YtellndmbllmjgaaGreatDoorCards
import Derived.Test.YtellndmbllmjgaaGreatDoorTie
set_option linter.unusedVariables false
namespace Go.Proofs.YtellndmbllmjgaaGreatDoor.numWritten
open Go.ChangeShapes Go.WideShapes Go.ChangeAt Go.RowKit Go.Shelf Go.Lib

theorem said : Rows.NumWrittenSaid :=
  OpenClaim.holds_of_cond 3 Tryz.f3 rfl rfl rfl rfl rfl rfl rfl ⟨rfl, rfl, rfl, rfl, rfl⟩ rfl rfl rfl rfl rfl (by kernel_rfl) Tryz.func3 closed
    (of_decide_eq_true (by kernel_rfl)) (by unfold Func.isWrapper; first | (rw [if_pos (by decide +kernel)]; kernel_rfl) | (rw [if_neg (by decide +kernel)]; exact ⟨rfl, rfl⟩))
    (fun os started H enc _ F => by rw [OpenClaim.pre_eq_preRow]; exact lifted os started H enc F)

/-- No parameter wants a stand-in; the program's own looks are told. -/
theorem plain (f : FuncId) (fn : Func) (hf : Tryz.pinned.checked.prog.funcNamed Rows.numWrittenRow.func = some f) (hfn : Tryz.pinned.checked.prog.funcs[f]? = some fn) :
    true = Tryz.pinned.checked.prog.looks [] ∧ ∀ (j : Nat) t, fn.params[j]? = some t → Tryz.pinned.checked.prog.wantsStandIn t = false := by
  obtain rfl : f = 3 := Option.some.inj ((show Tryz.prog.funcNamed Rows.numWrittenRow.func = some 3 by kernel_rfl).symm.trans hf) |>.symm
  obtain rfl : fn = Tryz.f3 := (Option.some.inj (Tryz.func3.symm.trans hfn)).symm
  refine ⟨by kernel_rfl, fun j t ht => ?_⟩
  rw [Tryz.params3] at ht
  obtain rfl : t = 22 := by simpa using Array.mem_of_getElem? ht
  exact (show Tryz.prog.wantsStandIn 22 = false by kernel_rfl)

/-- **The card.** -/
theorem card : Rows.NumWrittenCardSaid :=
  Claim7.holds_tied_plain_at .later [] _ _ _ _ said (fun _ h => by cases h) (by kernel_rfl) (fun _ h => by cases h) numWritten_row_tie rfl ⟨rfl, rfl⟩ (by kernel_rfl) rfl plain (by kernel_rfl)
end Go.Proofs.YtellndmbllmjgaaGreatDoor.numWritten
namespace Go.Proofs.YtellndmbllmjgaaGreatDoor
/-- **NumWritten, for every input.** -/
theorem numWritten_card : Rows.NumWrittenCardSaid := numWritten.card
#print axioms numWritten_card
end Go.Proofs.YtellndmbllmjgaaGreatDoor
