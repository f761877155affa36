/-
  NumDigits: for every word of 64 bits, read as a float64, every number of digits (or base) and every one of the four ways, the law answers true: num.Fixed, num.Exponential, num.Precision, num.Radix, asked through plain.Written, write what the document's own functions write, and where these refuse they answer ErrRange with no text. Conditions: the tables that the row lists hold what the program's text, or the form's own copy of Go's tables, lays, and errors.errorType is the handle of the type error (the card ties them).
-/
import Derived.Test.YtellndmbllmjgaaGreatDoorCDqLx
import Derived.Test.YtellndmbllmjgaaGreatDoorCards
import Derived.Test.YtellndmbllmjgaaGreatDoorTie
set_option linter.unusedVariables false
namespace Go.Proofs.YtellndmbllmjgaaGreatDoor.numDigits
open Go.ChangeShapes Go.WideShapes Go.ChangeAt Go.RowKit Go.Shelf Go.Lib

theorem said : Rows.NumDigitsSaid :=
  OpenClaim.holds_of_cond 5 Tryz.f5 rfl rfl rfl rfl rfl rfl rfl ⟨rfl, rfl, rfl, rfl, rfl⟩ rfl rfl rfl rfl rfl (by kernel_rfl) Tryz.func5 closed
    (of_decide_eq_true (by kernel_rfl)) (by unfold Func.isWrapper; first | (rw [if_pos (by decide +kernel)]; kernel_rfl) | (rw [if_neg (by decide +kernel)]; exact ⟨rfl, rfl⟩))
    (fun os started H enc _ F => by rw [OpenClaim.pre_eq_preRow]; exact lifted os started H enc F)

/-- No parameter wants a stand-in; the program's own looks are told. -/
theorem plain (f : FuncId) (fn : Func) (hf : Tryz.pinned.checked.prog.funcNamed Rows.numDigitsRow.func = some f) (hfn : Tryz.pinned.checked.prog.funcs[f]? = some fn) :
    true = Tryz.pinned.checked.prog.looks [] ∧ ∀ (j : Nat) t, fn.params[j]? = some t → Tryz.pinned.checked.prog.wantsStandIn t = false := by
  obtain rfl : f = 5 := Option.some.inj ((show Tryz.prog.funcNamed Rows.numDigitsRow.func = some 5 by kernel_rfl).symm.trans hf) |>.symm
  obtain rfl : fn = Tryz.f5 := (Option.some.inj (Tryz.func5.symm.trans hfn)).symm
  refine ⟨by kernel_rfl, fun j t ht => ?_⟩
  rw [Tryz.params5] at ht
  have hm := Array.mem_of_getElem? ht
  have h2 : t = 22 ∨ t = 3 := by simpa using hm
  rcases h2 with rfl | rfl
  · exact (show Tryz.prog.wantsStandIn 22 = false by kernel_rfl)
  · exact (show Tryz.prog.wantsStandIn 3 = false by kernel_rfl)

/-- **The card.** -/
theorem card : Rows.NumDigitsCardSaid :=
  Claim7.holds_tied_plain_at .later [] _ _ _ _ said (fun _ h => by cases h) (by kernel_rfl) (fun _ h => by cases h) numDigits_row_tie rfl ⟨rfl, rfl⟩ (by kernel_rfl) rfl plain (by kernel_rfl)
end Go.Proofs.YtellndmbllmjgaaGreatDoor.numDigits
namespace Go.Proofs.YtellndmbllmjgaaGreatDoor
/-- **NumDigits, for every input.** -/
theorem numDigits_card : Rows.NumDigitsCardSaid := numDigits.card
#print axioms numDigits_card
end Go.Proofs.YtellndmbllmjgaaGreatDoor
