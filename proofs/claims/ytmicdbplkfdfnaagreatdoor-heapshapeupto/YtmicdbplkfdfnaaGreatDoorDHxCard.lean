/-
  HeapShape: for every list of keys and every number, together of at most 1048576 values and letters, the law answers true: two objects to which the same names came in the same order have one shape; one to which they came in another order has another; one that lost a name has none that another has. Conditions: the tables that the row lists hold what the program's text, or the form's own copy of Go's table, lays, and errors.errorType is the handle of the type error (the card ties them).
-/
import Derived.Test.YtmicdbplkfdfnaaGreatDoorDHxL
import Derived.Test.YtmicdbplkfdfnaaGreatDoorDHxC
import Derived.Test.YtmicdbplkfdfnaaGreatDoorCards
import Derived.Test.YtmicdbplkfdfnaaGreatDoorTie
set_option linter.unusedVariables false
namespace Go.Proofs.YtmicdbplkfdfnaaGreatDoor.heapShape
open Go.ChangeShapes Go.WideShapes Go.ChangeAt Go.RowKit Go.Shelf Go.Lib

theorem said : Rows.HeapShapeUptoSaid :=
  OpenClaim.holds_of_cond 4 Tryz.f4 rfl rfl rfl rfl rfl rfl rfl ⟨rfl, rfl, rfl, rfl, rfl⟩ rfl rfl rfl rfl rfl (by kernel_rfl) Tryz.func4 closed
    (of_decide_eq_true (by kernel_rfl)) (by unfold Func.isWrapper; first | (rw [if_pos (by decide +kernel)]; kernel_rfl) | (rw [if_neg (by decide +kernel)]; exact ⟨rfl, rfl⟩))
    (fun os started H enc _ F => by rw [OpenClaim.pre_eq_preRow]; exact lifted os started H enc F)

/-- No parameter wants a stand-in; the program's own looks are told. -/
theorem plain (f : FuncId) (fn : Func) (hf : Tryz.pinned.checked.prog.funcNamed Rows.heapShapeUptoRow.func = some f) (hfn : Tryz.pinned.checked.prog.funcs[f]? = some fn) :
    true = Tryz.pinned.checked.prog.looks [] ∧ ∀ (j : Nat) t, fn.params[j]? = some t → Tryz.pinned.checked.prog.wantsStandIn t = false := by
  obtain rfl : f = 4 := Option.some.inj ((show Tryz.prog.funcNamed Rows.heapShapeUptoRow.func = some 4 by kernel_rfl).symm.trans hf) |>.symm
  obtain rfl : fn = Tryz.f4 := (Option.some.inj (Tryz.func4.symm.trans hfn)).symm
  refine ⟨by kernel_rfl, fun j t ht => ?_⟩
  rw [Tryz.params4] at ht
  have hm := Array.mem_of_getElem? ht
  have h2 : t = 22 ∨ t = 3 := by simpa using hm
  rcases h2 with rfl | rfl
  · exact (show Tryz.prog.wantsStandIn 22 = false by kernel_rfl)
  · exact (show Tryz.prog.wantsStandIn 3 = false by kernel_rfl)

/-- **The card.** -/
theorem card : Rows.HeapShapeUptoCardSaid :=
  Claim7.holds_tied_plain_at .later [] _ _ _ _ said (fun _ h => by cases h) (by kernel_rfl) (fun _ h => by cases h) heapShapeUpto_row_tie rfl ⟨rfl, rfl⟩ (by kernel_rfl) rfl plain (by kernel_rfl)
end Go.Proofs.YtmicdbplkfdfnaaGreatDoor.heapShape
namespace Go.Proofs.YtmicdbplkfdfnaaGreatDoor
/-- **HeapShape, for every input within the bound.** -/
theorem heapShape_card : Rows.HeapShapeUptoCardSaid := heapShape.card
#print axioms heapShape_card
end Go.Proofs.YtmicdbplkfdfnaaGreatDoor
