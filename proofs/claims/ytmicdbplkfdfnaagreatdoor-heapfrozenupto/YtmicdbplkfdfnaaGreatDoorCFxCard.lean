/-
  HeapFrozen: for every list of keys, every script of steps and both classes, together of at most 1048576 values and letters, the law answers true: an object's properties that can be neither written nor configured, when the object is fixed, stay as they are, whatever is defined or deleted: the same keys in the same order, each with the same property. Conditions: the tables that the row lists hold what the program's text, or the form's own copy of Go's table, lays, and errors.errorType is the handle of the type error (the card ties them).
-/
import Derived.Test.YtmicdbplkfdfnaaGreatDoorCFxSx
import Derived.Test.YtmicdbplkfdfnaaGreatDoorCards
import Derived.Test.YtmicdbplkfdfnaaGreatDoorTie
set_option linter.unusedVariables false
namespace Go.Proofs.YtmicdbplkfdfnaaGreatDoor.heapFrozen
open Go.ChangeShapes Go.WideShapes Go.ChangeAt Go.RowKit Go.Shelf Go.Lib

theorem said : Rows.HeapFrozenUptoSaid :=
  OpenClaim.holds_of_cond 3 Tryz.f3 rfl rfl rfl rfl rfl rfl rfl ⟨rfl, rfl, rfl, rfl, rfl⟩ rfl rfl rfl rfl rfl (by kernel_rfl) Tryz.func3 closed
    (of_decide_eq_true (by kernel_rfl)) (by unfold Func.isWrapper; first | (rw [if_pos (by decide +kernel)]; kernel_rfl) | (rw [if_neg (by decide +kernel)]; exact ⟨rfl, rfl⟩))
    (fun os started H enc _ F => by rw [OpenClaim.pre_eq_preRow]; exact lifted os started H enc F)

/-- No parameter wants a stand-in; the program's own looks are told. -/
theorem plain (f : FuncId) (fn : Func) (hf : Tryz.pinned.checked.prog.funcNamed Rows.heapFrozenUptoRow.func = some f) (hfn : Tryz.pinned.checked.prog.funcs[f]? = some fn) :
    true = Tryz.pinned.checked.prog.looks [] ∧ ∀ (j : Nat) t, fn.params[j]? = some t → Tryz.pinned.checked.prog.wantsStandIn t = false := by
  obtain rfl : f = 3 := Option.some.inj ((show Tryz.prog.funcNamed Rows.heapFrozenUptoRow.func = some 3 by kernel_rfl).symm.trans hf) |>.symm
  obtain rfl : fn = Tryz.f3 := (Option.some.inj (Tryz.func3.symm.trans hfn)).symm
  refine ⟨by kernel_rfl, fun j t ht => ?_⟩
  rw [Tryz.params3] at ht
  have hm := Array.mem_of_getElem? ht
  have h2 : t = 22 ∨ t = 23 ∨ t = 4 := by simpa using hm
  rcases h2 with rfl | rfl | rfl
  · exact (show Tryz.prog.wantsStandIn 22 = false by kernel_rfl)
  · exact (show Tryz.prog.wantsStandIn 23 = false by kernel_rfl)
  · exact (show Tryz.prog.wantsStandIn 4 = false by kernel_rfl)

/-- **The card.** -/
theorem card : Rows.HeapFrozenUptoCardSaid :=
  Claim7.holds_tied_plain_at .later [] _ _ _ _ said (fun _ h => by cases h) (by kernel_rfl) (fun _ h => by cases h) heapFrozenUpto_row_tie rfl ⟨rfl, rfl⟩ (by kernel_rfl) rfl plain (by kernel_rfl)
end Go.Proofs.YtmicdbplkfdfnaaGreatDoor.heapFrozen
namespace Go.Proofs.YtmicdbplkfdfnaaGreatDoor
/-- **HeapFrozen, for every input within the bound.** -/
theorem heapFrozen_card : Rows.HeapFrozenUptoCardSaid := heapFrozen.card
#print axioms heapFrozen_card
end Go.Proofs.YtmicdbplkfdfnaaGreatDoor
