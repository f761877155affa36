/- The world's variables are as their types ask. -/
import Derived.Test.YtellndmbllmjgaaGreatDoorNwY
import Derived.LaidLaws
import Derived.DataWitness
set_option linter.unusedVariables false
namespace Go.Proofs.YtellndmbllmjgaaGreatDoor
open Go.RowKit Go.Shelf Go.Lib Fs

theorem ct305 : Tryz.prog.cellTypes Tryz.prog.depth 306 = some (List.replicate 1392 22) := by kernel_rfl
theorem cell_u64 (w : World) (z : Nat) (hz : z < 18446744073709551616) : Cell.okRefB Tryz.prog w 22 (.int .u64 (z : Int)) = true := by
  have hw : (Lit.int .u64 (z : Int)).wf = true := by
    simp [Lit.wf, IntKind.min, IntKind.max, IntKind.bits, IntKind.signed]
    omega
  unfold Cell.okRefB
  rw [Tryz.underlying22]
  simp only [Cell.okB, Tryz.underlying22]
  have h1 : IntKind.u64.min = 0 := by decide
  have h2 : IntKind.u64.max = 18446744073709551615 := by decide
  rw [h1, h2]
  simp
  omega
theorem pow_size : powCells.size = 1392 := by
  unfold powCells
  rw [List.size_toArray, pair_len, pow_len]
theorem pow_cell (i : Nat) (hi : i < 1392) : ∃ z : Nat, z < 18446744073709551616 ∧ powCells[i]? = some (.int .u64 (z : Int)) := by
  have h1 : powCells[i]? = some (powCells[i]'(by rw [pow_size]; exact hi)) := Array.getElem?_eq_getElem _
  have h2 : powCells[i]? = (Go.Pinned.pow10Rows.flatMap pair2)[i]? := by unfold powCells; rw [List.getElem?_toArray]
  rw [h2] at h1
  have hm := List.mem_of_getElem? h1
  obtain ⟨x, hx, hx2⟩ := List.mem_flatMap.1 hm
  obtain ⟨j, hj⟩ := List.mem_iff_getElem?.1 hx
  have f := powOk_at Go.Pinned.pow10Rows 0 j x.1 x.2 powOk_all hj
  unfold pair2 at hx2
  rw [h2, h1]
  simp only [List.mem_cons, List.mem_nil_iff, or_false] at hx2
  rcases hx2 with e | e
  · exact ⟨x.1, f.1, by rw [e]⟩
  · exact ⟨x.2, f.2.1, by rw [e]⟩
theorem pow_ok (w : World) : Row.okRefB Tryz.prog w 306 powCells = true := by
  unfold Row.okRefB
  rw [ct305]
  simp only [pow_size, List.length_replicate, Nat.mod_self, beq_self_eq_true, Bool.true_and]
  rw [List.all_eq_true]
  intro i hi
  have hi' := List.mem_range.1 hi
  obtain ⟨z, hz, hc⟩ := pow_cell i hi'
  rw [hc, Nat.mod_eq_of_lt hi', List.getElem?_replicate, if_pos hi']
  exact cell_u64 w z hz
theorem begin11 : (((begin Tryz.prog (fun _ _ => 0) default).world.heap[11]?).bind Obj.row?).map (fun x => (x.1.size, x.2)) = some (1392, 306) := by kernel_rfl
theorem heap11 (os : Os) : ((laidW (World.holding Tryz.prog os ⟨newBlocks, #[], []⟩) (World.settled Tryz.prog os).heap.size).forCall (fun _ _ => 0) ⟨#[], #[.int .u64 0], []⟩).heap[11]? = some (.cells powCells 306 (0, 0)) := by kernel_rfl
theorem gsize : Tryz.prog.globals.size = 20 := by kernel_rfl
/-- What is asked of one variable. -/
noncomputable def varB (w : World) (g : Nat) : Bool :=
  match ((begin Tryz.prog (fun _ _ => 0) default).world.heap[g]?).bind Obj.row? with
  | none => true
  | some (zero, t) =>
    match w.heap[g]? with
    | some (.cells cs t' frozen) => decide (t' = t) && decide (frozen = (0, 0)) && cs.size == zero.size && (!Tryz.prog.buildable t || Row.okRefB Tryz.prog w t cs)
    | _ => false
theorem var11 (os : Os) : varB ((laidW (World.holding Tryz.prog os ⟨newBlocks, #[], []⟩) (World.settled Tryz.prog os).heap.size).forCall (fun _ _ => 0) ⟨#[], #[.int .u64 0], []⟩) 11 = true := by
  have h1 := begin11
  have h2 := heap11 os
  unfold varB
  generalize ((laidW (World.holding Tryz.prog os ⟨newBlocks, #[], []⟩) (World.settled Tryz.prog os).heap.size).forCall (fun _ _ => 0) ⟨#[], #[.int .u64 0], []⟩) = W at *
  obtain ⟨⟨zero, t⟩, h3, h4⟩ := Option.map_eq_some_iff.1 h1
  simp only [Prod.mk.injEq] at h4
  obtain ⟨h5, rfl⟩ := h4
  rw [h3, h2]
  simp only [pow_ok W, pow_size, h5, Bool.or_true, decide_true, beq_self_eq_true, Bool.and_self]
theorem varsL (os : Os) : ((List.range 11).all fun g => varB ((laidW (World.holding Tryz.prog os ⟨newBlocks, #[], []⟩) (World.settled Tryz.prog os).heap.size).forCall (fun _ _ => 0) ⟨#[], #[.int .u64 0], []⟩) g) = true := by kernel_rfl
theorem varsR (os : Os) : ((List.range 8).all fun g => varB ((laidW (World.holding Tryz.prog os ⟨newBlocks, #[], []⟩) (World.settled Tryz.prog os).heap.size).forCall (fun _ _ => 0) ⟨#[], #[.int .u64 0], []⟩) (g + 12)) = true := by kernel_rfl
theorem vars (os : Os) : ((laidW (World.holding Tryz.prog os ⟨newBlocks, #[], []⟩) (World.settled Tryz.prog os).heap.size).forCall (fun _ _ => 0) ⟨#[], #[.int .u64 0], []⟩).variablesRefB Tryz.prog = true := by
  have h1 := varsL os
  have h2 := varsR os
  have h3 := var11 os
  generalize ((laidW (World.holding Tryz.prog os ⟨newBlocks, #[], []⟩) (World.settled Tryz.prog os).heap.size).forCall (fun _ _ => 0) ⟨#[], #[.int .u64 0], []⟩) = W at *
  have all : ∀ g, g < 20 → varB W g = true := by
    intro g hg
    rcases Nat.lt_trichotomy g 11 with h | h | h
    · exact List.all_eq_true.1 h1 g (List.mem_range.2 h)
    · rw [h]; exact h3
    · have := List.all_eq_true.1 h2 (g - 12) (List.mem_range.2 (by omega))
      rw [show g - 12 + 12 = g by omega] at this
      exact this
  unfold World.variablesRefB
  rw [gsize, List.all_eq_true]
  intro g hg
  exact all g (List.mem_range.1 hg)
end Go.Proofs.YtellndmbllmjgaaGreatDoor
