/- Property.with, where no functions are told of a property that is none. -/
import Derived.Test.YtmicdbplkfdfnaaGreatDoorCHo3x
set_option linter.unusedVariables false
namespace Go.Proofs.YtmicdbplkfdfnaaGreatDoor
open Go.RowKit Go.Shelf Go.Maps
attribute [local go_sem] run_store_flt

theorem heap_alloc3_new (w : World) (a b c : Obj) : (((w.alloc a).alloc b).alloc c).heap[w.heap.size + 1 + 1]? = some c := by
  have h := heap_alloc_new ((w.alloc a).alloc b) c
  simpa using h
/-- What is told, cell by cell: of a value and flags alone. -/
def tdV (t0 t1 t2 : Bool) (t4 : Int) (t5 : Nat) (t6 : ByteArray) (t7 : Option Addr) (hv hw he hc : Bool) : Value :=
  .agg #[.bool t0, .bool t1, .bool t2, .bool false, .int .i64 t4, .float .f64 t5, .string t6, .pointer t7, .pointer none, .pointer none, .bool hv, .bool false, .bool false, .bool hw, .bool he, .bool hc]
set_option maxRecDepth 100000 in
set_option maxHeartbeats 4000000 in
theorem with_told (q0 q1 q2 t0 t1 t2 hv hw he hc : Bool) (q4 t4 : Int) (q5 t5 : Nat) (q6 t6 : ByteArray) (q7 t7 : Option Addr) (w : World) :
    Calls Tryz.prog 69 #[.agg #[.bool q0, .bool q1, .bool q2, .bool false, .int .i64 q4, .float .f64 q5, .string q6, .pointer q7, .pointer none, .pointer none], tdV t0 t1 t2 t4 t5 t6 t7 hv hw he hc] w fun e w' =>
      e = .returned (.agg #[.bool (if hw then t0 else q0), .bool (if he then t1 else q1), .bool (if hc then t2 else q2), .bool false, .int .i64 (if hv then t4 else q4), .float .f64 (if hv then t5 else q5), .string (if hv then t6 else q6), .pointer (if hv then t7 else q7), .pointer none, .pointer none]) ∧ Kx [] w w' := by
  have c := fun W => tellsF_any (.bool t0) (.bool t1) (.bool t2) (.bool false) (.int .i64 t4) (.float .f64 t5) (.string t6) (.pointer t7) (.pointer none) (.pointer none) hv false false hw he hc W
  rw [Bool.or_false] at c
  unfold tdV
  cases hv <;> cases hw <;> cases he <;> cases hc <;>
  as_aux_lemma =>
    simp only [if_true, if_false, Bool.false_eq_true]
    go_enter Tryz.func69, Tryz.ntmps69
    go_wp2_with (first | (go_at_call 64; refine (c _).mono ?_; rintro e w1 ⟨rfl, rfl⟩))
    refine bodyPost_ret (results_cell_row rfl _ _ (w.heap.size + 1 + 1) 75 _ (0, 0) _ rfl (heap_old (heap_alloc3_new _ _ _ _) _) Tryz.underlying75 rfl (by kernel_rfl)) rfl ?_
    exact ⟨rfl, (((Kx.alloc _ _ _).alc _).alc _).alc _⟩
end Go.Proofs.YtmicdbplkfdfnaaGreatDoor
