/- What is thrown and caught: nothing. -/
import Derived.Test.YtpaaladlddifjaaGreatDoorD1
import Derived.Defers
import Derived.Recover
set_option linter.unusedVariables false
namespace Go.Proofs.YtpaaladlddifjaaGreatDoor
open Go.RowKit Re

theorem thrown_nil (w : World) : Calls Tryz.prog 18 #[.nilIface] w fun e w' => e = .returned .nilIface ∧ w' = w := by
  go_enter Tryz.func18, Tryz.ntmps18
  go_wp2
  go_ret
  exact ⟨rfl, rfl⟩
theorem catch_idle (p : Addr) (w : World) (v : Value) (hc : w.cell? p = some v) (hf : w.frozen? p = false) :
    CallsD Tryz.prog 17 #[.pointer (some p)] .returning w fun e u' w' => e = .returned (.tuple #[]) ∧ u' = .returning ∧ w' = w.setCell p .nilIface := by
  refine callsD_of_wpS Tryz.func17 rfl fun c₀ cs hu => ?_
  apply wpS_region
  simp [wpOpsS, go_sem, recoverD, hu, Tryz.ntmps17]
  refine (thrown_nil _).mono ?_
  rintro e w' ⟨rfl, rfl⟩
  simp [go_sem, hc, hf, bodyPostS, results, Tryz.results17]
  cases c₀
  simp_all
set_option maxRecDepth 100000 in
theorem caught_13 (caps : Array Value) (w : World) (Q : World → Prop) (hq : Calls Tryz.prog 13 caps (w.alloc (Obj.cells #[.nilIface] 35)) fun e w' => (∃ v, e = .returned v) ∧ Q w' ∧ w'.heap[w.heap.size]? = some (Obj.cells #[.nilIface] 35 (0, 0))) :
    Calls Tryz.prog 12 #[.func (.func 13) #[] caps] w fun e w' => e = .returned .nilIface ∧ ∃ w1, Q w1 ∧ Kx [w.heap.size] w1 w' := by
  have hmf : ∀ (fn : Fn) (first cap : Array Value) (w : World), (Instr.makeFunc fn first cap).run Tryz.prog w = .ok (.func fn first cap) w := fun _ _ _ _ => rfl
  go_enter_defers Tryz.func12, Tryz.ntmps12
  go_wp2_with (first | (go_at_call 13; refine hq.mono ?_; rintro e w1 ⟨⟨v, rfl⟩, q1, q2⟩; have c1 : w1.cell? ⟨w.heap.size, 0, none⟩ = some .nilIface := cell_at q2 0 rfl; have f1 := fr_all q2 0))
  refine leaves_cons (f := 17) (args := #[.pointer (some ⟨w.heap.size, 0, none⟩)]) (by simp) (by simp [go_sem]) ?_
  refine (catch_idle ⟨w.heap.size, 0, none⟩ _ .nilIface ?_ ?_).mono ?_
  · simp [go_sem, c1]
  · simp [go_sem, f1]
  rintro e u' w'' ⟨rfl, rfl, rfl⟩
  simp [Leaves, settle, results, Tryz.results12, go_sem, c1]
  exact ⟨w1, q1, ((Kx.refl [w.heap.size] w1).set (by simp) _).set (by simp) _⟩
set_option maxRecDepth 100000 in
theorem caught_27 (caps : Array Value) (w : World) (Q : World → Prop) (hq : Calls Tryz.prog 27 caps (w.alloc (Obj.cells #[.nilIface] 35)) fun e w' => (∃ v, e = .returned v) ∧ Q w' ∧ w'.heap[w.heap.size]? = some (Obj.cells #[.nilIface] 35 (0, 0))) :
    Calls Tryz.prog 12 #[.func (.func 27) #[] caps] w fun e w' => e = .returned .nilIface ∧ ∃ w1, Q w1 ∧ Kx [w.heap.size] w1 w' := by
  have hmf : ∀ (fn : Fn) (first cap : Array Value) (w : World), (Instr.makeFunc fn first cap).run Tryz.prog w = .ok (.func fn first cap) w := fun _ _ _ _ => rfl
  go_enter_defers Tryz.func12, Tryz.ntmps12
  go_wp2_with (first | (go_at_call 27; refine hq.mono ?_; rintro e w1 ⟨⟨v, rfl⟩, q1, q2⟩; have c1 : w1.cell? ⟨w.heap.size, 0, none⟩ = some .nilIface := cell_at q2 0 rfl; have f1 := fr_all q2 0))
  refine leaves_cons (f := 17) (args := #[.pointer (some ⟨w.heap.size, 0, none⟩)]) (by simp) (by simp [go_sem]) ?_
  refine (catch_idle ⟨w.heap.size, 0, none⟩ _ .nilIface ?_ ?_).mono ?_
  · simp [go_sem, c1]
  · simp [go_sem, f1]
  rintro e u' w'' ⟨rfl, rfl, rfl⟩
  simp [Leaves, settle, results, Tryz.results12, go_sem, c1]
  exact ⟨w1, q1, ((Kx.refl [w.heap.size] w1).set (by simp) _).set (by simp) _⟩
end Go.Proofs.YtpaaladlddifjaaGreatDoor
