/- The walk of the document's Uint32, of a finite word. -/
import Derived.Test.YtgccphecpkllcaaDoorR1
set_option linter.unusedVariables false
namespace Go.Proofs.YtgccphecpkllcaaDoor
open Go.RowKit Go.Shelf Fl

set_option maxRecDepth 100000 in
set_option maxHeartbeats 1000000 in
theorem refU_pos (x t r : Nat) (v : Int) (w : World)
    (o1 : (FloatKind.f64.format.order x x != some .eq) = false) (o2 : (FloatKind.f64.format.order x 9218868437227405311 == some .gt) = false) (o3 : (FloatKind.f64.format.order x 18442240474082181119 == some .lt) = false)
    (ct : ∀ w, Calls Tryd.prog 12 #[.float .f64 x] w fun e w' => e = .returned (.float .f64 t) ∧ w' = w)
    (cm : Calls Tryd.prog 17 #[.float .f64 t, .float .f64 4751297606875873280] w fun e w' => e = .returned (.float .f64 r) ∧ w' = w)
    (o4 : (FloatKind.f64.format.order r 0 == some .lt) = false)
    (hc : ∀ w, (convert 23 27 (.float .f64 r)).run Tryd.prog w = .ok (.int .u32 v) w) :
    Calls Tryd.prog 9 #[.float .f64 x] w fun e w' => e = .returned (.int .u32 v) ∧ w' = w := by
  go_enter Tryd.func9, Tryd.ntmps9
  go_wp2_with (first | (go_at_call 12; refine (ct _).mono ?_; rintro e w' ⟨rfl, rfl⟩) | (go_at_call 17; refine cm.mono ?_; rintro e w' ⟨rfl, rfl⟩) | go_in)
  go_ret
  exact ⟨rfl, rfl⟩
set_option maxRecDepth 100000 in
set_option maxHeartbeats 1000000 in
theorem refU_neg (x t r q : Nat) (v : Int) (w : World)
    (o1 : (FloatKind.f64.format.order x x != some .eq) = false) (o2 : (FloatKind.f64.format.order x 9218868437227405311 == some .gt) = false) (o3 : (FloatKind.f64.format.order x 18442240474082181119 == some .lt) = false)
    (ct : ∀ w, Calls Tryd.prog 12 #[.float .f64 x] w fun e w' => e = .returned (.float .f64 t) ∧ w' = w)
    (cm : Calls Tryd.prog 17 #[.float .f64 t, .float .f64 4751297606875873280] w fun e w' => e = .returned (.float .f64 r) ∧ w' = w)
    (o4 : (FloatKind.f64.format.order r 0 == some .lt) = true)
    (ha : ∀ ty w, (binOp .add ty (.float .f64 r) (.float .f64 4751297606875873280)).run Tryd.prog w = .ok (.float .f64 q) w)
    (hc : ∀ w, (convert 23 27 (.float .f64 q)).run Tryd.prog w = .ok (.int .u32 v) w) :
    Calls Tryd.prog 9 #[.float .f64 x] w fun e w' => e = .returned (.int .u32 v) ∧ w' = w := by
  go_enter Tryd.func9, Tryd.ntmps9
  go_wp2_with (first | (go_at_call 12; refine (ct _).mono ?_; rintro e w' ⟨rfl, rfl⟩) | (go_at_call 17; refine cm.mono ?_; rintro e w' ⟨rfl, rfl⟩) | go_in)
  go_ret
  exact ⟨rfl, rfl⟩
theorem conv_u32 (b : Nat) (v : Int) (h : floatToIntVal .f64 b .u32 = some v) (w : World) : (convert 23 27 (.float .f64 b)).run Tryd.prog w = .ok (.int .u32 v) w :=
  run_convert_float_int w 23 27 .f64 .u32 b v (by rw [Tryd.underlying23]; rfl) Tryd.underlying27 h
end Go.Proofs.YtgccphecpkllcaaDoor
