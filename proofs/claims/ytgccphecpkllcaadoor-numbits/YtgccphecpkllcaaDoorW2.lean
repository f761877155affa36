/- The walks of IsInf, Signbit, finite, same, Trunc, both Ints. -/
import Derived.Test.YtgccphecpkllcaaDoorW1
set_option linter.unusedVariables false
namespace Go.Proofs.YtgccphecpkllcaaDoor
open Go.RowKit Go.Shelf Fl

/-- IsInf, of either sign. -/
theorem isInf_any (s : Bool) (r : Nat) (h : r < 9223372036854775808) (w : World) : Calls Tryd.prog 25 #[.float .f64 (wd s r), .int .i64 0] w fun e w' => e = .returned (.bool (FloatKind.f64.format.order r 9218868437227405311 == some .gt)) ∧ w' = w := by
  have ca := abs_any s r h
  generalize wd s r = x at *
  clear h
  go_enter Tryd.func25, Tryd.ntmps25
  go_wp2_with (first | (go_at_call 16; refine (ca _).mono ?_; rintro e w' ⟨rfl, rfl⟩) | go_in)
  go_ret
  exact ⟨rfl, rfl⟩
theorem signbit_any (x : Nat) (w : World) : Calls Tryd.prog 13 #[.float .f64 x] w fun e w' => e = .returned (.bool (decide (wrap64 (x : Int) < 0))) ∧ w' = w := by
  have x1 := Tryd.tobits x
  go_enter Tryd.func13, Tryd.ntmps13
  go_wp2
  go_ret
  exact ⟨by simp, rfl⟩
/-- A word and itself are the same. -/
theorem same_self (x : Nat) (w : World) : Calls Tryd.prog 7 #[.float .f64 x, .float .f64 x] w fun e w' => e = .returned (.bool true) ∧ w' = w := by
  have cs := signbit_any x
  have ho : FloatKind.f64.format.order x x = none ∨ FloatKind.f64.format.order x x = some .eq := order_self x
  rcases ho with h | h
  all_goals
    go_enter Tryd.func7, Tryd.ntmps7
    go_wp2_with (first | (go_at_call 13; refine (cs _).mono ?_; rintro e w' ⟨rfl, rfl⟩) | go_in)
    go_ret
    exact ⟨by simp, rfl⟩
end Go.Proofs.YtgccphecpkllcaaDoor
