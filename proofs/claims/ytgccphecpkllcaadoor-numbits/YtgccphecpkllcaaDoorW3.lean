/- The walks of finite, Trunc, both Ints. -/
import Derived.Test.YtgccphecpkllcaaDoorW2
import Derived.Laws.NewFold
import Derived.Below
set_option linter.unusedVariables false
namespace Go.Proofs.YtgccphecpkllcaaDoor
open Go.RowKit Go.Shelf Fl

theorem finite_num (s : Bool) (r : Nat) (h : r < 9218868437227405312) (w : World) : Calls Tryd.prog 14 #[.float .f64 (wd s r)] w fun e w' => e = .returned (.bool true) ∧ w' = w := by
  have h1 : ∀ t w, (binOp .sub t (.float .f64 (wd s r)) (.float .f64 (wd s r))).run Tryd.prog w = .ok (.float .f64 0) w := fun t w => run_float_arith w .sub t .f64 _ _ 0 (sub_self s r h)
  have h2 : FloatKind.f64.format.order 0 0 = some .eq := by decide
  generalize wd s r = x at *
  clear h
  go_enter Tryd.func14, Tryd.ntmps14
  go_wp2
  go_ret
  exact ⟨rfl, rfl⟩
/-- A NaN that is drawn. -/
theorem nan_drawn (x y t : Nat) : ∃ s r, Question.cut (.nanBits .f64 x y) t = wd s r ∧ 9218868437227405312 < r ∧ r < 9223372036854775808 := by
  refine ⟨decide (t % 2 = 1), 9218868437227405313 + t / 2 % 4503599627370495, ?_, by omega, by omega⟩
  have e : Question.cut (.nanBits .f64 x y) t = t % 2 * 9223372036854775808 + 9218868437227405312 + 1 + t / 2 % 4503599627370495 := rfl
  rw [e]
  rcases Nat.mod_two_eq_zero_or_one t with h | h
  · rw [h, show decide (0 = 1) = false from rfl, wd_false]; try omega
  · rw [h, show decide (1 = 1) = true from rfl, wd_true]; try omega
theorem sub_drawn (x : Nat) (h : Ieee.double.sub x x = none) (t : TypeId) (w : World) : ∃ N, FloatKind.f64.format.order N 0 = none ∧ (binOp .sub t (.float .f64 x) (.float .f64 x)).run Tryd.prog w = .ok (.float .f64 N) w.drew := by
  obtain ⟨s, r, he, h1, h2⟩ := nan_drawn x x (w.tape w.drawn (.nanBits .f64 x x))
  refine ⟨wd s r, order_nan 0 s r h1 h2, ?_⟩
  have h' : FloatKind.f64.format.sub x x = none := h
  have hf : (Question.nanBits .f64 x x).forced = false := rfl
  simp [binOp, Op.floatArith, h', hf, he]
theorem finite_not (x : Nat) (h : Ieee.double.sub x x = none) (w : World) : Calls Tryd.prog 14 #[.float .f64 x] w fun e w' => e = .returned (.bool false) ∧ w' = w.drew := by
  obtain ⟨N, h2, h1⟩ := sub_drawn x h 23 w
  clear h
  go_enter Tryd.func14, Tryd.ntmps14
  go_wp2
  go_ret
  exact ⟨rfl, rfl⟩
theorem trunc_any (x : Nat) (h : (Ieee.double.read x).isNaN = false) (w : World) : Calls Tryd.prog 12 #[.float .f64 x] w fun e w' => e = .returned (.float .f64 (Ieee.double.write ((Ieee.double.read x).integral .zero))) ∧ w' = w := by
  have h1 := fun w => Tryd.trunced x w h
  generalize Ieee.double.write ((Ieee.double.read x).integral .zero) = y at *
  clear h
  go_enter Tryd.func12, Tryd.ntmps12
  go_wp2
  go_ret
  exact ⟨rfl, rfl⟩
theorem int_nan (f : Nat) (hf : f = 5 ∨ f = 6) (x : Nat) (h : FloatKind.f64.format.order x x = none) (w : World) : Calls Tryd.prog f #[.float .f64 x] w fun e w' => e = .returned (.float .f64 0) ∧ w' = w := by
  rcases hf with rfl | rfl
  · go_enter Tryd.func5, Tryd.ntmps5
    go_wp2
    go_ret
    exact ⟨rfl, rfl⟩
  · go_enter Tryd.func6, Tryd.ntmps6
    go_wp2
    go_ret
    exact ⟨rfl, rfl⟩
theorem int_num (f : Nat) (hf : f = 5 ∨ f = 6) (x : Nat) (hr : (Ieee.double.read x).isNaN = false) (h : FloatKind.f64.format.order x x = some .eq) (w : World) : Calls Tryd.prog f #[.float .f64 x] w fun e w' => e = .returned (.float .f64 (Ieee.double.write ((Ieee.double.read x).integral .zero))) ∧ w' = w := by
  have ct := trunc_any x hr
  generalize Ieee.double.write ((Ieee.double.read x).integral .zero) = y at *
  clear hr
  rcases hf with rfl | rfl
  · go_enter Tryd.func5, Tryd.ntmps5
    go_wp2_with (first | (go_at_call 12; refine (ct _).mono ?_; rintro e w' ⟨rfl, rfl⟩) | go_in)
    go_ret
    exact ⟨rfl, rfl⟩
  · go_enter Tryd.func6, Tryd.ntmps6
    go_wp2_with (first | (go_at_call 12; refine (ct _).mono ?_; rintro e w' ⟨rfl, rfl⟩) | go_in)
    go_ret
    exact ⟨rfl, rfl⟩
end Go.Proofs.YtgccphecpkllcaaDoor
