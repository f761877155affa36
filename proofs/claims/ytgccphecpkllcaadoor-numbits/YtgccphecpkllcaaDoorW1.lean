/- The walks of Abs, Signbit, IsInf, IsNaN, finite, same, Trunc, both Ints. -/
import Derived.Test.YtgccphecpkllcaaDoorSh
import Derived.Laws.BitsAllLaws
import Derived.Laws.Bits64b
set_option linter.unusedVariables false
namespace Go.Proofs.YtgccphecpkllcaaDoor
open Go.RowKit Go.Shelf Fl

theorem wd_lt (s : Bool) (r : Nat) (h : r < 9223372036854775808) : wd s r < 18446744073709551616 := by
  cases s
  · rw [wd_false]; omega
  · rw [wd_true]; omega
theorem wd_abs (s : Bool) (r : Nat) (h : r < 9223372036854775808) : bits .andNot .u64 ((wd s r : Nat) : Int) 9223372036854775808 = (r : Int) := by
  have := u64_andNot_nat (wd s r) 9223372036854775808 (wd_lt s r h) (by omega)
  refine this.trans ?_
  have e : wd s r &&& (2 ^ 63 - 1) = wd s r % 2 ^ 63 := Nat.and_two_pow_sub_one_eq_mod _ _
  have e2 : wd s r % 2 ^ 63 = r := wd_mod s r h
  rw [e2] at e
  exact congrArg Int.ofNat e
/-- Abs. -/
theorem abs_any (s : Bool) (r : Nat) (h : r < 9223372036854775808) (w : World) : Calls Tryd.prog 16 #[.float .f64 (wd s r)] w fun e w' => e = .returned (.float .f64 r) ∧ w' = w := by
  have h1 := wd_abs s r h
  have x1 := Tryd.tobits (wd s r)
  have x2 := Tryd.frombits (r : Int)
  rw [Int.toNat_natCast] at x2
  generalize wd s r = x at *
  clear h
  go_enter Tryd.func16, Tryd.ntmps16
  go_wp2
  go_ret
  exact ⟨rfl, rfl⟩
theorem isNaN_any (x : Nat) (w : World) : Calls Tryd.prog 26 #[.float .f64 x] w fun e w' => e = .returned (.bool (FloatKind.f64.format.order x x != some .eq)) ∧ w' = w := by
  go_enter Tryd.func26, Tryd.ntmps26
  go_wp2
  go_ret
  exact ⟨rfl, rfl⟩
end Go.Proofs.YtgccphecpkllcaaDoor
