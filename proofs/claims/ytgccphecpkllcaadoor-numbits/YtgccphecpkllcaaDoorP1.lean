/- The walk of parts. -/
import Derived.Test.YtgccphecpkllcaaDoorW3
set_option linter.unusedVariables false
namespace Go.Proofs.YtgccphecpkllcaaDoor
open Go.RowKit Go.Shelf Fl

theorem and_52 (r : Nat) (h : r < 18446744073709551616) : bits .and .u64 (r : Int) 4503599627370495 = ((r % 4503599627370496 : Nat) : Int) := by
  refine (bits_and_u64_nat r 4503599627370495 h (by omega)).trans ?_
  have e : r &&& (2 ^ 52 - 1) = r % 2 ^ 52 := Nat.and_two_pow_sub_one_eq_mod _ _
  exact congrArg Int.ofNat e
theorem and_11 (q : Nat) (h : q < 2048) : bits .and .u64 (q : Int) 2047 = (q : Int) := by
  refine (bits_and_u64_nat q 2047 (by omega) (by omega)).trans ?_
  have e : q &&& (2 ^ 11 - 1) = q % 2 ^ 11 := Nat.and_two_pow_sub_one_eq_mod _ _
  have e2 : q % 2 ^ 11 = q := Nat.mod_eq_of_lt h
  exact congrArg Int.ofNat (e.trans e2)
theorem or_52 (m : Nat) (h : m < 4503599627370496) : bits .or .u64 (m : Int) 4503599627370496 = ((4503599627370496 + m : Nat) : Int) := by
  refine (bits_or_u64_nat m 4503599627370496 (by omega) (by omega)).trans ?_
  have e : 2 ^ 52 * 1 + m = 2 ^ 52 * 1 ||| m := Nat.two_pow_add_eq_or_of_lt h 1
  rw [Nat.or_comm] at e
  exact congrArg Int.ofNat e.symm
theorem ctz_lt (r : Nat) (h0 : r ≠ 0) (h : r < 18446744073709551616) : Lib.ctz 64 r < 64 := (Lib.lowest_bit 64 r h0 h).2
theorem cdiv (r z : Nat) : (r : Int) / 2 ^ z = ((r / 2 ^ z : Nat) : Int) := by
  rw [Int.natCast_ediv, Int.natCast_pow]; rfl
set_option maxRecDepth 100000 in
set_option maxHeartbeats 400000 in
theorem parts_low (r z : Nat) (h0 : r ≠ 0) (h : r < 4503599627370496) (w : World) (hz : z < 64) (ct : Calls Tryd.prog 21 #[.int .u64 r] w fun e w' => e = .returned (.int .i64 z) ∧ w' = w) :
    Calls Tryd.prog 15 #[.float .f64 r] w fun e w' => e = .returned (.tuple #[.int .u64 ((r / 2 ^ z : Nat) : Int), .int .i64 (-1074 + (z : Int))]) ∧ w' = w := by
  have x1 := Tryd.tobits r
  have b1 : bits .and .u64 (r : Int) 4503599627370495 = (r : Int) := by
    have b1 := and_52 r (by omega)
    rw [Nat.mod_eq_of_lt h] at b1
    exact b1
  have b2 : bits .and .u64 0 2047 = 0 := and_11 0 (by omega)
  have q1 : (r : Int) / 4503599627370496 = 0 := by omega
  go_enter Tryd.func15, Tryd.ntmps15
  go_wp2_with (first | (go_at_call 21; refine ct.mono ?_; rintro e w' ⟨rfl, rfl⟩) | go_in)
  go_ret2
  rw [← cdiv]
  exact ⟨rfl, rfl⟩
set_option maxRecDepth 100000 in
set_option maxHeartbeats 400000 in
theorem parts_high (r f q m z : Nat) (hf : r % 4503599627370496 = f) (hq : r / 4503599627370496 = q) (h0 : q ≠ 0) (h : q < 2047) (hm : m = 4503599627370496 + f) (w : World) (hz : z < 64) (ct : Calls Tryd.prog 21 #[.int .u64 m] w fun e w' => e = .returned (.int .i64 z) ∧ w' = w) :
    Calls Tryd.prog 15 #[.float .f64 r] w fun e w' => e = .returned (.tuple #[.int .u64 ((m / 2 ^ z : Nat) : Int), .int .i64 ((q : Int) - 1075 + (z : Int))]) ∧ w' = w := by
  have x1 := Tryd.tobits r
  have b1 : bits .and .u64 (r : Int) 4503599627370495 = (f : Int) := by
    have b1 := and_52 r (by omega)
    rw [hf] at b1
    exact b1
  have b2 : bits .and .u64 (q : Int) 2047 = (q : Int) := and_11 q (by omega)
  have b3 : bits .or .u64 (f : Int) 4503599627370496 = (m : Int) := by
    have := or_52 f (by omega)
    rw [hm]
    exact this
  have q1 : (r : Int) / 4503599627370496 = (q : Int) := by omega
  have q0 : ((q : Int) == 0) = false := by simp; omega
  have m0 : ((m : Int) == 0) = false := by simp; omega
  have mm : m < 9007199254740992 := by omega
  clear hf hq hm
  go_enter Tryd.func15, Tryd.ntmps15
  go_wp2_with (first | (go_at_call 21; refine ct.mono ?_; rintro e w' ⟨rfl, rfl⟩) | go_in)
  go_ret2
  rw [← cdiv]
  exact ⟨rfl, rfl⟩
theorem parts_zero (w : World) : Calls Tryd.prog 15 #[.float .f64 0] w fun e w' => e = .returned (.tuple #[.int .u64 0, .int .i64 0]) ∧ w' = w := by
  have x1 := Tryd.tobits 0
  have b1 : bits .and .u64 0 4503599627370495 = 0 := and_52 0 (by omega)
  have b2 : bits .and .u64 0 2047 = 0 := and_11 0 (by omega)
  go_enter Tryd.func15, Tryd.ntmps15
  go_wp2
  go_ret2
  exact ⟨rfl, rfl⟩
/-- **parts, of a finite word.** -/
theorem parts_any (r : Nat) (h0 : r ≠ 0) (h : r < 9218868437227405312) (w : World) (hT : TabAt 1 Lib.deBruijn64tab w) :
    Calls Tryd.prog 15 #[.float .f64 r] w fun e w' => e = .returned (.tuple #[.int .u64 ((magR r / 2 ^ Lib.ctz 64 (magR r) : Nat) : Int), .int .i64 ((expR r : Int) - 1074 + (Lib.ctz 64 (magR r) : Int))]) ∧ w' = w := by
  have hm0 : magR r ≠ 0 := fun e => h0 (magR_zero.1 e)
  have hml := magR_lt r
  have hz := ctz_lt (magR r) hm0 (by omega)
  have ct := Tryd.tz64 (magR r) (by omega) w (fun _ => hT)
  generalize Lib.ctz 64 (magR r) = z at *
  by_cases hr : r < 4503599627370496
  · have e1 : magR r = r := by unfold magR; rw [if_pos hr]
    have e2 : expR r = 0 := by unfold expR; omega
    rw [e1] at ct ⊢
    rw [e2]
    exact parts_low r z h0 hr w hz ct
  · have e1 : magR r = 4503599627370496 + r % 4503599627370496 := by unfold magR; rw [if_neg hr]
    have e2 : ((expR r : Nat) : Int) - 1074 = ((r / 4503599627370496 : Nat) : Int) - 1075 := by unfold expR; omega
    rw [e2]
    exact parts_high r _ _ (magR r) z rfl rfl (by omega) (by omega) e1 w hz ct
end Go.Proofs.YtgccphecpkllcaaDoor
