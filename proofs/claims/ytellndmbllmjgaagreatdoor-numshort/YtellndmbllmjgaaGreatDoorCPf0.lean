/- Bits of a word that is packed. -/
import Derived.Test.YtellndmbllmjgaaGreatDoorCExA
import Derived.WalkKit
import Derived.Laws.BitsLemmas
import Derived.Laws.BitsAllLaws
import Derived.Laws.Bits64b
set_option linter.unusedVariables false
namespace Go.Proofs.YtellndmbllmjgaaGreatDoor
open Go.RowKit Fs

theorem and_pow (m i : Nat) : m &&& 2 ^ i = if m.testBit i then 2 ^ i else 0 := by
  apply Nat.eq_of_testBit_eq
  intro j
  rw [Nat.testBit_and, Nat.testBit_two_pow]
  by_cases h : i = j
  · subst h
    cases hb : m.testBit i
    · simp
    · simp
  · rw [decide_eq_false h, Bool.and_false]
    split
    · rw [Nat.testBit_two_pow, decide_eq_false h]
    · simp
theorem bit52 (m : Nat) : m &&& 4503599627370496 = (m / 4503599627370496 % 2) * 4503599627370496 := by
  have h := and_pow m 52
  rw [Nat.testBit_eq_decide_div_mod_eq] at h
  rw [show (2 : Nat) ^ 52 = 4503599627370496 by decide] at h
  rw [h]
  rcases Nat.mod_two_eq_zero_or_one (m / 4503599627370496) with h1 | h1
  · rw [h1]; rfl
  · rw [h1]; rfl
theorem and52_lo (m : Nat) (h : m < 4503599627370496) : bits .and .u64 (m : Int) 4503599627370496 = 0 := by
  refine (u64_and_nat m 4503599627370496 (by omega) (by omega)).trans ?_
  rw [bit52, Nat.div_eq_of_lt h]
  rfl
theorem and52_hi (m : Nat) (h : 4503599627370496 ≤ m) (h2 : m < 9007199254740992) : bits .and .u64 (m : Int) 4503599627370496 = 4503599627370496 := by
  refine (u64_and_nat m 4503599627370496 (by omega) (by omega)).trans ?_
  rw [bit52, show m / 4503599627370496 % 2 = 1 by omega]
  rfl
theorem and63_lo (m : Nat) (h : m < 9223372036854775808) : bits .and .u64 (m : Int) 9223372036854775808 = 0 := by
  refine (u64_and_nat m 9223372036854775808 (by omega) (by omega)).trans ?_
  have e := and_pow m 63
  rw [Nat.testBit_lt_two_pow h] at e
  have : m &&& 9223372036854775808 = 0 := e
  rw [this]
  rfl
theorem strip52 (m : Nat) (h : 4503599627370496 ≤ m) (h2 : m < 9007199254740992) : bits .andNot .u64 (m : Int) 4503599627370496 = ((m - 4503599627370496 : Nat) : Int) := by
  refine (u64_andNot_nat m 4503599627370496 (by omega) (by omega)).trans ?_
  have e1 : m &&& (2 ^ 53 - 1) = m % 2 ^ 53 := Nat.and_two_pow_sub_one_eq_mod _ _
  have e2 : m % 2 ^ 53 = m := Nat.mod_eq_of_lt h2
  have e3 : m &&& (2 ^ 52 - 1) = m % 2 ^ 52 := Nat.and_two_pow_sub_one_eq_mod _ _
  have e4 : m % 2 ^ 52 = m - 4503599627370496 := by omega
  have e5 : (9007199254740991 : Nat) &&& (18446744073709551615 - 4503599627370496) = 4503599627370495 := by decide
  have e6 : m &&& (18446744073709551615 - 4503599627370496) = m - 4503599627370496 := by
    have h3 : m &&& (18446744073709551615 - 4503599627370496) = (m &&& 9007199254740991) &&& (18446744073709551615 - 4503599627370496) := by
      rw [show m &&& 9007199254740991 = m from e1.trans e2]
    rw [h3, Nat.and_assoc, e5]
    exact e3.trans e4
  exact congrArg Int.ofNat e6
theorem or_exp (f q : Nat) (hf : f < 4503599627370496) (hq : q < 2048) : bits .or .u64 (f : Int) ((q * 4503599627370496 : Nat) : Int) = ((q * 4503599627370496 + f : Nat) : Int) := by
  refine (u64_or_nat f (q * 4503599627370496) (by omega) (by omega)).trans ?_
  have e : 2 ^ 52 * q + f = 2 ^ 52 * q ||| f := Nat.two_pow_add_eq_or_of_lt hf q
  rw [Nat.or_comm] at e
  have e2 : 2 ^ 52 * q = q * 4503599627370496 := Nat.mul_comm _ _
  rw [e2] at e
  exact congrArg Int.ofNat e.symm
theorem or_none (m : Nat) (h : m < 18446744073709551616) : bits .or .u64 0 (m : Int) = (m : Int) := by
  refine (u64_or_nat 0 m (by omega) h).trans ?_
  rw [Nat.zero_or]
theorem or_self1 (u : Nat) : u ||| u % 2 = u := by
  rcases Nat.mod_two_eq_zero_or_one u with h | h
  · rw [h, Nat.or_zero]
  · rw [h, or_one]; omega
theorem and_one (u : Nat) (h : u < 18446744073709551616) : bits .and .u64 (u : Int) 1 = ((u % 2 : Nat) : Int) := by
  have := u64_and_nat u 1 h (by omega)
  rwa [Nat.and_one_is_mod] at this
theorem or_same (u : Nat) (h : u < 18446744073709551616) : bits .or .u64 (u : Int) ((u % 2 : Nat) : Int) = (u : Int) := by
  refine (u64_or_nat u (u % 2) h (by omega)).trans ?_
  rw [or_self1]
theorem or_half2 (u : Nat) (h : u < 18446744073709551616) : bits .or .u64 ((u / 2 : Nat) : Int) ((u % 2 : Nat) : Int) = (half u : Int) := by
  refine (u64_or_nat (u / 2) (u % 2) (by omega) (by omega)).trans ?_
  rfl
end Go.Proofs.YtellndmbllmjgaaGreatDoor
