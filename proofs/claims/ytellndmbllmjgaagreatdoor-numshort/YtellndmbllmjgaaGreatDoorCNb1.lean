/- The shape of a written number; what is nearest to it; its bounds. -/
import Derived.Test.YtellndmbllmjgaaGreatDoorCExA
import Derived.Test.YtellndmbllmjgaaGreatDoorCRd1
set_option linter.unusedVariables false
namespace Go.Proofs.YtellndmbllmjgaaGreatDoor
namespace Fs
open Fl

theorem decNear_shift (d t j R : Nat) : DecNear (d * 10 ^ t) j R ↔ DecNear d (j + t) R := by
  rw [decNear_iff, decNear_iff]
  have : d * 10 ^ t * BB j = d * BB (j + t) := by
    unfold BB
    rw [Nat.pow_add]
    grind
  rw [this]
theorem lo_inf : upR 9218868437227405311 < 10 ^ 309 * Z76 := by decide +kernel
theorem pow_mono_lt {a b : Nat} (h : 10 ^ a < 10 ^ b) : a < b := (Nat.pow_lt_pow_iff_right (by decide)).1 h
theorem near_up_le {p q r : Nat} (h : Near p q r) : p * Z76 ≤ upR r * q := by
  unfold Near Inn at h
  split at h
  · exact h.2
  · exact Nat.le_of_lt h.2
theorem near_lo_le {p q r : Nat} (h : Near p q r) : loR r * q ≤ p * Z76 := by
  unfold Near Inn at h
  split at h
  · exact h.1
  · exact Nat.le_of_lt h.1
theorem low_pow : 1152921504606846976 * Z76 < 2 * 10 ^ 342 := by decide +kernel
/-- How far the point may lie. -/
theorem dec_bounds {r d J : Nat} (h0 : 0 < r) (h1 : r < 9218868437227405312) (hd0 : 0 < d) (hd : d < 1152921504606846976) (h : DecNear d J r) : 59 ≤ J ∧ J ≤ 708 := by
  unfold DecNear at h
  split at h
  · rename_i hj
    refine ⟨by omega, ?_⟩
    have a := near_up_le h
    have b : upR r ≤ upR 9218868437227405311 := by
      rw [up_succ, up_succ]
      exact lo_mono (by omega)
    have c := lo_inf
    have e : d * 10 ^ (J - 400) * Z76 < 10 ^ 309 * Z76 := by omega
    have f := Nat.lt_of_mul_lt_mul_right e
    have g : 10 ^ (J - 400) ≤ d * 10 ^ (J - 400) := Nat.le_mul_of_pos_left _ hd0
    have := pow_mono_lt (Nat.lt_of_le_of_lt g f)
    omega
  · rename_i hj
    refine ⟨?_, by omega⟩
    have a := near_lo_le h
    have b : 2 ≤ loR r := by
      have := lo_mono (show 1 ≤ r from h0)
      have e : loR 1 = 2 := by decide
      omega
    have c : 2 * 10 ^ (400 - J) ≤ loR r * 10 ^ (400 - J) := Nat.mul_le_mul_right _ b
    have e : d * Z76 ≤ 1152921504606846976 * Z76 := Nat.mul_le_mul_right _ (by omega)
    have f := low_pow
    have g : 2 * 10 ^ (400 - J) < 2 * 10 ^ 342 := by omega
    have := pow_mono_lt (Nat.lt_of_mul_lt_mul_left g)
    omega
/-- The exponent behind a number. -/
def Expo (tl : List Nat) (e : Int) : Prop := (tl = [] ∧ e = 0) ∨ ∃ g X, tl = 101 :: (g ++ X) ∧ Dig X ∧ 0 < X.length ∧ X.length ≤ 4 ∧ ((g = [] ∧ e = (vD X : Int)) ∨ (g = [43] ∧ e = (vD X : Int)) ∨ (g = [45] ∧ e = -(vD X : Int)))
/-- A number's shape: digits, a point with digits, an exponent. -/
structure Shape (T A B : List Nat) (dot : Bool) (tl : List Nat) (e : Int) : Prop where
  text : T = A ++ ((if dot then 46 :: B else []) ++ tl)
  nod : dot = false → B = []
  exp : Expo tl e
  digA : Dig A
  digB : Dig B
  neA : 0 < A.length
end Fs
end Go.Proofs.YtellndmbllmjgaaGreatDoor
