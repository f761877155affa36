/- Plain mathematics: a word made whole; a word below 0 brought above; a word as a number of 32 bits. -/
import Derived.Test.YtgccphecpkllcaaDoorFl3
import Derived.Laws.FloatArith
set_option linter.unusedVariables false
namespace Go.Proofs.YtgccphecpkllcaaDoor
namespace Fl
open Ieee

/-- The whole number in a finite word. -/
def wholeR (a : Nat) : Nat := magR a * 2 ^ (expR a - 1074) / 2 ^ (1074 - expR a)
theorem magR_lt (a : Nat) : magR a < 9007199254740992 := by
  unfold magR
  by_cases h : a < 4503599627370496
  · rw [if_pos h]; omega
  · rw [if_neg h]; omega
theorem magR_ge {a : Nat} (h : expR a ≠ 0) : 4503599627370496 ≤ magR a := by
  unfold expR at h
  unfold magR
  rw [if_neg (by omega)]
  omega
theorem norm_whole (a : Nat) (ha : a < 9218868437227405312) (h0 : wholeR a ≠ 0) : ∃ M L, Norm (wholeR a) M L ∧ L ≤ 1023 := by
  rcases Nat.lt_or_ge (expR a) 1074 with h | h
  · have e1 : expR a - 1074 = 0 := by omega
    have hw : wholeR a < 9007199254740992 := by
      unfold wholeR
      rw [e1, Nat.pow_zero, Nat.mul_one]
      exact Nat.lt_of_le_of_lt (Nat.div_le_self _ _) (magR_lt a)
    obtain ⟨M, L, hN, hL⟩ := norm_small h0 hw
    exact ⟨M, L, hN, by omega⟩
  · obtain ⟨d, hd⟩ : ∃ d, expR a = 1074 + d := ⟨expR a - 1074, by omega⟩
    have hm := magR_ge (a := a) (by omega)
    have hm2 := magR_lt a
    have hw : wholeR a = magR a * 2 ^ d := by
      unfold wholeR
      rw [show expR a - 1074 = d by omega, show 1074 - expR a = 0 by omega, Nat.pow_zero, Nat.div_one]
    have hp := Nat.two_pow_pos d
    have hx : expR a ≤ 2045 := by unfold expR; omega
    refine ⟨magR a, 52 + d, ⟨?_, ?_, ?_⟩, by omega⟩
    · rw [hw, Nat.mul_assoc, ← pow_split, Nat.add_comm]
    · rw [hw, pow_split]
      exact Nat.mul_le_mul_right _ hm
    · rw [hw, show 52 + d + 1 = 53 + d by omega, pow_split]
      exact (Nat.mul_lt_mul_right hp).2 hm2
/-- **A finite word made whole, towards 0.** -/
theorem trunc_wd (s : Bool) (a : Nat) (ha : a < 9218868437227405312) : double.write ((double.read (wd s a)).integral .zero) = double.nearest s (wholeR a) 0 := by
  rw [read_wd s a ha]
  simp only [Datum.integral, Format.write, cut_toward_zero, Nat.shiftLeft_eq]
  have e1 : ((expR a : Int) - 1074).toNat = expR a - 1074 := by omega
  have e2 : (-((expR a : Int) - 1074)).toNat = 1074 - expR a := by omega
  rw [e1, e2]
  rfl
theorem nearest_whole {s : Bool} {n M L : Nat} (hN : Norm n M L) (hL : L ≤ 1023) : double.nearest s n 0 = wd s (rungI M L) := by
  rw [nearest_norm s n 0 n M L hN hL 0 0 rfl rfl, word_wd]
/-- The rung of 2 to the 32nd. -/
theorem y_eq : (4751297606875873280 : Nat) = rungI 4503599627370496 32 := by decide
theorem add_y {n M L : Nat} (hN : Norm n M L) (hL : L < 32) {M' L' : Nat} (hN' : Norm (4294967296 - n) M' L') (hL' : L' ≤ 52) : double.add (wd true (rungI M L)) 4751297606875873280 = some (rungI M' L') := by
  have hM2 := hN.M_lt
  have r1 := read_word true n M L hN (by omega)
  have r2 := read_word false (2 ^ 32) 4503599627370496 32 (norm_pow 32) (by omega)
  rw [wd_false, ← y_eq] at r2
  unfold Format.add
  rw [r1, r2]
  simp only [Datum.sum, signed_key, Option.map_some, Format.write]
  have e0 : ((L : Int) - 52 - min ((L : Int) - 52) (((32 : Nat) : Int) - 52)).toNat = 0 := by omega
  have e0' : ((((32 : Nat) : Int) - 52) - min ((L : Int) - 52) (((32 : Nat) : Int) - 52)).toNat = 32 - L := by omega
  rw [e0, e0', Nat.pow_zero, Nat.mul_one, key_false, key_true]
  have hge : 4503599627370496 * 2 ≤ 4503599627370496 * 2 ^ (32 - L) := Nat.mul_le_mul_left _ (by
    have : (2 : Nat) ^ 1 ≤ 2 ^ (32 - L) := Nat.pow_le_pow_right (by omega) (by omega)
    omega)
  generalize hT : 4503599627370496 * 2 ^ (32 - L) = T at *
  have hT2 : T * 2 ^ L = 4294967296 * 2 ^ 52 := by
    rw [← hT, Nat.mul_assoc, ← pow_split, show 32 - L + L = 32 by omega]
  have e1 : ¬ (-(M : Int) + (T : Int) = 0) := by omega
  have e2 : decide (-(M : Int) + (T : Int) < 0) = false := decide_eq_false (by omega)
  have e3 : (-(M : Int) + (T : Int)).natAbs = T - M := by omega
  have e4 : min ((L : Int) - 52) (((32 : Nat) : Int) - 52) = (L : Int) - 52 := by omega
  rw [if_neg e1, e2, e3, e4, nearest_norm false _ ((L : Int) - 52) (4294967296 - n) M' L' hN' (by omega) L 52 rfl ?_, word_wd, wd_false]
  rw [Nat.sub_mul, Nat.sub_mul, hT2, hN.1]
theorem decode_eq (b : Nat) : FloatKind.f64.decode b = double.read b := rfl
theorem toInt_zero_at (M n L : Nat) (hM : M = n * 2 ^ (52 - L)) (hL : L ≤ 52) : (Datum.number false M ((L : Int) - 52)).toInt .zero = some (n : Int) := by
  unfold Datum.toInt
  simp only [Datum.integral, cut_toward_zero, Nat.shiftLeft_eq]
  have e1 : ((L : Int) - 52).toNat = 0 := by omega
  have e2 : (-((L : Int) - 52)).toNat = 52 - L := by omega
  rw [e1, e2, Nat.pow_zero, Nat.mul_one, hM, Nat.mul_div_cancel _ (Nat.two_pow_pos _), signed_key, key_false, Nat.pow_zero, Nat.mul_one]
theorem u32_bounds {n : Nat} (hn : n < 4294967296) : IntKind.u32.min ≤ (n : Int) ∧ (n : Int) ≤ IntKind.u32.max := by
  have e1 : IntKind.u32.min = 0 := by decide
  have e2 : IntKind.u32.max = 4294967295 := by decide
  rw [e1, e2]
  omega
theorem norm_M {n M L : Nat} (hN : Norm n M L) (hL : L ≤ 52) : M = n * 2 ^ (52 - L) := by
  have h := hN.1
  have : n * 2 ^ 52 = n * 2 ^ (52 - L) * 2 ^ L := by rw [Nat.mul_assoc, ← pow_split, show 52 - L + L = 52 by omega]
  rw [this] at h
  exact pow_cancel h
theorem toIntVal_of (b : Nat) (n : Int) (k : IntKind) (h : (double.read b).toInt .zero = some n) (hb : k.min ≤ n ∧ n ≤ k.max) : floatToIntVal .f64 b k = some n := by
  unfold floatToIntVal
  rw [decode_eq, h]
  exact if_pos hb
/-- A whole word as a number of 32 bits. -/
theorem u32_word {n M L : Nat} (hN : Norm n M L) (hn : n < 4294967296) (hL : L ≤ 52) : floatToIntVal .f64 (rungI M L) .u32 = some (n : Int) := by
  have r1 := read_word false n M L hN (by omega)
  rw [wd_false] at r1
  exact toIntVal_of _ _ _ (by rw [r1]; exact toInt_zero_at M n L (norm_M hN hL) hL) (u32_bounds hn)
theorem u32_zero (s : Bool) : floatToIntVal .f64 (wd s 0) .u32 = some 0 := by
  cases s
  · rw [wd_false]; decide
  · rw [wd_true]; decide
end Fl
end Go.Proofs.YtgccphecpkllcaaDoor
