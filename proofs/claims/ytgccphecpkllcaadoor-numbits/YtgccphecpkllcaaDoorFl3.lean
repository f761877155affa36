/- Plain mathematics: how words stand to each other; sums, differences, products that are exact; a word cut to a whole number. -/
import Derived.Test.YtgccphecpkllcaaDoorFl2
set_option linter.unusedVariables false
namespace Go.Proofs.YtgccphecpkllcaaDoor
namespace Fl
open Ieee

theorem cmp_congr {x y x' y' : Int} (h1 : x < y ↔ x' < y') (h2 : x = y ↔ x' = y') : compare x y = compare x' y' := by
  simp only [compare, compareOfLessAndEq, h1, h2]
def key (s : Bool) (a : Nat) : Int := if s then -(a : Int) else (a : Int)
theorem key_false (a : Nat) : key false a = (a : Int) := rfl
theorem key_true (a : Nat) : key true a = -(a : Int) := rfl
theorem signed_key (s : Bool) (m u : Nat) : signed s m u = key s (m * 2 ^ u) := by
  unfold signed key
  rw [Nat.shiftLeft_eq]
theorem key_cmp (s t : Bool) (a b p q : Nat) (h1 : a < b ↔ p < q) (h2 : b < a ↔ q < p) (h3 : a = 0 ↔ p = 0) (h4 : b = 0 ↔ q = 0) : compare (key s a) (key t b) = compare (key s p) (key t q) := by
  cases s <;> cases t <;> simp only [key_false, key_true] <;> apply cmp_congr <;> omega
theorem magR_zero {r : Nat} : magR r = 0 ↔ r = 0 := by
  unfold magR
  by_cases h : r < 4503599627370496
  · rw [if_pos h]
  · rw [if_neg h]
    omega
theorem valR_zero {r : Nat} : valR r = 0 ↔ r = 0 := by
  unfold valR
  rw [Nat.mul_eq_zero]
  have := Nat.two_pow_pos (expR r)
  constructor
  · intro h
    rcases h with h | h
    · exact magR_zero.1 h
    · omega
  · intro h
    exact Or.inl (magR_zero.2 h)
theorem valR_lt_iff {a b : Nat} : a < b ↔ valR a < valR b := by
  constructor
  · exact valR_lt
  · intro h
    rcases Nat.lt_trichotomy a b with h1 | h1 | h1
    · exact h1
    · rw [h1] at h; omega
    · have := valR_lt h1; omega

/-- **Finite words stand to each other as their signed rungs do.** -/
theorem order_key (s t : Bool) (a b : Nat) (ha : a < 9218868437227405312) (hb : b < 9218868437227405312) : double.order (wd s a) (wd t b) = some (compare (key s a) (key t b)) := by
  unfold Format.order
  rw [read_wd s a ha, read_wd t b hb]
  simp only [Datum.order, signed_key]
  congr 1
  obtain ⟨k, hk⟩ : ∃ k, k = min (expR a) (expR b) := ⟨_, rfl⟩
  have e1 : ((expR a : Int) - 1074 - min ((expR a : Int) - 1074) ((expR b : Int) - 1074)).toNat = expR a - k := by omega
  have e2 : ((expR b : Int) - 1074 - min ((expR a : Int) - 1074) ((expR b : Int) - 1074)).toNat = expR b - k := by omega
  rw [e1, e2]
  have v1 : valR a = magR a * 2 ^ (expR a - k) * 2 ^ k := by
    unfold valR
    rw [Nat.mul_assoc, ← pow_split, show expR a - k + k = expR a by omega]
  have v2 : valR b = magR b * 2 ^ (expR b - k) * 2 ^ k := by
    unfold valR
    rw [Nat.mul_assoc, ← pow_split, show expR b - k + k = expR b by omega]
  have hp := Nat.two_pow_pos k
  symm
  apply key_cmp
  · rw [valR_lt_iff, v1, v2]
    exact Nat.mul_lt_mul_right hp
  · rw [valR_lt_iff, v1, v2]
    exact Nat.mul_lt_mul_right hp
  · rw [← valR_zero, v1, Nat.mul_eq_zero]
    constructor
    · intro h; rcases h with h | h
      · exact h
      · omega
    · intro h; exact Or.inl h
  · rw [← valR_zero, v2, Nat.mul_eq_zero]
    constructor
    · intro h; rcases h with h | h
      · exact h
      · omega
    · intro h; exact Or.inl h
theorem cmp_lt {x y : Int} (h : x < y) : compare x y = .lt := by simp only [compare, compareOfLessAndEq, h, if_true]
theorem cmp_eq (x : Int) : compare x x = .eq := by simp [compare, compareOfLessAndEq]
theorem cmp_gt {x y : Int} (h : y < x) : compare x y = .gt := by
  have h1 : ¬ x < y := by omega
  have h2 : ¬ x = y := by omega
  simp only [compare, compareOfLessAndEq, h1, h2, if_false]
theorem natcmp_eq (x : Nat) : compare x x = .eq := by simp [compare, compareOfLessAndEq]
/-- A word and itself. -/
theorem order_self (c : Nat) : double.order c c = none ∨ double.order c c = some .eq := by
  unfold Format.order
  generalize double.read c = d
  cases d with
  | number s m i => exact Or.inr (by simp only [Datum.order, cmp_eq])
  | infinity s => exact Or.inr (by simp only [Datum.order, natcmp_eq])
  | nan s t => exact Or.inl (by simp only [Datum.order])
theorem order_nan (c : Nat) (s : Bool) (r : Nat) (h : 9218868437227405312 < r) (h2 : r < 9223372036854775808) : double.order (wd s r) c = none := by
  unfold Format.order
  rw [read_nan s r h h2]
  simp only [Datum.order]
theorem zero_wd : (0 : Nat) = wd false 0 := by rw [wd_false]
theorem order_zero (s : Bool) (a : Nat) (ha : a < 9218868437227405312) : double.order (wd s a) 0 = some (compare (key s a) 0) := by
  have h := order_key s false a 0 ha (by omega)
  rw [← zero_wd] at h
  exact h
theorem order_pos (a b : Nat) (ha : a < 9218868437227405312) (hb : b < 9218868437227405312) : double.order a b = some (compare (a : Int) (b : Int)) := by
  have h := order_key false false a b ha hb
  rw [wd_false, wd_false] at h
  exact h
/-- A finite word less itself. -/
theorem sub_self (s : Bool) (a : Nat) (ha : a < 9218868437227405312) : double.sub (wd s a) (wd s a) = some 0 := by
  unfold Format.sub
  rw [read_wd s a ha]
  simp only [Datum.opposite, Datum.sum, signed_key, Option.map_some, Format.write]
  have : key s (magR a * 2 ^ ((expR a : Int) - 1074 - min ((expR a : Int) - 1074) ((expR a : Int) - 1074)).toNat) + key (!s) (magR a * 2 ^ ((expR a : Int) - 1074 - min ((expR a : Int) - 1074) ((expR a : Int) - 1074)).toNat) = 0 := by
    cases s
    · simp only [Bool.not_false, key_false, key_true]; omega
    · simp only [Bool.not_true, key_false, key_true]; omega
  rw [this, if_pos rfl, Int.natAbs_zero, nearest_zero, word_wd]
  cases s
  · exact congrArg some (wd_false 0)
  · exact congrArg some (wd_false 0)
theorem sub_inf (s : Bool) : double.sub (wd s 9218868437227405312) (wd s 9218868437227405312) = none := by
  unfold Format.sub
  rw [read_inf]
  simp only [Datum.opposite, Datum.sum]
  cases s <;> simp
theorem sub_nan (c : Nat) (s : Bool) (r : Nat) (h : 9218868437227405312 < r) (h2 : r < 9223372036854775808) : double.sub (wd s r) c = none := by
  unfold Format.sub
  rw [read_nan s r h h2]
  simp only [Datum.sum, Option.map_none]

/-- A number above 0 and below 2 to the 53rd has few digits. -/
theorem norm_small {n : Nat} (h0 : n ≠ 0) (h : n < 9007199254740992) : ∃ M L, Norm n M L ∧ L ≤ 52 := by
  have a1 := Nat.log2_self_le h0
  have a2 := Nat.lt_log2_self (n := n)
  have hl : n.log2 < 53 := (Nat.pow_lt_pow_iff_right (by omega : 1 < 2)).1 (Nat.lt_of_le_of_lt a1 (by have : (2 : Nat) ^ 53 = 9007199254740992 := by decide
                                                                                                      omega))
  refine ⟨n * 2 ^ (52 - n.log2), n.log2, ⟨?_, a1, a2⟩, by omega⟩
  rw [Nat.mul_assoc, ← pow_split, show 52 - n.log2 + n.log2 = 52 by omega]
/-- The highest digit taken away. -/
theorem norm_less {n M L : Nat} (hN : Norm n M L) (h : n ≠ 2 ^ L) : ∃ M' L', Norm (n - 2 ^ L) M' L' ∧ L' < L ∧ (M - 4503599627370496) * 2 ^ L = (n - 2 ^ L) * 2 ^ 52 := by
  have hM1 := hN.M_le
  obtain ⟨h1, h2, h3⟩ := hN
  have h0 : n - 2 ^ L ≠ 0 := by omega
  have a1 := Nat.log2_self_le h0
  have a2 := Nat.lt_log2_self (n := n - 2 ^ L)
  have e : 2 ^ (L + 1) = 2 ^ L * 2 := Nat.pow_succ 2 L
  have hl : (n - 2 ^ L).log2 < L := (Nat.pow_lt_pow_iff_right (by omega : 1 < 2)).1 (Nat.lt_of_le_of_lt a1 (by omega))
  have hd : (M - 4503599627370496) * 2 ^ L = (n - 2 ^ L) * 2 ^ 52 := by
    rw [Nat.sub_mul, Nat.sub_mul, h1, Nat.mul_comm (2 ^ L)]
  refine ⟨(M - 4503599627370496) * 2 ^ (L - (n - 2 ^ L).log2), (n - 2 ^ L).log2, ⟨?_, a1, a2⟩, hl, hd⟩
  rw [Nat.mul_assoc, ← pow_split, show L - (n - 2 ^ L).log2 + (n - 2 ^ L).log2 = L by omega, hd]
theorem norm_pow (L : Nat) : Norm (2 ^ L) 4503599627370496 L := ⟨by rw [Nat.mul_comm], Nat.le_refl _, by rw [Nat.pow_succ]; have := Nat.two_pow_pos L; omega⟩
theorem norm_eq_pow {n M L : Nat} (hN : Norm n M L) : n = 2 ^ L ↔ M = 4503599627370496 := by
  obtain ⟨h1, h2, h3⟩ := hN
  constructor
  · intro h
    rw [h, Nat.mul_comm (2 ^ L)] at h1
    exact pow_cancel h1
  · intro h
    rw [h, Nat.mul_comm] at h1
    have h1' : 2 ^ L * 2 ^ 52 = n * 2 ^ 52 := h1
    exact (pow_cancel h1').symm

/-- One times a power of two. -/
theorem mul_one_pow (L : Nat) (hL : L ≤ 1023) : double.mul 4607182418800017408 (rungI 4503599627370496 L) = some (rungI 4503599627370496 L) := by
  have e1 : (4607182418800017408 : Nat) = wd false (rungI 4503599627370496 0) := by rw [wd_false]; rfl
  have e2 : rungI 4503599627370496 L = wd false (rungI 4503599627370496 L) := by rw [wd_false]
  unfold Format.mul
  rw [e1, read_word false (2 ^ 0) _ 0 (norm_pow 0) (by omega)]
  rw [show double.read (rungI 4503599627370496 L) = _ from (congrArg double.read e2).trans (read_word false (2 ^ L) _ L (norm_pow L) hL)]
  simp only [Datum.product, Option.map_some, Format.write]
  rw [nearest_norm _ _ _ (2 ^ L) 4503599627370496 L (norm_pow L) hL L 104 (by omega) (by rw [Nat.mul_comm]), word_wd]
  exact congrArg some (wd_false _)
/-- The highest digit taken away, of words. -/
theorem sub_top {n M L : Nat} (hN : Norm n M L) (hL : L ≤ 1023) (h : n ≠ 2 ^ L) {M' L' : Nat} (hN' : Norm (n - 2 ^ L) M' L') (hl : L' < L) (hd : (M - 4503599627370496) * 2 ^ L = (n - 2 ^ L) * 2 ^ 52) :
    double.sub (rungI M L) (rungI 4503599627370496 L) = some (rungI M' L') := by
  have hM1 := hN.M_le
  have hne : M ≠ 4503599627370496 := fun e => h ((norm_eq_pow hN).2 e)
  have r1 := read_word false n M L hN hL
  have r2 := read_word false (2 ^ L) 4503599627370496 L (norm_pow L) hL
  rw [wd_false] at r1 r2
  unfold Format.sub
  rw [r1, r2]
  simp only [Datum.opposite, Datum.sum, signed_key, Option.map_some, Format.write]
  have e0 : ((L : Int) - 52 - min ((L : Int) - 52) ((L : Int) - 52)).toNat = 0 := by omega
  rw [e0, Nat.pow_zero, Nat.mul_one, Nat.mul_one, Bool.not_false, key_false, key_true]
  have e1 : ¬ ((M : Int) + -((4503599627370496 : Nat) : Int) = 0) := by omega
  have e2 : decide ((M : Int) + -((4503599627370496 : Nat) : Int) < 0) = false := decide_eq_false (by omega)
  have e3 : ((M : Int) + -((4503599627370496 : Nat) : Int)).natAbs = M - 4503599627370496 := by omega
  have e4 : min ((L : Int) - 52) ((L : Int) - 52) = (L : Int) - 52 := by omega
  rw [if_neg e1, e2, e3, e4, nearest_norm false _ ((L : Int) - 52) (n - 2 ^ L) M' L' hN' (by omega) L 52 rfl hd, word_wd, wd_false]
theorem sub_pow (L : Nat) (hL : L ≤ 1023) : double.sub (rungI 4503599627370496 L) (rungI 4503599627370496 L) = some 0 := by
  have h := sub_self false (rungI 4503599627370496 L) (rungI_lt (by omega) hL)
  rw [wd_false] at h
  exact h
end Fl
end Go.Proofs.YtgccphecpkllcaaDoor
