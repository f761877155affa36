/- Ratio: what its loop keeps. -/
import Derived.Test.YtellndmbllmjgaaGreatDoorLd2
import Derived.Test.YtellndmbllmjgaaGreatDoorFw
set_option linter.unusedVariables false
namespace Go.Proofs.YtellndmbllmjgaaGreatDoor
open Go.RowKit Go.Shelf Go.Sort Fs Fl Fl2

def AA (p a : Nat) : Nat := p * 2 ^ (1074 - a)
def BQ (q a : Nat) : Nat := q * 2 ^ (a - 1074)
theorem BQ_pos {q : Nat} (a : Nat) (h : 0 < q) : 0 < BQ q a := Nat.mul_pos h (Nat.two_pow_pos _)
theorem ab_rel (p q a : Nat) : 4 * AA p a * (q * 2 ^ a) = p * Z76 * BQ q a := by
  have h := two_rel a
  unfold AA BQ
  generalize 2 ^ (1074 - a) = x at *
  generalize 2 ^ (a - 1074) = y at *
  generalize 2 ^ a = z at *
  generalize Z76 = Z at *
  calc 4 * (p * x) * (q * z) = p * q * (4 * z * x) := by grind
    _ = p * q * (y * Z) := by rw [h]
    _ = p * Z * (q * y) := by grind
theorem ab_next (p q a : Nat) : (AA p a = 2 * AA p (a + 1) ∧ BQ q (a + 1) = BQ q a) ∨ (AA p a = AA p (a + 1) ∧ BQ q (a + 1) = 2 * BQ q a) := by
  unfold AA BQ
  rcases Nat.lt_or_ge a 1074 with h | h
  · refine Or.inl ⟨?_, ?_⟩
    · rw [show 1074 - a = (1074 - (a + 1)) + 1 by omega, Nat.pow_succ]; grind
    · rw [show a + 1 - 1074 = 0 by omega, show a - 1074 = 0 by omega]
  · refine Or.inr ⟨?_, ?_⟩
    · rw [show 1074 - a = 0 by omega, show 1074 - (a + 1) = 0 by omega]
    · rw [show a + 1 - 1074 = (a - 1074) + 1 by omega, Nat.pow_succ]; grind
/-- What is so at the power that is tried. -/
structure Try (p q a : Nat) : Prop where
  up : AA p a < 36028797018963968 * BQ q a
  low : a = 0 ∨ 4503599627370496 * BQ q a ≤ AA p a
theorem Try.next {p q a : Nat} (h : Try p q a) (hge : 9007199254740992 * BQ q a ≤ AA p a) : Try p q (a + 1) := by
  rcases ab_next p q a with ⟨e1, e2⟩ | ⟨e1, e2⟩
  · have := h.up
    exact ⟨by omega, Or.inr (by omega)⟩
  · have := h.up
    exact ⟨by omega, Or.inr (by omega)⟩
/-- Where it ends. -/
def amax (p q : Nat) (t1 t2 : Nat) : Nat := ((t1 : Int) - t2 + 1020).toNat + 3
theorem try_first {p q t1 t2 : Nat} (h1 : 2 ^ (t1 - 1) ≤ p) (h2 : p < 2 ^ t1) (h3 : 2 ^ (t2 - 1) ≤ q) (h4 : q < 2 ^ t2) (g1 : 1 ≤ t1) (g2 : 1 ≤ t2) (a : Nat) (ha : (a : Int) = max ((t1 : Int) - t2 + 1020) 0) : Try p q a := by
  constructor
  · unfold AA BQ
    have e1 : p * 2 ^ (1074 - a) < 2 ^ t1 * 2 ^ (1074 - a) := (Nat.mul_lt_mul_right (Nat.two_pow_pos _)).2 h2
    have e2 : 2 ^ (t2 - 1) * 2 ^ (a - 1074) ≤ q * 2 ^ (a - 1074) := Nat.mul_le_mul_right _ h3
    have e3 : 2 ^ t1 * 2 ^ (1074 - a) ≤ 2 ^ 55 * (2 ^ (t2 - 1) * 2 ^ (a - 1074)) := by
      rw [← Nat.pow_add, ← Nat.pow_add, ← Nat.pow_add]
      exact Nat.pow_le_pow_right (by omega) (by omega)
    have e4 : (2 : Nat) ^ 55 = 36028797018963968 := by decide
    rw [e4] at e3
    have e5 := Nat.mul_le_mul_left 36028797018963968 e2
    omega
  · by_cases h0 : a = 0
    · exact Or.inl h0
    · refine Or.inr ?_
      unfold AA BQ
      have e1 : q * 2 ^ (a - 1074) ≤ 2 ^ t2 * 2 ^ (a - 1074) := Nat.mul_le_mul_right _ (by omega)
      have e2 : 2 ^ (t1 - 1) * 2 ^ (1074 - a) ≤ p * 2 ^ (1074 - a) := Nat.mul_le_mul_right _ h1
      have e3 : 2 ^ 52 * (2 ^ t2 * 2 ^ (a - 1074)) ≤ 2 ^ (t1 - 1) * 2 ^ (1074 - a) := by
        rw [← Nat.pow_add, ← Nat.pow_add, ← Nat.pow_add]
        exact Nat.pow_le_pow_right (by omega) (by omega)
      have e4 : (2 : Nat) ^ 52 = 4503599627370496 := by decide
      rw [e4] at e3
      have e5 := Nat.mul_le_mul_left 4503599627370496 e1
      omega
/-- It goes on but two times. -/
theorem try_end {p q t1 t2 a : Nat} (h2 : p < 2 ^ t1) (h3 : 2 ^ (t2 - 1) ≤ q) (g2 : 1 ≤ t2) (hge : 9007199254740992 * BQ q a ≤ AA p a) : (a : Int) < (t1 : Int) - t2 + 1022 := by
  unfold AA BQ at hge
  have e1 : p * 2 ^ (1074 - a) < 2 ^ t1 * 2 ^ (1074 - a) := (Nat.mul_lt_mul_right (Nat.two_pow_pos _)).2 h2
  have e2 : 2 ^ (t2 - 1) * 2 ^ (a - 1074) ≤ q * 2 ^ (a - 1074) := Nat.mul_le_mul_right _ h3
  have e4 : (2 : Nat) ^ 53 = 9007199254740992 := by decide
  have e5 := Nat.mul_le_mul_left 9007199254740992 e2
  have e6 : 2 ^ 53 * (2 ^ (t2 - 1) * 2 ^ (a - 1074)) < 2 ^ t1 * 2 ^ (1074 - a) := by rw [e4]; omega
  rw [← Nat.pow_add, ← Nat.pow_add, ← Nat.pow_add] at e6
  have e7 := (Nat.pow_lt_pow_iff_right (by omega : 1 < 2)).1 e6
  omega
theorem try_quo {p q a : Nat} (hq : 0 < q) (h : Try p q a) : AA p a < 2 ^ 61 * BQ q a := by
  have h1 := h.up
  have h2 := BQ_pos a hq
  have e : (2 : Nat) ^ 61 = 2305843009213693952 := by decide
  rw [e]
  omega
theorem try_low {p q a : Nat} (hq : 0 < q) (h : Try p q a) : 4503599627370496 ≤ AA p a / BQ q a ∨ a = 0 := by
  rcases h.low with h1 | h1
  · exact Or.inr h1
  · left
    rw [Nat.le_div_iff_mul_le (BQ_pos a hq)]
    exact h1
theorem try_ge {p q a : Nat} (hq : 0 < q) (h : 9007199254740992 ≤ AA p a / BQ q a) : 9007199254740992 * BQ q a ≤ AA p a := by
  rw [Nat.le_div_iff_mul_le (BQ_pos a hq)] at h
  exact h
theorem two_pw2 {i n : Nat} (h : i ≤ 16 * n) : 2 ^ i ≤ pw n := by
  unfold pw
  rw [pow16]
  exact Nat.pow_le_pow_right (by omega) h
theorem pw_two {i n : Nat} (h : 2 ^ i < pw n) : i < 16 * n := by
  unfold pw at h
  rw [pow16] at h
  exact (Nat.pow_lt_pow_iff_right (by omega : 1 < 2)).1 h
/-- Where p and q are not great. -/
theorem try_pw {p q a : Nat} (hq : 0 < q) (bp : p < pw 490) (bq : q < pw 490) (h : Try p q a) : AA p a < pw 900 ∧ BQ q a < pw 900 ∧ 2 ^ (1074 - a) < pw 500 ∧ 2 ^ (a - 1074) < pw 500 := by
  have h68 : 2 ^ (1074 - a) ≤ pw 68 := two_pw2 (by omega)
  have h1 : AA p a < pw 900 := by
    unfold AA
    rw [Nat.mul_comm]
    exact pw_lt_mul h68 bp (by omega)
  have h2 : 1074 < a → BQ q a ≤ p := by
    intro ha
    rcases h.low with h3 | h3
    · omega
    · have h4 : AA p a = p := by unfold AA; rw [show 1074 - a = 0 by omega, Nat.pow_zero, Nat.mul_one]
      rw [h4] at h3
      omega
  have h5 : BQ q a < pw 490 := by
    rcases Nat.lt_or_ge 1074 a with ha | ha
    · exact Nat.lt_of_le_of_lt (h2 ha) bp
    · have h4 : BQ q a = q := by unfold BQ; rw [show a - 1074 = 0 by omega, Nat.pow_zero, Nat.mul_one]
      rw [h4]
      exact bq
  have h6 : 2 ^ (a - 1074) ≤ BQ q a := by
    unfold BQ
    exact Nat.le_mul_of_pos_left _ hq
  exact ⟨h1, pw_lt h5 (by omega), Nat.lt_of_le_of_lt h68 (pw_strict (by omega)), Nat.lt_of_le_of_lt h6 (pw_lt h5 (by omega))⟩
theorem try_end2 {p q a : Nat} (hq : 0 < q) (bp : p < pw 490) (h : Try p q a) : a ≤ 9000 := by
  rcases h.low with h3 | h3
  · omega
  · rcases Nat.lt_or_ge 1074 a with ha | ha
    · have h4 : AA p a = p := by unfold AA; rw [show 1074 - a = 0 by omega, Nat.pow_zero, Nat.mul_one]
      rw [h4] at h3
      have h6 : 2 ^ (a - 1074) ≤ BQ q a := by
        unfold BQ
        exact Nat.le_mul_of_pos_left _ hq
      have h7 : 2 ^ (a - 1074) < pw 490 := by
        refine Nat.lt_of_le_of_lt ?_ bp
        omega
      have := pw_two h7
      omega
    · omega
end Go.Proofs.YtellndmbllmjgaaGreatDoor
