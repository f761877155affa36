/- Plain mathematics: the word nearest to a fraction, and which fractions lie nearest to a word. -/
import Derived.Test.YtellndmbllmjgaaGreatDoorFlA
import Derived.Test.YtellndmbllmjgaaGreatDoorTd
set_option linter.unusedVariables false
namespace Go.Proofs.YtellndmbllmjgaaGreatDoor
namespace Fs
open Fl

/-- The bounds between which a word is the nearest: in quarters of the least number. -/
def loR (r : Nat) : Nat := 4 * magR r * 2 ^ expR r - (if Skew (magR r) (expR r) then 2 ^ expR r else 2 * 2 ^ expR r)
def upR (r : Nat) : Nat := 4 * magR r * 2 ^ expR r + 2 * 2 ^ expR r
theorem magR_par (r : Nat) : magR r % 2 = r % 2 := by unfold magR; split <;> omega
theorem magR_at {e n : Nat} (h : n < 9007199254740992) (h2 : 4503599627370496 ≤ n ∨ e = 0) : magR (e * 4503599627370496 + n) = n := by
  unfold magR
  rcases h2 with h2 | h2
  · rw [if_neg (by omega)]; omega
  · subst h2; split <;> omega
theorem expR_at {e n : Nat} (h : n < 9007199254740992) (h2 : 4503599627370496 ≤ n ∨ e = 0) : expR (e * 4503599627370496 + n) = e := by
  unfold expR
  rcases h2 with h2 | h2
  · omega
  · subst h2; omega
theorem r_split (r : Nat) : ∃ e n, r = e * 4503599627370496 + n ∧ n < 9007199254740992 ∧ (4503599627370496 ≤ n ∨ e = 0) := by
  by_cases h : r < 4503599627370496
  · exact ⟨0, r, by omega, by omega, Or.inr rfl⟩
  · exact ⟨r / 4503599627370496 - 1, r % 4503599627370496 + 4503599627370496, by omega, by omega, Or.inl (by omega)⟩
theorem up_succ (r : Nat) : upR r = loR (r + 1) := by
  obtain ⟨e, n, rfl, h1, h2⟩ := r_split r
  unfold upR loR
  rw [magR_at h1 h2, expR_at h1 h2]
  by_cases h : n + 1 < 9007199254740992
  · have e1 : e * 4503599627370496 + n + 1 = e * 4503599627370496 + (n + 1) := by omega
    have h3 : 4503599627370496 ≤ n + 1 ∨ e = 0 := by omega
    rw [e1, magR_at h h3, expR_at h h3]
    have : ¬ Skew (n + 1) e := by unfold Skew; omega
    rw [if_neg this]
    generalize 2 ^ e = P
    have : 4 * (n + 1) * P = 4 * n * P + 4 * P := by grind
    omega
  · have hn : n = 9007199254740991 := by omega
    subst hn
    have e1 : e * 4503599627370496 + 9007199254740991 + 1 = (e + 1) * 4503599627370496 + 4503599627370496 := by omega
    rw [e1, magR_at (e := e + 1) (n := 4503599627370496) (by omega) (Or.inl (by omega)), expR_at (e := e + 1) (n := 4503599627370496) (by omega) (Or.inl (by omega))]
    have : Skew 4503599627370496 (e + 1) := ⟨rfl, by omega⟩
    rw [if_pos this, Nat.pow_succ]
    generalize 2 ^ e = P
    omega
theorem lo_lt_up (r : Nat) : loR r < upR r := by
  unfold loR upR
  have := Nat.two_pow_pos (expR r)
  split <;> omega
theorem lo_mono {a b : Nat} (h : a ≤ b) : loR a ≤ loR b := by
  obtain ⟨k, rfl⟩ := Nat.le.dest h
  clear h
  induction k with
  | zero => exact Nat.le_refl _
  | succ k ih =>
    have h1 := lo_lt_up (a + k)
    rw [up_succ] at h1
    exact Nat.le_trans ih (Nat.le_of_lt h1)
/-- The fraction p by q lies nearest to the word R. -/
def Near (p q R : Nat) : Prop := Inn (loR R * q) (upR R * q) (R % 2) (p * Z76)
theorem near_lt {p q r R : Nat} (hq : 0 < q) (h : r < R) (h1 : Near p q r) (h2 : Near p q R) : False := by
  unfold Near at h1 h2
  have a1 : p * Z76 ≤ upR r * q ∧ (r % 2 = 1 → p * Z76 < upR r * q) := by
    unfold Inn at h1
    split at h1
    · exact ⟨h1.2, by omega⟩
    · exact ⟨Nat.le_of_lt h1.2, fun _ => h1.2⟩
  have a2 : loR R * q ≤ p * Z76 ∧ (R % 2 = 1 → loR R * q < p * Z76) := by
    unfold Inn at h2
    split at h2
    · exact ⟨h2.1, by omega⟩
    · exact ⟨Nat.le_of_lt h2.1, fun _ => h2.1⟩
  generalize p * Z76 = A at *
  rw [up_succ] at a1
  rcases Nat.eq_or_lt_of_le h with e | e
  · have : R = r + 1 := e.symm
    subst this
    have := a1.1
    have := a2.1
    have e1 : A = loR (r + 1) * q := by omega
    rcases Nat.mod_two_eq_zero_or_one r with hr | hr
    · have := a2.2 (by omega); omega
    · have := a1.2 hr; omega
  · have h3 := lo_lt_up (r + 1)
    rw [up_succ] at h3
    have h4 := lo_mono (show r + 1 + 1 ≤ R by omega)
    have h5 : loR (r + 1) * q < loR R * q := (Nat.mul_lt_mul_right hq).2 (by omega)
    omega
theorem near_one {p q r R : Nat} (hq : 0 < q) (h1 : Near p q r) (h2 : Near p q R) : r = R := by
  rcases Nat.lt_trichotomy r R with h | h | h
  · exact (near_lt hq h h1 h2).elim
  · exact h
  · exact (near_lt hq h h2 h1).elim
/-- What is rounded: N by the whole number below, what is left over, and half of what it is held against. -/
theorem near_of {p q a b e N left n : Nat} (hq : 0 < q) (hb : 0 < b) (hdiv : a = N * b + left) (hl : left < b) (hrel : 4 * a * (q * 2 ^ e) = p * Z76 * b) (hN : N < 9007199254740992) (hN2 : 4503599627370496 ≤ N ∨ e = 0)
    (hn : (n = N + 1 ∧ (b < 2 * left ∨ (2 * left = b ∧ N % 2 = 1))) ∨ (n = N ∧ ¬ (b < 2 * left ∨ (2 * left = b ∧ N % 2 = 1)))) : Near p q (e * 4503599627370496 + n) := by
  unfold Near
  generalize hA : p * Z76 = A at *
  obtain ⟨Q, hQ⟩ : ∃ Q, Q = q * 2 ^ e := ⟨_, rfl⟩
  rw [← hQ] at hrel
  have hQ0 : 0 < Q := by rw [hQ]; exact Nat.mul_pos hq (Nat.two_pow_pos e)
  have cancel : ∀ x, x * b ≤ 4 * a → x * Q ≤ A := by
    intro x h
    have h1 : x * b * Q ≤ 4 * a * Q := Nat.mul_le_mul_right _ h
    rw [hrel, Nat.mul_right_comm] at h1
    exact Nat.le_of_mul_le_mul_right h1 hb
  have cancel2 : ∀ x, 4 * a ≤ x * b → A ≤ x * Q := by
    intro x h
    have h1 : 4 * a * Q ≤ x * b * Q := Nat.mul_le_mul_right _ h
    rw [hrel, Nat.mul_right_comm] at h1
    exact Nat.le_of_mul_le_mul_right h1 hb
  have cancel3 : ∀ x, x * b < 4 * a → x * Q < A := by
    intro x h
    have h1 : x * b * Q < 4 * a * Q := (Nat.mul_lt_mul_right hQ0).2 h
    rw [hrel, Nat.mul_right_comm] at h1
    exact Nat.lt_of_mul_lt_mul_right h1
  have cancel4 : ∀ x, 4 * a < x * b → A < x * Q := by
    intro x h
    have h1 : 4 * a * Q < x * b * Q := (Nat.mul_lt_mul_right hQ0).2 h
    rw [hrel, Nat.mul_right_comm] at h1
    exact Nat.lt_of_mul_lt_mul_right h1
  have x0 : ∀ c, (4 * N + c) * b = 4 * (N * b) + c * b := by intro c; grind
  have x1 := x0 0
  have x2 := x0 2
  have x4 := x0 4
  have x6 := x0 6
  -- the four bounds
  have L : (4 * n - 2) * Q ≤ A := by
    rcases hn with ⟨rfl, h⟩ | ⟨rfl, h⟩
    · refine cancel _ ?_
      rw [show 4 * (N + 1) - 2 = 4 * N + 2 by omega, x2]; omega
    · refine Nat.le_trans (Nat.mul_le_mul_right _ (show 4 * n - 2 ≤ 4 * n + 0 by omega)) (cancel _ ?_)
      rw [x1]; omega
  have U : A ≤ (4 * n + 2) * Q := by
    refine cancel2 _ ?_
    rcases hn with ⟨rfl, h⟩ | ⟨rfl, h⟩
    · rw [show 4 * (N + 1) + 2 = 4 * N + 6 by omega, x6]; omega
    · rw [x2]; omega
  have S : n % 2 = 1 → (4 * n - 2) * Q < A ∧ A < (4 * n + 2) * Q := by
    intro ho
    rcases hn with ⟨rfl, h⟩ | ⟨rfl, h⟩
    · refine ⟨cancel3 _ ?_, cancel4 _ ?_⟩
      · rw [show 4 * (N + 1) - 2 = 4 * N + 2 by omega, x2]; omega
      · rw [show 4 * (N + 1) + 2 = 4 * N + 6 by omega, x6]; omega
    · refine ⟨?_, cancel4 _ ?_⟩
      · refine Nat.lt_of_lt_of_le ((Nat.mul_lt_mul_right hQ0).2 (show 4 * n - 2 < 4 * n + 0 by omega)) (cancel _ ?_)
        rw [x1]; omega
      · rw [x2]; omega
  have LN : 4 * N * Q ≤ A := cancel (4 * N) (by rw [show 4 * N = 4 * N + 0 by omega, x1]; omega)
  have UN : A < (4 * N + 4) * Q := cancel4 _ (by rw [x4]; omega)
  have hnN : n ≤ 9007199254740992 := by omega
  have hn2 : 4503599627370496 ≤ n ∨ e = 0 := by omega
  rcases Nat.lt_or_eq_of_le hnN with h | h
  · unfold loR upR
    rw [magR_at h hn2, expR_at h hn2]
    have hpar : (e * 4503599627370496 + n) % 2 = n % 2 := by omega
    rw [hpar]
    by_cases hs : Skew n e
    · rw [if_pos hs]
      have e1 : (4 * n * 2 ^ e - 2 ^ e) * q ≤ 4 * N * Q := by
        have : 4503599627370496 ≤ N := by have := hs.2; omega
        have h1 : (4 * n * 2 ^ e - 2 ^ e) * q ≤ (4 * n * 2 ^ e) * q := Nat.mul_le_mul_right _ (Nat.sub_le _ _)
        have h2 : (4 * n * 2 ^ e) * q = 4 * n * Q := by rw [hQ]; grind
        have h3 : 4 * n * Q ≤ 4 * N * Q := Nat.mul_le_mul_right _ (by have := hs.1; omega)
        omega
      have e2 : (4 * n * 2 ^ e + 2 * 2 ^ e) * q = (4 * n + 2) * Q := by rw [hQ]; grind
      have h0 : n % 2 = 0 := by have := hs.1; omega
      rw [e2]
      unfold Inn
      rw [if_pos h0]
      exact ⟨by omega, U⟩
    · rw [if_neg hs]
      have e1 : (4 * n * 2 ^ e - 2 * 2 ^ e) * q = (4 * n - 2) * Q := by
        rw [← Nat.sub_mul, hQ]; grind
      have e2 : (4 * n * 2 ^ e + 2 * 2 ^ e) * q = (4 * n + 2) * Q := by rw [hQ]; grind
      rw [e1, e2]
      unfold Inn
      split
      · exact ⟨L, U⟩
      · exact S (by omega)
  · subst h
    have e1 : e * 4503599627370496 + 9007199254740992 = (e + 1) * 4503599627370496 + 4503599627370496 := by omega
    unfold loR upR
    rw [e1, magR_at (e := e + 1) (n := 4503599627370496) (by omega) (Or.inl (by omega)), expR_at (e := e + 1) (n := 4503599627370496) (by omega) (Or.inl (by omega))]
    have hs : Skew 4503599627370496 (e + 1) := ⟨rfl, by omega⟩
    rw [if_pos hs]
    have h0 : ((e + 1) * 4503599627370496 + 4503599627370496) % 2 = 0 := by omega
    rw [h0]
    unfold Inn
    rw [if_pos rfl]
    have p1 : 2 ^ (e + 1) = 2 ^ e * 2 := Nat.pow_succ ..
    have g1 : (4 * 4503599627370496 * 2 ^ (e + 1) - 2 ^ (e + 1)) * q = (4 * 9007199254740992 - 2) * Q := by
      rw [p1, hQ]
      generalize 2 ^ e = P
      rw [show 4 * 4503599627370496 * (P * 2) - P * 2 = (4 * 9007199254740992 - 2) * P by omega]
      grind
    have g2 : (4 * 4503599627370496 * 2 ^ (e + 1) + 2 * 2 ^ (e + 1)) * q = (4 * 9007199254740992 + 4) * Q := by
      rw [p1, hQ]
      generalize 2 ^ e = P
      rw [show 4 * 4503599627370496 * (P * 2) + 2 * (P * 2) = (4 * 9007199254740992 + 4) * P by omega]
      grind
    rw [g1, g2]
    refine ⟨L, Nat.le_trans U (Nat.mul_le_mul_right _ (by omega))⟩
end Fs
end Go.Proofs.YtellndmbllmjgaaGreatDoor
