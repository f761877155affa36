/- Plain mathematics: the word nearest to a fraction, and which fractions lie nearest to a word. -/
import Derived.Test.YtellndmbllmjgaaGreatDoorCUp2x
set_option linter.unusedVariables false
namespace Go.Proofs.YtellndmbllmjgaaGreatDoor
namespace Fs
open Fl

/-- The bounds between which a word is the nearest: in quarters of the least number. -/
def loR (r : Nat) : Nat := 4 * magR r * 2 ^ expR r - (if Skew (magR r) (expR r) then 2 ^ expR r else 2 * 2 ^ expR r)
def upR (r : Nat) : Nat := 4 * magR r * 2 ^ expR r + 2 * 2 ^ expR r
theorem magR_at {e n : Nat} (h : n < 9007199254740992) (h2 : 4503599627370496 ≤ n ∨ e = 0) : magR (e * 4503599627370496 + n) = n := by
  unfold magR
  rcases h2 with h2 | h2
  · rw [if_neg (by omega)]; omega
  · subst h2; split <;> omega
theorem expR_at {e n : Nat} (h : n < 9007199254740992) (h2 : 4503599627370496 ≤ n ∨ e = 0) : expR (e * 4503599627370496 + n) = e := by
  unfold expR
  rcases h2 with h2 | h2
  · omega
  · subst h2; omega
theorem r_split (r : Nat) : ∃ e n, r = e * 4503599627370496 + n ∧ n < 9007199254740992 ∧ (4503599627370496 ≤ n ∨ e = 0) := by
  by_cases h : r < 4503599627370496
  · exact ⟨0, r, by omega, by omega, Or.inr rfl⟩
  · exact ⟨r / 4503599627370496 - 1, r % 4503599627370496 + 4503599627370496, by omega, by omega, Or.inl (by omega)⟩
theorem up_succ (r : Nat) : upR r = loR (r + 1) := by
  obtain ⟨e, n, rfl, h1, h2⟩ := r_split r
  unfold upR loR
  rw [magR_at h1 h2, expR_at h1 h2]
  by_cases h : n + 1 < 9007199254740992
  · have e1 : e * 4503599627370496 + n + 1 = e * 4503599627370496 + (n + 1) := by omega
    have h3 : 4503599627370496 ≤ n + 1 ∨ e = 0 := by omega
    rw [e1, magR_at h h3, expR_at h h3]
    have : ¬ Skew (n + 1) e := by unfold Skew; omega
    rw [if_neg this]
    generalize 2 ^ e = P
    have : 4 * (n + 1) * P = 4 * n * P + 4 * P := by grind
    omega
  · have hn : n = 9007199254740991 := by omega
    subst hn
    have e1 : e * 4503599627370496 + 9007199254740991 + 1 = (e + 1) * 4503599627370496 + 4503599627370496 := by omega
    rw [e1, magR_at (e := e + 1) (n := 4503599627370496) (by omega) (Or.inl (by omega)), expR_at (e := e + 1) (n := 4503599627370496) (by omega) (Or.inl (by omega))]
    have : Skew 4503599627370496 (e + 1) := ⟨rfl, by omega⟩
    rw [if_pos this, Nat.pow_succ]
    generalize 2 ^ e = P
    omega
theorem lo_lt_up (r : Nat) : loR r < upR r := by
  unfold loR upR
  have := Nat.two_pow_pos (expR r)
  split <;> omega
theorem lo_mono {a b : Nat} (h : a ≤ b) : loR a ≤ loR b := by
  obtain ⟨k, rfl⟩ := Nat.le.dest h
  clear h
  induction k with
  | zero => exact Nat.le_refl _
  | succ k ih =>
    have h1 := lo_lt_up (a + k)
    rw [up_succ] at h1
    exact Nat.le_trans ih (Nat.le_of_lt h1)
/-- The fraction p by q lies nearest to the word R. -/
def Near (p q R : Nat) : Prop := Inn (loR R * q) (upR R * q) (R % 2) (p * Z76)
theorem near_lt {p q r R : Nat} (hq : 0 < q) (h : r < R) (h1 : Near p q r) (h2 : Near p q R) : False := by
  unfold Near at h1 h2
  have a1 : p * Z76 ≤ upR r * q ∧ (r % 2 = 1 → p * Z76 < upR r * q) := by
    unfold Inn at h1
    split at h1
    · exact ⟨h1.2, by omega⟩
    · exact ⟨Nat.le_of_lt h1.2, fun _ => h1.2⟩
  have a2 : loR R * q ≤ p * Z76 ∧ (R % 2 = 1 → loR R * q < p * Z76) := by
    unfold Inn at h2
    split at h2
    · exact ⟨h2.1, by omega⟩
    · exact ⟨Nat.le_of_lt h2.1, fun _ => h2.1⟩
  generalize p * Z76 = A at *
  rw [up_succ] at a1
  rcases Nat.eq_or_lt_of_le h with e | e
  · have : R = r + 1 := e.symm
    subst this
    have := a1.1
    have := a2.1
    have e1 : A = loR (r + 1) * q := by omega
    rcases Nat.mod_two_eq_zero_or_one r with hr | hr
    · have := a2.2 (by omega); omega
    · have := a1.2 hr; omega
  · have h3 := lo_lt_up (r + 1)
    rw [up_succ] at h3
    have h4 := lo_mono (show r + 1 + 1 ≤ R by omega)
    have h5 : loR (r + 1) * q < loR R * q := (Nat.mul_lt_mul_right hq).2 (by omega)
    omega
theorem near_one {p q r R : Nat} (hq : 0 < q) (h1 : Near p q r) (h2 : Near p q R) : r = R := by
  rcases Nat.lt_trichotomy r R with h | h | h
  · exact (near_lt hq h h1 h2).elim
  · exact h
  · exact (near_lt hq h h2 h1).elim
/-- What is rounded: N by the whole number below, what is left over, and half of what it is held against. -/
theorem near_of {p q a b e N left n : Nat} (hq : 0 < q) (hb : 0 < b) (hdiv : a = N * b + left) (hl : left < b) (hrel : 4 * a * (q * 2 ^ e) = p * Z76 * b) (hN : N < 9007199254740992) (hN2 : 4503599627370496 ≤ N ∨ e = 0)
    (hn : (n = N + 1 ∧ (b < 2 * left ∨ (2 * left = b ∧ N % 2 = 1))) ∨ (n = N ∧ ¬ (b < 2 * left ∨ (2 * left = b ∧ N % 2 = 1)))) : Near p q (e * 4503599627370496 + n) := by
  unfold Near
  generalize hA : p * Z76 = A at *
  obtain ⟨Q, hQ⟩ : ∃ Q, Q = q * 2 ^ e := ⟨_, rfl⟩
  rw [← hQ] at hrel
  have hQ0 : 0 < Q := by rw [hQ]; exact Nat.mul_pos hq (Nat.two_pow_pos e)
  have cancel : ∀ x, x * b ≤ 4 * a → x * Q ≤ A := by
    intro x h
    have h1 : x * b * Q ≤ 4 * a * Q := Nat.mul_le_mul_right _ h
    rw [hrel, Nat.mul_right_comm] at h1
    exact Nat.le_of_mul_le_mul_right h1 hb
  have cancel2 : ∀ x, 4 * a ≤ x * b → A ≤ x * Q := by
    intro x h
    have h1 : 4 * a * Q ≤ x * b * Q := Nat.mul_le_mul_right _ h
    rw [hrel, Nat.mul_right_comm] at h1
    exact Nat.le_of_mul_le_mul_right h1 hb
  have cancel3 : ∀ x, x * b < 4 * a → x * Q < A := by
    intro x h
    have h1 : x * b * Q < 4 * a * Q := (Nat.mul_lt_mul_right hQ0).2 h
    rw [hrel, Nat.mul_right_comm] at h1
    exact Nat.lt_of_mul_lt_mul_right h1
  have cancel4 : ∀ x, 4 * a < x * b → A < x * Q := by
    intro x h
    have h1 : 4 * a * Q < x * b * Q := (Nat.mul_lt_mul_right hQ0).2 h
    rw [hrel, Nat.mul_right_comm] at h1
    exact Nat.lt_of_mul_lt_mul_right h1
  have x0 : ∀ c, (4 * N + c) * b = 4 * (N * b) + c * b := by intro c; grind
  have x1 := x0 0
  have x2 := x0 2
  have x4 := x0 4
  have x6 := x0 6
  -- the four bounds
  have L : (4 * n - 2) * Q ≤ A := by
    rcases hn with ⟨rfl, h⟩ | ⟨rfl, h⟩
    · refine cancel _ ?_
      rw [show 4 * (N + 1) - 2 = 4 * N + 2 by omega, x2]; omega
    · refine Nat.le_trans (Nat.mul_le_mul_right _ (show 4 * n - 2 ≤ 4 * n + 0 by omega)) (cancel _ ?_)
      rw [x1]; omega
  have U : A ≤ (4 * n + 2) * Q := by
    refine cancel2 _ ?_
    rcases hn with ⟨rfl, h⟩ | ⟨rfl, h⟩
    · rw [show 4 * (N + 1) + 2 = 4 * N + 6 by omega, x6]; omega
    · rw [x2]; omega
  have S : n % 2 = 1 → (4 * n - 2) * Q < A ∧ A < (4 * n + 2) * Q := by
    intro ho
    rcases hn with ⟨rfl, h⟩ | ⟨rfl, h⟩
    · refine ⟨cancel3 _ ?_, cancel4 _ ?_⟩
      · rw [show 4 * (N + 1) - 2 = 4 * N + 2 by omega, x2]; omega
      · rw [show 4 * (N + 1) + 2 = 4 * N + 6 by omega, x6]; omega
    · refine ⟨?_, cancel4 _ ?_⟩
      · refine Nat.lt_of_lt_of_le ((Nat.mul_lt_mul_right hQ0).2 (show 4 * n - 2 < 4 * n + 0 by omega)) (cancel _ ?_)
        rw [x1]; omega
      · rw [x2]; omega
  have LN : 4 * N * Q ≤ A := cancel (4 * N) (by rw [show 4 * N = 4 * N + 0 by omega, x1]; omega)
  have UN : A < (4 * N + 4) * Q := cancel4 _ (by rw [x4]; omega)
  have hnN : n ≤ 9007199254740992 := by omega
  have hn2 : 4503599627370496 ≤ n ∨ e = 0 := by omega
  rcases Nat.lt_or_eq_of_le hnN with h | h
  · unfold loR upR
    rw [magR_at h hn2, expR_at h hn2]
    have hpar : (e * 4503599627370496 + n) % 2 = n % 2 := by omega
    rw [hpar]
    by_cases hs : Skew n e
    · rw [if_pos hs]
      have e1 : (4 * n * 2 ^ e - 2 ^ e) * q ≤ 4 * N * Q := by
        have : 4503599627370496 ≤ N := by have := hs.2; omega
        have h1 : (4 * n * 2 ^ e - 2 ^ e) * q ≤ (4 * n * 2 ^ e) * q := Nat.mul_le_mul_right _ (Nat.sub_le _ _)
        have h2 : (4 * n * 2 ^ e) * q = 4 * n * Q := by rw [hQ]; grind
        have h3 : 4 * n * Q ≤ 4 * N * Q := Nat.mul_le_mul_right _ (by have := hs.1; omega)
        omega
      have e2 : (4 * n * 2 ^ e + 2 * 2 ^ e) * q = (4 * n + 2) * Q := by rw [hQ]; grind
      have h0 : n % 2 = 0 := by have := hs.1; omega
      rw [e2]
      unfold Inn
      rw [if_pos h0]
      exact ⟨by omega, U⟩
    · rw [if_neg hs]
      have e1 : (4 * n * 2 ^ e - 2 * 2 ^ e) * q = (4 * n - 2) * Q := by
        rw [← Nat.sub_mul, hQ]; grind
      have e2 : (4 * n * 2 ^ e + 2 * 2 ^ e) * q = (4 * n + 2) * Q := by rw [hQ]; grind
      rw [e1, e2]
      unfold Inn
      split
      · exact ⟨L, U⟩
      · exact S (by omega)
  · subst h
    have e1 : e * 4503599627370496 + 9007199254740992 = (e + 1) * 4503599627370496 + 4503599627370496 := by omega
    unfold loR upR
    rw [e1, magR_at (e := e + 1) (n := 4503599627370496) (by omega) (Or.inl (by omega)), expR_at (e := e + 1) (n := 4503599627370496) (by omega) (Or.inl (by omega))]
    have hs : Skew 4503599627370496 (e + 1) := ⟨rfl, by omega⟩
    rw [if_pos hs]
    have h0 : ((e + 1) * 4503599627370496 + 4503599627370496) % 2 = 0 := by omega
    rw [h0]
    unfold Inn
    rw [if_pos rfl]
    have p1 : 2 ^ (e + 1) = 2 ^ e * 2 := Nat.pow_succ ..
    have g1 : (4 * 4503599627370496 * 2 ^ (e + 1) - 2 ^ (e + 1)) * q = (4 * 9007199254740992 - 2) * Q := by
      rw [p1, hQ]
      generalize 2 ^ e = P
      rw [show 4 * 4503599627370496 * (P * 2) - P * 2 = (4 * 9007199254740992 - 2) * P by omega]
      grind
    have g2 : (4 * 4503599627370496 * 2 ^ (e + 1) + 2 * 2 ^ (e + 1)) * q = (4 * 9007199254740992 + 4) * Q := by
      rw [p1, hQ]
      generalize 2 ^ e = P
      rw [show 4 * 4503599627370496 * (P * 2) + 2 * (P * 2) = (4 * 9007199254740992 + 4) * P by omega]
      grind
    rw [g1, g2]
    refine ⟨L, Nat.le_trans U (Nat.mul_le_mul_right _ (by omega))⟩
end Fs
end Go.Proofs.YtellndmbllmjgaaGreatDoor
/- What parseFloat64 packs is the word nearest to the decimal number. -/
set_option linter.unusedVariables false
namespace Go.Proofs.YtellndmbllmjgaaGreatDoor
namespace Fs

/-- Half of what is unrounded. -/
def half (u : Nat) : Nat := u / 2 ||| u % 2
theorem half_eq (u : Nat) : half u = if u % 2 = 0 then u / 2 else 2 * (u / 4) + 1 := by
  unfold half
  rcases Nat.mod_two_eq_zero_or_one u with h | h
  · rw [h, if_pos rfl, Nat.or_zero]
  · rw [h, if_neg (by omega), or_one, Nat.div_div_eq_div_mul]
theorem Unr.half {u A B : Nat} (h : Unr u A B) : Unr (half u) A (2 * B) := by
  intro k
  have h2 := h (2 * k)
  have e : k * (2 * B) = 2 * k * B := by rw [Nat.mul_left_comm, Nat.mul_assoc]
  rw [e, h2.1, h2.2, half_eq]
  split <;> constructor <;> constructor <;> intro h <;> omega
/-- The powers' own bounds. -/
def pmB : Nat → Bool
  | 0 => true
  | j + 1 => (decide (2 ^ 127 * Td (3 + j) ≤ Tn (3 + j)) && decide (Tn (3 + j) ≤ (2 ^ 128 - 2 ^ 78) * Td (3 + j))) && pmB j
theorem pmB_at : ∀ (n j : Nat), pmB n = true → j < n → 2 ^ 127 * Td (3 + j) ≤ Tn (3 + j) ∧ Tn (3 + j) ≤ (2 ^ 128 - 2 ^ 78) * Td (3 + j)
  | 0, _, _, h => absurd h (by omega)
  | n + 1, j, hc, h => by
    simp only [pmB, Bool.and_eq_true, decide_eq_true_eq] at hc
    rcases Nat.lt_or_eq_of_le (Nat.le_of_lt_succ h) with h1 | h1
    · exact pmB_at n j hc.2 h1
    · subst h1
      exact hc.1
theorem pmB_ok : pmB 656 = true := by decide +kernel
theorem T_bounds (i : Nat) (h1 : 3 ≤ i) (h2 : i < 659) : 2 ^ 127 * Td i ≤ Tn i ∧ Tn i ≤ (2 ^ 128 - 2 ^ 78) * Td i := by
  have := pmB_at 656 (i - 3) pmB_ok (by omega)
  rwa [show 3 + (i - 3) = i by omega] at this
/-- **The word that is packed.** -/
def packN (u E : Nat) : Nat := if u < 36028797018963966 then E * 4503599627370496 + rnd u else (E + 1) * 4503599627370496 + rnd (half u)
theorem pack_near {A B u E p q : Nat} (hq : 0 < q) (hB : 0 < B) (U : Unr u A B) (hrel : 4 * A * (q * 2 ^ E) = p * Z76 * B) (hlo : 4503599627370496 * B ≤ A ∨ E = 0) (hup : A ≤ (18014398509481984 - 16) * B) : Near p q (packN u E) := by
  obtain ⟨r1, r2, r3⟩ := rnd_is hB U
  have dm : A = A / B * B + A % B := by have := Nat.div_add_mod A B; rw [Nat.mul_comm] at this; exact this.symm
  have ml := Nat.mod_lt A hB
  have hN52 : 4503599627370496 ≤ A / B ∨ E = 0 := hlo.imp (fun h => (Nat.le_div_iff_mul_le hB).2 h) id
  have hN54 : A / B ≤ 18014398509481984 - 16 := by
    have : A / B < 18014398509481984 - 16 + 1 := (Nat.div_lt_iff_lt_mul hB).2 (by rw [Nat.add_mul]; omega)
    omega
  by_cases hN : A / B < 9007199254740992
  · -- the whole part has 53 bits at most
    have hnear : Near p q (E * 4503599627370496 + rnd u) := by
      refine near_of (a := A) (b := B) (N := A / B) (left := A % B) hq hB dm ml hrel hN hN52 ?_
      by_cases hc : B < 2 * (A % B) ∨ (2 * (A % B) = B ∧ A / B % 2 = 1)
      · exact .inl ⟨r2.2 hc, hc⟩
      · exact .inr ⟨r3 hc, hc⟩
    unfold packN
    split
    · exact hnear
    · rename_i hge
      have e1 : rnd u = 9007199254740992 := by unfold rnd; omega
      have e2 : rnd (half u) = 4503599627370496 := by
        rw [half_eq]
        unfold rnd
        split <;> omega
      rw [e1] at hnear
      rw [e2]
      rwa [show (E + 1) * 4503599627370496 + 4503599627370496 = E * 4503599627370496 + 9007199254740992 by omega]
  · -- half of it has 53 bits
    have hu : ¬ u < 36028797018963966 := by omega
    unfold packN
    rw [if_neg hu]
    have h2B : 0 < 2 * B := by omega
    obtain ⟨s1, s2, s3⟩ := rnd_is h2B U.half
    have dm2 : A = A / (2 * B) * (2 * B) + A % (2 * B) := by have := Nat.div_add_mod A (2 * B); rw [Nat.mul_comm] at this; exact this.symm
    have ml2 := Nat.mod_lt A h2B
    have hN2 : A / (2 * B) = A / B / 2 := by rw [Nat.mul_comm, Nat.div_div_eq_div_mul]
    have hrel2 : 4 * A * (q * 2 ^ (E + 1)) = p * Z76 * (2 * B) := by
      rw [Nat.pow_succ, ← Nat.mul_assoc q, ← Nat.mul_assoc (4 * A), hrel, Nat.mul_assoc, Nat.mul_comm B]
    refine near_of (a := A) (b := 2 * B) (N := A / (2 * B)) (left := A % (2 * B)) hq h2B dm2 ml2 hrel2 (by omega) (.inl (by omega)) ?_
    by_cases hc : 2 * B < 2 * (A % (2 * B)) ∨ (2 * (A % (2 * B)) = 2 * B ∧ A / (2 * B) % 2 = 1)
    · exact .inl ⟨s2.2 hc, hc⟩
    · exact .inr ⟨s3 hc, hc⟩
end Fs
end Go.Proofs.YtellndmbllmjgaaGreatDoor
/- Decimal numbers of at most a word's digits, read: the word nearest to each. -/
set_option linter.unusedVariables false
namespace Go.Proofs.YtellndmbllmjgaaGreatDoor
namespace Fs

theorem Tn_pos (P : Nat) : Tn (348 + P) * 2 ^ lpN P = 10 ^ P * 2 ^ 127 * Td (348 + P) := by
  unfold Tn Td
  rw [if_pos (by omega), if_pos (by omega), Nat.add_sub_cancel_left]
  rcases Nat.le_total (lpN P) 127 with h | h
  · rw [show lpN P - 127 = 0 by omega, Nat.pow_zero, Nat.mul_one, Nat.mul_assoc, ← Nat.pow_add, show 127 - lpN P + lpN P = 127 by omega]
  · rw [show 127 - lpN P = 0 by omega, Nat.pow_zero, Nat.mul_one, Nat.mul_assoc, ← Nat.pow_add, show 127 + (lpN P - 127) = lpN P by omega]
theorem Tn_neg (j : Nat) (h0 : 0 < j) (h : j ≤ 348) : Tn (348 - j) = 2 ^ (127 + lpM j) ∧ Td (348 - j) = 10 ^ j := by
  unfold Tn Td
  rw [if_neg (by omega), if_neg (by omega), show 348 - (348 - j) = j by omega]
  exact ⟨rfl, rfl⟩
theorem cut_bounds {i s x : Nat} (h1 : 3 ≤ i) (h2 : i < 659) (hs : 8 ≤ s) (hx0 : 2 ^ 63 ≤ x) (hx : x < 2 ^ 64) :
    (s = 8 → 4503599627370496 * (4 * (Td i * 2 ^ (128 + s))) ≤ x * Tn i) ∧ x * Tn i ≤ (18014398509481984 - 16) * (4 * (Td i * 2 ^ (128 + s))) := by
  obtain ⟨t1, t2⟩ := T_bounds i h1 h2
  generalize Td i = D at *
  generalize Tn i = T at *
  constructor
  · intro h
    subst h
    have a := Nat.mul_le_mul hx0 t1
    have e : 2 ^ 63 * (2 ^ 127 * D) = 4503599627370496 * (4 * (D * 2 ^ (128 + 8))) := by omega
    rw [← e]
    exact a
  · have a := Nat.mul_le_mul (Nat.le_of_lt hx) t2
    have e : 2 ^ 64 * ((2 ^ 128 - 2 ^ 78) * D) = (18014398509481984 - 16) * (4 * (D * 2 ^ (128 + 8))) := by omega
    rw [e] at a
    refine Nat.le_trans a (Nat.mul_le_mul_left _ (Nat.mul_le_mul_left _ (Nat.mul_le_mul_left _ (Nat.pow_le_pow_right (by decide) (by omega)))))
theorem Z76_pw : ∃ k, k = 1076 ∧ Z76 = 2 ^ k := ⟨1076, rfl, by unfold Z76; rw [show (1076 : Nat) = 1076 from rfl]⟩
/-- d times 10 to the P. -/
theorem parse_up (P d b hi lo : Nat) (hP : P ≤ 310) (hb : b ≤ 64) (hx0 : 2 ^ 63 ≤ d * 2 ^ (64 - b)) (hx : d * 2 ^ (64 - b) < 2 ^ 64) (hhi : hi < 2 ^ 64) (hlo : lo < 2 ^ 64) (hpm : pmOf (348 + P) + lo = hi * 2 ^ 64) :
    Near (d * 10 ^ P) 1 (packN (uscaleN (d * 2 ^ (64 - b)) hi lo 8) (1021 + b + lpN P)) := by
  have U := usc64 (348 + P) 8 (d * 2 ^ (64 - b)) hi lo (by omega) (by omega) (Nat.le_refl _) hx0 hx hhi hlo hpm
  obtain ⟨c1, c2⟩ := cut_bounds (i := 348 + P) (s := 8) (by omega) (by omega) (Nat.le_refl _) hx0 hx
  have hT := Tn_pos P
  have hTd := Td_pos (348 + P)
  refine pack_near (by decide) (by exact Nat.mul_pos (by decide) (Nat.mul_pos hTd (Nat.two_pow_pos _))) U ?_ (.inl (c1 rfl)) c2
  clear U c1 c2
  obtain ⟨k, hk, hZ⟩ := Z76_pw
  rw [Nat.one_mul, hZ]
  generalize Tn (348 + P) = T at *
  generalize Td (348 + P) = D at *
  generalize 10 ^ P = K at *
  have e1 : 2 ^ (1021 + b + lpN P) = 2 ^ (1021 + b) * 2 ^ lpN P := Nat.pow_add ..
  have e2 : 2 ^ (64 - b) * 2 ^ (1021 + b) = 2 ^ (k + 9) := by rw [← Nat.pow_add, show 64 - b + (1021 + b) = k + 9 by omega]
  have e3 : 2 ^ (k + 9) * 2 ^ 127 = 2 ^ k * 2 ^ 136 := by rw [← Nat.pow_add, ← Nat.pow_add]
  rw [e1, show 128 + 8 = 136 from rfl]
  generalize 2 ^ lpN P = l at *
  generalize 2 ^ (1021 + b) = m at *
  generalize 2 ^ (64 - b) = n at *
  generalize 2 ^ (k + 9) = z1 at *
  generalize 2 ^ k = z2 at *
  generalize (2 : Nat) ^ 136 = z3 at *
  generalize (2 : Nat) ^ 127 = z4 at *
  clear e1 hk hZ hx0 hx hpm
  calc 4 * (d * n * T) * (m * l) = 4 * d * (n * m) * (T * l) := by grind
    _ = 4 * d * z1 * (K * z4 * D) := by rw [e2, hT]
    _ = 4 * d * K * D * (z1 * z4) := by grind
    _ = 4 * d * K * D * (z2 * z3) := by rw [e3]
    _ = d * K * z2 * (4 * (D * z3)) := by grind
/-- d by 10 to the j, where it is no very small number. -/
theorem parse_down (j d b hi lo : Nat) (hj0 : 0 < j) (hj : j ≤ 345) (hb : b ≤ 64) (hL : lpM j ≤ 1021 + b) (hx0 : 2 ^ 63 ≤ d * 2 ^ (64 - b)) (hx : d * 2 ^ (64 - b) < 2 ^ 64) (hhi : hi < 2 ^ 64) (hlo : lo < 2 ^ 64) (hpm : pmOf (348 - j) + lo = hi * 2 ^ 64) :
    Near d (10 ^ j) (packN (uscaleN (d * 2 ^ (64 - b)) hi lo 8) (1021 + b - lpM j)) := by
  have U := usc64 (348 - j) 8 (d * 2 ^ (64 - b)) hi lo (by omega) (by omega) (Nat.le_refl _) hx0 hx hhi hlo hpm
  obtain ⟨c1, c2⟩ := cut_bounds (i := 348 - j) (s := 8) (by omega) (by omega) (Nat.le_refl _) hx0 hx
  obtain ⟨hT, hTd⟩ := Tn_neg j hj0 (by omega)
  rw [hT, hTd] at U c1 c2
  have hK : 0 < 10 ^ j := Nat.pow_pos (by decide)
  refine pack_near hK (Nat.mul_pos (by decide) (Nat.mul_pos hK (Nat.two_pow_pos _))) U ?_ (.inl (c1 rfl)) c2
  clear U c1 c2
  obtain ⟨k, hk, hZ⟩ := Z76_pw
  rw [hZ]
  generalize 10 ^ j = K at *
  have e2 : 2 ^ (64 - b) * 2 ^ (127 + lpM j) * 2 ^ (1021 + b - lpM j) = 2 ^ k * 2 ^ (128 + 8) := by
    rw [← Nat.pow_add, ← Nat.pow_add, ← Nat.pow_add, show 64 - b + (127 + lpM j) + (1021 + b - lpM j) = k + (128 + 8) by omega]
  generalize 2 ^ (64 - b) = n at *
  generalize 2 ^ (127 + lpM j) = T at *
  generalize 2 ^ (1021 + b - lpM j) = m at *
  generalize 2 ^ k = z2 at *
  generalize (2 : Nat) ^ (128 + 8) = z3 at *
  calc 4 * (d * n * T) * (K * m) = 4 * d * K * (n * T * m) := by grind
    _ = 4 * d * K * (z2 * z3) := by rw [e2]
    _ = d * z2 * (4 * (K * z3)) := by grind
/-- A very small number. -/
theorem parse_low (j d b hi lo : Nat) (hj0 : 0 < j) (hj : j ≤ 345) (hb : b ≤ 64) (hL : 1021 + b < lpM j) (hx0 : 2 ^ 63 ≤ d * 2 ^ (64 - b)) (hx : d * 2 ^ (64 - b) < 2 ^ 64) (hhi : hi < 2 ^ 64) (hlo : lo < 2 ^ 64) (hpm : pmOf (348 - j) + lo = hi * 2 ^ 64) :
    Near d (10 ^ j) (packN (uscaleN (d * 2 ^ (64 - b)) hi lo (lpM j - b - 1013)) 0) := by
  have U := usc64 (348 - j) (lpM j - b - 1013) (d * 2 ^ (64 - b)) hi lo (by omega) (by omega) (by omega) hx0 hx hhi hlo hpm
  obtain ⟨c1, c2⟩ := cut_bounds (i := 348 - j) (s := lpM j - b - 1013) (by omega) (by omega) (by omega) hx0 hx
  obtain ⟨hT, hTd⟩ := Tn_neg j hj0 (by omega)
  rw [hT, hTd] at U c2
  have hK : 0 < 10 ^ j := Nat.pow_pos (by decide)
  refine pack_near hK (Nat.mul_pos (by decide) (Nat.mul_pos hK (Nat.two_pow_pos _))) U ?_ (.inr rfl) c2
  clear U c1 c2
  obtain ⟨k, hk, hZ⟩ := Z76_pw
  rw [hZ, Nat.pow_zero, Nat.mul_one]
  generalize 10 ^ j = K at *
  have e2 : 2 ^ (64 - b) * 2 ^ (127 + lpM j) = 2 ^ k * 2 ^ (128 + (lpM j - b - 1013)) := by
    rw [← Nat.pow_add, ← Nat.pow_add, show 64 - b + (127 + lpM j) = k + (128 + (lpM j - b - 1013)) by omega]
  generalize 2 ^ (64 - b) = n at *
  generalize 2 ^ (127 + lpM j) = T at *
  generalize 2 ^ k = z2 at *
  generalize 2 ^ (128 + (lpM j - b - 1013)) = z3 at *
  calc 4 * (d * n * T) * K = 4 * d * K * (n * T) := by grind
    _ = 4 * d * K * (z2 * z3) := by rw [e2]
    _ = d * z2 * (4 * (K * z3)) := by grind
/-- Nothing is left of it. -/
theorem parse_none (j d b : Nat) (hj0 : 0 < j) (hj : j ≤ 345) (hL : b + 1077 ≤ lpM j) (hd : d < 2 ^ b) : Near d (10 ^ j) 0 := by
  obtain ⟨t1, t2⟩ := T_bounds (348 - j) (by omega) (by omega)
  obtain ⟨hT, hTd⟩ := Tn_neg j hj0 (by omega)
  rw [hT, hTd] at t2
  have h1 : 2 ^ (127 + lpM j) ≤ 2 ^ 128 * 10 ^ j := Nat.le_trans t2 (Nat.mul_le_mul_right _ (by decide))
  have h2 : 2 ^ lpM j ≤ 2 * 10 ^ j := by
    rw [Nat.pow_add, show (2 : Nat) ^ 128 = 2 ^ 127 * 2 from by decide, Nat.mul_assoc] at h1
    exact Nat.le_of_mul_le_mul_left h1 (by decide)
  have h3 : d * Z76 ≤ 2 ^ lpM j := by
    obtain ⟨k, hk, hZ⟩ := Z76_pw
    rw [hZ]
    refine Nat.le_trans (Nat.mul_le_mul_right _ (Nat.le_of_lt hd)) ?_
    rw [← Nat.pow_add]
    exact Nat.pow_le_pow_right (by decide) (by omega)
  unfold Near Inn
  rw [if_pos (by decide)]
  refine ⟨?_, ?_⟩
  · show 0 * 10 ^ j ≤ _
    rw [Nat.zero_mul]
    exact Nat.zero_le _
  · show 2 * 10 ^ j ≥ _
    exact Nat.le_trans h3 h2
end Fs
end Go.Proofs.YtellndmbllmjgaaGreatDoor
/- The word that a float's operation rounds to is the nearest. -/
set_option linter.unusedVariables false
namespace Go.Proofs.YtellndmbllmjgaaGreatDoor
namespace Fs
open Fl Ieee

/-- Half up, of two the even one: by a power of two. -/
theorem cut_even_is (s : Bool) (n D : Nat) (h0 : n ≠ 0) :
    (Toward.even.cut s n D = n / 2 ^ D + 1 ∧ (2 ^ D < 2 * (n % 2 ^ D) ∨ (2 * (n % 2 ^ D) = 2 ^ D ∧ n / 2 ^ D % 2 = 1))) ∨ (Toward.even.cut s n D = n / 2 ^ D ∧ ¬ (2 ^ D < 2 * (n % 2 ^ D) ∨ (2 * (n % 2 ^ D) = 2 ^ D ∧ n / 2 ^ D % 2 = 1))) := by
  have hlt := Nat.lt_log2_self (n := n)
  unfold Toward.cut
  simp only [Nat.shiftLeft_eq, Nat.one_mul]
  by_cases hD : D ≤ n.log2 + 2
  · rw [Nat.min_eq_left hD]
    generalize n / 2 ^ D = q
    generalize n % 2 ^ D = r
    generalize 2 ^ D = g
    by_cases hc : g < 2 * r ∨ (2 * r = g ∧ q % 2 = 1)
    · left
      refine ⟨?_, hc⟩
      have : (decide (g < 2 * r) || (g == 2 * r && q % 2 == 1)) = true := by
        rcases hc with h | ⟨h1, h2⟩
        · simp [h]
        · simp [h1, h2]
      rw [this]
      rfl
    · right
      refine ⟨?_, hc⟩
      have : (decide (g < 2 * r) || (g == 2 * r && q % 2 == 1)) = false := by
        rw [Bool.eq_false_iff]
        intro h
        apply hc
        simp only [Bool.or_eq_true, Bool.and_eq_true, decide_eq_true_eq, beq_iff_eq] at h
        rcases h with h | ⟨h1, h2⟩
        · exact .inl h
        · exact .inr ⟨h1.symm, h2⟩
      rw [this]
      rfl
  · rw [Nat.min_eq_right (by omega)]
    have hp : n < 2 ^ (n.log2 + 1) := hlt
    have e1 : 2 ^ (n.log2 + 2) = 2 * 2 ^ (n.log2 + 1) := by rw [show n.log2 + 2 = n.log2 + 1 + 1 by omega, Nat.pow_succ, Nat.mul_comm]
    have e2 : 2 ^ (n.log2 + 2) ≤ 2 ^ D := Nat.pow_le_pow_right (by decide) (by omega)
    generalize 2 ^ (n.log2 + 1) = c at *
    generalize 2 ^ (n.log2 + 2) = g at *
    generalize 2 ^ D = G at *
    rw [Nat.div_eq_of_lt (show n < g by omega), Nat.mod_eq_of_lt (show n < g by omega), Nat.div_eq_of_lt (show n < G by omega), Nat.mod_eq_of_lt (show n < G by omega)]
    right
    refine ⟨?_, by omega⟩
    have : (decide (g < 2 * n) || (g == 2 * n && 0 % 2 == 1)) = false := by simp; omega
    rw [this]
    rfl
/-- **What is rounded is rounded to the nearest word.** -/
theorem nearest_near (s : Bool) (mag x y p q : Nat) (h0 : mag ≠ 0) (hq : 0 < q) (hpq : mag * 2 ^ x * q = p * 2 ^ y) : ∃ R, Near p q R ∧ double.nearest s mag ((x : Int) - (y : Int)) = wd s (min R 9218868437227405312) := by
  obtain ⟨k, hk, hZ⟩ := Z76_pw
  obtain ⟨last, hlast⟩ : ∃ last, max ((x : Int) - (y : Int) + (mag.log2 : Int) - 52) (-1074) = last := ⟨_, rfl⟩
  obtain ⟨E, hE⟩ : ∃ E : Nat, last = (E : Int) - 1074 := ⟨(last + 1074).toNat, by omega⟩
  have hlo := Nat.log2_self_le h0
  have hhi := Nat.lt_log2_self (n := mag)
  have hy := Nat.two_pow_pos y
  rcases Int.lt_or_le last ((x : Int) - (y : Int)) with hc | hc
  · -- the number is moved up
    obtain ⟨sh, hsh⟩ : ∃ sh : Nat, (x : Int) - (y : Int) - last = sh := ⟨((x : Int) - (y : Int) - last).toNat, by omega⟩
    have e1 : ((x : Int) - (y : Int) - last).toNat = sh := by omega
    have e2 : (last - ((x : Int) - (y : Int))).toNat = 0 := by omega
    have hn := nearest_at s mag ((x : Int) - (y : Int)) last (mag * 2 ^ sh) h0 hlast (by rw [e1, e2, cut_zero_drop, Nat.shiftLeft_eq])
    rw [word_wd, show (last - -1074).toNat = E by omega] at hn
    refine ⟨_, ?_, hn⟩
    have hb1 : mag * 2 ^ sh < 9007199254740992 := by
      have h1 : mag * 2 ^ sh < 2 ^ (mag.log2 + 1) * 2 ^ sh := (Nat.mul_lt_mul_right (Nat.two_pow_pos sh)).2 hhi
      rw [← Nat.pow_add] at h1
      have h2 : 2 ^ (mag.log2 + 1 + sh) ≤ 2 ^ 53 := Nat.pow_le_pow_right (by decide) (by omega)
      have h3 : (2 : Nat) ^ 53 = 9007199254740992 := by decide
      omega
    have hb2 : 4503599627370496 ≤ mag * 2 ^ sh ∨ E = 0 := by
      by_cases hE0 : E = 0
      · exact .inr hE0
      · left
        have h1 : 2 ^ mag.log2 * 2 ^ sh ≤ mag * 2 ^ sh := Nat.mul_le_mul_right _ hlo
        rw [← Nat.pow_add] at h1
        have h2 : 2 ^ 52 ≤ 2 ^ (mag.log2 + sh) := Nat.pow_le_pow_right (by decide) (by omega)
        have h3 : (2 : Nat) ^ 52 = 4503599627370496 := by decide
        omega
    refine near_of (a := mag * 2 ^ sh) (b := 1) (N := mag * 2 ^ sh) (left := 0) hq (by decide) (by rw [Nat.mul_one, Nat.add_zero]) (by decide) ?_ hb1 hb2 (.inr ⟨rfl, by omega⟩)
    rw [Nat.mul_one, hZ]
    have f1 : 2 ^ sh * 2 ^ E * 2 ^ y * 4 = 2 ^ x * 2 ^ k := by
      rw [← Nat.pow_add, ← Nat.pow_add, show (4 : Nat) = 2 ^ 2 from rfl, ← Nat.pow_add, ← Nat.pow_add, show sh + E + y + 2 = x + k by omega]
    clear hn hb1 hb2 hlast hlo hhi hZ hk
    generalize 2 ^ sh = a at *
    generalize 2 ^ E = b at *
    generalize 2 ^ k = c at *
    generalize 2 ^ x = d at *
    generalize 2 ^ y = f at *
    apply Nat.eq_of_mul_eq_mul_right hy
    calc 4 * (mag * a) * (q * b) * f = mag * q * (a * b * f * 4) := by grind
      _ = mag * q * (d * c) := by rw [f1]
      _ = mag * d * q * c := by grind
      _ = p * f * c := by rw [hpq]
      _ = p * c * f := by grind
  · -- digits are dropped
    obtain ⟨D, hD⟩ : ∃ D : Nat, last - ((x : Int) - (y : Int)) = D := ⟨(last - ((x : Int) - (y : Int))).toNat, by omega⟩
    have e1 : ((x : Int) - (y : Int) - last).toNat = 0 := by omega
    have e2 : (last - ((x : Int) - (y : Int))).toNat = D := by omega
    have hn := nearest_at s mag ((x : Int) - (y : Int)) last (Toward.even.cut s mag D) h0 hlast (by rw [e1, e2, Nat.shiftLeft_eq, Nat.pow_zero, Nat.mul_one])
    rw [word_wd, show (last - -1074).toNat = E by omega] at hn
    refine ⟨_, ?_, hn⟩
    have hDp := Nat.two_pow_pos D
    have hb1 : mag / 2 ^ D < 9007199254740992 := by
      rw [Nat.div_lt_iff_lt_mul hDp]
      have h3 : (9007199254740992 : Nat) = 2 ^ 53 := by decide
      rw [h3, ← Nat.pow_add]
      exact Nat.lt_of_lt_of_le hhi (Nat.pow_le_pow_right (by decide) (by omega))
    have hb2 : 4503599627370496 ≤ mag / 2 ^ D ∨ E = 0 := by
      by_cases hE0 : E = 0
      · exact .inr hE0
      · left
        rw [Nat.le_div_iff_mul_le hDp]
        have h3 : (4503599627370496 : Nat) = 2 ^ 52 := by decide
        rw [h3, ← Nat.pow_add]
        exact Nat.le_trans (Nat.pow_le_pow_right (by decide) (by omega)) hlo
    have dm : mag = mag / 2 ^ D * 2 ^ D + mag % 2 ^ D := by have := Nat.div_add_mod mag (2 ^ D); rw [Nat.mul_comm] at this; exact this.symm
    refine near_of (a := mag) (b := 2 ^ D) (N := mag / 2 ^ D) (left := mag % 2 ^ D) hq hDp dm (Nat.mod_lt _ hDp) ?_ hb1 hb2 (cut_even_is s mag D h0)
    rw [hZ]
    have f1 : 2 ^ E * 2 ^ y * 4 = 2 ^ x * (2 ^ k * 2 ^ D) := by
      rw [show (4 : Nat) = 2 ^ 2 from rfl, ← Nat.pow_add, ← Nat.pow_add, ← Nat.pow_add, ← Nat.pow_add, show E + y + 2 = x + (k + D) by omega]
    clear hn hb1 hb2 hlast hlo hhi hZ hk dm
    generalize 2 ^ D = a at *
    generalize 2 ^ E = b at *
    generalize 2 ^ k = c at *
    generalize 2 ^ x = d at *
    generalize 2 ^ y = f at *
    apply Nat.eq_of_mul_eq_mul_right hy
    calc 4 * mag * (q * b) * f = mag * q * (b * f * 4) := by grind
      _ = mag * q * (d * (c * a)) := by rw [f1]
      _ = mag * d * q * (c * a) := by grind
      _ = p * f * (c * a) := by rw [hpq]
      _ = p * c * a * f := by grind
end Fs
end Go.Proofs.YtellndmbllmjgaaGreatDoor
/- A float's quotient is rounded to the nearest word. -/
set_option linter.unusedVariables false
namespace Go.Proofs.YtellndmbllmjgaaGreatDoor
namespace Fs
open Fl Ieee

/-- A quotient with a digit that tells whether anything is left over rounds as the quotient itself does. -/
theorem sticky (A n C : Nat) (hn : 0 < n) (hC : 0 < C) :
    (2 * (A / n) + (if A % n = 0 then 0 else 1)) / (4 * C) = A / (n * (2 * C)) ∧
    (4 * C < 2 * ((2 * (A / n) + (if A % n = 0 then 0 else 1)) % (4 * C)) ↔ n * (2 * C) < 2 * (A % (n * (2 * C)))) ∧
    (2 * ((2 * (A / n) + (if A % n = 0 then 0 else 1)) % (4 * C)) = 4 * C ↔ 2 * (A % (n * (2 * C))) = n * (2 * C)) := by
  obtain ⟨Q, hQ⟩ : ∃ Q, Q = A / n := ⟨_, rfl⟩
  obtain ⟨r, hr⟩ : ∃ r, r = A % n := ⟨_, rfl⟩
  have hA : A = n * Q + r := by rw [hQ, hr]; exact (Nat.div_add_mod A n).symm
  have hrn : r < n := by rw [hr]; exact Nat.mod_lt _ hn
  obtain ⟨N, hN⟩ : ∃ N, N = Q / (2 * C) := ⟨_, rfl⟩
  obtain ⟨u, hu⟩ : ∃ u, u = Q % (2 * C) := ⟨_, rfl⟩
  have hQe : Q = 2 * C * N + u := by rw [hN, hu]; exact (Nat.div_add_mod Q (2 * C)).symm
  have huC : u < 2 * C := by rw [hu]; exact Nat.mod_lt _ (by omega)
  rw [← hQ, ← hr]
  clear hQ hr hN hu
  -- the true remainder
  have hbig : A = n * (2 * C) * N + (n * u + r) := by rw [hA, hQe]; grind
  have hless : n * u + r < n * (2 * C) := by
    have h1 : n * (u + 1) ≤ n * (2 * C) := Nat.mul_le_mul_left n (by omega)
    rw [Nat.mul_add, Nat.mul_one] at h1
    omega
  have d1 : A / (n * (2 * C)) = N := by
    rw [hbig, Nat.mul_add_div (by omega), Nat.div_eq_of_lt hless, Nat.add_zero]
  have d2 : A % (n * (2 * C)) = n * u + r := by
    rw [hbig, Nat.mul_add_mod, Nat.mod_eq_of_lt hless]
  rw [d1, d2]
  obtain ⟨st, hst⟩ : ∃ st, st = (if r = 0 then 0 else 1) := ⟨_, rfl⟩
  rw [← hst]
  have hs1 : st ≤ 1 := by rw [hst]; split <;> omega
  have hs0 : st = 0 ↔ r = 0 := by rw [hst]; split <;> simp_all
  have c1 : 2 * Q + st = 4 * C * N + (2 * u + st) := by rw [hQe]; grind
  have c2 : 2 * u + st < 4 * C := by omega
  have f1 : (2 * Q + st) / (4 * C) = N := by rw [c1, Nat.mul_add_div (by omega), Nat.div_eq_of_lt c2, Nat.add_zero]
  have f2 : (2 * Q + st) % (4 * C) = 2 * u + st := by rw [c1, Nat.mul_add_mod, Nat.mod_eq_of_lt c2]
  rw [f1, f2]
  refine ⟨rfl, ?_⟩
  clear f1 f2 d1 d2 hbig hless c1 hA hQe hst
  -- u is held against C
  have e1 : n * (2 * C) = 2 * (n * C) := by grind
  rw [e1]
  rcases Nat.lt_trichotomy u C with h | h | h
  · have h1 : n * (u + 1) ≤ n * C := Nat.mul_le_mul_left n h
    rw [Nat.mul_add, Nat.mul_one] at h1
    omega
  · subst h
    omega
  · have h1 : n * (C + 1) ≤ n * u := Nat.mul_le_mul_left n h
    rw [Nat.mul_add, Nat.mul_one] at h1
    omega
theorem toNat_ne (r : Nat) : (r != 0).toNat = if r = 0 then 0 else 1 := by
  by_cases h : r = 0
  · subst h; rfl
  · rw [if_neg h]
    have : (r != 0) = true := by simp [h]
    rw [this]
    rfl
/-- **A quotient is rounded to the nearest word.** -/
theorem quot_near (s : Bool) (m n x y p q more : Nat) (hm : m ≠ 0) (hn : n ≠ 0) (hq : 0 < q) (hmore : more = 54 + n.log2 - m.log2) (hpq : m * 2 ^ x * q = p * (n * 2 ^ y)) :
    ∃ R, Near p q R ∧ double.nearest s (2 * ((m <<< more) / n) + ((m <<< more) % n != 0).toNat) ((x : Int) - (y : Int) - (more : Int) - 1) = wd s (min R 9218868437227405312) := by
  obtain ⟨k, hk, hZ⟩ := Z76_pw
  rw [Nat.shiftLeft_eq, toNat_ne]
  obtain ⟨A, hA⟩ : ∃ A, A = m * 2 ^ more := ⟨_, rfl⟩
  rw [← hA]
  have hn0 : 0 < n := by omega
  -- the quotient has 54 digits at least
  have hQ : 2 ^ 53 ≤ A / n := by
    rw [Nat.le_div_iff_mul_le hn0]
    have h1 : 2 ^ 53 * n ≤ 2 ^ 53 * 2 ^ (n.log2 + 1) := Nat.mul_le_mul_left _ (Nat.le_of_lt Nat.lt_log2_self)
    have h2 : 2 ^ m.log2 * 2 ^ more ≤ m * 2 ^ more := Nat.mul_le_mul_right _ (Nat.log2_self_le hm)
    rw [← Nat.pow_add] at h1 h2
    have h3 : 2 ^ (53 + (n.log2 + 1)) ≤ 2 ^ (m.log2 + more) := Nat.pow_le_pow_right (by decide) (by omega)
    rw [hA]
    exact Nat.le_trans h1 (Nat.le_trans h3 h2)
  obtain ⟨mag, hmag⟩ : ∃ mag, mag = 2 * (A / n) + (if A % n = 0 then 0 else 1) := ⟨_, rfl⟩
  have stk := sticky A n
  rw [← hmag] at stk ⊢
  have h53 : (2 : Nat) ^ 53 = 9007199254740992 := by decide
  have hge : 2 ^ 54 ≤ mag := by
    have h54 : (2 : Nat) ^ 54 = 18014398509481984 := by decide
    omega
  have h0 : mag ≠ 0 := by
    have := Nat.two_pow_pos 54
    omega
  have hl54 : 54 ≤ mag.log2 := (Nat.le_log2 h0).2 hge
  have hlo := Nat.log2_self_le h0
  have hhi := Nat.lt_log2_self (n := mag)
  clear hmag hge
  obtain ⟨last, hlast⟩ : ∃ last, max ((x : Int) - (y : Int) - (more : Int) - 1 + (mag.log2 : Int) - 52) (-1074) = last := ⟨_, rfl⟩
  obtain ⟨E, hE⟩ : ∃ E : Nat, last = (E : Int) - 1074 := ⟨(last + 1074).toNat, by omega⟩
  obtain ⟨D, hD⟩ : ∃ D : Nat, last - ((x : Int) - (y : Int) - (more : Int) - 1) = (D : Int) + 2 := ⟨(last - ((x : Int) - (y : Int) - (more : Int) - 1) - 2).toNat, by omega⟩
  have e1 : ((x : Int) - (y : Int) - (more : Int) - 1 - last).toNat = 0 := by omega
  have e2 : (last - ((x : Int) - (y : Int) - (more : Int) - 1)).toNat = D + 2 := by omega
  have hnear := nearest_at s mag ((x : Int) - (y : Int) - (more : Int) - 1) last (Toward.even.cut s mag (D + 2)) h0 hlast (by rw [e1, e2, Nat.shiftLeft_eq, Nat.pow_zero, Nat.mul_one])
  rw [word_wd, show (last - -1074).toNat = E by omega] at hnear
  refine ⟨_, ?_, hnear⟩
  have hCp := Nat.two_pow_pos D
  have e4 : 2 ^ (D + 2) = 4 * 2 ^ D := by rw [Nat.pow_add, Nat.mul_comm]
  obtain ⟨k1, k2, k3⟩ := stk (2 ^ D) hn0 hCp
  have cut := cut_even_is s mag (D + 2) h0
  have hb1 : mag / 2 ^ (D + 2) < 9007199254740992 := by
    rw [Nat.div_lt_iff_lt_mul (Nat.two_pow_pos _), ← h53, ← Nat.pow_add]
    exact Nat.lt_of_lt_of_le hhi (Nat.pow_le_pow_right (by decide) (by omega))
  have hb2 : 4503599627370496 ≤ mag / 2 ^ (D + 2) ∨ E = 0 := by
    by_cases hE0 : E = 0
    · exact .inr hE0
    · left
      rw [Nat.le_div_iff_mul_le (Nat.two_pow_pos _)]
      have h3 : (4503599627370496 : Nat) = 2 ^ 52 := by decide
      rw [h3, ← Nat.pow_add]
      exact Nat.le_trans (Nat.pow_le_pow_right (by decide) (by omega)) hlo
  rw [e4] at cut hb1 hb2
  rw [k1] at cut hb1 hb2
  rw [k2, k3] at cut
  have hbp : 0 < n * (2 * 2 ^ D) := Nat.mul_pos hn0 (by omega)
  have dm : A = A / (n * (2 * 2 ^ D)) * (n * (2 * 2 ^ D)) + A % (n * (2 * 2 ^ D)) := by have := Nat.div_add_mod A (n * (2 * 2 ^ D)); rw [Nat.mul_comm] at this; exact this.symm
  refine near_of (a := A) (b := n * (2 * 2 ^ D)) (N := A / (n * (2 * 2 ^ D))) (left := A % (n * (2 * 2 ^ D))) hq hbp dm (Nat.mod_lt _ hbp) ?_ hb1 hb2 cut
  rw [hZ, hA]
  have hy := Nat.two_pow_pos y
  have f1 : 2 ^ more * 2 ^ E * 2 ^ y * 4 = 2 ^ x * (2 ^ k * (2 * 2 ^ D)) := by
    have g1 : 2 ^ more * 2 ^ E * 2 ^ y * 4 = 2 ^ (more + E + y + 2) := by rw [Nat.pow_add, Nat.pow_add, Nat.pow_add]
    have g2 : 2 ^ x * (2 ^ k * (2 * 2 ^ D)) = 2 ^ (x + (k + (1 + D))) := by rw [Nat.pow_add, Nat.pow_add, Nat.pow_add, Nat.pow_one]
    rw [g1, g2, show more + E + y + 2 = x + (k + (1 + D)) by omega]
  clear cut hb1 hb2 dm hbp k1 k2 k3 e4 hnear hlast hlo hhi hl54 h0 stk hQ hA hZ hk h53
  generalize 2 ^ D = a at *
  generalize 2 ^ E = b at *
  generalize 2 ^ k = c at *
  generalize 2 ^ x = d at *
  generalize 2 ^ y = f at *
  generalize 2 ^ more = g at *
  apply Nat.eq_of_mul_eq_mul_right hy
  calc 4 * (m * g) * (q * b) * f = m * q * (g * b * f * 4) := by grind
    _ = m * q * (d * (c * (2 * a))) := by rw [f1]
    _ = m * d * q * (c * (2 * a)) := by grind
    _ = p * (n * f) * (c * (2 * a)) := by rw [hpq]
    _ = p * c * (n * (2 * a)) * f := by grind
end Fs
end Go.Proofs.YtellndmbllmjgaaGreatDoor
/- Plain mathematics: the document's way to the fewest digits comes to the same. -/
set_option linter.unusedVariables false
namespace Go.Proofs.YtellndmbllmjgaaGreatDoor
namespace Fs
open Fl

theorem Z76_add (a : Nat) : 2 ^ (a + 1076) = 2 ^ a * Z76 := by unfold Z76; exact Nat.pow_add 2 a 1076
theorem two_rel (E : Nat) : 2 ^ (E - 1074) * Z76 = 4 * 2 ^ E * 2 ^ (1074 - E) := by
  rw [← Z76_add, show E - 1074 + 1076 = 2 + E + (1074 - E) by omega, Nat.pow_add, Nat.pow_add]
theorem Inn.scale {a b o w c : Nat} (hc : 0 < c) : Inn (a * c) (b * c) o (w * c) ↔ Inn a b o w := by
  unfold Inn
  split
  · rw [Nat.mul_le_mul_right_iff hc, Nat.mul_le_mul_right_iff hc]
  · rw [Nat.mul_lt_mul_right hc, Nat.mul_lt_mul_right hc]
end Fs
end Go.Proofs.YtellndmbllmjgaaGreatDoor
/- What is written is read as the same word; one digit fewer never is. -/
set_option linter.unusedVariables false
namespace Go.Proofs.YtellndmbllmjgaaGreatDoor
namespace Fs
open Fl

/-- D times 10 to the j (less 400) lies nearest to the word r. -/
def DecNear (D j r : Nat) : Prop := if 400 ≤ j then Near (D * 10 ^ (j - 400)) 1 r else Near D (10 ^ (400 - j)) r
end Fs
end Go.Proofs.YtellndmbllmjgaaGreatDoor
