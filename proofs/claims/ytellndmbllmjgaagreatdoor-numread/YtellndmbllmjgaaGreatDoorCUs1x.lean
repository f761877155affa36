/- Unrounded scaling: what the product of a word and a power's upper bits says of the true product. Whole numbers alone. -/
import Derived.KernelRfl
set_option linter.unusedVariables false
namespace Go.Proofs.YtellndmbllmjgaaGreatDoor
namespace Fs

/-- u is 4 A / B, downwards, its last bit set where anything is left over: it says how A / B lies to each half. -/
def Unr (u A B : Nat) : Prop := ∀ k, (k * B ≤ 2 * A ↔ 2 * k ≤ u) ∧ (2 * A ≤ k * B ↔ u ≤ 2 * k)

theorem Unr.exact {f A B : Nat} (hB : 0 < B) (h : 4 * A = f * B) : Unr f A B := by
  intro k
  have e : 2 * (k * B) = (2 * k) * B := by rw [Nat.mul_assoc]
  constructor
  · constructor
    · intro h1
      have h2 : (2 * k) * B ≤ f * B := by omega
      exact Nat.le_of_mul_le_mul_right h2 hB
    · intro h1
      have h2 : (2 * k) * B ≤ f * B := Nat.mul_le_mul_right B h1
      omega
  · constructor
    · intro h1
      have h2 : f * B ≤ (2 * k) * B := by omega
      exact Nat.le_of_mul_le_mul_right h2 hB
    · intro h1
      have h2 : f * B ≤ (2 * k) * B := Nat.mul_le_mul_right B h1
      omega
theorem Unr.inexact {f A B : Nat} (hB : 0 < B) (h1 : f * B < 4 * A) (h2 : 4 * A < (f + 1) * B) : Unr (2 * (f / 2) + 1) A B := by
  intro k
  have e : 2 * (k * B) = (2 * k) * B := by rw [Nat.mul_assoc]
  have a1 : (2 * k) * B ≤ 4 * A ↔ 2 * k ≤ f := by
    constructor
    · intro h
      have : (2 * k) * B < (f + 1) * B := by omega
      have := Nat.lt_of_mul_lt_mul_right this
      omega
    · intro h
      have := Nat.mul_le_mul_right B h
      omega
  have a2 : 4 * A ≤ (2 * k) * B ↔ f + 1 ≤ 2 * k := by
    constructor
    · intro h
      have : f * B < (2 * k) * B := by omega
      have := Nat.lt_of_mul_lt_mul_right this
      omega
    · intro h
      have := Nat.mul_le_mul_right B h
      omega
  constructor
  · rw [show k * B ≤ 2 * A ↔ (2 * k) * B ≤ 4 * A by omega, a1]
    omega
  · rw [show 2 * A ≤ k * B ↔ 4 * A ≤ (2 * k) * B by omega, a2]
    omega
/-- What uscale answers: a word, the two halves of the power, how far down. -/
def uscaleN (x hi lo s : Nat) : Nat :=
  if x * hi / 2 ^ 64 % 2 ^ s ≠ 0 then x * hi / 2 ^ 64 / 2 ^ s ||| 1
  else (x * hi / 2 ^ 64 - (if x * hi % 2 ^ 64 < x * lo / 2 ^ 64 then 1 else 0)) / 2 ^ s ||| (if 1 < (x * hi % 2 ^ 64 + 2 ^ 64 - x * lo / 2 ^ 64) % 2 ^ 64 then 1 else 0)

theorem or_one (f : Nat) : f ||| 1 = 2 * (f / 2) + 1 := by
  apply Nat.eq_of_testBit_eq
  intro i
  rw [Nat.testBit_or]
  cases i with
  | zero => simp [Nat.testBit_zero]
  | succ i =>
    rw [Nat.testBit_succ, Nat.testBit_succ, Nat.testBit_succ]
    have : (2 * (f / 2) + 1) / 2 = f / 2 := by omega
    rw [this]
    simp

/-- **Unrounded scaling is right** wherever the product that is computed does not lie close to a whole number without being it. -/
theorem uscale_ok (x hi lo s Tn Td : Nat) (hx0 : 0 < x) (hx : x < 2 ^ 64) (hhi : hi < 2 ^ 64) (hlo : lo < 2 ^ 64) (hpm : lo ≤ hi * 2 ^ 64) (hTd : 0 < Td)
    (h1 : Tn ≤ Td * (hi * 2 ^ 64 - lo)) (h2 : Td * (hi * 2 ^ 64 - lo) < Tn + Td)
    (hbad : ∀ h, h * 2 ^ (128 + s) < x * (hi * 2 ^ 64 - lo) + 2 ^ 64 → x * (hi * 2 ^ 64 - lo) ≤ h * 2 ^ (128 + s) + 2 ^ 64 → x * Tn = h * (Td * 2 ^ (128 + s))) :
    Unr (uscaleN x hi lo s) (x * Tn) (4 * (Td * 2 ^ (128 + s))) := by
  obtain ⟨pm, hpme⟩ : ∃ pm, pm = hi * 2 ^ 64 - lo := ⟨_, rfl⟩
  rw [← hpme] at h1 h2 hbad
  have hpms : pm + lo = hi * 2 ^ 64 := by omega
  -- the product
  have hA : x * pm + x * lo = x * hi * 2 ^ 64 := by rw [← Nat.mul_add, hpms, Nat.mul_assoc]
  have hlolt : x * lo ≤ (2 ^ 64 - 1) * (2 ^ 64 - 1) := Nat.mul_le_mul (by omega) (by omega)
  obtain ⟨S, hS⟩ : ∃ S, S = 2 ^ s := ⟨_, rfl⟩
  have hSp : 0 < S := by rw [hS]; exact Nat.two_pow_pos s
  have hQ : 2 ^ (128 + s) = 2 ^ 128 * S := by rw [hS, Nat.pow_add]
  have N1 : x * Tn ≤ Td * (x * pm) := by
    rw [Nat.mul_left_comm]
    exact Nat.mul_le_mul_left x h1
  have N2 : Td * (x * pm) < x * Tn + Td * x := by
    have := Nat.mul_lt_mul_of_pos_left h2 hx0
    rw [Nat.mul_add, Nat.mul_left_comm, Nat.mul_comm x Td] at this
    exact this
  rw [hQ] at hbad ⊢
  unfold uscaleN
  rw [← hS]
  generalize hg1 : x * hi / 2 ^ 64 = H
  generalize hg2 : x * hi % 2 ^ 64 = mid
  generalize hg3 : x * lo / 2 ^ 64 = mid2
  have hmid : mid < 2 ^ 64 := by omega
  have hHm : x * hi = H * 2 ^ 64 + mid := by omega
  obtain ⟨lo2, hlo2, hlo2e⟩ : ∃ lo2, lo2 < 2 ^ 64 ∧ x * lo = mid2 * 2 ^ 64 + lo2 := ⟨x * lo % 2 ^ 64, by omega, by omega⟩
  generalize hX : x * pm = A at *
  generalize x * lo = L at *
  have hAe : A + mid2 * 2 ^ 64 + lo2 = H * 2 ^ 128 + mid * 2 ^ 64 := by omega
  have hm2 : mid2 ≤ 2 ^ 64 - 2 := by omega
  -- N between two multiples
  have up : ∀ z, A < z → x * Tn < Td * z := fun z hz => Nat.lt_of_le_of_lt N1 (Nat.mul_lt_mul_of_pos_left hz hTd)
  have dn : ∀ z, z + x ≤ A → Td * z < x * Tn := by
    intro z hz
    have h3 := Nat.mul_le_mul_left Td hz
    rw [Nat.mul_add] at h3
    omega
  have ass : ∀ f, f * (4 * (Td * (2 ^ 128 * S))) = 4 * (Td * (f * S * 2 ^ 128)) := by
    intro f
    rw [show f * S * 2 ^ 128 = f * (2 ^ 128 * S) by rw [Nat.mul_assoc, Nat.mul_comm S], ← Nat.mul_left_comm f, ← Nat.mul_left_comm f]
  have hB : 0 < 4 * (Td * (2 ^ 128 * S)) := by
    have := Nat.mul_pos hTd (Nat.mul_pos (show 0 < 2 ^ 128 by omega) hSp)
    omega
  have hdm := Nat.div_add_mod H S
  have hml := Nat.mod_lt H hSp
  have hsucc : (H / S + 1) * S = S * (H / S) + S := by rw [Nat.add_mul, Nat.one_mul, Nat.mul_comm]
  have hself : H / S * S = S * (H / S) := Nat.mul_comm ..
  by_cases c1 : H % S ≠ 0
  · rw [if_pos c1, or_one]
    refine Unr.inexact hB ?_ ?_
    · rw [ass]
      have := dn (H / S * S * 2 ^ 128) (by rw [hself]; omega)
      omega
    · rw [ass]
      have := up ((H / S + 1) * S * 2 ^ 128) (by rw [hsucc]; omega)
      omega
  · rw [if_neg c1]
    have c1' : H % S = 0 := by omega
    by_cases c2 : mid < mid2
    · rw [if_pos c2]
      have hH0 : 0 < H := by omega
      have hq0 : 0 < H / S := by
        rcases Nat.eq_zero_or_pos (H / S) with h | h
        · rw [h] at hdm; omega
        · exact h
      have hq : (H - 1) / S = H / S - 1 := by
        have : H - 1 = (S - 1) + S * (H / S - 1) := by
          have : S * (H / S - 1) = S * (H / S) - S := by rw [Nat.mul_sub, Nat.mul_one]
          have h4 : S * 1 ≤ S * (H / S) := Nat.mul_le_mul_left S hq0
          omega
        rw [this, Nat.add_mul_div_left _ _ hSp, Nat.div_eq_of_lt (by omega), Nat.zero_add]
      have hmd : (mid + 2 ^ 64 - mid2) % 2 ^ 64 = mid + 2 ^ 64 - mid2 := Nat.mod_eq_of_lt (by omega)
      rw [hmd, if_pos (by omega), or_one, hq]
      have hs1 : (H / S - 1) * S = S * (H / S) - S := by rw [Nat.sub_mul, Nat.one_mul, Nat.mul_comm]
      have h4 : S * 1 ≤ S * (H / S) := Nat.mul_le_mul_left S hq0
      refine Unr.inexact hB ?_ ?_
      · rw [ass]
        have := dn ((H / S - 1) * S * 2 ^ 128) (by rw [hs1]; omega)
        omega
      · rw [ass]
        have := up ((H / S - 1 + 1) * S * 2 ^ 128) (by rw [Nat.sub_add_cancel hq0, hself]; omega)
        omega
    · rw [if_neg c2, Nat.sub_zero]
      by_cases c3 : 1 < (mid + 2 ^ 64 - mid2) % 2 ^ 64
      · rw [if_pos c3, or_one]
        have hmd : (mid + 2 ^ 64 - mid2) % 2 ^ 64 = mid - mid2 := by omega
        rw [hmd] at c3
        refine Unr.inexact hB ?_ ?_
        · rw [ass]
          have := dn (H / S * S * 2 ^ 128) (by rw [hself]; omega)
          omega
        · rw [ass]
          have := up ((H / S + 1) * S * 2 ^ 128) (by rw [hsucc]; omega)
          omega
      · rw [if_neg c3, Nat.or_zero]
        have hmd : (mid + 2 ^ 64 - mid2) % 2 ^ 64 = mid - mid2 := by omega
        rw [hmd] at c3
        have e1 : H / S * (2 ^ 128 * S) = H * 2 ^ 128 := by
          rw [Nat.mul_left_comm, hself, Nat.mul_comm]
          omega
        have := hbad (H / S) (by rw [e1]; omega) (by rw [e1]; omega)
        refine Unr.exact hB ?_
        rw [this, Nat.mul_left_comm]
end Fs
end Go.Proofs.YtellndmbllmjgaaGreatDoor
/- No product of a word of few bits and a power of ten comes close to a multiple of a power of two: by best fractions. -/
set_option linter.unusedVariables false
namespace Go.Proofs.YtellndmbllmjgaaGreatDoor
namespace Fs

/-- A best fraction's remainder is the least of all below the next one's denominator. -/
theorem far (c M q k q' k' r r' τ : Int) (hτ : τ = 1 ∨ τ = -1) (h1 : q * c - k * M = r) (h2 : q' * c - k' * M = -r') (hdet : k * q' - k' * q = τ) (hq : 0 < q) (hr : 0 ≤ r) (hr' : 0 ≤ r')
    (y h : Int) (hy : 0 < y) (hyq : y < q') : r ≤ y * c - h * M ∨ y * c - h * M ≤ -r := by
  have hττ : τ * τ = 1 := by rcases hτ with rfl | rfl <;> rfl
  obtain ⟨a, ha⟩ : ∃ a, a = τ * (h * q' - y * k') := ⟨_, rfl⟩
  obtain ⟨b, hb⟩ : ∃ b, b = τ * (y * k - h * q) := ⟨_, rfl⟩
  have e1 : y = a * q + b * q' := by subst ha hb; grind
  have e2 : y * c - h * M = a * r - b * r' := by subst ha hb; grind
  clear ha hb h1 h2 hdet hτ hττ
  rw [e2]
  rcases Int.lt_trichotomy b 0 with hb | hb | hb
  · -- a is at least 1
    have hb1 : q' ≤ (-b) * q' := by
      have : 1 * q' ≤ (-b) * q' := Int.mul_le_mul_of_nonneg_right (by omega) (by omega)
      omega
    have hbq : (-b) * q' = -(b * q') := Int.neg_mul ..
    have ha : 0 < a := by
      rcases Int.lt_or_le 0 a with h | h
      · exact h
      · have : a * q ≤ 0 := Int.mul_nonpos_of_nonpos_of_nonneg h (by omega)
        omega
    have h3 : 1 * r ≤ a * r := Int.mul_le_mul_of_nonneg_right (by omega) hr
    have h4 : b * r' ≤ 0 := Int.mul_nonpos_of_nonpos_of_nonneg (by omega) hr'
    omega
  · subst hb
    have ha : 0 < a := by
      rcases Int.lt_or_le 0 a with h | h
      · exact h
      · have : a * q ≤ 0 := Int.mul_nonpos_of_nonpos_of_nonneg h (by omega)
        omega
    have h3 : 1 * r ≤ a * r := Int.mul_le_mul_of_nonneg_right (by omega) hr
    omega
  · have hb1 : 1 * q' ≤ b * q' := Int.mul_le_mul_of_nonneg_right (by omega) (by omega)
    have ha : a < 0 := by
      rcases Int.lt_or_le a 0 with h | h
      · exact h
      · have : 0 ≤ a * q := Int.mul_nonneg h (by omega)
        omega
    have h3 : a * r ≤ (-1) * r := Int.mul_le_mul_of_nonneg_right (by omega) hr
    have h4 : 0 ≤ b * r' := Int.mul_nonneg (by omega) hr'
    omega

/-- How far a power of ten is moved, and what it is then, as a fraction: the power's number counts from 10 to the -348. -/
def lpN (p : Nat) : Nat := p * 108853 / 32768
def lpM (q : Nat) : Nat := (q * 108853 + 32767) / 32768
def Tn (i : Nat) : Nat := if 348 ≤ i then 10 ^ (i - 348) * 2 ^ (127 - lpN (i - 348)) else 2 ^ (127 + lpM (348 - i))
def Td (i : Nat) : Nat := if 348 ≤ i then 2 ^ (lpN (i - 348) - 127) else 10 ^ (348 - i)
/-- Upwards. -/
def pmOf (i : Nat) : Nat := (Tn i + Td i - 1) / Td i
theorem Td_pos (i : Nat) : 0 < Td i := by
  unfold Td
  split
  · exact Nat.two_pow_pos _
  · exact Nat.pow_pos (by omega)
theorem pm_ge (i : Nat) : Tn i ≤ Td i * pmOf i := by
  have h := Td_pos i
  unfold pmOf
  have d := Nat.div_add_mod (Tn i + Td i - 1) (Td i)
  have m := Nat.mod_lt (Tn i + Td i - 1) h
  omega
theorem pm_lt (i : Nat) : Td i * pmOf i < Tn i + Td i := by
  have h := Td_pos i
  unfold pmOf
  have d := Nat.mul_div_le (Tn i + Td i - 1) (Td i)
  omega
end Fs
end Go.Proofs.YtellndmbllmjgaaGreatDoor
/- Unrounded scaling of what a float's neighbours' midpoints are. -/
set_option linter.unusedVariables false
namespace Go.Proofs.YtellndmbllmjgaaGreatDoor
namespace Fs

/-- Two multiples of d that lie less than d apart are one. -/
theorem mult_eq {a b d : Nat} (ha : a % d = 0) (hb : b % d = 0) (h1 : a < b + d) (h2 : b < a + d) : a = b := by
  obtain ⟨u, rfl⟩ := Nat.dvd_of_mod_eq_zero ha
  obtain ⟨v, rfl⟩ := Nat.dvd_of_mod_eq_zero hb
  have e1 : d * v + d = d * (v + 1) := rfl
  have e2 : d * u + d = d * (u + 1) := rfl
  rw [e1] at h1
  rw [e2] at h2
  have := Nat.lt_of_mul_lt_mul_left h1
  have := Nat.lt_of_mul_lt_mul_left h2
  have : u = v := by omega
  rw [this]
theorem mod_mul_left {a d : Nat} (c : Nat) (h : a % d = 0) : (c * a) % d = 0 := by
  obtain ⟨u, rfl⟩ := Nat.dvd_of_mod_eq_zero h
  rw [Nat.mul_left_comm]
  exact Nat.mul_mod_right ..
theorem pow_mod {a b : Nat} (h : b ≤ a) : 2 ^ a % 2 ^ b = 0 := by
  obtain ⟨c, rfl⟩ : ∃ c, a = b + c := ⟨a - b, by omega⟩
  rw [Nat.pow_add]
  exact Nat.mul_mod_right ..

end Fs
end Go.Proofs.YtellndmbllmjgaaGreatDoor
