/- Unrounded scaling: what the product of a word and a power's upper bits says of the true product. Whole numbers alone. -/
import Derived.KernelRfl
set_option linter.unusedVariables false
namespace Go.Proofs.YtellndmbllmjgaaGreatDoor
namespace Fs

/-- u is 4 A / B, downwards, its last bit set where anything is left over: it says how A / B lies to each half. -/
def Unr (u A B : Nat) : Prop := ∀ k, (k * B ≤ 2 * A ↔ 2 * k ≤ u) ∧ (2 * A ≤ k * B ↔ u ≤ 2 * k)

theorem Unr.exact {f A B : Nat} (hB : 0 < B) (h : 4 * A = f * B) : Unr f A B := by
  intro k
  have e : 2 * (k * B) = (2 * k) * B := by rw [Nat.mul_assoc]
  constructor
  · constructor
    · intro h1
      have h2 : (2 * k) * B ≤ f * B := by omega
      exact Nat.le_of_mul_le_mul_right h2 hB
    · intro h1
      have h2 : (2 * k) * B ≤ f * B := Nat.mul_le_mul_right B h1
      omega
  · constructor
    · intro h1
      have h2 : f * B ≤ (2 * k) * B := by omega
      exact Nat.le_of_mul_le_mul_right h2 hB
    · intro h1
      have h2 : f * B ≤ (2 * k) * B := Nat.mul_le_mul_right B h1
      omega
theorem Unr.inexact {f A B : Nat} (hB : 0 < B) (h1 : f * B < 4 * A) (h2 : 4 * A < (f + 1) * B) : Unr (2 * (f / 2) + 1) A B := by
  intro k
  have e : 2 * (k * B) = (2 * k) * B := by rw [Nat.mul_assoc]
  have a1 : (2 * k) * B ≤ 4 * A ↔ 2 * k ≤ f := by
    constructor
    · intro h
      have : (2 * k) * B < (f + 1) * B := by omega
      have := Nat.lt_of_mul_lt_mul_right this
      omega
    · intro h
      have := Nat.mul_le_mul_right B h
      omega
  have a2 : 4 * A ≤ (2 * k) * B ↔ f + 1 ≤ 2 * k := by
    constructor
    · intro h
      have : f * B < (2 * k) * B := by omega
      have := Nat.lt_of_mul_lt_mul_right this
      omega
    · intro h
      have := Nat.mul_le_mul_right B h
      omega
  constructor
  · rw [show k * B ≤ 2 * A ↔ (2 * k) * B ≤ 4 * A by omega, a1]
    omega
  · rw [show 2 * A ≤ k * B ↔ 4 * A ≤ (2 * k) * B by omega, a2]
    omega
theorem Unr.scale {u A B c : Nat} (hc : 0 < c) : Unr u (c * A) (c * B) ↔ Unr u A B := by
  have e : ∀ k, (k * (c * B) ≤ 2 * (c * A) ↔ k * B ≤ 2 * A) ∧ (2 * (c * A) ≤ k * (c * B) ↔ 2 * A ≤ k * B) := by
    intro k
    have e1 : k * (c * B) = c * (k * B) := Nat.mul_left_comm ..
    have e2 : 2 * (c * A) = c * (2 * A) := Nat.mul_left_comm ..
    rw [e1, e2]
    exact ⟨⟨fun h => Nat.le_of_mul_le_mul_left h hc, fun h => Nat.mul_le_mul_left c h⟩, ⟨fun h => Nat.le_of_mul_le_mul_left h hc, fun h => Nat.mul_le_mul_left c h⟩⟩
  unfold Unr
  constructor
  · intro h k
    have := h k
    rw [(e k).1, (e k).2] at this
    exact this
  · intro h k
    rw [(e k).1, (e k).2]
    exact h k
theorem Unr.of_eq {u A B A' B' : Nat} (hB : 0 < B) (hB' : 0 < B') (h : A * B' = A' * B) (hu : Unr u A B) : Unr u A' B' := by
  have h1 : Unr u (B' * A) (B' * B) := (Unr.scale hB').2 hu
  have e1 : B' * A = B * A' := by rw [Nat.mul_comm, h, Nat.mul_comm]
  rw [e1, Nat.mul_comm B' B] at h1
  exact (Unr.scale hB).1 h1

/-- What uscale answers: a word, the two halves of the power, how far down. -/
def uscaleN (x hi lo s : Nat) : Nat :=
  if x * hi / 2 ^ 64 % 2 ^ s ≠ 0 then x * hi / 2 ^ 64 / 2 ^ s ||| 1
  else (x * hi / 2 ^ 64 - (if x * hi % 2 ^ 64 < x * lo / 2 ^ 64 then 1 else 0)) / 2 ^ s ||| (if 1 < (x * hi % 2 ^ 64 + 2 ^ 64 - x * lo / 2 ^ 64) % 2 ^ 64 then 1 else 0)

theorem or_one (f : Nat) : f ||| 1 = 2 * (f / 2) + 1 := by
  apply Nat.eq_of_testBit_eq
  intro i
  rw [Nat.testBit_or]
  cases i with
  | zero => simp [Nat.testBit_zero]
  | succ i =>
    rw [Nat.testBit_succ, Nat.testBit_succ, Nat.testBit_succ]
    have : (2 * (f / 2) + 1) / 2 = f / 2 := by omega
    rw [this]
    simp

/-- **Unrounded scaling is right** wherever the product that is computed does not lie close to a whole number without being it. -/
theorem uscale_ok (x hi lo s Tn Td : Nat) (hx0 : 0 < x) (hx : x < 2 ^ 64) (hhi : hi < 2 ^ 64) (hlo : lo < 2 ^ 64) (hpm : lo ≤ hi * 2 ^ 64) (hTd : 0 < Td)
    (h1 : Tn ≤ Td * (hi * 2 ^ 64 - lo)) (h2 : Td * (hi * 2 ^ 64 - lo) < Tn + Td)
    (hbad : ∀ h, h * 2 ^ (128 + s) < x * (hi * 2 ^ 64 - lo) + 2 ^ 64 → x * (hi * 2 ^ 64 - lo) ≤ h * 2 ^ (128 + s) + 2 ^ 64 → x * Tn = h * (Td * 2 ^ (128 + s))) :
    Unr (uscaleN x hi lo s) (x * Tn) (4 * (Td * 2 ^ (128 + s))) := by
  obtain ⟨pm, hpme⟩ : ∃ pm, pm = hi * 2 ^ 64 - lo := ⟨_, rfl⟩
  rw [← hpme] at h1 h2 hbad
  have hpms : pm + lo = hi * 2 ^ 64 := by omega
  -- the product
  have hA : x * pm + x * lo = x * hi * 2 ^ 64 := by rw [← Nat.mul_add, hpms, Nat.mul_assoc]
  have hlolt : x * lo ≤ (2 ^ 64 - 1) * (2 ^ 64 - 1) := Nat.mul_le_mul (by omega) (by omega)
  obtain ⟨S, hS⟩ : ∃ S, S = 2 ^ s := ⟨_, rfl⟩
  have hSp : 0 < S := by rw [hS]; exact Nat.two_pow_pos s
  have hQ : 2 ^ (128 + s) = 2 ^ 128 * S := by rw [hS, Nat.pow_add]
  have N1 : x * Tn ≤ Td * (x * pm) := by
    rw [Nat.mul_left_comm]
    exact Nat.mul_le_mul_left x h1
  have N2 : Td * (x * pm) < x * Tn + Td * x := by
    have := Nat.mul_lt_mul_of_pos_left h2 hx0
    rw [Nat.mul_add, Nat.mul_left_comm, Nat.mul_comm x Td] at this
    exact this
  rw [hQ] at hbad ⊢
  unfold uscaleN
  rw [← hS]
  generalize hg1 : x * hi / 2 ^ 64 = H
  generalize hg2 : x * hi % 2 ^ 64 = mid
  generalize hg3 : x * lo / 2 ^ 64 = mid2
  have hmid : mid < 2 ^ 64 := by omega
  have hHm : x * hi = H * 2 ^ 64 + mid := by omega
  obtain ⟨lo2, hlo2, hlo2e⟩ : ∃ lo2, lo2 < 2 ^ 64 ∧ x * lo = mid2 * 2 ^ 64 + lo2 := ⟨x * lo % 2 ^ 64, by omega, by omega⟩
  generalize hX : x * pm = A at *
  generalize x * lo = L at *
  have hAe : A + mid2 * 2 ^ 64 + lo2 = H * 2 ^ 128 + mid * 2 ^ 64 := by omega
  have hm2 : mid2 ≤ 2 ^ 64 - 2 := by omega
  -- N between two multiples
  have up : ∀ z, A < z → x * Tn < Td * z := fun z hz => Nat.lt_of_le_of_lt N1 (Nat.mul_lt_mul_of_pos_left hz hTd)
  have dn : ∀ z, z + x ≤ A → Td * z < x * Tn := by
    intro z hz
    have h3 := Nat.mul_le_mul_left Td hz
    rw [Nat.mul_add] at h3
    omega
  have ass : ∀ f, f * (4 * (Td * (2 ^ 128 * S))) = 4 * (Td * (f * S * 2 ^ 128)) := by
    intro f
    rw [show f * S * 2 ^ 128 = f * (2 ^ 128 * S) by rw [Nat.mul_assoc, Nat.mul_comm S], ← Nat.mul_left_comm f, ← Nat.mul_left_comm f]
  have hB : 0 < 4 * (Td * (2 ^ 128 * S)) := by
    have := Nat.mul_pos hTd (Nat.mul_pos (show 0 < 2 ^ 128 by omega) hSp)
    omega
  have hdm := Nat.div_add_mod H S
  have hml := Nat.mod_lt H hSp
  have hsucc : (H / S + 1) * S = S * (H / S) + S := by rw [Nat.add_mul, Nat.one_mul, Nat.mul_comm]
  have hself : H / S * S = S * (H / S) := Nat.mul_comm ..
  by_cases c1 : H % S ≠ 0
  · rw [if_pos c1, or_one]
    refine Unr.inexact hB ?_ ?_
    · rw [ass]
      have := dn (H / S * S * 2 ^ 128) (by rw [hself]; omega)
      omega
    · rw [ass]
      have := up ((H / S + 1) * S * 2 ^ 128) (by rw [hsucc]; omega)
      omega
  · rw [if_neg c1]
    have c1' : H % S = 0 := by omega
    by_cases c2 : mid < mid2
    · rw [if_pos c2]
      have hH0 : 0 < H := by omega
      have hq0 : 0 < H / S := by
        rcases Nat.eq_zero_or_pos (H / S) with h | h
        · rw [h] at hdm; omega
        · exact h
      have hq : (H - 1) / S = H / S - 1 := by
        have : H - 1 = (S - 1) + S * (H / S - 1) := by
          have : S * (H / S - 1) = S * (H / S) - S := by rw [Nat.mul_sub, Nat.mul_one]
          have h4 : S * 1 ≤ S * (H / S) := Nat.mul_le_mul_left S hq0
          omega
        rw [this, Nat.add_mul_div_left _ _ hSp, Nat.div_eq_of_lt (by omega), Nat.zero_add]
      have hmd : (mid + 2 ^ 64 - mid2) % 2 ^ 64 = mid + 2 ^ 64 - mid2 := Nat.mod_eq_of_lt (by omega)
      rw [hmd, if_pos (by omega), or_one, hq]
      have hs1 : (H / S - 1) * S = S * (H / S) - S := by rw [Nat.sub_mul, Nat.one_mul, Nat.mul_comm]
      have h4 : S * 1 ≤ S * (H / S) := Nat.mul_le_mul_left S hq0
      refine Unr.inexact hB ?_ ?_
      · rw [ass]
        have := dn ((H / S - 1) * S * 2 ^ 128) (by rw [hs1]; omega)
        omega
      · rw [ass]
        have := up ((H / S - 1 + 1) * S * 2 ^ 128) (by rw [Nat.sub_add_cancel hq0, hself]; omega)
        omega
    · rw [if_neg c2, Nat.sub_zero]
      by_cases c3 : 1 < (mid + 2 ^ 64 - mid2) % 2 ^ 64
      · rw [if_pos c3, or_one]
        have hmd : (mid + 2 ^ 64 - mid2) % 2 ^ 64 = mid - mid2 := by omega
        rw [hmd] at c3
        refine Unr.inexact hB ?_ ?_
        · rw [ass]
          have := dn (H / S * S * 2 ^ 128) (by rw [hself]; omega)
          omega
        · rw [ass]
          have := up ((H / S + 1) * S * 2 ^ 128) (by rw [hsucc]; omega)
          omega
      · rw [if_neg c3, Nat.or_zero]
        have hmd : (mid + 2 ^ 64 - mid2) % 2 ^ 64 = mid - mid2 := by omega
        rw [hmd] at c3
        have e1 : H / S * (2 ^ 128 * S) = H * 2 ^ 128 := by
          rw [Nat.mul_left_comm, hself, Nat.mul_comm]
          omega
        have := hbad (H / S) (by rw [e1]; omega) (by rw [e1]; omega)
        refine Unr.exact hB ?_
        rw [this, Nat.mul_left_comm]
end Fs
end Go.Proofs.YtellndmbllmjgaaGreatDoor
