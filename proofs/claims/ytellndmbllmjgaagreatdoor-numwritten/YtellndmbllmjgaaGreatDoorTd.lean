/- The fewest digits, without the noughts behind; their bytes. -/
import Derived.Test.YtellndmbllmjgaaGreatDoorUsA
import Derived.Shelf.Strconv.Itoa1
import Derived.Lib.ItoaNum
set_option linter.unusedVariables false
namespace Go.Proofs.YtellndmbllmjgaaGreatDoor
namespace Fs

/-- d times 10 to the j (less 400): the fewest digits that tell the float, of those the nearest; the last is not 0. -/
structure Told (M e d j : Nat) : Prop where
  last : d % 10 ≠ 0
  isin : Inn (LL M e) (UU M e) (M % 2) (d * (10 ^ j * Z76))
  pick : Pick (XX M e) (LL M e) (UU M e) (M % 2) (10 ^ j * Z76) d
  none : ∀ D k, j < k → ¬ Inn (LL M e) (UU M e) (M % 2) (D * (10 ^ k * Z76))
theorem strip : ∀ (f d : Nat), d ≤ f → 0 < d → ∃ d0 t, d = d0 * 10 ^ t ∧ d0 % 10 ≠ 0
  | 0, d, h, h0 => by omega
  | f + 1, d, h, h0 => by
    by_cases hm : d % 10 = 0
    · obtain ⟨d0, t, h1, h2⟩ := strip f (d / 10) (by omega) (by omega)
      refine ⟨d0, t + 1, ?_, h2⟩
      rw [Nat.pow_succ, ← Nat.mul_assoc, ← h1]
      omega
    · exact ⟨d, 0, by rw [Nat.pow_zero, Nat.mul_one], hm⟩
theorem told_of_short {M e d i d0 t : Nat} (hM : 0 < M) (h : Short M e d i) (hd : d = d0 * 10 ^ t) (h0 : d0 % 10 ≠ 0) : Told M e d0 (i + t) := by
  have he : d0 * (10 ^ (i + t) * Z76) = d * (10 ^ i * Z76) := by rw [hd, Nat.pow_add]; grind
  have hin : Inn (LL M e) (UU M e) (M % 2) (d0 * (10 ^ (i + t) * Z76)) := by rw [he]; exact h.isin
  have hB : 0 < 10 ^ (i + t) * Z76 := Nat.mul_pos (Nat.pow_pos (by omega)) Z76_pos
  refine ⟨h0, hin, ?_, ?_⟩
  · by_cases ht : t = 0
    · subst ht
      rw [Nat.pow_zero, Nat.mul_one] at hd
      subst hd
      exact h.pick
    · obtain ⟨_, g2, _, _, g5, _⟩ := XL (e := e) hM
      refine pick_of_one hB g2 g5 hin ?_
      intro D hD
      have := h.one D (i + t) (by omega) hD
      rw [hd, Nat.mul_assoc, ← Nat.pow_add, Nat.add_comm t i] at this
      exact Nat.eq_of_mul_eq_mul_right (Nat.pow_pos (by omega)) this
  · intro D k hk hD
    have := h.one D k (by omega) hD
    rw [hd, Nat.mul_assoc, ← Nat.pow_add, Nat.add_comm t i] at this
    obtain ⟨c, rfl⟩ : ∃ c, k = c + 1 + (i + t) := ⟨k - 1 - (i + t), by omega⟩
    rw [Nat.pow_add, ← Nat.mul_assoc] at this
    have e2 := Nat.eq_of_mul_eq_mul_right (Nat.pow_pos (by omega)) this
    rw [Nat.pow_succ, ← Nat.mul_assoc] at e2
    apply h0
    rw [← e2]
    exact Nat.mul_mod_left ..
/-- How many digits a number with noughts behind has. -/
theorem nDigits_shift (d0 : Nat) (h : 0 < d0) : ∀ t, Lib.nDigits (d0 * 10 ^ t) = Lib.nDigits d0 + t
  | 0 => by rw [Nat.pow_zero, Nat.mul_one]; rfl
  | t + 1 => by
    have hp : 0 < d0 * 10 ^ t := Nat.mul_pos h (Nat.pow_pos (by omega))
    rw [Nat.pow_succ, ← Nat.mul_assoc, Lib.nDigits_big (by omega), Nat.mul_div_cancel _ (by omega), nDigits_shift d0 h t]
    omega
/-- A number's digits as bytes. -/
def decN (d : Nat) : List Nat := (Lib.decDigits d).map UInt8.toNat
theorem decN_length (d : Nat) : (decN d).length = Lib.nDigits d := by
  unfold decN
  rw [List.length_map, Lib.decDigits_length]
theorem decN_at (d j : Nat) (h : j < Lib.nDigits d) : (decN d)[j]? = some (48 + d / 10 ^ (Lib.nDigits d - 1 - j) % 10) := by
  unfold decN
  rw [Lib.decDigits_eq, List.getElem?_map, List.getElem?_map, List.getElem?_range h]
  simp only [Option.map_some, Lib.dg, UInt8.toNat_ofNat']
  have : d / 10 ^ (Lib.nDigits d - 1 - j) % 10 < 10 := Nat.mod_lt _ (by omega)
  congr 1
  omega
theorem digit_shift (d0 t n j : Nat) (hj : j < n) : d0 * 10 ^ t / 10 ^ (n + t - 1 - j) % 10 = d0 / 10 ^ (n - 1 - j) % 10 := by
  rw [show n + t - 1 - j = t + (n - 1 - j) by omega, Nat.pow_add, Nat.mul_comm d0, Nat.mul_div_mul_left _ _ (Nat.pow_pos (by omega))]
theorem nDigits_lb : ∀ (d : Nat), 0 < d → 10 ^ (Lib.nDigits d - 1) ≤ d := fun d => by
    induction d using Nat.strongRecOn with
    | ind d ih =>
      intro h
      by_cases h0 : d < 10
      · rw [Lib.nDigits_small h0]
        simp
        omega
      · rw [Lib.nDigits_big h0]
        have := ih (d / 10) (by omega) (by omega)
        have hp := Lib.nDigits_pos (d / 10)
        obtain ⟨q, hq⟩ : ∃ q, Lib.nDigits (d / 10) = q + 1 := ⟨Lib.nDigits (d / 10) - 1, by omega⟩
        rw [hq] at this ⊢
        simp only [Nat.add_sub_cancel] at this ⊢
        rw [Nat.pow_succ]
        omega
theorem nDigits_le (d k : Nat) (h : d < 10 ^ k) (hk : 0 < k) : Lib.nDigits d ≤ k := by
  rcases Nat.lt_or_ge k (Lib.nDigits d) with hlt | hge
  · exfalso
    by_cases h0 : d < 10
    · rw [Lib.nDigits_small h0] at hlt
      omega
    · obtain ⟨m, hm⟩ : ∃ m, Lib.nDigits d = m + 1 := ⟨Lib.nDigits d - 1, by have := Lib.nDigits_pos d; omega⟩
      have : 10 ^ m ≤ d := by
        rcases Nat.lt_or_ge d (10 ^ m) with h1 | h1
        · exfalso
          have h2 := Lib.nDigits_big h0
          rw [hm] at h2
          have h3 : Lib.nDigits (d / 10) = m := by omega
          have h4 := nDigits_lb (d / 10) (by omega)
          rw [h3] at h4
          obtain ⟨q, rfl⟩ : ∃ q, m = q + 1 := ⟨m - 1, by have := Lib.nDigits_pos (d / 10); omega⟩
          rw [Nat.pow_succ] at h1
          simp at h4
          omega
        · exact h1
      have h5 : 10 ^ k ≤ 10 ^ m := Nat.pow_le_pow_right (by omega) (by omega)
      omega
  · exact hge
end Fs
end Go.Proofs.YtellndmbllmjgaaGreatDoor
