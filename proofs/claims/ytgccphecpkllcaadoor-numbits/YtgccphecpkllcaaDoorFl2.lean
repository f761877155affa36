/- Plain mathematics: the word nearest to a whole number of few digits; how words stand to each other. -/
import Derived.Test.YtgccphecpkllcaaDoorFl
set_option linter.unusedVariables false
namespace Go.Proofs.YtgccphecpkllcaaDoor
namespace Fl
open Ieee

theorem frac_eq : double.fractionBits = 52 := rfl
theorem nearest_zero (s : Bool) (place : Int) : double.nearest s 0 place = double.word s 0 := by
  unfold Format.nearest
  rw [if_pos rfl]
theorem nearest_at (s : Bool) (mag : Nat) (place last : Int) (kept : Nat) (h0 : mag ≠ 0) (hlast : max (place + (mag.log2 : Int) - 52) (-1074) = last) (hk : Toward.even.cut s (mag <<< (place - last).toNat) (last - place).toNat = kept) :
    double.nearest s mag place = double.word s (min ((last - -1074).toNat * 4503599627370496 + kept) 9218868437227405312) := by
  unfold Format.nearest
  rw [if_neg h0, least_eq, binade_eq, inf_eq, frac_eq]
  have h : max (place + (mag.log2 : Int) - ((52 : Nat) : Int)) (-1074) = last := hlast
  simp only [h, hk]

def rungI (M L : Nat) : Nat := (L + 1022) * 4503599627370496 + M
theorem rungI_lt {M L : Nat} (hM : M < 9007199254740992) (hL : L ≤ 1023) : rungI M L < 9218868437227405312 := by unfold rungI; omega
theorem rungI_ge {M L : Nat} (hM : 4503599627370496 ≤ M) : 4607182418800017408 ≤ rungI M L := by unfold rungI; omega
theorem rungI_div {M L : Nat} (h1 : 4503599627370496 ≤ M) (h2 : M < 9007199254740992) : rungI M L / 4503599627370496 = L + 1023 := by unfold rungI; omega
theorem rungI_mod {M L : Nat} (h1 : 4503599627370496 ≤ M) (h2 : M < 9007199254740992) : rungI M L % 4503599627370496 = M - 4503599627370496 := by unfold rungI; omega

theorem pow_split (x y : Nat) : 2 ^ (x + y) = 2 ^ x * 2 ^ y := Nat.pow_add 2 x y

/-- **The word nearest to what is a whole number of at most 53 digits is its own.** -/
theorem nearest_norm (s : Bool) (mag : Nat) (place : Int) (n M L : Nat) (hN : Norm n M L) (hL : L ≤ 1023) (a b : Nat) (hp : place = (a : Int) - b) (hv : mag * 2 ^ a = n * 2 ^ b) :
    double.nearest s mag place = double.word s (rungI M L) := by
  have hM1 := hN.M_le
  have hM2 := hN.M_lt
  obtain ⟨h1, h2, h3⟩ := hN
  have hn0 : 0 < n := Nat.lt_of_lt_of_le (Nat.two_pow_pos L) h2
  have hm0 : mag ≠ 0 := by
    intro e
    rw [e, Nat.zero_mul] at hv
    have := Nat.mul_pos hn0 (Nat.two_pow_pos b)
    omega
  have hlog : mag.log2 + a = L + b := by
    have l1 : (mag * 2 ^ a).log2 = mag.log2 + a := log2_of (by rw [Nat.pow_add]; exact Nat.mul_le_mul_right _ (Nat.log2_self_le hm0)) (by rw [show mag.log2 + a + 1 = (mag.log2 + 1) + a by omega, Nat.pow_add]; exact (Nat.mul_lt_mul_right (Nat.two_pow_pos a)).2 Nat.lt_log2_self)
    have l2 : (n * 2 ^ b).log2 = L + b := log2_of (by rw [Nat.pow_add]; exact Nat.mul_le_mul_right _ h2) (by rw [show L + b + 1 = (L + 1) + b by omega, Nat.pow_add]; exact (Nat.mul_lt_mul_right (Nat.two_pow_pos b)).2 h3)
    rw [hv, l2] at l1
    omega
  have hkey : mag * 2 ^ (a + 52) = M * 2 ^ (L + b) := by
    rw [pow_split a 52, ← Nat.mul_assoc, hv, Nat.mul_right_comm, ← h1, Nat.mul_assoc, ← pow_split L b]
  have hlast : max (place + (mag.log2 : Int) - 52) (-1074) = (L : Int) - 52 := by omega
  have hkept : Toward.even.cut s (mag <<< (place - ((L : Int) - 52)).toNat) (((L : Int) - 52) - place).toNat = M := by
    rcases Nat.le_total (L + b) (a + 52) with h | h
    · obtain ⟨d, hd⟩ : ∃ d, a + 52 = L + b + d := ⟨a + 52 - (L + b), by omega⟩
      have e1 : (place - ((L : Int) - 52)).toNat = d := by omega
      have e2 : (((L : Int) - 52) - place).toNat = 0 := by omega
      rw [e1, e2, cut_zero_drop, Nat.shiftLeft_eq]
      rw [hd, pow_split (L + b) d, ← Nat.mul_assoc, Nat.mul_right_comm] at hkey
      exact pow_cancel hkey
    · obtain ⟨e, he⟩ : ∃ e, L + b = a + 52 + e := ⟨L + b - (a + 52), by omega⟩
      have e1 : (place - ((L : Int) - 52)).toNat = 0 := by omega
      have e2 : (((L : Int) - 52) - place).toNat = e := by omega
      rw [he, pow_split (a + 52) e, ← Nat.mul_assoc, Nat.mul_right_comm] at hkey
      have hm := pow_cancel hkey
      rw [e1, e2, Nat.shiftLeft_eq, Nat.pow_zero, Nat.mul_one, hm]
      exact cut_exact s M e (by omega)
  rw [nearest_at s mag place _ _ hm0 hlast hkept]
  have e3 : ((L : Int) - 52 - -1074).toNat = L + 1022 := by omega
  have hb := rungI_lt hM2 hL
  rw [e3]
  unfold rungI at hb ⊢
  rw [Nat.min_eq_left (Nat.le_of_lt hb)]

/-- A word's parts. -/
def wd (s : Bool) (r : Nat) : Nat := (if s then 9223372036854775808 else 0) + r
theorem word_wd (s : Bool) (r : Nat) : double.word s r = wd s r := by
  unfold Format.word wd
  rw [sign_eq]
  cases s
  · rw [if_neg (by decide), if_neg (by decide), Nat.zero_add]
  · rw [if_pos rfl, if_pos rfl]
theorem wd_false (r : Nat) : wd false r = r := by
  unfold wd
  rw [if_neg (by decide), Nat.zero_add]
theorem wd_true (r : Nat) : wd true r = 9223372036854775808 + r := by
  unfold wd
  rw [if_pos rfl]
theorem wd_mod (s : Bool) (r : Nat) (h : r < 9223372036854775808) : wd s r % 9223372036854775808 = r := by
  cases s
  · rw [wd_false]; omega
  · rw [wd_true]; omega
theorem wd_sign (s : Bool) (r : Nat) (h : r < 9223372036854775808) : (wd s r / 9223372036854775808 % 2 == 1) = s := by
  cases s
  · rw [wd_false, Nat.div_eq_of_lt h]; rfl
  · rw [wd_true]
    have : (9223372036854775808 + r) / 9223372036854775808 = 1 := by omega
    rw [this]; rfl
/-- What a finite word stands for. -/
def magR (r : Nat) : Nat := if r < 4503599627370496 then r else 4503599627370496 + r % 4503599627370496
def expR (r : Nat) : Nat := r / 4503599627370496 - 1
theorem read_wd (s : Bool) (r : Nat) (h : r < 9218868437227405312) : double.read (wd s r) = .number s (magR r) ((expR r : Int) - 1074) := by
  unfold Format.read
  have hr : r < 9223372036854775808 := by omega
  simp only [sign_eq, binade_eq, inf_eq, least_eq]
  rw [wd_mod s r hr, wd_sign s r hr]
  unfold magR expR
  by_cases h1 : r < 4503599627370496
  · rw [if_pos h1, if_pos h1]
    have : r / 4503599627370496 - 1 = 0 := by rw [Nat.div_eq_of_lt h1]
    rw [this]
    rfl
  · rw [if_neg h1, if_pos h, if_neg h1, Int.add_comm]
    rfl
theorem read_inf (s : Bool) : double.read (wd s 9218868437227405312) = .infinity s := by
  unfold Format.read
  simp only [sign_eq, binade_eq, inf_eq, least_eq]
  rw [wd_mod s _ (by omega), wd_sign s _ (by omega), if_neg (by omega), if_neg (by omega), if_pos rfl]
theorem read_nan (s : Bool) (r : Nat) (h : 9218868437227405312 < r) (h2 : r < 9223372036854775808) : double.read (wd s r) = .nan s (r - 9218868437227405312) := by
  unfold Format.read
  simp only [sign_eq, binade_eq, inf_eq, least_eq]
  rw [wd_mod s _ h2, wd_sign s _ h2, if_neg (by omega), if_neg (by omega), if_neg (by omega)]
theorem magR_I {M L : Nat} (h1 : 4503599627370496 ≤ M) (h2 : M < 9007199254740992) : magR (rungI M L) = M := by
  unfold magR
  have := rungI_ge (L := L) h1
  rw [if_neg (by omega), rungI_mod h1 h2]
  omega
theorem expR_I {M L : Nat} (h1 : 4503599627370496 ≤ M) (h2 : M < 9007199254740992) : expR (rungI M L) = L + 1022 := by
  unfold expR
  rw [rungI_div h1 h2]
  rfl
theorem read_word (s : Bool) (n M L : Nat) (hN : Norm n M L) (hL : L ≤ 1023) : double.read (wd s (rungI M L)) = .number s M ((L : Int) - 52) := by
  have hM1 := hN.M_le
  have hM2 := hN.M_lt
  rw [read_wd s _ (rungI_lt hM2 hL), magR_I hM1 hM2, expR_I hM1 hM2]
  have : (((L + 1022 : Nat) : Int) - 1074) = (L : Int) - 52 := by omega
  rw [this]

/-- A finite word's number, as a multiple of the least. -/
def valR (r : Nat) : Nat := magR r * 2 ^ expR r
theorem valR_lt {a b : Nat} (h : a < b) : valR a < valR b := by
  unfold valR
  by_cases hb : b < 4503599627370496
  · have e1 : expR a = 0 := by unfold expR; omega
    have e2 : expR b = 0 := by unfold expR; omega
    have m1 : magR a = a := by unfold magR; rw [if_pos (by omega)]
    have m2 : magR b = b := by unfold magR; rw [if_pos hb]
    rw [e1, e2, m1, m2]
    omega
  · have m2 : magR b = 4503599627370496 + b % 4503599627370496 := by unfold magR; rw [if_neg hb]
    by_cases ha : a < 4503599627370496
    · have e1 : expR a = 0 := by unfold expR; omega
      have m1 : magR a = a := by unfold magR; rw [if_pos ha]
      rw [e1, m1, Nat.pow_zero, Nat.mul_one]
      have : magR b ≤ magR b * 2 ^ expR b := Nat.le_mul_of_pos_right _ (Nat.two_pow_pos _)
      omega
    · have m1 : magR a = 4503599627370496 + a % 4503599627370496 := by unfold magR; rw [if_neg ha]
      have hq : a / 4503599627370496 ≤ b / 4503599627370496 := Nat.div_le_div_right (Nat.le_of_lt h)
      rcases Nat.lt_or_ge (a / 4503599627370496) (b / 4503599627370496) with hlt | hge
      · have he : expR a + 1 ≤ expR b := by unfold expR; omega
        have s1 : magR a * 2 ^ expR a < 9007199254740992 * 2 ^ expR a := (Nat.mul_lt_mul_right (Nat.two_pow_pos _)).2 (by omega)
        have s2 : 2 ^ (expR a + 1) ≤ 2 ^ expR b := Nat.pow_le_pow_right (by omega) he
        have s3 : 2 ^ (expR a + 1) = 2 ^ expR a * 2 := Nat.pow_succ 2 _
        have s4 : 4503599627370496 * 2 ^ (expR a + 1) ≤ 4503599627370496 * 2 ^ expR b := Nat.mul_le_mul_left _ s2
        have s5 : 4503599627370496 * 2 ^ expR b ≤ magR b * 2 ^ expR b := Nat.mul_le_mul_right _ (by omega)
        rw [s3] at s4
        omega
      · have he : expR a = expR b := by unfold expR; omega
        rw [he]
        exact (Nat.mul_lt_mul_right (Nat.two_pow_pos _)).2 (by omega)
end Fl
end Go.Proofs.YtgccphecpkllcaaDoor
