/- Plain mathematics: whole numbers as float64 words. -/
import Ieee.Arith
import Derived.Laws.FloatBits
import Derived.Laws.FloatArith
set_option linter.unusedVariables false
namespace Go.Proofs.YtellndmbllmjgaaGreatDoor
namespace Fl
open Ieee

theorem binade_eq : double.binade = 4503599627370496 := by decide
theorem sign_eq : double.signWeight = 9223372036854775808 := by decide
theorem inf_eq : double.infRung = 9218868437227405312 := by decide
theorem least_eq : double.leastPlace = -1074 := by decide

/-- n > 0 with L its highest bit's place, M its digits brought to 53. -/
def Norm (n M L : Nat) : Prop := M * 2 ^ L = n * 2 ^ 52 ∧ 2 ^ L ≤ n ∧ n < 2 ^ (L + 1)

theorem log2_of {n k : Nat} (h1 : 2 ^ k ≤ n) (h2 : n < 2 ^ (k + 1)) : n.log2 = k := by
  have h0 : n ≠ 0 := by
    intro e
    rw [e] at h1
    have := Nat.two_pow_pos k
    omega
  have a1 := Nat.log2_self_le h0
  have a2 := Nat.lt_log2_self (n := n)
  have b1 : k < n.log2 + 1 := (Nat.pow_lt_pow_iff_right (by omega : 1 < 2)).1 (Nat.lt_of_le_of_lt h1 a2)
  have b2 : n.log2 < k + 1 := (Nat.pow_lt_pow_iff_right (by omega : 1 < 2)).1 (Nat.lt_of_le_of_lt a1 h2)
  omega

theorem Norm.M_le {n M L : Nat} (h : Norm n M L) : 4503599627370496 ≤ M := by
  obtain ⟨h1, h2, _⟩ := h
  have hp := Nat.two_pow_pos L
  rcases Nat.lt_or_ge M 4503599627370496 with hlt | hge
  · have a : M * 2 ^ L < 4503599627370496 * 2 ^ L := (Nat.mul_lt_mul_right hp).2 hlt
    have b : 2 ^ L * 2 ^ 52 ≤ n * 2 ^ 52 := Nat.mul_le_mul_right _ h2
    rw [Nat.mul_comm (2 ^ L)] at b
    omega
  · exact hge
theorem Norm.M_lt {n M L : Nat} (h : Norm n M L) : M < 9007199254740992 := by
  obtain ⟨h1, _, h3⟩ := h
  have hp := Nat.two_pow_pos L
  rcases Nat.lt_or_ge M 9007199254740992 with hlt | hge
  · exact hlt
  · have a : 9007199254740992 * 2 ^ L ≤ M * 2 ^ L := Nat.mul_le_mul_right _ hge
    have b : n * 2 ^ 52 < 2 ^ (L + 1) * 2 ^ 52 := (Nat.mul_lt_mul_right (by decide)).2 h3
    have e : 2 ^ (L + 1) = 2 * 2 ^ L := by rw [Nat.pow_add, Nat.pow_one, Nat.mul_comm]
    rw [e] at b
    have e2 : 2 * 2 ^ L * 2 ^ 52 = 9007199254740992 * 2 ^ L := by
      rw [Nat.mul_right_comm]
    omega

theorem cut_zero_drop (neg : Bool) (m : Nat) : Toward.even.cut neg m 0 = m := by
  unfold Toward.cut
  simp [Nat.mod_one]
theorem cut_exact (neg : Bool) (M e : Nat) (hM : 0 < M) : Toward.even.cut neg (M * 2 ^ e) e = M := by
  have hp := Nat.two_pow_pos e
  have hle : e ≤ (M * 2 ^ e).log2 := by
    have h0 : M * 2 ^ e ≠ 0 := by
      have := Nat.mul_pos hM hp
      omega
    refine (Nat.le_log2 h0).2 ?_
    exact Nat.le_mul_of_pos_left _ hM
  unfold Toward.cut
  have hm : min e ((M * 2 ^ e).log2 + 2) = e := by omega
  rw [hm]
  simp only [Nat.shiftLeft_eq, Nat.one_mul, Nat.mul_div_cancel _ hp, Nat.mul_mod_left]
  have h1 : ¬ (2 ^ e < 2 * 0) := by omega
  have h2 : (2 ^ e == 2 * 0) = false := by simp
  simp [h2]
/-- The digits cut off towards zero. -/
theorem cut_toward_zero (neg : Bool) (n d : Nat) : Toward.zero.cut neg n d = n / 2 ^ d := by
  unfold Toward.cut
  simp only [Nat.shiftLeft_eq, Nat.one_mul, Bool.toNat_false, Nat.add_zero]
  rcases Nat.le_total d (n.log2 + 2) with h | h
  · rw [Nat.min_eq_left h]
  · rw [Nat.min_eq_right h]
    have a := Nat.lt_log2_self (n := n)
    have h1 : n < 2 ^ (n.log2 + 2) := Nat.lt_of_lt_of_le a (Nat.pow_le_pow_right (by omega) (by omega))
    have h2 : n < 2 ^ d := Nat.lt_of_lt_of_le h1 (Nat.pow_le_pow_right (by omega) h)
    rw [Nat.div_eq_of_lt h1, Nat.div_eq_of_lt h2]

theorem pow_cancel {a b k : Nat} (h : a * 2 ^ k = b * 2 ^ k) : a = b := Nat.eq_of_mul_eq_mul_right (Nat.two_pow_pos k) h

end Fl
end Go.Proofs.YtellndmbllmjgaaGreatDoor
/- Plain mathematics: the word nearest to a whole number of few digits; how words stand to each other. -/
set_option linter.unusedVariables false
namespace Go.Proofs.YtellndmbllmjgaaGreatDoor
namespace Fl
open Ieee

theorem frac_eq : double.fractionBits = 52 := rfl
theorem nearest_zero (s : Bool) (place : Int) : double.nearest s 0 place = double.word s 0 := by
  unfold Format.nearest
  rw [if_pos rfl]
theorem nearest_at (s : Bool) (mag : Nat) (place last : Int) (kept : Nat) (h0 : mag ≠ 0) (hlast : max (place + (mag.log2 : Int) - 52) (-1074) = last) (hk : Toward.even.cut s (mag <<< (place - last).toNat) (last - place).toNat = kept) :
    double.nearest s mag place = double.word s (min ((last - -1074).toNat * 4503599627370496 + kept) 9218868437227405312) := by
  unfold Format.nearest
  rw [if_neg h0, least_eq, binade_eq, inf_eq, frac_eq]
  have h : max (place + (mag.log2 : Int) - ((52 : Nat) : Int)) (-1074) = last := hlast
  simp only [h, hk]

def rungI (M L : Nat) : Nat := (L + 1022) * 4503599627370496 + M
theorem rungI_lt {M L : Nat} (hM : M < 9007199254740992) (hL : L ≤ 1023) : rungI M L < 9218868437227405312 := by unfold rungI; omega
theorem rungI_ge {M L : Nat} (hM : 4503599627370496 ≤ M) : 4607182418800017408 ≤ rungI M L := by unfold rungI; omega
theorem rungI_div {M L : Nat} (h1 : 4503599627370496 ≤ M) (h2 : M < 9007199254740992) : rungI M L / 4503599627370496 = L + 1023 := by unfold rungI; omega
theorem rungI_mod {M L : Nat} (h1 : 4503599627370496 ≤ M) (h2 : M < 9007199254740992) : rungI M L % 4503599627370496 = M - 4503599627370496 := by unfold rungI; omega

theorem pow_split (x y : Nat) : 2 ^ (x + y) = 2 ^ x * 2 ^ y := Nat.pow_add 2 x y

/-- **The word nearest to what is a whole number of at most 53 digits is its own.** -/
theorem nearest_norm (s : Bool) (mag : Nat) (place : Int) (n M L : Nat) (hN : Norm n M L) (hL : L ≤ 1023) (a b : Nat) (hp : place = (a : Int) - b) (hv : mag * 2 ^ a = n * 2 ^ b) :
    double.nearest s mag place = double.word s (rungI M L) := by
  have hM1 := hN.M_le
  have hM2 := hN.M_lt
  obtain ⟨h1, h2, h3⟩ := hN
  have hn0 : 0 < n := Nat.lt_of_lt_of_le (Nat.two_pow_pos L) h2
  have hm0 : mag ≠ 0 := by
    intro e
    rw [e, Nat.zero_mul] at hv
    have := Nat.mul_pos hn0 (Nat.two_pow_pos b)
    omega
  have hlog : mag.log2 + a = L + b := by
    have l1 : (mag * 2 ^ a).log2 = mag.log2 + a := log2_of (by rw [Nat.pow_add]; exact Nat.mul_le_mul_right _ (Nat.log2_self_le hm0)) (by rw [show mag.log2 + a + 1 = (mag.log2 + 1) + a by omega, Nat.pow_add]; exact (Nat.mul_lt_mul_right (Nat.two_pow_pos a)).2 Nat.lt_log2_self)
    have l2 : (n * 2 ^ b).log2 = L + b := log2_of (by rw [Nat.pow_add]; exact Nat.mul_le_mul_right _ h2) (by rw [show L + b + 1 = (L + 1) + b by omega, Nat.pow_add]; exact (Nat.mul_lt_mul_right (Nat.two_pow_pos b)).2 h3)
    rw [hv, l2] at l1
    omega
  have hkey : mag * 2 ^ (a + 52) = M * 2 ^ (L + b) := by
    rw [pow_split a 52, ← Nat.mul_assoc, hv, Nat.mul_right_comm, ← h1, Nat.mul_assoc, ← pow_split L b]
  have hlast : max (place + (mag.log2 : Int) - 52) (-1074) = (L : Int) - 52 := by omega
  have hkept : Toward.even.cut s (mag <<< (place - ((L : Int) - 52)).toNat) (((L : Int) - 52) - place).toNat = M := by
    rcases Nat.le_total (L + b) (a + 52) with h | h
    · obtain ⟨d, hd⟩ : ∃ d, a + 52 = L + b + d := ⟨a + 52 - (L + b), by omega⟩
      have e1 : (place - ((L : Int) - 52)).toNat = d := by omega
      have e2 : (((L : Int) - 52) - place).toNat = 0 := by omega
      rw [e1, e2, cut_zero_drop, Nat.shiftLeft_eq]
      rw [hd, pow_split (L + b) d, ← Nat.mul_assoc, Nat.mul_right_comm] at hkey
      exact pow_cancel hkey
    · obtain ⟨e, he⟩ : ∃ e, L + b = a + 52 + e := ⟨L + b - (a + 52), by omega⟩
      have e1 : (place - ((L : Int) - 52)).toNat = 0 := by omega
      have e2 : (((L : Int) - 52) - place).toNat = e := by omega
      rw [he, pow_split (a + 52) e, ← Nat.mul_assoc, Nat.mul_right_comm] at hkey
      have hm := pow_cancel hkey
      rw [e1, e2, Nat.shiftLeft_eq, Nat.pow_zero, Nat.mul_one, hm]
      exact cut_exact s M e (by omega)
  rw [nearest_at s mag place _ _ hm0 hlast hkept]
  have e3 : ((L : Int) - 52 - -1074).toNat = L + 1022 := by omega
  have hb := rungI_lt hM2 hL
  rw [e3]
  unfold rungI at hb ⊢
  rw [Nat.min_eq_left (Nat.le_of_lt hb)]

/-- A word's parts. -/
def wd (s : Bool) (r : Nat) : Nat := (if s then 9223372036854775808 else 0) + r
theorem word_wd (s : Bool) (r : Nat) : double.word s r = wd s r := by
  unfold Format.word wd
  rw [sign_eq]
  cases s
  · rw [if_neg (by decide), if_neg (by decide), Nat.zero_add]
  · rw [if_pos rfl, if_pos rfl]
theorem wd_false (r : Nat) : wd false r = r := by
  unfold wd
  rw [if_neg (by decide), Nat.zero_add]
theorem wd_true (r : Nat) : wd true r = 9223372036854775808 + r := by
  unfold wd
  rw [if_pos rfl]
theorem wd_mod (s : Bool) (r : Nat) (h : r < 9223372036854775808) : wd s r % 9223372036854775808 = r := by
  cases s
  · rw [wd_false]; omega
  · rw [wd_true]; omega
theorem wd_sign (s : Bool) (r : Nat) (h : r < 9223372036854775808) : (wd s r / 9223372036854775808 % 2 == 1) = s := by
  cases s
  · rw [wd_false, Nat.div_eq_of_lt h]; rfl
  · rw [wd_true]
    have : (9223372036854775808 + r) / 9223372036854775808 = 1 := by omega
    rw [this]; rfl
/-- What a finite word stands for. -/
def magR (r : Nat) : Nat := if r < 4503599627370496 then r else 4503599627370496 + r % 4503599627370496
def expR (r : Nat) : Nat := r / 4503599627370496 - 1
theorem read_wd (s : Bool) (r : Nat) (h : r < 9218868437227405312) : double.read (wd s r) = .number s (magR r) ((expR r : Int) - 1074) := by
  unfold Format.read
  have hr : r < 9223372036854775808 := by omega
  simp only [sign_eq, binade_eq, inf_eq, least_eq]
  rw [wd_mod s r hr, wd_sign s r hr]
  unfold magR expR
  by_cases h1 : r < 4503599627370496
  · rw [if_pos h1, if_pos h1]
    have : r / 4503599627370496 - 1 = 0 := by rw [Nat.div_eq_of_lt h1]
    rw [this]
    rfl
  · rw [if_neg h1, if_pos h, if_neg h1, Int.add_comm]
    rfl
theorem read_inf (s : Bool) : double.read (wd s 9218868437227405312) = .infinity s := by
  unfold Format.read
  simp only [sign_eq, binade_eq, inf_eq, least_eq]
  rw [wd_mod s _ (by omega), wd_sign s _ (by omega), if_neg (by omega), if_neg (by omega), if_pos rfl]
theorem read_nan (s : Bool) (r : Nat) (h : 9218868437227405312 < r) (h2 : r < 9223372036854775808) : double.read (wd s r) = .nan s (r - 9218868437227405312) := by
  unfold Format.read
  simp only [sign_eq, binade_eq, inf_eq, least_eq]
  rw [wd_mod s _ h2, wd_sign s _ h2, if_neg (by omega), if_neg (by omega), if_neg (by omega)]
theorem magR_I {M L : Nat} (h1 : 4503599627370496 ≤ M) (h2 : M < 9007199254740992) : magR (rungI M L) = M := by
  unfold magR
  have := rungI_ge (L := L) h1
  rw [if_neg (by omega), rungI_mod h1 h2]
  omega
theorem expR_I {M L : Nat} (h1 : 4503599627370496 ≤ M) (h2 : M < 9007199254740992) : expR (rungI M L) = L + 1022 := by
  unfold expR
  rw [rungI_div h1 h2]
  rfl
theorem read_word (s : Bool) (n M L : Nat) (hN : Norm n M L) (hL : L ≤ 1023) : double.read (wd s (rungI M L)) = .number s M ((L : Int) - 52) := by
  have hM1 := hN.M_le
  have hM2 := hN.M_lt
  rw [read_wd s _ (rungI_lt hM2 hL), magR_I hM1 hM2, expR_I hM1 hM2]
  have : (((L + 1022 : Nat) : Int) - 1074) = (L : Int) - 52 := by omega
  rw [this]

/-- A finite word's number, as a multiple of the least. -/
def valR (r : Nat) : Nat := magR r * 2 ^ expR r
theorem valR_lt {a b : Nat} (h : a < b) : valR a < valR b := by
  unfold valR
  by_cases hb : b < 4503599627370496
  · have e1 : expR a = 0 := by unfold expR; omega
    have e2 : expR b = 0 := by unfold expR; omega
    have m1 : magR a = a := by unfold magR; rw [if_pos (by omega)]
    have m2 : magR b = b := by unfold magR; rw [if_pos hb]
    rw [e1, e2, m1, m2]
    omega
  · have m2 : magR b = 4503599627370496 + b % 4503599627370496 := by unfold magR; rw [if_neg hb]
    by_cases ha : a < 4503599627370496
    · have e1 : expR a = 0 := by unfold expR; omega
      have m1 : magR a = a := by unfold magR; rw [if_pos ha]
      rw [e1, m1, Nat.pow_zero, Nat.mul_one]
      have : magR b ≤ magR b * 2 ^ expR b := Nat.le_mul_of_pos_right _ (Nat.two_pow_pos _)
      omega
    · have m1 : magR a = 4503599627370496 + a % 4503599627370496 := by unfold magR; rw [if_neg ha]
      have hq : a / 4503599627370496 ≤ b / 4503599627370496 := Nat.div_le_div_right (Nat.le_of_lt h)
      rcases Nat.lt_or_ge (a / 4503599627370496) (b / 4503599627370496) with hlt | hge
      · have he : expR a + 1 ≤ expR b := by unfold expR; omega
        have s1 : magR a * 2 ^ expR a < 9007199254740992 * 2 ^ expR a := (Nat.mul_lt_mul_right (Nat.two_pow_pos _)).2 (by omega)
        have s2 : 2 ^ (expR a + 1) ≤ 2 ^ expR b := Nat.pow_le_pow_right (by omega) he
        have s3 : 2 ^ (expR a + 1) = 2 ^ expR a * 2 := Nat.pow_succ 2 _
        have s4 : 4503599627370496 * 2 ^ (expR a + 1) ≤ 4503599627370496 * 2 ^ expR b := Nat.mul_le_mul_left _ s2
        have s5 : 4503599627370496 * 2 ^ expR b ≤ magR b * 2 ^ expR b := Nat.mul_le_mul_right _ (by omega)
        rw [s3] at s4
        omega
      · have he : expR a = expR b := by unfold expR; omega
        rw [he]
        exact (Nat.mul_lt_mul_right (Nat.two_pow_pos _)).2 (by omega)
end Fl
end Go.Proofs.YtellndmbllmjgaaGreatDoor
/- Plain mathematics: how words stand to each other; sums, differences, products that are exact; a word cut to a whole number. -/
set_option linter.unusedVariables false
namespace Go.Proofs.YtellndmbllmjgaaGreatDoor
namespace Fl
open Ieee

theorem cmp_congr {x y x' y' : Int} (h1 : x < y ↔ x' < y') (h2 : x = y ↔ x' = y') : compare x y = compare x' y' := by
  simp only [compare, compareOfLessAndEq, h1, h2]
def key (s : Bool) (a : Nat) : Int := if s then -(a : Int) else (a : Int)
theorem key_false (a : Nat) : key false a = (a : Int) := rfl
theorem key_true (a : Nat) : key true a = -(a : Int) := rfl
theorem signed_key (s : Bool) (m u : Nat) : signed s m u = key s (m * 2 ^ u) := by
  unfold signed key
  rw [Nat.shiftLeft_eq]
theorem key_cmp (s t : Bool) (a b p q : Nat) (h1 : a < b ↔ p < q) (h2 : b < a ↔ q < p) (h3 : a = 0 ↔ p = 0) (h4 : b = 0 ↔ q = 0) : compare (key s a) (key t b) = compare (key s p) (key t q) := by
  cases s <;> cases t <;> simp only [key_false, key_true] <;> apply cmp_congr <;> omega
theorem magR_zero {r : Nat} : magR r = 0 ↔ r = 0 := by
  unfold magR
  by_cases h : r < 4503599627370496
  · rw [if_pos h]
  · rw [if_neg h]
    omega
theorem valR_zero {r : Nat} : valR r = 0 ↔ r = 0 := by
  unfold valR
  rw [Nat.mul_eq_zero]
  have := Nat.two_pow_pos (expR r)
  constructor
  · intro h
    rcases h with h | h
    · exact magR_zero.1 h
    · omega
  · intro h
    exact Or.inl (magR_zero.2 h)
theorem valR_lt_iff {a b : Nat} : a < b ↔ valR a < valR b := by
  constructor
  · exact valR_lt
  · intro h
    rcases Nat.lt_trichotomy a b with h1 | h1 | h1
    · exact h1
    · rw [h1] at h; omega
    · have := valR_lt h1; omega

/-- **Finite words stand to each other as their signed rungs do.** -/
theorem order_key (s t : Bool) (a b : Nat) (ha : a < 9218868437227405312) (hb : b < 9218868437227405312) : double.order (wd s a) (wd t b) = some (compare (key s a) (key t b)) := by
  unfold Format.order
  rw [read_wd s a ha, read_wd t b hb]
  simp only [Datum.order, signed_key]
  congr 1
  obtain ⟨k, hk⟩ : ∃ k, k = min (expR a) (expR b) := ⟨_, rfl⟩
  have e1 : ((expR a : Int) - 1074 - min ((expR a : Int) - 1074) ((expR b : Int) - 1074)).toNat = expR a - k := by omega
  have e2 : ((expR b : Int) - 1074 - min ((expR a : Int) - 1074) ((expR b : Int) - 1074)).toNat = expR b - k := by omega
  rw [e1, e2]
  have v1 : valR a = magR a * 2 ^ (expR a - k) * 2 ^ k := by
    unfold valR
    rw [Nat.mul_assoc, ← pow_split, show expR a - k + k = expR a by omega]
  have v2 : valR b = magR b * 2 ^ (expR b - k) * 2 ^ k := by
    unfold valR
    rw [Nat.mul_assoc, ← pow_split, show expR b - k + k = expR b by omega]
  have hp := Nat.two_pow_pos k
  symm
  apply key_cmp
  · rw [valR_lt_iff, v1, v2]
    exact Nat.mul_lt_mul_right hp
  · rw [valR_lt_iff, v1, v2]
    exact Nat.mul_lt_mul_right hp
  · rw [← valR_zero, v1, Nat.mul_eq_zero]
    constructor
    · intro h; rcases h with h | h
      · exact h
      · omega
    · intro h; exact Or.inl h
  · rw [← valR_zero, v2, Nat.mul_eq_zero]
    constructor
    · intro h; rcases h with h | h
      · exact h
      · omega
    · intro h; exact Or.inl h
theorem cmp_lt {x y : Int} (h : x < y) : compare x y = .lt := by simp only [compare, compareOfLessAndEq, h, if_true]
theorem cmp_eq (x : Int) : compare x x = .eq := by simp [compare, compareOfLessAndEq]
theorem cmp_gt {x y : Int} (h : y < x) : compare x y = .gt := by
  have h1 : ¬ x < y := by omega
  have h2 : ¬ x = y := by omega
  simp only [compare, compareOfLessAndEq, h1, h2, if_false]
theorem natcmp_eq (x : Nat) : compare x x = .eq := by simp [compare, compareOfLessAndEq]
/-- A word and itself. -/
theorem order_self (c : Nat) : double.order c c = none ∨ double.order c c = some .eq := by
  unfold Format.order
  generalize double.read c = d
  cases d with
  | number s m i => exact Or.inr (by simp only [Datum.order, cmp_eq])
  | infinity s => exact Or.inr (by simp only [Datum.order, natcmp_eq])
  | nan s t => exact Or.inl (by simp only [Datum.order])
theorem order_nan (c : Nat) (s : Bool) (r : Nat) (h : 9218868437227405312 < r) (h2 : r < 9223372036854775808) : double.order (wd s r) c = none := by
  unfold Format.order
  rw [read_nan s r h h2]
  simp only [Datum.order]
theorem zero_wd : (0 : Nat) = wd false 0 := by rw [wd_false]
theorem order_zero (s : Bool) (a : Nat) (ha : a < 9218868437227405312) : double.order (wd s a) 0 = some (compare (key s a) 0) := by
  have h := order_key s false a 0 ha (by omega)
  rw [← zero_wd] at h
  exact h
theorem order_pos (a b : Nat) (ha : a < 9218868437227405312) (hb : b < 9218868437227405312) : double.order a b = some (compare (a : Int) (b : Int)) := by
  have h := order_key false false a b ha hb
  rw [wd_false, wd_false] at h
  exact h
/-- A finite word less itself. -/
theorem sub_self (s : Bool) (a : Nat) (ha : a < 9218868437227405312) : double.sub (wd s a) (wd s a) = some 0 := by
  unfold Format.sub
  rw [read_wd s a ha]
  simp only [Datum.opposite, Datum.sum, signed_key, Option.map_some, Format.write]
  have : key s (magR a * 2 ^ ((expR a : Int) - 1074 - min ((expR a : Int) - 1074) ((expR a : Int) - 1074)).toNat) + key (!s) (magR a * 2 ^ ((expR a : Int) - 1074 - min ((expR a : Int) - 1074) ((expR a : Int) - 1074)).toNat) = 0 := by
    cases s
    · simp only [Bool.not_false, key_false, key_true]; omega
    · simp only [Bool.not_true, key_false, key_true]; omega
  rw [this, if_pos rfl, Int.natAbs_zero, nearest_zero, word_wd]
  cases s
  · exact congrArg some (wd_false 0)
  · exact congrArg some (wd_false 0)
theorem sub_inf (s : Bool) : double.sub (wd s 9218868437227405312) (wd s 9218868437227405312) = none := by
  unfold Format.sub
  rw [read_inf]
  simp only [Datum.opposite, Datum.sum]
  cases s <;> simp
theorem sub_nan (c : Nat) (s : Bool) (r : Nat) (h : 9218868437227405312 < r) (h2 : r < 9223372036854775808) : double.sub (wd s r) c = none := by
  unfold Format.sub
  rw [read_nan s r h h2]
  simp only [Datum.sum, Option.map_none]

/-- A number above 0 and below 2 to the 53rd has few digits. -/
theorem norm_small {n : Nat} (h0 : n ≠ 0) (h : n < 9007199254740992) : ∃ M L, Norm n M L ∧ L ≤ 52 := by
  have a1 := Nat.log2_self_le h0
  have a2 := Nat.lt_log2_self (n := n)
  have hl : n.log2 < 53 := (Nat.pow_lt_pow_iff_right (by omega : 1 < 2)).1 (Nat.lt_of_le_of_lt a1 (by have : (2 : Nat) ^ 53 = 9007199254740992 := by decide
                                                                                                      omega))
  refine ⟨n * 2 ^ (52 - n.log2), n.log2, ⟨?_, a1, a2⟩, by omega⟩
  rw [Nat.mul_assoc, ← pow_split, show 52 - n.log2 + n.log2 = 52 by omega]
/-- The highest digit taken away. -/
theorem norm_less {n M L : Nat} (hN : Norm n M L) (h : n ≠ 2 ^ L) : ∃ M' L', Norm (n - 2 ^ L) M' L' ∧ L' < L ∧ (M - 4503599627370496) * 2 ^ L = (n - 2 ^ L) * 2 ^ 52 := by
  have hM1 := hN.M_le
  obtain ⟨h1, h2, h3⟩ := hN
  have h0 : n - 2 ^ L ≠ 0 := by omega
  have a1 := Nat.log2_self_le h0
  have a2 := Nat.lt_log2_self (n := n - 2 ^ L)
  have e : 2 ^ (L + 1) = 2 ^ L * 2 := Nat.pow_succ 2 L
  have hl : (n - 2 ^ L).log2 < L := (Nat.pow_lt_pow_iff_right (by omega : 1 < 2)).1 (Nat.lt_of_le_of_lt a1 (by omega))
  have hd : (M - 4503599627370496) * 2 ^ L = (n - 2 ^ L) * 2 ^ 52 := by
    rw [Nat.sub_mul, Nat.sub_mul, h1, Nat.mul_comm (2 ^ L)]
  refine ⟨(M - 4503599627370496) * 2 ^ (L - (n - 2 ^ L).log2), (n - 2 ^ L).log2, ⟨?_, a1, a2⟩, hl, hd⟩
  rw [Nat.mul_assoc, ← pow_split, show L - (n - 2 ^ L).log2 + (n - 2 ^ L).log2 = L by omega, hd]
theorem norm_pow (L : Nat) : Norm (2 ^ L) 4503599627370496 L := ⟨by rw [Nat.mul_comm], Nat.le_refl _, by rw [Nat.pow_succ]; have := Nat.two_pow_pos L; omega⟩
theorem norm_eq_pow {n M L : Nat} (hN : Norm n M L) : n = 2 ^ L ↔ M = 4503599627370496 := by
  obtain ⟨h1, h2, h3⟩ := hN
  constructor
  · intro h
    rw [h, Nat.mul_comm (2 ^ L)] at h1
    exact pow_cancel h1
  · intro h
    rw [h, Nat.mul_comm] at h1
    have h1' : 2 ^ L * 2 ^ 52 = n * 2 ^ 52 := h1
    exact (pow_cancel h1').symm

/-- One times a power of two. -/
theorem mul_one_pow (L : Nat) (hL : L ≤ 1023) : double.mul 4607182418800017408 (rungI 4503599627370496 L) = some (rungI 4503599627370496 L) := by
  have e1 : (4607182418800017408 : Nat) = wd false (rungI 4503599627370496 0) := by rw [wd_false]; rfl
  have e2 : rungI 4503599627370496 L = wd false (rungI 4503599627370496 L) := by rw [wd_false]
  unfold Format.mul
  rw [e1, read_word false (2 ^ 0) _ 0 (norm_pow 0) (by omega)]
  rw [show double.read (rungI 4503599627370496 L) = _ from (congrArg double.read e2).trans (read_word false (2 ^ L) _ L (norm_pow L) hL)]
  simp only [Datum.product, Option.map_some, Format.write]
  rw [nearest_norm _ _ _ (2 ^ L) 4503599627370496 L (norm_pow L) hL L 104 (by omega) (by rw [Nat.mul_comm]), word_wd]
  exact congrArg some (wd_false _)
/-- The highest digit taken away, of words. -/
theorem sub_top {n M L : Nat} (hN : Norm n M L) (hL : L ≤ 1023) (h : n ≠ 2 ^ L) {M' L' : Nat} (hN' : Norm (n - 2 ^ L) M' L') (hl : L' < L) (hd : (M - 4503599627370496) * 2 ^ L = (n - 2 ^ L) * 2 ^ 52) :
    double.sub (rungI M L) (rungI 4503599627370496 L) = some (rungI M' L') := by
  have hM1 := hN.M_le
  have hne : M ≠ 4503599627370496 := fun e => h ((norm_eq_pow hN).2 e)
  have r1 := read_word false n M L hN hL
  have r2 := read_word false (2 ^ L) 4503599627370496 L (norm_pow L) hL
  rw [wd_false] at r1 r2
  unfold Format.sub
  rw [r1, r2]
  simp only [Datum.opposite, Datum.sum, signed_key, Option.map_some, Format.write]
  have e0 : ((L : Int) - 52 - min ((L : Int) - 52) ((L : Int) - 52)).toNat = 0 := by omega
  rw [e0, Nat.pow_zero, Nat.mul_one, Nat.mul_one, Bool.not_false, key_false, key_true]
  have e1 : ¬ ((M : Int) + -((4503599627370496 : Nat) : Int) = 0) := by omega
  have e2 : decide ((M : Int) + -((4503599627370496 : Nat) : Int) < 0) = false := decide_eq_false (by omega)
  have e3 : ((M : Int) + -((4503599627370496 : Nat) : Int)).natAbs = M - 4503599627370496 := by omega
  have e4 : min ((L : Int) - 52) ((L : Int) - 52) = (L : Int) - 52 := by omega
  rw [if_neg e1, e2, e3, e4, nearest_norm false _ ((L : Int) - 52) (n - 2 ^ L) M' L' hN' (by omega) L 52 rfl hd, word_wd, wd_false]
theorem sub_pow (L : Nat) (hL : L ≤ 1023) : double.sub (rungI 4503599627370496 L) (rungI 4503599627370496 L) = some 0 := by
  have h := sub_self false (rungI 4503599627370496 L) (rungI_lt (by omega) hL)
  rw [wd_false] at h
  exact h
end Fl
end Go.Proofs.YtellndmbllmjgaaGreatDoor
/- Plain mathematics: a word made whole; a word below 0 brought above; a word as a number of 32 bits. -/
set_option linter.unusedVariables false
namespace Go.Proofs.YtellndmbllmjgaaGreatDoor
namespace Fl
open Ieee

/-- The whole number in a finite word. -/
def wholeR (a : Nat) : Nat := magR a * 2 ^ (expR a - 1074) / 2 ^ (1074 - expR a)
theorem magR_lt (a : Nat) : magR a < 9007199254740992 := by
  unfold magR
  by_cases h : a < 4503599627370496
  · rw [if_pos h]; omega
  · rw [if_neg h]; omega
theorem magR_ge {a : Nat} (h : expR a ≠ 0) : 4503599627370496 ≤ magR a := by
  unfold expR at h
  unfold magR
  rw [if_neg (by omega)]
  omega
theorem norm_whole (a : Nat) (ha : a < 9218868437227405312) (h0 : wholeR a ≠ 0) : ∃ M L, Norm (wholeR a) M L ∧ L ≤ 1023 := by
  rcases Nat.lt_or_ge (expR a) 1074 with h | h
  · have e1 : expR a - 1074 = 0 := by omega
    have hw : wholeR a < 9007199254740992 := by
      unfold wholeR
      rw [e1, Nat.pow_zero, Nat.mul_one]
      exact Nat.lt_of_le_of_lt (Nat.div_le_self _ _) (magR_lt a)
    obtain ⟨M, L, hN, hL⟩ := norm_small h0 hw
    exact ⟨M, L, hN, by omega⟩
  · obtain ⟨d, hd⟩ : ∃ d, expR a = 1074 + d := ⟨expR a - 1074, by omega⟩
    have hm := magR_ge (a := a) (by omega)
    have hm2 := magR_lt a
    have hw : wholeR a = magR a * 2 ^ d := by
      unfold wholeR
      rw [show expR a - 1074 = d by omega, show 1074 - expR a = 0 by omega, Nat.pow_zero, Nat.div_one]
    have hp := Nat.two_pow_pos d
    have hx : expR a ≤ 2045 := by unfold expR; omega
    refine ⟨magR a, 52 + d, ⟨?_, ?_, ?_⟩, by omega⟩
    · rw [hw, Nat.mul_assoc, ← pow_split, Nat.add_comm]
    · rw [hw, pow_split]
      exact Nat.mul_le_mul_right _ hm
    · rw [hw, show 52 + d + 1 = 53 + d by omega, pow_split]
      exact (Nat.mul_lt_mul_right hp).2 hm2
/-- **A finite word made whole, towards 0.** -/
theorem trunc_wd (s : Bool) (a : Nat) (ha : a < 9218868437227405312) : double.write ((double.read (wd s a)).integral .zero) = double.nearest s (wholeR a) 0 := by
  rw [read_wd s a ha]
  simp only [Datum.integral, Format.write, cut_toward_zero, Nat.shiftLeft_eq]
  have e1 : ((expR a : Int) - 1074).toNat = expR a - 1074 := by omega
  have e2 : (-((expR a : Int) - 1074)).toNat = 1074 - expR a := by omega
  rw [e1, e2]
  rfl
theorem nearest_whole {s : Bool} {n M L : Nat} (hN : Norm n M L) (hL : L ≤ 1023) : double.nearest s n 0 = wd s (rungI M L) := by
  rw [nearest_norm s n 0 n M L hN hL 0 0 rfl rfl, word_wd]
/-- The rung of 2 to the 32nd. -/
theorem y_eq : (4751297606875873280 : Nat) = rungI 4503599627370496 32 := by decide
theorem add_y {n M L : Nat} (hN : Norm n M L) (hL : L < 32) {M' L' : Nat} (hN' : Norm (4294967296 - n) M' L') (hL' : L' ≤ 52) : double.add (wd true (rungI M L)) 4751297606875873280 = some (rungI M' L') := by
  have hM2 := hN.M_lt
  have r1 := read_word true n M L hN (by omega)
  have r2 := read_word false (2 ^ 32) 4503599627370496 32 (norm_pow 32) (by omega)
  rw [wd_false, ← y_eq] at r2
  unfold Format.add
  rw [r1, r2]
  simp only [Datum.sum, signed_key, Option.map_some, Format.write]
  have e0 : ((L : Int) - 52 - min ((L : Int) - 52) (((32 : Nat) : Int) - 52)).toNat = 0 := by omega
  have e0' : ((((32 : Nat) : Int) - 52) - min ((L : Int) - 52) (((32 : Nat) : Int) - 52)).toNat = 32 - L := by omega
  rw [e0, e0', Nat.pow_zero, Nat.mul_one, key_false, key_true]
  have hge : 4503599627370496 * 2 ≤ 4503599627370496 * 2 ^ (32 - L) := Nat.mul_le_mul_left _ (by
    have : (2 : Nat) ^ 1 ≤ 2 ^ (32 - L) := Nat.pow_le_pow_right (by omega) (by omega)
    omega)
  generalize hT : 4503599627370496 * 2 ^ (32 - L) = T at *
  have hT2 : T * 2 ^ L = 4294967296 * 2 ^ 52 := by
    rw [← hT, Nat.mul_assoc, ← pow_split, show 32 - L + L = 32 by omega]
  have e1 : ¬ (-(M : Int) + (T : Int) = 0) := by omega
  have e2 : decide (-(M : Int) + (T : Int) < 0) = false := decide_eq_false (by omega)
  have e3 : (-(M : Int) + (T : Int)).natAbs = T - M := by omega
  have e4 : min ((L : Int) - 52) (((32 : Nat) : Int) - 52) = (L : Int) - 52 := by omega
  rw [if_neg e1, e2, e3, e4, nearest_norm false _ ((L : Int) - 52) (4294967296 - n) M' L' hN' (by omega) L 52 rfl ?_, word_wd, wd_false]
  rw [Nat.sub_mul, Nat.sub_mul, hT2, hN.1]
theorem decode_eq (b : Nat) : FloatKind.f64.decode b = double.read b := rfl
theorem toInt_zero_at (M n L : Nat) (hM : M = n * 2 ^ (52 - L)) (hL : L ≤ 52) : (Datum.number false M ((L : Int) - 52)).toInt .zero = some (n : Int) := by
  unfold Datum.toInt
  simp only [Datum.integral, cut_toward_zero, Nat.shiftLeft_eq]
  have e1 : ((L : Int) - 52).toNat = 0 := by omega
  have e2 : (-((L : Int) - 52)).toNat = 52 - L := by omega
  rw [e1, e2, Nat.pow_zero, Nat.mul_one, hM, Nat.mul_div_cancel _ (Nat.two_pow_pos _), signed_key, key_false, Nat.pow_zero, Nat.mul_one]
theorem u32_bounds {n : Nat} (hn : n < 4294967296) : IntKind.u32.min ≤ (n : Int) ∧ (n : Int) ≤ IntKind.u32.max := by
  have e1 : IntKind.u32.min = 0 := by decide
  have e2 : IntKind.u32.max = 4294967295 := by decide
  rw [e1, e2]
  omega
theorem norm_M {n M L : Nat} (hN : Norm n M L) (hL : L ≤ 52) : M = n * 2 ^ (52 - L) := by
  have h := hN.1
  have : n * 2 ^ 52 = n * 2 ^ (52 - L) * 2 ^ L := by rw [Nat.mul_assoc, ← pow_split, show 52 - L + L = 52 by omega]
  rw [this] at h
  exact pow_cancel h
theorem toIntVal_of (b : Nat) (n : Int) (k : IntKind) (h : (double.read b).toInt .zero = some n) (hb : k.min ≤ n ∧ n ≤ k.max) : floatToIntVal .f64 b k = some n := by
  unfold floatToIntVal
  rw [decode_eq, h]
  exact if_pos hb
/-- A whole word as a number of 32 bits. -/
theorem u32_word {n M L : Nat} (hN : Norm n M L) (hn : n < 4294967296) (hL : L ≤ 52) : floatToIntVal .f64 (rungI M L) .u32 = some (n : Int) := by
  have r1 := read_word false n M L hN (by omega)
  rw [wd_false] at r1
  exact toIntVal_of _ _ _ (by rw [r1]; exact toInt_zero_at M n L (norm_M hN hL) hL) (u32_bounds hn)
theorem u32_zero (s : Bool) : floatToIntVal .f64 (wd s 0) .u32 = some 0 := by
  cases s
  · rw [wd_false]; decide
  · rw [wd_true]; decide
end Fl
end Go.Proofs.YtellndmbllmjgaaGreatDoor
