/- Plain mathematics: whole numbers as float64 words. -/
import Ieee.Arith
import Derived.Laws.FloatBits
set_option linter.unusedVariables false
namespace Go.Proofs.YtgccphecpkllcaaDoor
namespace Fl
open Ieee

theorem binade_eq : double.binade = 4503599627370496 := by decide
theorem sign_eq : double.signWeight = 9223372036854775808 := by decide
theorem inf_eq : double.infRung = 9218868437227405312 := by decide
theorem least_eq : double.leastPlace = -1074 := by decide

/-- n > 0 with L its highest bit's place, M its digits brought to 53. -/
def Norm (n M L : Nat) : Prop := M * 2 ^ L = n * 2 ^ 52 ∧ 2 ^ L ≤ n ∧ n < 2 ^ (L + 1)

theorem log2_of {n k : Nat} (h1 : 2 ^ k ≤ n) (h2 : n < 2 ^ (k + 1)) : n.log2 = k := by
  have h0 : n ≠ 0 := by
    intro e
    rw [e] at h1
    have := Nat.two_pow_pos k
    omega
  have a1 := Nat.log2_self_le h0
  have a2 := Nat.lt_log2_self (n := n)
  have b1 : k < n.log2 + 1 := (Nat.pow_lt_pow_iff_right (by omega : 1 < 2)).1 (Nat.lt_of_le_of_lt h1 a2)
  have b2 : n.log2 < k + 1 := (Nat.pow_lt_pow_iff_right (by omega : 1 < 2)).1 (Nat.lt_of_le_of_lt a1 h2)
  omega

theorem Norm.M_le {n M L : Nat} (h : Norm n M L) : 4503599627370496 ≤ M := by
  obtain ⟨h1, h2, _⟩ := h
  have hp := Nat.two_pow_pos L
  rcases Nat.lt_or_ge M 4503599627370496 with hlt | hge
  · have a : M * 2 ^ L < 4503599627370496 * 2 ^ L := (Nat.mul_lt_mul_right hp).2 hlt
    have b : 2 ^ L * 2 ^ 52 ≤ n * 2 ^ 52 := Nat.mul_le_mul_right _ h2
    rw [Nat.mul_comm (2 ^ L)] at b
    omega
  · exact hge
theorem Norm.M_lt {n M L : Nat} (h : Norm n M L) : M < 9007199254740992 := by
  obtain ⟨h1, _, h3⟩ := h
  have hp := Nat.two_pow_pos L
  rcases Nat.lt_or_ge M 9007199254740992 with hlt | hge
  · exact hlt
  · have a : 9007199254740992 * 2 ^ L ≤ M * 2 ^ L := Nat.mul_le_mul_right _ hge
    have b : n * 2 ^ 52 < 2 ^ (L + 1) * 2 ^ 52 := (Nat.mul_lt_mul_right (by decide)).2 h3
    have e : 2 ^ (L + 1) = 2 * 2 ^ L := by rw [Nat.pow_add, Nat.pow_one, Nat.mul_comm]
    rw [e] at b
    have e2 : 2 * 2 ^ L * 2 ^ 52 = 9007199254740992 * 2 ^ L := by
      rw [Nat.mul_right_comm]
    omega

theorem cut_zero_drop (neg : Bool) (m : Nat) : Toward.even.cut neg m 0 = m := by
  unfold Toward.cut
  simp [Nat.mod_one]
theorem cut_exact (neg : Bool) (M e : Nat) (hM : 0 < M) : Toward.even.cut neg (M * 2 ^ e) e = M := by
  have hp := Nat.two_pow_pos e
  have hle : e ≤ (M * 2 ^ e).log2 := by
    have h0 : M * 2 ^ e ≠ 0 := by
      have := Nat.mul_pos hM hp
      omega
    refine (Nat.le_log2 h0).2 ?_
    exact Nat.le_mul_of_pos_left _ hM
  unfold Toward.cut
  have hm : min e ((M * 2 ^ e).log2 + 2) = e := by omega
  rw [hm]
  simp only [Nat.shiftLeft_eq, Nat.one_mul, Nat.mul_div_cancel _ hp, Nat.mul_mod_left]
  have h1 : ¬ (2 ^ e < 2 * 0) := by omega
  have h2 : (2 ^ e == 2 * 0) = false := by simp
  simp [h2]
/-- The digits cut off towards zero. -/
theorem cut_toward_zero (neg : Bool) (n d : Nat) : Toward.zero.cut neg n d = n / 2 ^ d := by
  unfold Toward.cut
  simp only [Nat.shiftLeft_eq, Nat.one_mul, Bool.toNat_false, Nat.add_zero]
  rcases Nat.le_total d (n.log2 + 2) with h | h
  · rw [Nat.min_eq_left h]
  · rw [Nat.min_eq_right h]
    have a := Nat.lt_log2_self (n := n)
    have h1 : n < 2 ^ (n.log2 + 2) := Nat.lt_of_lt_of_le a (Nat.pow_le_pow_right (by omega) (by omega))
    have h2 : n < 2 ^ d := Nat.lt_of_lt_of_le h1 (Nat.pow_le_pow_right (by omega) h)
    rw [Nat.div_eq_of_lt h1, Nat.div_eq_of_lt h2]

theorem pow_cancel {a b k : Nat} (h : a * 2 ^ k = b * 2 ^ k) : a = b := Nat.eq_of_mul_eq_mul_right (Nat.two_pow_pos k) h

end Fl
end Go.Proofs.YtgccphecpkllcaaDoor
