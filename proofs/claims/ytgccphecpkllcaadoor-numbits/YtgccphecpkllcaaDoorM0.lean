/- A word's sign turned. -/
import Derived.Test.YtgccphecpkllcaaDoorF1
set_option linter.unusedVariables false
namespace Go.Proofs.YtgccphecpkllcaaDoor
open Go.RowKit Go.Shelf Fl
theorem xor_top (r : Nat) (h : r < 2 ^ 63) : r ^^^ 2 ^ 63 = 2 ^ 63 + r := by
  apply Nat.eq_of_testBit_eq
  intro i
  rw [Nat.testBit_xor, Nat.testBit_two_pow]
  rcases Nat.lt_trichotomy i 63 with hi | hi | hi
  · rw [Nat.testBit_two_pow_add_gt hi, decide_eq_false (by omega), Bool.xor_false]
  · subst hi
    rw [Nat.testBit_two_pow_add_eq, decide_eq_true rfl, Bool.xor_true]
  · have h1 : r < 2 ^ i := Nat.lt_of_lt_of_le h (Nat.pow_le_pow_right (by omega) (by omega))
    have h2 : 2 ^ 63 + r < 2 ^ i := Nat.lt_of_lt_of_le (by omega : 2 ^ 63 + r < 2 ^ 64) (Nat.pow_le_pow_right (by omega) (by omega))
    rw [Nat.testBit_lt_two_pow h1, Nat.testBit_lt_two_pow h2, decide_eq_false (by omega)]
    rfl
theorem neg_wd (s : Bool) (r : Nat) (h : r < 9223372036854775808) : Go.Op.negFloat .f64 (wd s r) = wd (!s) r := by
  have e : Go.Op.negFloat .f64 (wd s r) = wd s r ^^^ 2 ^ 63 := rfl
  rw [e]
  have hx := xor_top r h
  cases s
  · rw [wd_false, hx, Bool.not_false, wd_true]
  · have h2 : wd true r = r ^^^ 2 ^ 63 := by rw [hx, wd_true]
    rw [h2, Nat.xor_assoc, Nat.xor_self, Nat.xor_zero, Bool.not_true, wd_false]
theorem run_neg (s : Bool) (r : Nat) (h : r < 9223372036854775808) (w : World) : (Go.Op.unary .neg (.float .f64 (wd s r))).run Tryd.prog w = .ok (.float .f64 (wd (!s) r)) w := by
  have : Go.Op.unary .neg (.float .f64 (wd s r)) = pure (.float .f64 (Go.Op.negFloat .f64 (wd s r))) := rfl
  rw [this, neg_wd s r h]
  rfl
/-- A whole number's rung. -/
def Wd (n r : Nat) : Prop := (n = 0 ∧ r = 0) ∨ ∃ M L, Norm n M L ∧ L ≤ 1023 ∧ r = rungI M L
theorem Wd.lt {n r : Nat} (h : Wd n r) : r < 9218868437227405312 := by
  rcases h with ⟨_, rfl⟩ | ⟨M, L, hN, hL, rfl⟩
  · omega
  · exact rungI_lt hN.M_lt hL
theorem Wd.zero {n r : Nat} (h : Wd n r) : r = 0 ↔ n = 0 := by
  rcases h with ⟨rfl, rfl⟩ | ⟨M, L, hN, hL, rfl⟩
  · simp
  · have h1 := rungI_ge (L := L) hN.M_le
    have h2 := Nat.lt_of_lt_of_le (Nat.two_pow_pos L) hN.2.1
    omega
theorem Wd.big {n r : Nat} (h : Wd n r) : 4751297606875873280 ≤ r ↔ 4294967296 ≤ n := by
  rcases h with ⟨rfl, rfl⟩ | ⟨M, L, hN, hL, rfl⟩
  · omega
  · have h1 := hN.M_le
    have h2 := hN.M_lt
    have h3 := hN.2.1
    have h4 := hN.2.2
    have key : 32 ≤ L ↔ 4294967296 ≤ n := by
      constructor
      · intro h
        have : (2 : Nat) ^ 32 ≤ 2 ^ L := Nat.pow_le_pow_right (by omega) h
        omega
      · intro h
        rcases Nat.lt_or_ge L 32 with h5 | h5
        · have : (2 : Nat) ^ (L + 1) ≤ 2 ^ 32 := Nat.pow_le_pow_right (by omega) (by omega)
          omega
        · exact h5
    rw [← key]
    unfold rungI
    omega
end Go.Proofs.YtgccphecpkllcaaDoor
