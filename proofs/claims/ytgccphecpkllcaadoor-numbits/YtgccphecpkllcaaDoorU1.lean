/- The walk of Uint32. -/
import Derived.Test.YtgccphecpkllcaaDoorP1
set_option linter.unusedVariables false
namespace Go.Proofs.YtgccphecpkllcaaDoor
open Go.RowKit Go.Shelf Fl

theorem shl_u64 (m k : Nat) : IntKind.u64.wrap ((m : Int) * 2 ^ min k 64) = (((m * 2 ^ k) % 18446744073709551616 : Nat) : Int) := by
  have h : ((m : Int) * 2 ^ min k 64) = ((m * 2 ^ min k 64 : Nat) : Int) := by rw [Int.natCast_mul, Int.natCast_pow]; rfl
  rw [h, IntKind.wrap_u64]
  have : m * 2 ^ min k 64 % 18446744073709551616 = m * 2 ^ k % 18446744073709551616 := by
    rcases Nat.le_total k 64 with hk | hk
    · rw [Nat.min_eq_left hk]
    · rw [Nat.min_eq_right hk]
      obtain ⟨d, rfl⟩ : ∃ d, k = 64 + d := ⟨k - 64, by omega⟩
      have e : m * 2 ^ (64 + d) = 18446744073709551616 * (m * 2 ^ d) := by
        rw [pow_split, Nat.mul_left_comm]
      have e2 : m * 2 ^ 64 = 18446744073709551616 * m := by rw [Nat.mul_comm]
      rw [e, e2, Nat.mul_mod_right, Nat.mul_mod_right]
  omega
theorem shr_u64 (m k : Nat) (hm : m < 9007199254740992) : (m : Int) / 2 ^ min k 64 = ((m / 2 ^ k : Nat) : Int) := by
  rw [cdiv]
  rcases Nat.le_total k 64 with hk | hk
  · rw [Nat.min_eq_left hk]
  · rw [Nat.min_eq_right hk]
    have h1 : m < 2 ^ 64 := by omega
    have h2 : m < 2 ^ k := Nat.lt_of_lt_of_le h1 (Nat.pow_le_pow_right (by omega) hk)
    rw [Nat.div_eq_of_lt h1, Nat.div_eq_of_lt h2]
set_option maxRecDepth 100000 in
set_option maxHeartbeats 400000 in
theorem u32_up (x r m k : Nat) (s : Bool) (w : World) (hm : m < 9007199254740992) (hk : k ≤ 2000)
    (cf : Calls Tryd.prog 14 #[.float .f64 x] w fun e w' => e = .returned (.bool true) ∧ w' = w)
    (ca : Calls Tryd.prog 16 #[.float .f64 x] w fun e w' => e = .returned (.float .f64 r) ∧ w' = w)
    (cp : Calls Tryd.prog 15 #[.float .f64 r] w fun e w' => e = .returned (.tuple #[.int .u64 (m : Int), .int .i64 (k : Int)]) ∧ w' = w)
    (ho : (FloatKind.f64.format.order x 0 == some .lt) = s) :
    Calls Tryd.prog 8 #[.float .f64 x] w fun e w' => e = .returned (.int .u32 (key s (m * 2 ^ k) % 4294967296)) ∧ w' = w := by
  have hs := shl_u64 m k
  generalize m * 2 ^ k = T at *
  cases s
  all_goals
    go_enter Tryd.func8, Tryd.ntmps8
    go_wp2_with (first | (go_at_call 14; refine cf.mono ?_; rintro e w' ⟨rfl, rfl⟩) | (go_at_call 16; refine ca.mono ?_; rintro e w' ⟨rfl, rfl⟩) | (go_at_call 15; refine cp.mono ?_; rintro e w' ⟨rfl, rfl⟩) | go_in)
    go_ret
    refine ⟨?_, rfl⟩
    refine congrArg (fun z => Ending.returned (Value.int .u32 z)) ?_
    simp only [key_false, key_true, IntKind.wrap_u64]
    omega
set_option maxRecDepth 100000 in
set_option maxHeartbeats 400000 in
theorem u32_down (x r m k : Nat) (s : Bool) (w : World) (hm : m < 9007199254740992) (hk : k ≤ 2000) (hk0 : 0 < k)
    (cf : Calls Tryd.prog 14 #[.float .f64 x] w fun e w' => e = .returned (.bool true) ∧ w' = w)
    (ca : Calls Tryd.prog 16 #[.float .f64 x] w fun e w' => e = .returned (.float .f64 r) ∧ w' = w)
    (cp : Calls Tryd.prog 15 #[.float .f64 r] w fun e w' => e = .returned (.tuple #[.int .u64 (m : Int), .int .i64 (-(k : Int))]) ∧ w' = w)
    (ho : (FloatKind.f64.format.order x 0 == some .lt) = s) :
    Calls Tryd.prog 8 #[.float .f64 x] w fun e w' => e = .returned (.int .u32 (key s (m / 2 ^ k) % 4294967296)) ∧ w' = w := by
  have hs := shr_u64 m k hm
  have hT : m / 2 ^ k ≤ m := Nat.div_le_self _ _
  generalize m / 2 ^ k = T at *
  cases s
  all_goals
    go_enter Tryd.func8, Tryd.ntmps8
    go_wp2_with (first | (go_at_call 14; refine cf.mono ?_; rintro e w' ⟨rfl, rfl⟩) | (go_at_call 16; refine ca.mono ?_; rintro e w' ⟨rfl, rfl⟩) | (go_at_call 15; refine cp.mono ?_; rintro e w' ⟨rfl, rfl⟩) | go_in)
    go_ret
    refine ⟨?_, rfl⟩
    refine congrArg (fun z => Ending.returned (Value.int .u32 z)) ?_
    simp only [key_false, key_true, IntKind.wrap_u64]
    try omega
/-- A number's digits without the noughts behind. -/
theorem ctz_split (m : Nat) (h0 : m ≠ 0) (h : m < 18446744073709551616) : m = m / 2 ^ Lib.ctz 64 m * 2 ^ Lib.ctz 64 m := by
  have e : Lib.ctz 64 m = Lib.ctzFrom 64 m := by unfold Lib.ctz; rw [if_neg h0]
  obtain ⟨q, hq, _⟩ := Lib.ctzFrom_spec 64 m (by omega) h
  rw [← e] at hq
  have hp := Nat.two_pow_pos (Lib.ctz 64 m)
  generalize Lib.ctz 64 m = z at *
  have : m / 2 ^ z = 2 * q + 1 := by
    rw [hq, Nat.mul_div_cancel_left _ hp]
  rw [this, Nat.mul_comm]
  exact hq
theorem lt_zero (s : Bool) (r : Nat) (h : r < 9218868437227405312) : (FloatKind.f64.format.order (wd s r) 0 == some .lt) = (s && decide (r ≠ 0)) := by
  have h1 : FloatKind.f64.format.order (wd s r) 0 = some (compare (key s r) 0) := order_zero s r h
  rw [h1]
  cases s
  · rw [key_false, Bool.false_and]
    by_cases h0 : r = 0
    · subst h0; rfl
    · rw [cmp_gt (by omega)]; rfl
  · rw [key_true, Bool.true_and]
    by_cases h0 : r = 0
    · subst h0; rfl
    · rw [cmp_lt (by omega), decide_eq_true h0]; rfl
/-- **Uint32, of a finite word.** -/
theorem u32_num (s : Bool) (r : Nat) (h : r < 9218868437227405312) (w : World) (hT : TabAt 1 Lib.deBruijn64tab w) :
    Calls Tryd.prog 8 #[.float .f64 (wd s r)] w fun e w' => e = .returned (.int .u32 (key s (wholeR r) % 4294967296)) ∧ w' = w := by
  have cf := finite_num s r h w
  have ca := abs_any s r (by omega) w
  have ho := lt_zero s r h
  by_cases h0 : r = 0
  · subst h0
    have e0 : wholeR 0 = 0 := by
      have m0 : magR 0 = 0 := magR_zero.2 rfl
      unfold wholeR
      rw [m0, Nat.zero_mul, Nat.zero_div]
    have := u32_up _ 0 0 0 _ w (by omega) (by omega) cf ca (parts_zero w) ho
    rw [e0]
    refine this.mono ?_
    rintro e w' ⟨rfl, rfl⟩
    refine ⟨?_, rfl⟩
    cases s <;> rfl
  · rw [decide_eq_true h0, Bool.and_true] at ho
    have cp := parts_any r h0 h w hT
    have hm0 : magR r ≠ 0 := fun e => h0 (magR_zero.1 e)
    have hml := magR_lt r
    have hsp := ctz_split (magR r) hm0 (by omega)
    have hz := ctz_lt (magR r) hm0 (by omega)
    have hx : expR r ≤ 2045 := by unfold expR; omega
    have hle : magR r / 2 ^ Lib.ctz 64 (magR r) ≤ magR r := Nat.div_le_self _ _
    unfold wholeR
    generalize Lib.ctz 64 (magR r) = z at *
    generalize magR r / 2 ^ z = m at *
    rw [hsp]
    clear hsp hm0 h0
    by_cases he : 1074 ≤ expR r + z
    · obtain ⟨k, hk⟩ : ∃ k, k = expR r + z - 1074 := ⟨_, rfl⟩
      have e1 : (expR r : Int) - 1074 + (z : Int) = (k : Int) := by omega
      rw [e1] at cp
      have hv : m * 2 ^ z * 2 ^ (expR r - 1074) / 2 ^ (1074 - expR r) = m * 2 ^ k := by
        have : m * 2 ^ z * 2 ^ (expR r - 1074) = m * 2 ^ k * 2 ^ (1074 - expR r) := by
          rw [Nat.mul_assoc, ← pow_split, Nat.mul_assoc, ← pow_split, show z + (expR r - 1074) = k + (1074 - expR r) by omega]
        rw [this, Nat.mul_div_cancel _ (Nat.two_pow_pos _)]
      rw [hv]
      exact u32_up _ r m k s w (by omega) (by omega) cf ca cp ho
    · obtain ⟨k, hk⟩ : ∃ k, k = 1074 - (expR r + z) := ⟨_, rfl⟩
      have e1 : (expR r : Int) - 1074 + (z : Int) = -(k : Int) := by omega
      rw [e1] at cp
      have hv : m * 2 ^ z * 2 ^ (expR r - 1074) / 2 ^ (1074 - expR r) = m / 2 ^ k := by
        have e2 : expR r - 1074 = 0 := by omega
        have e3 : 1074 - expR r = k + z := by omega
        rw [e2, Nat.pow_zero, Nat.mul_one, e3, pow_split, Nat.mul_div_mul_right _ _ (Nat.two_pow_pos z)]
      rw [hv]
      exact u32_down _ r m k s w (by omega) (by omega) (by omega) cf ca cp ho
end Go.Proofs.YtgccphecpkllcaaDoor
