/- The walks of Abs, IsInf, IsNaN, normalize, Ldexp. -/
import Derived.Test.YtellndmbllmjgaaGreatDoorBnB
import Derived.Test.YtellndmbllmjgaaGreatDoorLg
import Derived.Test.YtellndmbllmjgaaGreatDoorRt
import Derived.Laws.BitsAllLaws
import Derived.Laws.Bits64b
set_option linter.unusedVariables false
namespace Go.Proofs.YtellndmbllmjgaaGreatDoor
open Go.RowKit Go.Shelf Go.Sort Fs Fl

theorem Tryz.frombits7 (x : Int) (w : World) : (callFunc 7 #[.int .u64 x]).run Tryz.prog w = .ok (.value (.float .f64 x.toNat)) w := by
  rw [run_callFunc_extern (P := Tryz.prog) (f := 7) (e := Extern.MathFloatBits.float64frombits) Tryz.func7 (by kernel_rfl) (by kernel_rfl) (by kernel_rfl) (by kernel_rfl)]
  rfl
theorem Tryz.tobits103 (b : Nat) (w : World) : (callFunc 103 #[.float .f64 b]).run Tryz.prog w = .ok (.value (.int .u64 b)) w := by
  rw [run_callFunc_extern (P := Tryz.prog) (f := 103) (e := Extern.MathFloatBits.float64bits) Tryz.func103 (by kernel_rfl) (by kernel_rfl) (by kernel_rfl) (by kernel_rfl)]
  rfl
theorem ord_lt {a b : Nat} (ha : a < 9218868437227405312) (hb : b < 9218868437227405312) (h : a < b) : FloatKind.f64.format.order a b = some .lt := by
  have h1 : FloatKind.f64.format.order a b = some (compare (a : Int) (b : Int)) := order_pos a b ha hb
  rw [h1, cmp_lt (by omega)]
theorem ord_gt {a b : Nat} (ha : a < 9218868437227405312) (hb : b < 9218868437227405312) (h : b < a) : FloatKind.f64.format.order a b = some .gt := by
  have h1 : FloatKind.f64.format.order a b = some (compare (a : Int) (b : Int)) := order_pos a b ha hb
  rw [h1, cmp_gt (by omega)]
theorem ord_eq {a : Nat} (ha : a < 9218868437227405312) : FloatKind.f64.format.order a a = some .eq := by
  have h1 : FloatKind.f64.format.order a a = some (compare (a : Int) (a : Int)) := order_pos a a ha ha
  rw [h1, cmp_eq]
theorem not_gt {a b : Nat} (ha : a < 9218868437227405312) (hb : b < 9218868437227405312) (h : a ≤ b) : (FloatKind.f64.format.order a b == some .gt) = false := by
  rcases Nat.lt_or_eq_of_le h with h1 | h1
  · rw [ord_lt ha hb h1]; rfl
  · rw [h1, ord_eq hb]; rfl
theorem not_lt {a b : Nat} (ha : a < 9218868437227405312) (hb : b < 9218868437227405312) (h : b ≤ a) : (FloatKind.f64.format.order a b == some .lt) = false := by
  rcases Nat.lt_or_eq_of_le h with h1 | h1
  · rw [ord_gt ha hb h1]; rfl
  · rw [h1, ord_eq ha]; rfl
theorem abs_bits (r : Nat) (h : r < 9223372036854775808) : bits .andNot .u64 (r : Int) 9223372036854775808 = (r : Int) := by
  refine (u64_andNot_nat r 9223372036854775808 (by omega) (by omega)).trans ?_
  have e : r &&& (2 ^ 63 - 1) = r % 2 ^ 63 := Nat.and_two_pow_sub_one_eq_mod _ _
  have e2 : r % 2 ^ 63 = r := Nat.mod_eq_of_lt h
  rw [e2] at e
  exact congrArg Int.ofNat e
/-- Abs, of what is not below 0. -/
theorem abs_pos (r : Nat) (h : r < 9223372036854775808) (w : World) : Calls Tryz.prog 71 #[.float .f64 r] w fun e w' => e = .returned (.float .f64 r) ∧ w' = w := by
  have h1 := abs_bits r h
  have x1 := Tryz.tobits103 r
  have x2 := Tryz.frombits7 (r : Int)
  rw [Int.toNat_natCast] at x2
  clear h
  go_enter Tryz.func71, Tryz.ntmps71
  go_wp2
  go_ret
  exact ⟨rfl, rfl⟩
theorem isNaN_any (x : Nat) (w : World) : Calls Tryz.prog 232 #[.float .f64 x] w fun e w' => e = .returned (.bool (FloatKind.f64.format.order x x != some .eq)) ∧ w' = w := by
  go_enter Tryz.func232, Tryz.ntmps232
  go_wp2
  go_ret
  exact ⟨rfl, rfl⟩
theorem isInf_pos (r : Nat) (h : r < 9223372036854775808) (w : World) : Calls Tryz.prog 25 #[.float .f64 r, .int .i64 0] w fun e w' => e = .returned (.bool (FloatKind.f64.format.order r 9218868437227405311 == some .gt)) ∧ w' = w := by
  have ca := abs_pos r h
  clear h
  go_enter Tryz.func25, Tryz.ntmps25
  go_wp2_with (first | (go_at_call 71; refine (ca _).mono ?_; rintro e w' ⟨rfl, rfl⟩) | go_in)
  go_ret
  exact ⟨rfl, rfl⟩
set_option maxRecDepth 100000 in
theorem normalize_any (r : Nat) (h1 : 4503599627370496 ≤ r) (h2 : r < 9218868437227405312) (w : World) : Calls Tryz.prog 237 #[.float .f64 r] w fun e w' => e = .returned (.tuple #[.float .f64 r, .int .i64 0]) ∧ w' = w := by
  have ca := abs_pos r (by omega)
  have ho := not_lt h2 (b := 4503599627370496) (by omega) h1
  clear h1 h2
  go_enter Tryz.func237, Tryz.ntmps237
  go_wp2_with (first | (go_at_call 71; refine (ca _).mono ?_; rintro e w' ⟨rfl, rfl⟩) | go_in)
  go_ret2
  exact ⟨rfl, rfl⟩
theorem strip_exp (f q : Nat) (hf : f < 4503599627370496) (hq : q < 2048) : bits .andNot .u64 ((q * 4503599627370496 + f : Nat) : Int) 9218868437227405312 = (f : Int) := by
  have hx : q * 4503599627370496 + f < 9223372036854775808 := by omega
  refine (u64_andNot_nat (q * 4503599627370496 + f) 9218868437227405312 (by omega) (by omega)).trans ?_
  generalize hX : q * 4503599627370496 + f = x at *
  have e1 : x &&& (2 ^ 63 - 1) = x % 2 ^ 63 := Nat.and_two_pow_sub_one_eq_mod _ _
  have e2 : x % 2 ^ 63 = x := Nat.mod_eq_of_lt hx
  have e3 : x &&& (2 ^ 52 - 1) = x % 2 ^ 52 := Nat.and_two_pow_sub_one_eq_mod _ _
  have e4 : x % 2 ^ 52 = f := by omega
  have e5 : (9223372036854775807 : Nat) &&& (18446744073709551615 - 9218868437227405312) = 4503599627370495 := by decide
  have e6 : x &&& (18446744073709551615 - 9218868437227405312) = f := by
    have : x = x &&& 9223372036854775807 := (e1.trans e2).symm
    rw [this, Nat.and_assoc, e5]
    exact e3.trans e4
  exact congrArg Int.ofNat e6
theorem put_exp (f q : Nat) (hf : f < 4503599627370496) (hq : q < 2048) : bits .or .u64 (f : Int) ((q * 4503599627370496 : Nat) : Int) = ((q * 4503599627370496 + f : Nat) : Int) := by
  refine (bits_or_u64_nat f (q * 4503599627370496) (by omega) (by omega)).trans ?_
  have e : 2 ^ 52 * q + f = 2 ^ 52 * q ||| f := Nat.two_pow_add_eq_or_of_lt hf q
  rw [Nat.or_comm] at e
  have e2 : 2 ^ 52 * q = q * 4503599627370496 := Nat.mul_comm _ _
  rw [e2] at e
  exact congrArg Int.ofNat e.symm
theorem and_all : (List.range 2048).all (fun q => bits .and .i64 (q : Int) 2047 == (q : Int)) = true := by decide +kernel
theorem and_11 (q : Nat) (h : q < 2048) : bits .and .i64 (q : Int) 2047 = (q : Int) := by
  have := and_all
  rw [List.all_eq_true] at this
  exact beq_iff_eq.1 (this q (List.mem_range.2 h))
namespace Fl2
open Ieee
/-- **The word nearest to what is a word's own number is that word.** -/
theorem nearest_exact (s : Bool) (mag e d r : Nat) (hr : r < 9218868437227405312) (h : mag * e2 e = valR r * e2 d) : double.nearest s mag ((e : Int) - (d + 1074 : Nat)) = wd s r := by
  unfold e2 at h
  by_cases h0 : mag = 0
  · have hv : valR r = 0 := by
      rw [h0, Nat.zero_mul] at h
      rcases Nat.mul_eq_zero.1 h.symm with h1 | h1
      · exact h1
      · have := Nat.two_pow_pos d; omega
    rw [h0, nearest_zero, word_wd, valR_zero.1 hv]
  · have hm0 : magR r ≠ 0 := by
      intro hm
      unfold valR at h
      rw [hm, Nat.zero_mul, Nat.zero_mul] at h
      rcases Nat.mul_eq_zero.1 h with h1 | h1
      · exact h0 h1
      · have := Nat.two_pow_pos e; omega
    unfold valR at h
    rw [Nat.mul_assoc, ← Nat.pow_add] at h
    have hlog : mag.log2 + e = (magR r).log2 + (expR r + d) := by
      have l1 : (mag * 2 ^ e).log2 = mag.log2 + e := log2_of (by rw [Nat.pow_add]; exact Nat.mul_le_mul_right _ (Nat.log2_self_le h0)) (by rw [show mag.log2 + e + 1 = (mag.log2 + 1) + e by omega, Nat.pow_add]; exact (Nat.mul_lt_mul_right (Nat.two_pow_pos e)).2 Nat.lt_log2_self)
      have l2 : ∀ D, (magR r * 2 ^ D).log2 = (magR r).log2 + D := fun D => log2_of (by rw [Nat.pow_add]; exact Nat.mul_le_mul_right _ (Nat.log2_self_le hm0)) (by rw [show (magR r).log2 + D + 1 = ((magR r).log2 + 1) + D by omega, Nat.pow_add]; exact (Nat.mul_lt_mul_right (Nat.two_pow_pos _)).2 Nat.lt_log2_self)
      rw [h, l2] at l1
      omega
    have hlr : (magR r).log2 ≤ 52 ∧ (expR r ≠ 0 → (magR r).log2 = 52) := by
      have hl := magR_lt r
      refine ⟨?_, fun hne => ?_⟩
      · have : (magR r).log2 < 53 := (Nat.log2_lt hm0).2 (by have : (2:Nat)^53 = 9007199254740992 := by decide
                                                             omega)
        omega
      · exact log2_of (by have := magR_ge hne; have h52 : (2:Nat)^52 = 4503599627370496 := by decide
                          omega) (by have h53 : (2:Nat)^(52+1) = 9007199254740992 := by decide
                                     omega)
    have hlast : max ((e : Int) - (d + 1074 : Nat) + (mag.log2 : Int) - 52) (-1074) = (expR r : Int) - 1074 := by
      by_cases hne : expR r = 0
      · have := hlr.1; omega
      · have := hlr.2 hne; omega
    have hkept : Toward.even.cut s (mag <<< ((e : Int) - (d + 1074 : Nat) - ((expR r : Int) - 1074)).toNat) ((expR r : Int) - 1074 - ((e : Int) - (d + 1074 : Nat))).toNat = magR r := by
      rcases Nat.le_total (expR r + d) e with hle | hle
      · obtain ⟨t, ht⟩ : ∃ t, e = t + (expR r + d) := ⟨e - (expR r + d), by omega⟩
        have e1 : ((e : Int) - (d + 1074 : Nat) - ((expR r : Int) - 1074)).toNat = t := by omega
        have e2 : ((expR r : Int) - 1074 - ((e : Int) - (d + 1074 : Nat))).toNat = 0 := by omega
        rw [e1, e2, cut_zero_drop, Nat.shiftLeft_eq]
        rw [ht, Nat.pow_add, ← Nat.mul_assoc] at h
        exact pow_cancel h
      · obtain ⟨t, ht⟩ : ∃ t, expR r + d = t + e := ⟨expR r + d - e, by omega⟩
        have e1 : ((e : Int) - (d + 1074 : Nat) - ((expR r : Int) - 1074)).toNat = 0 := by omega
        have e2 : ((expR r : Int) - 1074 - ((e : Int) - (d + 1074 : Nat))).toNat = t := by omega
        rw [ht, Nat.pow_add, ← Nat.mul_assoc] at h
        have hm := pow_cancel h
        rw [e1, e2, Nat.shiftLeft_eq, Nat.pow_zero, Nat.mul_one, hm]
        exact cut_exact s (magR r) t (by omega)
    rw [nearest_at s mag _ _ _ h0 hlast hkept, word_wd]
    have e3 : ((expR r : Int) - 1074 - -1074).toNat = expR r := by omega
    have e4 : expR r * 4503599627370496 + magR r = r := by
      obtain ⟨a, n, rfl, h1, h2⟩ := r_split r
      rw [magR_at h1 h2, expR_at h1 h2]
    rw [e3, e4, Nat.min_eq_left (Nat.le_of_lt hr)]
theorem mul_pow (k r r' : Nat) (hk : 1 ≤ k) (hk2 : k < 2047) (hr : r < 9218868437227405312) (hr' : r' < 9218868437227405312) (h : valR r * e2 (k + 51) = valR r' * e2 1074) : double.mul (k * 4503599627370496) r = some r' := by
  have hm : magR (k * 4503599627370496) = 4503599627370496 := by unfold magR; rw [if_neg (by omega)]; omega
  have he : expR (k * 4503599627370496) = k - 1 := by unfold expR; omega
  have hv : magR r * 2 ^ expR r = valR r := rfl
  have e0 : 4503599627370496 * magR r * e2 (k - 1 + expR r) = valR r' * e2 1074 := by
    rw [← h, e2_add, show k + 51 = 52 + (k - 1) by omega, e2_add 52, ← hv]
    have : e2 52 = 4503599627370496 := by decide
    rw [this]
    generalize e2 (k - 1) = x
    change 4503599627370496 * magR r * (x * 2 ^ expR r) = _
    grind
  have hn := nearest_exact (false ^^ false) (4503599627370496 * magR r) (k - 1 + expR r) 1074 r' hr' e0
  unfold Format.mul
  have r1 : double.read (k * 4503599627370496) = double.read (wd false (k * 4503599627370496)) := by rw [wd_false]
  have r2 : double.read r = double.read (wd false r) := by rw [wd_false]
  rw [r1, r2, read_wd false _ (by omega), read_wd false _ hr, hm, he]
  simp only [Datum.product, Option.map_some, Format.write]
  rw [show (((k - 1 : Nat) : Int) - 1074 + ((expR r : Int) - 1074)) = ((k - 1 + expR r : Nat) : Int) - ((1074 + 1074 : Nat) : Int) by omega, hn, Bool.xor_false, wd_false]
end Fl2
end Go.Proofs.YtellndmbllmjgaaGreatDoor
