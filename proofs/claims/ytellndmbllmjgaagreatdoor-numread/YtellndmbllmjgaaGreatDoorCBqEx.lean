/- The walk of Uint32. -/
import Derived.Test.YtellndmbllmjgaaGreatDoorCWh4x
import Derived.RegionTactic
set_option linter.unusedVariables false
namespace Go.Proofs.YtellndmbllmjgaaGreatDoor.Nq
open Go.RowKit Go.Shelf Fl

theorem shl_u64 (m k : Nat) : IntKind.u64.wrap ((m : Int) * 2 ^ min k 64) = (((m * 2 ^ k) % 18446744073709551616 : Nat) : Int) := by
  have h : ((m : Int) * 2 ^ min k 64) = ((m * 2 ^ min k 64 : Nat) : Int) := by rw [Int.natCast_mul, Int.natCast_pow]; rfl
  rw [h, IntKind.wrap_u64]
  have : m * 2 ^ min k 64 % 18446744073709551616 = m * 2 ^ k % 18446744073709551616 := by
    rcases Nat.le_total k 64 with hk | hk
    · rw [Nat.min_eq_left hk]
    · rw [Nat.min_eq_right hk]
      obtain ⟨d, rfl⟩ : ∃ d, k = 64 + d := ⟨k - 64, by omega⟩
      have e : m * 2 ^ (64 + d) = 18446744073709551616 * (m * 2 ^ d) := by
        rw [pow_split, Nat.mul_left_comm]
      have e2 : m * 2 ^ 64 = 18446744073709551616 * m := by rw [Nat.mul_comm]
      rw [e, e2, Nat.mul_mod_right, Nat.mul_mod_right]
  omega
theorem shr_u64 (m k : Nat) (hm : m < 9007199254740992) : (m : Int) / 2 ^ min k 64 = ((m / 2 ^ k : Nat) : Int) := by
  rw [cdiv]
  rcases Nat.le_total k 64 with hk | hk
  · rw [Nat.min_eq_left hk]
  · rw [Nat.min_eq_right hk]
    have h1 : m < 2 ^ 64 := by omega
    have h2 : m < 2 ^ k := Nat.lt_of_lt_of_le h1 (Nat.pow_le_pow_right (by omega) hk)
    rw [Nat.div_eq_of_lt h1, Nat.div_eq_of_lt h2]
set_option maxRecDepth 100000 in
set_option maxHeartbeats 400000 in
theorem u32_up (x r m k : Nat) (s : Bool) (w : World) (hm : m < 9007199254740992) (hk : k ≤ 2000)
    (cf : Calls Tryz.prog 109 #[.float .f64 x] w fun e w' => e = .returned (.bool true) ∧ w' = w)
    (ca : Calls Tryz.prog 71 #[.float .f64 x] w fun e w' => e = .returned (.float .f64 r) ∧ w' = w)
    (cp : Calls Tryz.prog 111 #[.float .f64 r] w fun e w' => e = .returned (.tuple #[.int .u64 (m : Int), .int .i64 (k : Int)]) ∧ w' = w)
    (ho : (FloatKind.f64.format.order x 0 == some .lt) = s) :
    Calls Tryz.prog 104 #[.float .f64 x] w fun e w' => e = .returned (.int .u32 (key s (m * 2 ^ k) % 4294967296)) ∧ w' = w := by
  have hs := shl_u64 m k
  generalize m * 2 ^ k = T at *
  cases s
  all_goals
    go_enter Tryz.func104, Tryz.ntmps104
    go_wp2_with (first | (go_at_call 109; refine cf.mono ?_; rintro e w' ⟨rfl, rfl⟩) | (go_at_call 71; refine ca.mono ?_; rintro e w' ⟨rfl, rfl⟩) | (go_at_call 111; refine cp.mono ?_; rintro e w' ⟨rfl, rfl⟩) | go_in)
    go_ret
    refine ⟨?_, rfl⟩
    refine congrArg (fun z => Ending.returned (Value.int .u32 z)) ?_
    simp only [key_false, key_true, IntKind.wrap_u64]
    omega
set_option maxRecDepth 100000 in
set_option maxHeartbeats 400000 in
theorem u32_down (x r m k : Nat) (s : Bool) (w : World) (hm : m < 9007199254740992) (hk : k ≤ 2000) (hk0 : 0 < k)
    (cf : Calls Tryz.prog 109 #[.float .f64 x] w fun e w' => e = .returned (.bool true) ∧ w' = w)
    (ca : Calls Tryz.prog 71 #[.float .f64 x] w fun e w' => e = .returned (.float .f64 r) ∧ w' = w)
    (cp : Calls Tryz.prog 111 #[.float .f64 r] w fun e w' => e = .returned (.tuple #[.int .u64 (m : Int), .int .i64 (-(k : Int))]) ∧ w' = w)
    (ho : (FloatKind.f64.format.order x 0 == some .lt) = s) :
    Calls Tryz.prog 104 #[.float .f64 x] w fun e w' => e = .returned (.int .u32 (key s (m / 2 ^ k) % 4294967296)) ∧ w' = w := by
  have hs := shr_u64 m k hm
  have hT : m / 2 ^ k ≤ m := Nat.div_le_self _ _
  generalize m / 2 ^ k = T at *
  cases s
  all_goals
    go_enter Tryz.func104, Tryz.ntmps104
    go_wp2_with (first | (go_at_call 109; refine cf.mono ?_; rintro e w' ⟨rfl, rfl⟩) | (go_at_call 71; refine ca.mono ?_; rintro e w' ⟨rfl, rfl⟩) | (go_at_call 111; refine cp.mono ?_; rintro e w' ⟨rfl, rfl⟩) | go_in)
    go_ret
    refine ⟨?_, rfl⟩
    refine congrArg (fun z => Ending.returned (Value.int .u32 z)) ?_
    simp only [key_false, key_true, IntKind.wrap_u64]
    try omega
/-- A number's digits without the noughts behind. -/
theorem ctz_split (m : Nat) (h0 : m ≠ 0) (h : m < 18446744073709551616) : m = m / 2 ^ Lib.ctz 64 m * 2 ^ Lib.ctz 64 m := by
  have e : Lib.ctz 64 m = Lib.ctzFrom 64 m := by unfold Lib.ctz; rw [if_neg h0]
  obtain ⟨q, hq, _⟩ := Lib.ctzFrom_spec 64 m (by omega) h
  rw [← e] at hq
  have hp := Nat.two_pow_pos (Lib.ctz 64 m)
  generalize Lib.ctz 64 m = z at *
  have : m / 2 ^ z = 2 * q + 1 := by
    rw [hq, Nat.mul_div_cancel_left _ hp]
  rw [this, Nat.mul_comm]
  exact hq
theorem lt_zero (s : Bool) (r : Nat) (h : r < 9218868437227405312) : (FloatKind.f64.format.order (wd s r) 0 == some .lt) = (s && decide (r ≠ 0)) := by
  have h1 : FloatKind.f64.format.order (wd s r) 0 = some (compare (key s r) 0) := order_zero s r h
  rw [h1]
  cases s
  · rw [key_false, Bool.false_and]
    by_cases h0 : r = 0
    · subst h0; rfl
    · rw [cmp_gt (by omega)]; rfl
  · rw [key_true, Bool.true_and]
    by_cases h0 : r = 0
    · subst h0; rfl
    · rw [cmp_lt (by omega), decide_eq_true h0]; rfl
/-- **Uint32, of a finite word.** -/
theorem u32_num (s : Bool) (r : Nat) (h : r < 9218868437227405312) (w : World) (hT : TabAt 4 Lib.deBruijn64tab w) :
    Calls Tryz.prog 104 #[.float .f64 (wd s r)] w fun e w' => e = .returned (.int .u32 (key s (wholeR r) % 4294967296)) ∧ w' = w := by
  have cf := finite_num s r h w
  have ca := abs_any s r (by omega) w
  have ho := lt_zero s r h
  by_cases h0 : r = 0
  · subst h0
    have e0 : wholeR 0 = 0 := by
      have m0 : magR 0 = 0 := magR_zero.2 rfl
      unfold wholeR
      rw [m0, Nat.zero_mul, Nat.zero_div]
    have := u32_up _ 0 0 0 _ w (by omega) (by omega) cf ca (parts_zero w) ho
    rw [e0]
    refine this.mono ?_
    rintro e w' ⟨rfl, rfl⟩
    refine ⟨?_, rfl⟩
    cases s <;> rfl
  · rw [decide_eq_true h0, Bool.and_true] at ho
    have cp := parts_any r h0 h w hT
    have hm0 : magR r ≠ 0 := fun e => h0 (magR_zero.1 e)
    have hml := magR_lt r
    have hsp := ctz_split (magR r) hm0 (by omega)
    have hz := ctz_lt (magR r) hm0 (by omega)
    have hx : expR r ≤ 2045 := by unfold expR; omega
    have hle : magR r / 2 ^ Lib.ctz 64 (magR r) ≤ magR r := Nat.div_le_self _ _
    unfold wholeR
    generalize Lib.ctz 64 (magR r) = z at *
    generalize magR r / 2 ^ z = m at *
    rw [hsp]
    clear hsp hm0 h0
    by_cases he : 1074 ≤ expR r + z
    · obtain ⟨k, hk⟩ : ∃ k, k = expR r + z - 1074 := ⟨_, rfl⟩
      have e1 : (expR r : Int) - 1074 + (z : Int) = (k : Int) := by omega
      rw [e1] at cp
      have hv : m * 2 ^ z * 2 ^ (expR r - 1074) / 2 ^ (1074 - expR r) = m * 2 ^ k := by
        have : m * 2 ^ z * 2 ^ (expR r - 1074) = m * 2 ^ k * 2 ^ (1074 - expR r) := by
          rw [Nat.mul_assoc, ← pow_split, Nat.mul_assoc, ← pow_split, show z + (expR r - 1074) = k + (1074 - expR r) by omega]
        rw [this, Nat.mul_div_cancel _ (Nat.two_pow_pos _)]
      rw [hv]
      exact u32_up _ r m k s w (by omega) (by omega) cf ca cp ho
    · obtain ⟨k, hk⟩ : ∃ k, k = 1074 - (expR r + z) := ⟨_, rfl⟩
      have e1 : (expR r : Int) - 1074 + (z : Int) = -(k : Int) := by omega
      rw [e1] at cp
      have hv : m * 2 ^ z * 2 ^ (expR r - 1074) / 2 ^ (1074 - expR r) = m / 2 ^ k := by
        have e2 : expR r - 1074 = 0 := by omega
        have e3 : 1074 - expR r = k + z := by omega
        rw [e2, Nat.pow_zero, Nat.mul_one, e3, pow_split, Nat.mul_div_mul_right _ _ (Nat.two_pow_pos z)]
      rw [hv]
      exact u32_down _ r m k s w (by omega) (by omega) (by omega) cf ca cp ho
end Go.Proofs.YtellndmbllmjgaaGreatDoor.Nq
/- The walks of normalize, Frexp, Ldexp. -/
set_option linter.unusedVariables false
namespace Go.Proofs.YtellndmbllmjgaaGreatDoor.Nq
open Go.RowKit Go.Shelf Fl

theorem ord_lt {a b : Nat} (ha : a < 9218868437227405312) (hb : b < 9218868437227405312) (h : a < b) : FloatKind.f64.format.order a b = some .lt := by
  have h1 : FloatKind.f64.format.order a b = some (compare (a : Int) (b : Int)) := order_pos a b ha hb
  rw [h1, cmp_lt (by omega)]
theorem ord_gt {a b : Nat} (ha : a < 9218868437227405312) (hb : b < 9218868437227405312) (h : b < a) : FloatKind.f64.format.order a b = some .gt := by
  have h1 : FloatKind.f64.format.order a b = some (compare (a : Int) (b : Int)) := order_pos a b ha hb
  rw [h1, cmp_gt (by omega)]
theorem ord_eq {a : Nat} (ha : a < 9218868437227405312) : FloatKind.f64.format.order a a = some .eq := by
  have h1 : FloatKind.f64.format.order a a = some (compare (a : Int) (a : Int)) := order_pos a a ha ha
  rw [h1, cmp_eq]
theorem not_gt {a b : Nat} (ha : a < 9218868437227405312) (hb : b < 9218868437227405312) (h : a ≤ b) : (FloatKind.f64.format.order a b == some .gt) = false := by
  rcases Nat.lt_or_eq_of_le h with h1 | h1
  · rw [ord_lt ha hb h1]; rfl
  · rw [h1, ord_eq hb]; rfl
theorem not_lt {a b : Nat} (ha : a < 9218868437227405312) (hb : b < 9218868437227405312) (h : b ≤ a) : (FloatKind.f64.format.order a b == some .lt) = false := by
  rcases Nat.lt_or_eq_of_le h with h1 | h1
  · rw [ord_gt ha hb h1]; rfl
  · rw [h1, ord_eq ha]; rfl
set_option maxRecDepth 100000 in
theorem normalize_any (r : Nat) (h1 : 4503599627370496 ≤ r) (h2 : r < 9218868437227405312) (w : World) : Calls Tryz.prog 237 #[.float .f64 r] w fun e w' => e = .returned (.tuple #[.float .f64 r, .int .i64 0]) ∧ w' = w := by
  have ca := abs_any false r (by omega)
  rw [wd_false] at ca
  have ho := not_lt h2 (b := 4503599627370496) (by omega) h1
  clear h1 h2
  go_enter Tryz.func237, Tryz.ntmps237
  go_wp2_with (first | (go_at_call 71; refine (ca _).mono ?_; rintro e w' ⟨rfl, rfl⟩) | go_in)
  go_ret2
  exact ⟨rfl, rfl⟩
theorem strip_exp (f q : Nat) (hf : f < 4503599627370496) (hq : q < 2048) : bits .andNot .u64 ((q * 4503599627370496 + f : Nat) : Int) 9218868437227405312 = (f : Int) := by
  have hx : q * 4503599627370496 + f < 9223372036854775808 := by omega
  refine (u64_andNot_nat (q * 4503599627370496 + f) 9218868437227405312 (by omega) (by omega)).trans ?_
  generalize hX : q * 4503599627370496 + f = x at *
  have e1 : x &&& (2 ^ 63 - 1) = x % 2 ^ 63 := Nat.and_two_pow_sub_one_eq_mod _ _
  have e2 : x % 2 ^ 63 = x := Nat.mod_eq_of_lt hx
  have e3 : x &&& (2 ^ 52 - 1) = x % 2 ^ 52 := Nat.and_two_pow_sub_one_eq_mod _ _
  have e4 : x % 2 ^ 52 = f := by omega
  have e5 : (9223372036854775807 : Nat) &&& (18446744073709551615 - 9218868437227405312) = 4503599627370495 := by decide
  have e6 : x &&& (18446744073709551615 - 9218868437227405312) = f := by
    have : x = x &&& 9223372036854775807 := (e1.trans e2).symm
    rw [this, Nat.and_assoc, e5]
    exact e3.trans e4
  exact congrArg Int.ofNat e6
theorem put_exp (f q : Nat) (hf : f < 4503599627370496) (hq : q < 2048) : bits .or .u64 (f : Int) ((q * 4503599627370496 : Nat) : Int) = ((q * 4503599627370496 + f : Nat) : Int) := by
  refine (bits_or_u64_nat f (q * 4503599627370496) (by omega) (by omega)).trans ?_
  have e : 2 ^ 52 * q + f = 2 ^ 52 * q ||| f := Nat.two_pow_add_eq_or_of_lt hf q
  rw [Nat.or_comm] at e
  have e2 : 2 ^ 52 * q = q * 4503599627370496 := Nat.mul_comm _ _
  rw [e2] at e
  exact congrArg Int.ofNat e.symm
set_option maxRecDepth 100000 in
set_option maxHeartbeats 400000 in
theorem frexp_any (r q f : Nat) (hr : r = q * 4503599627370496 + f) (hf : f < 4503599627370496) (h1 : 0 < q) (h2 : q < 2047) (w : World) :
    Calls Tryz.prog 277 #[.float .f64 r] w fun e w' => e = .returned (.tuple #[.float .f64 (1022 * 4503599627370496 + f), .int .i64 ((q : Int) - 1022)]) ∧ w' = w := by
  have hr1 : r < 9218868437227405312 := by omega
  have hr2 : 4503599627370496 ≤ r := by omega
  have cn := normalize_any r hr2 hr1
  have ci := isInf_any false r (by omega)
  have cq := isNaN_any r
  rw [wd_false] at ci
  have o1 : (FloatKind.f64.format.order r 0 == some .eq) = false := by rw [ord_gt hr1 (by omega) (by omega)]; rfl
  have o2 : (FloatKind.f64.format.order r 9218868437227405311 == some .gt) = false := not_gt hr1 (by omega) (by omega)
  have o3 : (FloatKind.f64.format.order r r != some .eq) = false := by rw [ord_eq hr1]; rfl
  rw [o2] at ci
  rw [o3] at cq
  have x1 := Tryz.tobits103 r
  have b1 : bits .andNot .u64 (r : Int) 9218868437227405312 = (f : Int) := by rw [hr]; exact strip_exp f q hf (by omega)
  obtain ⟨t, ht⟩ : ∃ t, t = 1022 * 4503599627370496 + f := ⟨_, rfl⟩
  have b2 : bits .or .u64 (f : Int) 4602678819172646912 = (t : Int) := by rw [ht]; exact put_exp f 1022 hf (by omega)
  have q1 : (r : Int) / 4503599627370496 = (q : Int) := by omega
  have b3 : bits .and .u64 (q : Int) 2047 = (q : Int) := and_11 q (by omega)
  have x2 := Tryz.frombits7 (t : Int)
  rw [Int.toNat_natCast] at x2
  rw [← ht]
  clear hr hr1 hr2 ht o2 o3 hf
  go_enter Tryz.func277, Tryz.ntmps277
  go_wp2_with (first | (go_at_call 237; refine (cn _).mono ?_; rintro e w' ⟨rfl, rfl⟩) | (go_at_call 25; refine (ci _).mono ?_; rintro e w' ⟨rfl, rfl⟩) | (go_at_call 232; refine (cq _).mono ?_; rintro e w' ⟨rfl, rfl⟩) | go_in)
  go_ret2
  exact ⟨by simp; omega, rfl⟩
theorem Frexp_any (r q f : Nat) (hr : r = q * 4503599627370496 + f) (hf : f < 4503599627370496) (h1 : 0 < q) (h2 : q < 2047) (w : World) :
    Calls Tryz.prog 239 #[.float .f64 r] w fun e w' => e = .returned (.tuple #[.float .f64 (1022 * 4503599627370496 + f), .int .i64 ((q : Int) - 1022)]) ∧ w' = w := by
  have cf := frexp_any r q f hr hf h1 h2
  obtain ⟨t, ht⟩ : ∃ t, t = 1022 * 4503599627370496 + f := ⟨_, rfl⟩
  rw [← ht] at cf ⊢
  clear hr ht
  go_enter Tryz.func239, Tryz.ntmps239
  go_wp2_with (first | (go_at_call 277; refine (cf _).mono ?_; rintro e w' ⟨rfl, rfl⟩) | go_in)
  go_ret2
  exact ⟨rfl, rfl⟩
set_option maxRecDepth 100000 in
set_option maxHeartbeats 400000 in
theorem ldexp_any (k : Nat) (hk : k ≤ 991) (w : World) :
    Calls Tryz.prog 192 #[.float .f64 4751297606875873280, .int .i64 (k : Int)] w fun e w' => e = .returned (.float .f64 (rungI 4503599627370496 (k + 32))) ∧ w' = w := by
  have cn := normalize_any 4751297606875873280 (by omega) (by omega)
  have ci := isInf_any false 4751297606875873280 (by omega)
  have cq := isNaN_any 4751297606875873280
  rw [wd_false] at ci
  have o1 : (FloatKind.f64.format.order 4751297606875873280 0 == some .eq) = false := by decide
  have o2 : (FloatKind.f64.format.order 4751297606875873280 9218868437227405311 == some .gt) = false := by decide
  have o3 : (FloatKind.f64.format.order 4751297606875873280 4751297606875873280 != some .eq) = false := by decide
  rw [o2] at ci
  rw [o3] at cq
  have x1 := Tryz.tobits103 4751297606875873280
  have b1 : bits .andNot .u64 4751297606875873280 9218868437227405312 = 0 := strip_exp 0 1055 (by omega) (by omega)
  obtain ⟨t, ht⟩ : ∃ t, t = (k + 32 + 1023) * 4503599627370496 := ⟨_, rfl⟩
  have b2 : bits .or .u64 0 (((k : Int) + 32 + 1023) * 4503599627370496) = (t : Int) := by
    have := put_exp 0 (k + 32 + 1023) (by omega) (by omega)
    rw [← ht] at this
    have e : (((k : Int) + 32 + 1023) * 4503599627370496) = (t : Int) := by omega
    rw [e]
    exact this
  have b3 : bits .and .i64 1055 2047 = 1055 := by decide
  have hr : rungI 4503599627370496 (k + 32) = t := by unfold rungI; omega
  have hm : ∀ ty w, (binOp .mul ty (.float .f64 4607182418800017408) (.float .f64 t)).run Tryz.prog w = .ok (.float .f64 t) w := by
    intro ty w
    have := mul_one_pow (k + 32) (by omega)
    rw [hr] at this
    exact run_float_arith w .mul ty .f64 _ _ t this
  have x2 := Tryz.frombits7 (t : Int)
  rw [Int.toNat_natCast] at x2
  rw [hr]
  clear hr o2 o3 ht
  go_enter Tryz.func192, Tryz.ntmps192
  go_wp2_with (first | (go_at_call 237; refine (cn _).mono ?_; rintro e w' ⟨rfl, rfl⟩) | (go_at_call 25; refine (ci _).mono ?_; rintro e w' ⟨rfl, rfl⟩) | (go_at_call 232; refine (cq _).mono ?_; rintro e w' ⟨rfl, rfl⟩) | go_in)
  go_ret
  exact ⟨rfl, rfl⟩
theorem Ldexp_any (k : Nat) (hk : k ≤ 991) (w : World) :
    Calls Tryz.prog 146 #[.float .f64 4751297606875873280, .int .i64 (k : Int)] w fun e w' => e = .returned (.float .f64 (rungI 4503599627370496 (k + 32))) ∧ w' = w := by
  have cf := ldexp_any k hk
  obtain ⟨t, ht⟩ : ∃ t, t = rungI 4503599627370496 (k + 32) := ⟨_, rfl⟩
  rw [← ht] at cf ⊢
  clear ht
  go_enter Tryz.func146, Tryz.ntmps146
  go_wp2_with (first | (go_at_call 192; refine (cf _).mono ?_; rintro e w' ⟨rfl, rfl⟩) | go_in)
  go_ret
  exact ⟨rfl, rfl⟩
end Go.Proofs.YtellndmbllmjgaaGreatDoor.Nq
/- A word's sign turned. -/
set_option linter.unusedVariables false
namespace Go.Proofs.YtellndmbllmjgaaGreatDoor.Nq
open Go.RowKit Go.Shelf Fl
theorem xor_top (r : Nat) (h : r < 2 ^ 63) : r ^^^ 2 ^ 63 = 2 ^ 63 + r := by
  apply Nat.eq_of_testBit_eq
  intro i
  rw [Nat.testBit_xor, Nat.testBit_two_pow]
  rcases Nat.lt_trichotomy i 63 with hi | hi | hi
  · rw [Nat.testBit_two_pow_add_gt hi, decide_eq_false (by omega), Bool.xor_false]
  · subst hi
    rw [Nat.testBit_two_pow_add_eq, decide_eq_true rfl, Bool.xor_true]
  · have h1 : r < 2 ^ i := Nat.lt_of_lt_of_le h (Nat.pow_le_pow_right (by omega) (by omega))
    have h2 : 2 ^ 63 + r < 2 ^ i := Nat.lt_of_lt_of_le (by omega : 2 ^ 63 + r < 2 ^ 64) (Nat.pow_le_pow_right (by omega) (by omega))
    rw [Nat.testBit_lt_two_pow h1, Nat.testBit_lt_two_pow h2, decide_eq_false (by omega)]
    rfl
theorem neg_wd (s : Bool) (r : Nat) (h : r < 9223372036854775808) : Go.Op.negFloat .f64 (wd s r) = wd (!s) r := by
  have e : Go.Op.negFloat .f64 (wd s r) = wd s r ^^^ 2 ^ 63 := rfl
  rw [e]
  have hx := xor_top r h
  cases s
  · rw [wd_false, hx, Bool.not_false, wd_true]
  · have h2 : wd true r = r ^^^ 2 ^ 63 := by rw [hx, wd_true]
    rw [h2, Nat.xor_assoc, Nat.xor_self, Nat.xor_zero, Bool.not_true, wd_false]
theorem run_neg (s : Bool) (r : Nat) (h : r < 9223372036854775808) (w : World) : (Go.Op.unary .neg (.float .f64 (wd s r))).run Tryz.prog w = .ok (.float .f64 (wd (!s) r)) w := by
  have : Go.Op.unary .neg (.float .f64 (wd s r)) = pure (.float .f64 (Go.Op.negFloat .f64 (wd s r))) := rfl
  rw [this, neg_wd s r h]
  rfl
/-- A whole number's rung. -/
def Wd (n r : Nat) : Prop := (n = 0 ∧ r = 0) ∨ ∃ M L, Norm n M L ∧ L ≤ 1023 ∧ r = rungI M L
theorem Wd.lt {n r : Nat} (h : Wd n r) : r < 9218868437227405312 := by
  rcases h with ⟨_, rfl⟩ | ⟨M, L, hN, hL, rfl⟩
  · omega
  · exact rungI_lt hN.M_lt hL
theorem Wd.zero {n r : Nat} (h : Wd n r) : r = 0 ↔ n = 0 := by
  rcases h with ⟨rfl, rfl⟩ | ⟨M, L, hN, hL, rfl⟩
  · simp
  · have h1 := rungI_ge (L := L) hN.M_le
    have h2 := Nat.lt_of_lt_of_le (Nat.two_pow_pos L) hN.2.1
    omega
theorem Wd.big {n r : Nat} (h : Wd n r) : 4751297606875873280 ≤ r ↔ 4294967296 ≤ n := by
  rcases h with ⟨rfl, rfl⟩ | ⟨M, L, hN, hL, rfl⟩
  · omega
  · have h1 := hN.M_le
    have h2 := hN.M_lt
    have h3 := hN.2.1
    have h4 := hN.2.2
    have key : 32 ≤ L ↔ 4294967296 ≤ n := by
      constructor
      · intro h
        have : (2 : Nat) ^ 32 ≤ 2 ^ L := Nat.pow_le_pow_right (by omega) h
        omega
      · intro h
        rcases Nat.lt_or_ge L 32 with h5 | h5
        · have : (2 : Nat) ^ (L + 1) ≤ 2 ^ 32 := Nat.pow_le_pow_right (by omega) (by omega)
          omega
        · exact h5
    rw [← key]
    unfold rungI
    omega
end Go.Proofs.YtellndmbllmjgaaGreatDoor.Nq
/- The walk of mod by 2 to the 32nd. -/
set_option linter.unusedVariables false
namespace Go.Proofs.YtellndmbllmjgaaGreatDoor.Nq
open Go.RowKit Go.Shelf Fl
theorem pow_mod32 (L : Nat) (h : 32 ≤ L) (n : Nat) (hn : 2 ^ L ≤ n) : (n - 2 ^ L) % 4294967296 = n % 4294967296 := by
  obtain ⟨d, rfl⟩ : ∃ d, L = 32 + d := ⟨L - 32, by omega⟩
  have e : (2 : Nat) ^ (32 + d) = 4294967296 * 2 ^ d := pow_split 32 d
  rw [e] at hn ⊢
  obtain ⟨c, rfl⟩ : ∃ c, n = 4294967296 * 2 ^ d + c := ⟨n - 4294967296 * 2 ^ d, by omega⟩
  rw [Nat.add_sub_cancel_left, Nat.mul_add_mod]
/-- What a round of mod does. -/
theorem round_step (n r : Nat) (h : Wd n r) (hb : 4294967296 ≤ n) : ∃ k f r', k ≤ 991 ∧ f < 4503599627370496 ∧ r = (k + 1055) * 4503599627370496 + f ∧ Ieee.double.sub r (rungI 4503599627370496 (k + 32)) = some r' ∧ r' < r ∧ ∃ n', Wd n' r' ∧ n' % 4294967296 = n % 4294967296 := by
  have hbig := h.big.2 hb
  rcases h with ⟨rfl, rfl⟩ | ⟨M, L, hN, hL, rfl⟩
  · omega
  · have h1 := hN.M_le
    have h2 := hN.M_lt
    have hL32 : 32 ≤ L := by
      unfold rungI at hbig
      omega
    obtain ⟨k, rfl⟩ : ∃ k, L = k + 32 := ⟨L - 32, by omega⟩
    refine ⟨k, M - 4503599627370496, ?_⟩
    have hr : rungI M (k + 32) = (k + 1055) * 4503599627370496 + (M - 4503599627370496) := by unfold rungI; omega
    by_cases hp : n = 2 ^ (k + 32)
    · have hM := (norm_eq_pow hN).1 hp
      subst hM
      refine ⟨0, by omega, by omega, hr, sub_pow _ hL, ?_, 0, Or.inl ⟨rfl, rfl⟩, ?_⟩
      · have := rungI_ge (L := k + 32) h1
        omega
      · have := pow_mod32 (k + 32) hL32 n (by omega)
        rw [hp] at this ⊢
        rw [← this, Nat.sub_self]
    · obtain ⟨M', L', hN', hl, hd⟩ := norm_less hN hp
      have h3 := hN'.M_lt
      refine ⟨rungI M' L', by omega, by omega, hr, sub_top hN hL hp hN' hl hd, ?_, n - 2 ^ (k + 32), Or.inr ⟨M', L', hN', by omega, rfl⟩, pow_mod32 (k + 32) hL32 n hN.2.1⟩
      unfold rungI
      omega
def fbits : Value → Nat
  | .float _ b => b
  | _ => 0
/-- What mod's calls answer ahead of its loop. -/
structure Ahead (x : Nat) : Prop where
  ci : ∀ w, Calls Tryz.prog 25 #[.float .f64 x, .int .i64 0] w fun e w' => e = .returned (.bool false) ∧ w' = w
  cq : ∀ w, Calls Tryz.prog 232 #[.float .f64 x] w fun e w' => e = .returned (.bool false) ∧ w' = w
  cq2 : ∀ w, Calls Tryz.prog 232 #[.float .f64 4751297606875873280] w fun e w' => e = .returned (.bool false) ∧ w' = w
  cy : ∀ w, Calls Tryz.prog 71 #[.float .f64 4751297606875873280] w fun e w' => e = .returned (.float .f64 4751297606875873280) ∧ w' = w
  cfy : ∀ w, Calls Tryz.prog 239 #[.float .f64 4751297606875873280] w fun e w' => e = .returned (.tuple #[.float .f64 4602678819172646912, .int .i64 33]) ∧ w' = w
theorem ahead (s : Bool) (r : Nat) (hlt : r < 9218868437227405312) : Ahead (wd s r) := by
  have cy := abs_any false 4751297606875873280 (by omega)
  have ci := isInf_any s r (by omega)
  have cq := isNaN_any (wd s r)
  have cq2 := isNaN_any 4751297606875873280
  have cfy := Frexp_any 4751297606875873280 1055 0 (by omega) (by omega) (by omega) (by omega)
  rw [wd_false] at cy
  have o2 : (FloatKind.f64.format.order r 9218868437227405311 == some .gt) = false := not_gt hlt (by omega) (by omega)
  have o3 : (FloatKind.f64.format.order (wd s r) (wd s r) != some .eq) = false := by
    have : FloatKind.f64.format.order (wd s r) (wd s r) = some (compare (key s r) (key s r)) := order_key s s r r hlt hlt
    rw [this, cmp_eq]; rfl
  have o4 : (FloatKind.f64.format.order 4751297606875873280 4751297606875873280 != some .eq) = false := by decide
  rw [o2] at ci
  rw [o3] at cq
  rw [o4] at cq2
  exact ⟨ci, cq, cq2, cy, cfy⟩
theorem y_zero : (FloatKind.f64.format.order 4751297606875873280 0 == some .eq) = false := by decide
set_option maxRecDepth 100000 in
set_option maxHeartbeats 1000000 in
theorem mod_small (x : Nat) (w : World) (A : Ahead x) (o5 : (FloatKind.f64.format.order x 0 == some .lt) = false) (o6 : (FloatKind.f64.format.order x 4751297606875873280 == some .gt) = false) (o7 : (FloatKind.f64.format.order x 4751297606875873280 == some .eq) = false) :
    Calls Tryz.prog 198 #[.float .f64 x, .float .f64 4751297606875873280] w fun e w' => e = .returned (.float .f64 x) ∧ w' = w := by
  obtain ⟨ci, cq, cq2, cy, cfy⟩ := A
  have o1 := y_zero
  go_enter Tryz.func198, Tryz.ntmps198
  go_wp2_with (first | (go_at_call 25; refine (ci _).mono ?_; rintro e w' ⟨rfl, rfl⟩) | (go_at_call 232; refine (cq _).mono ?_; rintro e w' ⟨rfl, rfl⟩) | (go_at_call 232; refine (cq2 _).mono ?_; rintro e w' ⟨rfl, rfl⟩) | (go_at_call 71; refine (cy _).mono ?_; rintro e w' ⟨rfl, rfl⟩) | (go_at_call 239; refine (cfy _).mono ?_; rintro e w' ⟨rfl, rfl⟩) | go_in)
  go_loopw [7] (fun i wr => i = .float .f64 x ∧ wr = w') (fun _ _ => 0)
  case atStart => exact ⟨rfl, rfl⟩
  case round =>
    obtain ⟨rfl, rfl⟩ := hrel
    go_wp2
    go_ret
    exact ⟨rfl, rfl⟩
set_option maxRecDepth 100000 in
set_option maxHeartbeats 2000000 in
/-- mod, of a number that isn't 0. -/
theorem mod_num (s : Bool) (n r x : Nat) (h : Wd n r) (w : World) (A : Ahead x) (hx : s = true → ∀ w, (Go.Op.unary .neg (.float .f64 x)).run Tryz.prog w = .ok (.float .f64 r) w) (hx2 : s = false → x = r) (o5 : (FloatKind.f64.format.order x 0 == some .lt) = s) :
    Calls Tryz.prog 198 #[.float .f64 x, .float .f64 4751297606875873280] w fun e w' => (∃ r', Wd (n % 4294967296) r' ∧ e = .returned (.float .f64 (wd s r'))) ∧ w' = w := by
  obtain ⟨ci, cq, cq2, cy, cfy⟩ := A
  have o1 := y_zero
  have HW : Hid (Wd n r) := h
  clear h
  cases s
  · obtain rfl := hx2 rfl
    clear hx hx2
    go_enter Tryz.func198, Tryz.ntmps198
    go_wp2_with (first | (go_at_call 25; refine (ci _).mono ?_; rintro e w' ⟨rfl, rfl⟩) | (go_at_call 232; refine (cq _).mono ?_; rintro e w' ⟨rfl, rfl⟩) | (go_at_call 232; refine (cq2 _).mono ?_; rintro e w' ⟨rfl, rfl⟩) | (go_at_call 71; refine (cy _).mono ?_; rintro e w' ⟨rfl, rfl⟩) | (go_at_call 239; refine (cfy _).mono ?_; rintro e w' ⟨rfl, rfl⟩) | go_in)
    go_loopw [7] (fun i wr => ∃ a b, i = .float .f64 b ∧ Wd a b ∧ a % 4294967296 = n % 4294967296 ∧ wr = w') (fun i _ => fbits i)
    case atStart => exact ⟨n, x, rfl, HW.out, rfl, rfl⟩
    case round =>
      obtain ⟨a, b, rfl, hab, hmod, rfl⟩ := hrel
      clear ci cq cq2 cy cfy HW
      have hlt := hab.lt
      by_cases hbig : 4294967296 ≤ a
      · obtain ⟨k, f, b', hk, hf, hb, hsub, hless, a', hab', hmod'⟩ := round_step a b hab hbig
        have cf := Frexp_any b (k + 1055) f hb hf (by omega) (by omega)
        have o6 : (FloatKind.f64.format.order b 4751297606875873280 == some .gt || FloatKind.f64.format.order b 4751297606875873280 == some .eq) = true := by
          have h1 := hab.big.2 hbig
          rcases Nat.lt_or_eq_of_le h1 with h2 | h2
          · rw [ord_gt hlt (by omega) h2]; rfl
          · rw [← h2, ord_eq (by omega)]; rfl
        have hs1 : ∀ t w, (binOp .sub t (.float .f64 b) (.float .f64 (rungI 4503599627370496 (k + 32)))).run Tryz.prog w = .ok (.float .f64 b') w := fun t w => run_float_arith w .sub t .f64 _ _ b' hsub
        have cl := Ldexp_any k hk
        have e1 : ((k + 1055 : Nat) : Int) - 1022 = (k : Int) + 33 := by omega
        rw [e1] at cf
        obtain ⟨t, ht⟩ : ∃ t, t = 1022 * 4503599627370496 + f := ⟨_, rfl⟩
        have o7 : (FloatKind.f64.format.order t 4602678819172646912 == some .lt) = false := not_lt (by omega) (by omega) (by omega)
        rw [← ht] at cf
        generalize rungI 4503599627370496 (k + 32) = p at *
        have HN : Hid (Wd a' b' ∧ a' % 4294967296 = n % 4294967296 ∧ b' < b) := ⟨hab', by rw [hmod', hmod], hless⟩
        clear hab hab' hmod hmod' hless hsub hb hf ht hbig hlt e1
        go_wp2_with (first | (go_at_call 239; refine (cf _).mono ?_; rintro e w' ⟨rfl, rfl⟩) | (go_at_call 146; refine (cl _).mono ?_; rintro e w' ⟨rfl, rfl⟩) | go_in)
        go_roundw
        case rel => exact ⟨a', b', rfl, HN.out.1, HN.out.2.1, trivial⟩
        case measure => exact HN.out.2.2
      · have o6 : (FloatKind.f64.format.order b 4751297606875873280 == some .gt || FloatKind.f64.format.order b 4751297606875873280 == some .eq) = false := by
          have h1 : b < 4751297606875873280 := by
            rcases Nat.lt_or_ge b 4751297606875873280 with h | h
            · exact h
            · exact absurd (hab.big.1 h) hbig
          rw [ord_lt hlt (by omega) h1]; rfl
        have HN : Hid (Wd (n % 4294967296) b) := by
          have : n % 4294967296 = a := by omega
          rw [this]
          exact hab
        clear hab hmod hlt hbig
        go_wp2
        go_ret
        exact ⟨⟨b, HN.out, by rw [wd_false]; rfl⟩, rfl⟩
  · replace hx := hx rfl
    clear hx2
    go_enter Tryz.func198, Tryz.ntmps198
    go_wp2_with (first | (go_at_call 25; refine (ci _).mono ?_; rintro e w' ⟨rfl, rfl⟩) | (go_at_call 232; refine (cq _).mono ?_; rintro e w' ⟨rfl, rfl⟩) | (go_at_call 232; refine (cq2 _).mono ?_; rintro e w' ⟨rfl, rfl⟩) | (go_at_call 71; refine (cy _).mono ?_; rintro e w' ⟨rfl, rfl⟩) | (go_at_call 239; refine (cfy _).mono ?_; rintro e w' ⟨rfl, rfl⟩) | go_in)
    go_loopw [7] (fun i wr => ∃ a b, i = .float .f64 b ∧ Wd a b ∧ a % 4294967296 = n % 4294967296 ∧ wr = w') (fun i _ => fbits i)
    case atStart => exact ⟨n, r, rfl, HW.out, rfl, rfl⟩
    case round =>
      obtain ⟨a, b, rfl, hab, hmod, rfl⟩ := hrel
      clear ci cq cq2 cy cfy HW
      have hlt := hab.lt
      by_cases hbig : 4294967296 ≤ a
      · obtain ⟨k, f, b', hk, hf, hb, hsub, hless, a', hab', hmod'⟩ := round_step a b hab hbig
        have cf := Frexp_any b (k + 1055) f hb hf (by omega) (by omega)
        have o6 : (FloatKind.f64.format.order b 4751297606875873280 == some .gt || FloatKind.f64.format.order b 4751297606875873280 == some .eq) = true := by
          have h1 := hab.big.2 hbig
          rcases Nat.lt_or_eq_of_le h1 with h2 | h2
          · rw [ord_gt hlt (by omega) h2]; rfl
          · rw [← h2, ord_eq (by omega)]; rfl
        have hs1 : ∀ t w, (binOp .sub t (.float .f64 b) (.float .f64 (rungI 4503599627370496 (k + 32)))).run Tryz.prog w = .ok (.float .f64 b') w := fun t w => run_float_arith w .sub t .f64 _ _ b' hsub
        have cl := Ldexp_any k hk
        have e1 : ((k + 1055 : Nat) : Int) - 1022 = (k : Int) + 33 := by omega
        rw [e1] at cf
        obtain ⟨t, ht⟩ : ∃ t, t = 1022 * 4503599627370496 + f := ⟨_, rfl⟩
        have o7 : (FloatKind.f64.format.order t 4602678819172646912 == some .lt) = false := not_lt (by omega) (by omega) (by omega)
        rw [← ht] at cf
        generalize rungI 4503599627370496 (k + 32) = p at *
        have HN : Hid (Wd a' b' ∧ a' % 4294967296 = n % 4294967296 ∧ b' < b) := ⟨hab', by rw [hmod', hmod], hless⟩
        clear hab hab' hmod hmod' hless hsub hb hf ht hbig hlt e1
        go_wp2_with (first | (go_at_call 239; refine (cf _).mono ?_; rintro e w' ⟨rfl, rfl⟩) | (go_at_call 146; refine (cl _).mono ?_; rintro e w' ⟨rfl, rfl⟩) | go_in)
        go_roundw
        case rel => exact ⟨a', b', rfl, HN.out.1, HN.out.2.1, trivial⟩
        case measure => exact HN.out.2.2
      · have o6 : (FloatKind.f64.format.order b 4751297606875873280 == some .gt || FloatKind.f64.format.order b 4751297606875873280 == some .eq) = false := by
          have h1 : b < 4751297606875873280 := by
            rcases Nat.lt_or_ge b 4751297606875873280 with h | h
            · exact h
            · exact absurd (hab.big.1 h) hbig
          rw [ord_lt hlt (by omega) h1]; rfl
        have HN : Hid (Wd (n % 4294967296) b) := by
          have : n % 4294967296 = a := by omega
          rw [this]
          exact hab
        have hn := run_neg false b (by omega)
        rw [wd_false, Bool.not_false] at hn
        obtain ⟨B, hB⟩ : ∃ B, B = wd true b := ⟨_, rfl⟩
        rw [← hB] at hn
        have HB : Hid (B = wd true b) := hB
        clear hB
        clear hab hmod hlt hbig
        go_wp2
        go_ret
        exact ⟨⟨b, HN.out, by rw [← HB.out]; rfl⟩, rfl⟩
end Go.Proofs.YtellndmbllmjgaaGreatDoor.Nq
/- The walk of the document's Uint32. -/
set_option linter.unusedVariables false
namespace Go.Proofs.YtellndmbllmjgaaGreatDoor.Nq
open Go.RowKit Go.Shelf Fl

theorem Mod_of (x z : Nat) (P : Nat → Prop) (h : ∀ w, Calls Tryz.prog 198 #[.float .f64 x, .float .f64 4751297606875873280] w fun e w' => (∃ r', P r' ∧ e = .returned (.float .f64 r')) ∧ w' = w) (w : World) :
    Calls Tryz.prog 154 #[.float .f64 x, .float .f64 4751297606875873280] w fun e w' => (∃ r', P r' ∧ e = .returned (.float .f64 r')) ∧ w' = w := by
  go_enter Tryz.func154, Tryz.ntmps154
  go_wp2_with (first | (go_at_call 198; refine (h _).mono ?_; rintro e w' ⟨⟨r', hr', rfl⟩, rfl⟩) | go_in)
  go_ret
  exact ⟨⟨r', hr', rfl⟩, rfl⟩
/-- **mod, of the word of a whole number.** -/
theorem mod_any (s : Bool) (n r : Nat) (h : Wd n r) (w : World) :
    Calls Tryz.prog 198 #[.float .f64 (wd s r), .float .f64 4751297606875873280] w fun e w' => (∃ x', (∃ r', Wd (n % 4294967296) r' ∧ x' = wd s r') ∧ e = .returned (.float .f64 x')) ∧ w' = w := by
  have hlt := h.lt
  have A := ahead s r hlt
  have o5 := lt_zero s r hlt
  by_cases h0 : n = 0
  · have hr0 := h.zero.2 h0
    subst h0
    subst hr0
    rw [show decide ((0 : Nat) ≠ 0) = false from rfl, Bool.and_false] at o5
    have hoy : FloatKind.f64.format.order (wd s 0) 4751297606875873280 = some .lt := by cases s <;> decide
    have o6 : (FloatKind.f64.format.order (wd s 0) 4751297606875873280 == some .gt) = false := by rw [hoy]; rfl
    have o7 : (FloatKind.f64.format.order (wd s 0) 4751297606875873280 == some .eq) = false := by rw [hoy]; rfl
    refine (mod_small _ w A o5 o6 o7).mono ?_
    rintro e w' ⟨rfl, rfl⟩
    exact ⟨⟨_, ⟨0, Or.inl ⟨rfl, rfl⟩, rfl⟩, rfl⟩, rfl⟩
  · have hr0 : r ≠ 0 := fun e => h0 (h.zero.1 e)
    rw [decide_eq_true hr0, Bool.and_true] at o5
    refine (mod_num s n r (wd s r) h w A (fun e => ?_) (fun e => ?_) o5).mono ?_
    · subst e
      have := run_neg true r (by omega)
      rw [Bool.not_true, wd_false r] at this
      exact this
    · subst e
      exact wd_false r
    · rintro e w' ⟨⟨r', hr', rfl⟩, rfl⟩
      exact ⟨⟨_, ⟨r', hr', rfl⟩, rfl⟩, rfl⟩
end Go.Proofs.YtellndmbllmjgaaGreatDoor.Nq
/- The walk of the document's Uint32, of a finite word. -/
set_option linter.unusedVariables false
namespace Go.Proofs.YtellndmbllmjgaaGreatDoor.Nq
open Go.RowKit Go.Shelf Fl

set_option maxRecDepth 100000 in
set_option maxHeartbeats 1000000 in
theorem refU_pos (x t r : Nat) (v : Int) (w : World)
    (o1 : (FloatKind.f64.format.order x x != some .eq) = false) (o2 : (FloatKind.f64.format.order x 9218868437227405311 == some .gt) = false) (o3 : (FloatKind.f64.format.order x 18442240474082181119 == some .lt) = false)
    (ct : ∀ w, Calls Tryz.prog 31 #[.float .f64 x] w fun e w' => e = .returned (.float .f64 t) ∧ w' = w)
    (cm : Calls Tryz.prog 154 #[.float .f64 t, .float .f64 4751297606875873280] w fun e w' => e = .returned (.float .f64 r) ∧ w' = w)
    (o4 : (FloatKind.f64.format.order r 0 == some .lt) = false)
    (hc : ∀ w, (convert 23 108 (.float .f64 r)).run Tryz.prog w = .ok (.int .u32 v) w) :
    Calls Tryz.prog 105 #[.float .f64 x] w fun e w' => e = .returned (.int .u32 v) ∧ w' = w := by
  go_enter Tryz.func105, Tryz.ntmps105
  go_wp2_with (first | (go_at_call 31; refine (ct _).mono ?_; rintro e w' ⟨rfl, rfl⟩) | (go_at_call 154; refine cm.mono ?_; rintro e w' ⟨rfl, rfl⟩) | go_in)
  go_ret
  exact ⟨rfl, rfl⟩
set_option maxRecDepth 100000 in
set_option maxHeartbeats 1000000 in
theorem refU_neg (x t r q : Nat) (v : Int) (w : World)
    (o1 : (FloatKind.f64.format.order x x != some .eq) = false) (o2 : (FloatKind.f64.format.order x 9218868437227405311 == some .gt) = false) (o3 : (FloatKind.f64.format.order x 18442240474082181119 == some .lt) = false)
    (ct : ∀ w, Calls Tryz.prog 31 #[.float .f64 x] w fun e w' => e = .returned (.float .f64 t) ∧ w' = w)
    (cm : Calls Tryz.prog 154 #[.float .f64 t, .float .f64 4751297606875873280] w fun e w' => e = .returned (.float .f64 r) ∧ w' = w)
    (o4 : (FloatKind.f64.format.order r 0 == some .lt) = true)
    (ha : ∀ ty w, (binOp .add ty (.float .f64 r) (.float .f64 4751297606875873280)).run Tryz.prog w = .ok (.float .f64 q) w)
    (hc : ∀ w, (convert 23 108 (.float .f64 q)).run Tryz.prog w = .ok (.int .u32 v) w) :
    Calls Tryz.prog 105 #[.float .f64 x] w fun e w' => e = .returned (.int .u32 v) ∧ w' = w := by
  go_enter Tryz.func105, Tryz.ntmps105
  go_wp2_with (first | (go_at_call 31; refine (ct _).mono ?_; rintro e w' ⟨rfl, rfl⟩) | (go_at_call 154; refine cm.mono ?_; rintro e w' ⟨rfl, rfl⟩) | go_in)
  go_ret
  exact ⟨rfl, rfl⟩
theorem conv_u32 (b : Nat) (v : Int) (h : floatToIntVal .f64 b .u32 = some v) (w : World) : (convert 23 108 (.float .f64 b)).run Tryz.prog w = .ok (.int .u32 v) w :=
  run_convert_float_int w 23 108 .f64 .u32 b v (by rw [Tryz.underlying23]; rfl) Tryz.underlying108 h
end Go.Proofs.YtellndmbllmjgaaGreatDoor.Nq
