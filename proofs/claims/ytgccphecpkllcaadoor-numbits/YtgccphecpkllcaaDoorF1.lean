/- The walks of normalize, Frexp, Ldexp. -/
import Derived.Test.YtgccphecpkllcaaDoorU1
set_option linter.unusedVariables false
namespace Go.Proofs.YtgccphecpkllcaaDoor
open Go.RowKit Go.Shelf Fl

theorem ord_lt {a b : Nat} (ha : a < 9218868437227405312) (hb : b < 9218868437227405312) (h : a < b) : FloatKind.f64.format.order a b = some .lt := by
  have h1 : FloatKind.f64.format.order a b = some (compare (a : Int) (b : Int)) := order_pos a b ha hb
  rw [h1, cmp_lt (by omega)]
theorem ord_gt {a b : Nat} (ha : a < 9218868437227405312) (hb : b < 9218868437227405312) (h : b < a) : FloatKind.f64.format.order a b = some .gt := by
  have h1 : FloatKind.f64.format.order a b = some (compare (a : Int) (b : Int)) := order_pos a b ha hb
  rw [h1, cmp_gt (by omega)]
theorem ord_eq {a : Nat} (ha : a < 9218868437227405312) : FloatKind.f64.format.order a a = some .eq := by
  have h1 : FloatKind.f64.format.order a a = some (compare (a : Int) (a : Int)) := order_pos a a ha ha
  rw [h1, cmp_eq]
theorem not_gt {a b : Nat} (ha : a < 9218868437227405312) (hb : b < 9218868437227405312) (h : a ≤ b) : (FloatKind.f64.format.order a b == some .gt) = false := by
  rcases Nat.lt_or_eq_of_le h with h1 | h1
  · rw [ord_lt ha hb h1]; rfl
  · rw [h1, ord_eq hb]; rfl
theorem not_lt {a b : Nat} (ha : a < 9218868437227405312) (hb : b < 9218868437227405312) (h : b ≤ a) : (FloatKind.f64.format.order a b == some .lt) = false := by
  rcases Nat.lt_or_eq_of_le h with h1 | h1
  · rw [ord_gt ha hb h1]; rfl
  · rw [h1, ord_eq ha]; rfl
set_option maxRecDepth 100000 in
theorem normalize_any (r : Nat) (h1 : 4503599627370496 ≤ r) (h2 : r < 9218868437227405312) (w : World) : Calls Tryd.prog 34 #[.float .f64 r] w fun e w' => e = .returned (.tuple #[.float .f64 r, .int .i64 0]) ∧ w' = w := by
  have ca := abs_any false r (by omega)
  rw [wd_false] at ca
  have ho := not_lt h2 (b := 4503599627370496) (by omega) h1
  clear h1 h2
  go_enter Tryd.func34, Tryd.ntmps34
  go_wp2_with (first | (go_at_call 16; refine (ca _).mono ?_; rintro e w' ⟨rfl, rfl⟩) | go_in)
  go_ret2
  exact ⟨rfl, rfl⟩
theorem strip_exp (f q : Nat) (hf : f < 4503599627370496) (hq : q < 2048) : bits .andNot .u64 ((q * 4503599627370496 + f : Nat) : Int) 9218868437227405312 = (f : Int) := by
  have hx : q * 4503599627370496 + f < 9223372036854775808 := by omega
  refine (u64_andNot_nat (q * 4503599627370496 + f) 9218868437227405312 (by omega) (by omega)).trans ?_
  generalize hX : q * 4503599627370496 + f = x at *
  have e1 : x &&& (2 ^ 63 - 1) = x % 2 ^ 63 := Nat.and_two_pow_sub_one_eq_mod _ _
  have e2 : x % 2 ^ 63 = x := Nat.mod_eq_of_lt hx
  have e3 : x &&& (2 ^ 52 - 1) = x % 2 ^ 52 := Nat.and_two_pow_sub_one_eq_mod _ _
  have e4 : x % 2 ^ 52 = f := by omega
  have e5 : (9223372036854775807 : Nat) &&& (18446744073709551615 - 9218868437227405312) = 4503599627370495 := by decide
  have e6 : x &&& (18446744073709551615 - 9218868437227405312) = f := by
    have : x = x &&& 9223372036854775807 := (e1.trans e2).symm
    rw [this, Nat.and_assoc, e5]
    exact e3.trans e4
  exact congrArg Int.ofNat e6
theorem put_exp (f q : Nat) (hf : f < 4503599627370496) (hq : q < 2048) : bits .or .u64 (f : Int) ((q * 4503599627370496 : Nat) : Int) = ((q * 4503599627370496 + f : Nat) : Int) := by
  refine (bits_or_u64_nat f (q * 4503599627370496) (by omega) (by omega)).trans ?_
  have e : 2 ^ 52 * q + f = 2 ^ 52 * q ||| f := Nat.two_pow_add_eq_or_of_lt hf q
  rw [Nat.or_comm] at e
  have e2 : 2 ^ 52 * q = q * 4503599627370496 := Nat.mul_comm _ _
  rw [e2] at e
  exact congrArg Int.ofNat e.symm
set_option maxRecDepth 100000 in
set_option maxHeartbeats 400000 in
theorem frexp_any (r q f : Nat) (hr : r = q * 4503599627370496 + f) (hf : f < 4503599627370496) (h1 : 0 < q) (h2 : q < 2047) (w : World) :
    Calls Tryd.prog 31 #[.float .f64 r] w fun e w' => e = .returned (.tuple #[.float .f64 (1022 * 4503599627370496 + f), .int .i64 ((q : Int) - 1022)]) ∧ w' = w := by
  have hr1 : r < 9218868437227405312 := by omega
  have hr2 : 4503599627370496 ≤ r := by omega
  have cn := normalize_any r hr2 hr1
  have ci := isInf_any false r (by omega)
  have cq := isNaN_any r
  rw [wd_false] at ci
  have o1 : (FloatKind.f64.format.order r 0 == some .eq) = false := by rw [ord_gt hr1 (by omega) (by omega)]; rfl
  have o2 : (FloatKind.f64.format.order r 9218868437227405311 == some .gt) = false := not_gt hr1 (by omega) (by omega)
  have o3 : (FloatKind.f64.format.order r r != some .eq) = false := by rw [ord_eq hr1]; rfl
  rw [o2] at ci
  rw [o3] at cq
  have x1 := Tryd.tobits r
  have b1 : bits .andNot .u64 (r : Int) 9218868437227405312 = (f : Int) := by rw [hr]; exact strip_exp f q hf (by omega)
  obtain ⟨t, ht⟩ : ∃ t, t = 1022 * 4503599627370496 + f := ⟨_, rfl⟩
  have b2 : bits .or .u64 (f : Int) 4602678819172646912 = (t : Int) := by rw [ht]; exact put_exp f 1022 hf (by omega)
  have q1 : (r : Int) / 4503599627370496 = (q : Int) := by omega
  have b3 : bits .and .u64 (q : Int) 2047 = (q : Int) := and_11 q (by omega)
  have x2 := Tryd.frombits (t : Int)
  rw [Int.toNat_natCast] at x2
  rw [← ht]
  clear hr hr1 hr2 ht o2 o3 hf
  go_enter Tryd.func31, Tryd.ntmps31
  go_wp2_with (first | (go_at_call 34; refine (cn _).mono ?_; rintro e w' ⟨rfl, rfl⟩) | (go_at_call 25; refine (ci _).mono ?_; rintro e w' ⟨rfl, rfl⟩) | (go_at_call 26; refine (cq _).mono ?_; rintro e w' ⟨rfl, rfl⟩) | go_in)
  go_ret2
  exact ⟨by simp; omega, rfl⟩
theorem Frexp_any (r q f : Nat) (hr : r = q * 4503599627370496 + f) (hf : f < 4503599627370496) (h1 : 0 < q) (h2 : q < 2047) (w : World) :
    Calls Tryd.prog 28 #[.float .f64 r] w fun e w' => e = .returned (.tuple #[.float .f64 (1022 * 4503599627370496 + f), .int .i64 ((q : Int) - 1022)]) ∧ w' = w := by
  have cf := frexp_any r q f hr hf h1 h2
  obtain ⟨t, ht⟩ : ∃ t, t = 1022 * 4503599627370496 + f := ⟨_, rfl⟩
  rw [← ht] at cf ⊢
  clear hr ht
  go_enter Tryd.func28, Tryd.ntmps28
  go_wp2_with (first | (go_at_call 31; refine (cf _).mono ?_; rintro e w' ⟨rfl, rfl⟩) | go_in)
  go_ret2
  exact ⟨rfl, rfl⟩
set_option maxRecDepth 100000 in
set_option maxHeartbeats 400000 in
theorem ldexp_any (k : Nat) (hk : k ≤ 991) (w : World) :
    Calls Tryd.prog 33 #[.float .f64 4751297606875873280, .int .i64 (k : Int)] w fun e w' => e = .returned (.float .f64 (rungI 4503599627370496 (k + 32))) ∧ w' = w := by
  have cn := normalize_any 4751297606875873280 (by omega) (by omega)
  have ci := isInf_any false 4751297606875873280 (by omega)
  have cq := isNaN_any 4751297606875873280
  rw [wd_false] at ci
  have o1 : (FloatKind.f64.format.order 4751297606875873280 0 == some .eq) = false := by decide
  have o2 : (FloatKind.f64.format.order 4751297606875873280 9218868437227405311 == some .gt) = false := by decide
  have o3 : (FloatKind.f64.format.order 4751297606875873280 4751297606875873280 != some .eq) = false := by decide
  rw [o2] at ci
  rw [o3] at cq
  have x1 := Tryd.tobits 4751297606875873280
  have b1 : bits .andNot .u64 4751297606875873280 9218868437227405312 = 0 := strip_exp 0 1055 (by omega) (by omega)
  obtain ⟨t, ht⟩ : ∃ t, t = (k + 32 + 1023) * 4503599627370496 := ⟨_, rfl⟩
  have b2 : bits .or .u64 0 (((k : Int) + 32 + 1023) * 4503599627370496) = (t : Int) := by
    have := put_exp 0 (k + 32 + 1023) (by omega) (by omega)
    rw [← ht] at this
    have e : (((k : Int) + 32 + 1023) * 4503599627370496) = (t : Int) := by omega
    rw [e]
    exact this
  have b3 : bits .and .i64 1055 2047 = 1055 := by decide
  have hr : rungI 4503599627370496 (k + 32) = t := by unfold rungI; omega
  have hm : ∀ ty w, (binOp .mul ty (.float .f64 4607182418800017408) (.float .f64 t)).run Tryd.prog w = .ok (.float .f64 t) w := by
    intro ty w
    have := mul_one_pow (k + 32) (by omega)
    rw [hr] at this
    exact run_float_arith w .mul ty .f64 _ _ t this
  have x2 := Tryd.frombits (t : Int)
  rw [Int.toNat_natCast] at x2
  rw [hr]
  clear hr o2 o3 ht
  go_enter Tryd.func33, Tryd.ntmps33
  go_wp2_with (first | (go_at_call 34; refine (cn _).mono ?_; rintro e w' ⟨rfl, rfl⟩) | (go_at_call 25; refine (ci _).mono ?_; rintro e w' ⟨rfl, rfl⟩) | (go_at_call 26; refine (cq _).mono ?_; rintro e w' ⟨rfl, rfl⟩) | go_in)
  go_ret
  exact ⟨rfl, rfl⟩
theorem Ldexp_any (k : Nat) (hk : k ≤ 991) (w : World) :
    Calls Tryd.prog 29 #[.float .f64 4751297606875873280, .int .i64 (k : Int)] w fun e w' => e = .returned (.float .f64 (rungI 4503599627370496 (k + 32))) ∧ w' = w := by
  have cf := ldexp_any k hk
  obtain ⟨t, ht⟩ : ∃ t, t = rungI 4503599627370496 (k + 32) := ⟨_, rfl⟩
  rw [← ht] at cf ⊢
  clear ht
  go_enter Tryd.func29, Tryd.ntmps29
  go_wp2_with (first | (go_at_call 33; refine (cf _).mono ?_; rintro e w' ⟨rfl, rfl⟩) | go_in)
  go_ret
  exact ⟨rfl, rfl⟩
end Go.Proofs.YtgccphecpkllcaaDoor
