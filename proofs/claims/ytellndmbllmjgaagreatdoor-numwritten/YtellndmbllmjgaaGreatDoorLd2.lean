/- The walk of Ldexp. -/
import Derived.Test.YtellndmbllmjgaaGreatDoorLd1
set_option linter.unusedVariables false
namespace Go.Proofs.YtellndmbllmjgaaGreatDoor
open Go.RowKit Go.Shelf Go.Sort Fs Fl Fl2

theorem inf_any (w : World) : Calls Tryz.prog 48 #[.int .i64 1] w fun e w' => e = .returned (.float .f64 9218868437227405312) ∧ w' = w := by
  have x2 := Tryz.frombits7 9218868437227405312
  rw [show ((9218868437227405312 : Int)).toNat = 9218868437227405312 from rfl] at x2
  go_enter Tryz.func48, Tryz.ntmps48
  go_wp2
  go_ret
  exact ⟨rfl, rfl⟩
/-- What Ldexp asks of a float ahead. -/
structure Asks (r : Nat) : Prop where
  cn : ∀ w, Calls Tryz.prog 237 #[.float .f64 r] w fun e w' => e = .returned (.tuple #[.float .f64 r, .int .i64 0]) ∧ w' = w
  ci : ∀ w, Calls Tryz.prog 25 #[.float .f64 r, .int .i64 0] w fun e w' => e = .returned (.bool false) ∧ w' = w
  cq : ∀ w, Calls Tryz.prog 232 #[.float .f64 r] w fun e w' => e = .returned (.bool false) ∧ w' = w
  o1 : (FloatKind.f64.format.order r 0 == some .eq) = false
  o2 : (FloatKind.f64.format.order r 0 == some .lt) = false
theorem asks (r : Nat) (h1 : 4503599627370496 ≤ r) (h2 : r < 9218868437227405312) : Asks r := by
  have ci := isInf_pos r (by omega)
  have cq := isNaN_any r
  have o2 : (FloatKind.f64.format.order r 9218868437227405311 == some .gt) = false := not_gt h2 (by omega) (by omega)
  have o3 : (FloatKind.f64.format.order r r != some .eq) = false := by rw [ord_eq h2]; rfl
  rw [o2] at ci
  rw [o3] at cq
  exact ⟨normalize_any r h1 h2, ci, cq, by rw [ord_gt h2 (by omega) (by omega)]; rfl, not_lt h2 (by omega) (by omega)⟩
set_option maxRecDepth 100000 in
set_option maxHeartbeats 400000 in
theorem ldexp_norm (r q f t : Nat) (e : Int) (hr : r = q * 4503599627370496 + f) (hf : f < 4503599627370496) (hq1 : 0 < q) (hq2 : q < 2047) (he1 : 1 ≤ e + q) (he2 : e + q ≤ 2046) (ht : t = (e + q).toNat * 4503599627370496 + f) (w : World) :
    Calls Tryz.prog 192 #[.float .f64 r, .int .i64 e] w fun ee w' => ee = .returned (.float .f64 t) ∧ w' = w := by
  obtain ⟨cn, ci, cq, o1, o2⟩ := asks r (by omega) (by omega)
  have x1 := Tryz.tobits103 r
  have b1 : bits .andNot .u64 (r : Int) 9218868437227405312 = (f : Int) := by rw [hr]; exact strip_exp f q hf (by omega)
  have q1 : (r : Int) / 4503599627370496 = (q : Int) := by omega
  have b3 : bits .and .i64 (q : Int) 2047 = (q : Int) := and_11 q (by omega)
  obtain ⟨p, hp⟩ : ∃ p : Nat, e + q = (p : Int) := ⟨(e + q).toNat, by omega⟩
  have b2 : bits .or .u64 (f : Int) ((p : Int) * 4503599627370496) = (t : Int) := by
    have := put_exp f p hf (by omega)
    rw [show p * 4503599627370496 + f = t by omega] at this
    rw [← this]
    congr 1
  have hm : ∀ ty w, (binOp .mul ty (.float .f64 4607182418800017408) (.float .f64 t)).run Tryz.prog w = .ok (.float .f64 t) w := by
    intro ty w
    exact run_float_arith w .mul ty .f64 _ _ t (mul_pow 1023 t t (by omega) (by omega) (by omega) (by omega) rfl)
  have x2 := Tryz.frombits7 (t : Int)
  rw [Int.toNat_natCast] at x2
  have e1 : e + ((q : Int) - 1023) + 1023 = (p : Int) := by omega
  have k1 : ¬ e + ((q : Int) - 1023) < -1075 := by omega
  have k2 : ¬ 1023 < e + ((q : Int) - 1023) := by omega
  have k3 : ¬ e + ((q : Int) - 1023) < -1022 := by omega
  clear ht hr hp
  go_enter Tryz.func192, Tryz.ntmps192
  go_wp2_with (first | (go_at_call 237; refine (cn _).mono ?_; rintro e w' ⟨rfl, rfl⟩) | (go_at_call 25; refine (ci _).mono ?_; rintro e w' ⟨rfl, rfl⟩) | (go_at_call 232; refine (cq _).mono ?_; rintro e w' ⟨rfl, rfl⟩) | go_in)
  go_ret
  exact ⟨rfl, rfl⟩
set_option maxRecDepth 100000 in
set_option maxHeartbeats 400000 in
theorem ldexp_over (r q f : Nat) (e : Int) (hr : r = q * 4503599627370496 + f) (hf : f < 4503599627370496) (hq1 : 0 < q) (hq2 : q < 2047) (he1 : 2046 < e + q) (he2 : e ≤ 5000) (w : World) :
    Calls Tryz.prog 192 #[.float .f64 r, .int .i64 e] w fun ee w' => ee = .returned (.float .f64 9218868437227405312) ∧ w' = w := by
  obtain ⟨cn, ci, cq, o1, o2⟩ := asks r (by omega) (by omega)
  have x1 := Tryz.tobits103 r
  have q1 : (r : Int) / 4503599627370496 = (q : Int) := by omega
  have b3 : bits .and .i64 (q : Int) 2047 = (q : Int) := and_11 q (by omega)
  have c48 := inf_any
  have k1 : ¬ e + ((q : Int) - 1023) < -1075 := by omega
  have k2 : 1023 < e + ((q : Int) - 1023) := by omega
  clear hr
  go_enter Tryz.func192, Tryz.ntmps192
  go_wp2_with (first | (go_at_call 237; refine (cn _).mono ?_; rintro e w' ⟨rfl, rfl⟩) | (go_at_call 25; refine (ci _).mono ?_; rintro e w' ⟨rfl, rfl⟩) | (go_at_call 232; refine (cq _).mono ?_; rintro e w' ⟨rfl, rfl⟩) | (go_at_call 48; refine (c48 _).mono ?_; rintro e w' ⟨rfl, rfl⟩) | go_in)
  go_ret
  exact ⟨rfl, rfl⟩
set_option maxRecDepth 100000 in
set_option maxHeartbeats 400000 in
theorem ldexp_low (r q f t z : Nat) (e : Int) (hr : r = q * 4503599627370496 + f) (hf : f < 4503599627370496) (hq1 : 0 < q) (hq2 : q < 2047) (he1 : -52 ≤ e + q) (he2 : e + q < 1) (ht : t = (e + q + 53).toNat * 4503599627370496 + f)
    (hz : Ieee.double.mul 4368491638549381120 t = some z) (w : World) :
    Calls Tryz.prog 192 #[.float .f64 r, .int .i64 e] w fun ee w' => ee = .returned (.float .f64 z) ∧ w' = w := by
  obtain ⟨cn, ci, cq, o1, o2⟩ := asks r (by omega) (by omega)
  have x1 := Tryz.tobits103 r
  have b1 : bits .andNot .u64 (r : Int) 9218868437227405312 = (f : Int) := by rw [hr]; exact strip_exp f q hf (by omega)
  have q1 : (r : Int) / 4503599627370496 = (q : Int) := by omega
  have b3 : bits .and .i64 (q : Int) 2047 = (q : Int) := and_11 q (by omega)
  obtain ⟨p, hp⟩ : ∃ p : Nat, e + q + 53 = (p : Int) := ⟨(e + q + 53).toNat, by omega⟩
  have b2 : bits .or .u64 (f : Int) ((p : Int) * 4503599627370496) = (t : Int) := by
    have := put_exp f p hf (by omega)
    rw [show p * 4503599627370496 + f = t by omega] at this
    rw [← this]
    congr 1
  have hm : ∀ ty w, (binOp .mul ty (.float .f64 4368491638549381120) (.float .f64 t)).run Tryz.prog w = .ok (.float .f64 z) w := by
    intro ty w
    exact run_float_arith w .mul ty .f64 _ _ z hz
  have x2 := Tryz.frombits7 (t : Int)
  rw [Int.toNat_natCast] at x2
  have e1 : e + ((q : Int) - 1023) + 53 + 1023 = (p : Int) := by omega
  have k1 : ¬ e + ((q : Int) - 1023) < -1075 := by omega
  have k2 : ¬ 1023 < e + ((q : Int) - 1023) := by omega
  have k3 : e + ((q : Int) - 1023) < -1022 := by omega
  clear ht hr hp hz
  go_enter Tryz.func192, Tryz.ntmps192
  go_wp2_with (first | (go_at_call 237; refine (cn _).mono ?_; rintro e w' ⟨rfl, rfl⟩) | (go_at_call 25; refine (ci _).mono ?_; rintro e w' ⟨rfl, rfl⟩) | (go_at_call 232; refine (cq _).mono ?_; rintro e w' ⟨rfl, rfl⟩) | go_in)
  go_ret
  exact ⟨rfl, rfl⟩
theorem ldexp_zero (e : Int) (w : World) : Calls Tryz.prog 192 #[.float .f64 0, .int .i64 e] w fun ee w' => ee = .returned (.float .f64 0) ∧ w' = w := by
  have o1 : (FloatKind.f64.format.order 0 0 == some .eq) = true := by decide
  go_enter Tryz.func192, Tryz.ntmps192
  go_wp2
  go_ret
  exact ⟨rfl, rfl⟩
/-- **Ldexp, of a whole number of few digits.** -/
theorem ldexp_whole (n a : Nat) (hn : n ≤ 9007199254740992) (hna : 4503599627370496 ≤ n ∨ a = 0) (ha : a ≤ 2045) (w : World) :
    Calls Tryz.prog 192 #[.float .f64 (Ieee.double.nearest false n 0), .int .i64 ((a : Int) - 1074)] w fun ee w' => ee = .returned (.float .f64 (a * 4503599627370496 + n)) ∧ w' = w := by
  rcases Nat.eq_zero_or_pos n with h0 | h0
  · subst h0
    have : a = 0 := by omega
    subst this
    rw [nearest_zero, word_wd, wd_false]
    exact ldexp_zero _ w
  · obtain ⟨M, L, hN, hL⟩ : ∃ M L, Norm n M L ∧ L ≤ 53 := by
      rcases Nat.lt_or_eq_of_le hn with h | h
      · obtain ⟨M, L, h1, h2⟩ := norm_small (by omega) h
        exact ⟨M, L, h1, by omega⟩
      · rw [h]
        exact ⟨4503599627370496, 53, norm_pow 53, by omega⟩
    have hM1 := hN.M_le
    have hM2 := hN.M_lt
    rw [nearest_whole hN (by omega), wd_false]
    have hq : rungI M L = (L + 1023) * 4503599627370496 + (M - 4503599627370496) := by unfold rungI; omega
    by_cases hbig : 4503599627370496 ≤ n
    · have hval : (L = 52 ∧ M = n) ∨ (L = 53 ∧ M = 4503599627370496 ∧ n = 9007199254740992) := by
        have h52 : (2 : Nat) ^ 52 = 4503599627370496 := by decide
        have h53 : (2 : Nat) ^ 53 = 9007199254740992 := by decide
        have h54 : (2 : Nat) ^ 54 = 18014398509481984 := by decide
        have hL52 : 52 ≤ L := by
          rcases Nat.lt_or_ge L 52 with h | h
          · have h1 : 2 ^ (L + 1) ≤ 2 ^ 52 := Nat.pow_le_pow_right (by omega) (by omega)
            have := hN.2.2
            omega
          · exact h
        rcases Nat.lt_or_ge 52 L with h | h
        · have : L = 53 := by omega
          subst this
          have h1 := hN.2.1
          have h2 := hN.1
          have : n = 9007199254740992 := by omega
          exact Or.inr ⟨rfl, by omega, this⟩
        · have : L = 52 := by omega
          subst this
          have h2 := hN.1
          exact Or.inl ⟨rfl, by omega⟩
      by_cases hov : a + L = 2098
      · have h1 := ldexp_over (rungI M L) (L + 1023) (M - 4503599627370496) ((a : Int) - 1074) hq (by omega) (by omega) (by omega) (by omega) (by omega) w
        rw [show a * 4503599627370496 + n = 9218868437227405312 by omega]
        exact h1
      · exact ldexp_norm (rungI M L) (L + 1023) (M - 4503599627370496) (a * 4503599627370496 + n) ((a : Int) - 1074) hq (by omega) (by omega) (by omega) (by omega) (by omega) (by omega) w
    · have ha0 : a = 0 := by omega
      subst ha0
      have hL52 : L < 52 := by
        rcases Nat.lt_or_ge L 52 with h | h
        · exact h
        · have h52 : (2 : Nat) ^ 52 = 4503599627370496 := by decide
          have h1 : 2 ^ 52 ≤ 2 ^ L := Nat.pow_le_pow_right (by omega) h
          have := hN.2.1
          omega
      rw [Nat.zero_mul, Nat.zero_add]
      have ht : magR ((L + 2) * 4503599627370496 + (M - 4503599627370496)) = M ∧ expR ((L + 2) * 4503599627370496 + (M - 4503599627370496)) = L + 1 := by
        rw [show (L + 2) * 4503599627370496 + (M - 4503599627370496) = (L + 1) * 4503599627370496 + M by omega]
        exact ⟨magR_at hM2 (Or.inl hM1), expR_at hM2 (Or.inl hM1)⟩
      have hz : Ieee.double.mul 4368491638549381120 ((L + 2) * 4503599627370496 + (M - 4503599627370496)) = some n := by
        refine mul_pow 970 _ n (by omega) (by omega) (by omega) (by omega) ?_
        have v1 : valR ((L + 2) * 4503599627370496 + (M - 4503599627370496)) = n * e2 53 := by
          unfold valR
          rw [ht.1, ht.2, Nat.pow_succ, ← Nat.mul_assoc, hN.1, show e2 53 = 2 ^ 52 * 2 from rfl, Nat.mul_assoc]
        have v2 : valR n = n := by
          unfold valR magR expR
          rw [if_pos (by omega), Nat.div_eq_of_lt (by omega)]
          simp
        rw [v1, v2, Nat.mul_assoc, ← e2_add]
      exact ldexp_low (rungI M L) (L + 1023) (M - 4503599627370496) ((L + 2) * 4503599627370496 + (M - 4503599627370496)) n (((0 : Nat) : Int) - 1074) hq (by omega) (by omega) (by omega) (by omega) (by omega) (by rw [show (((0 : Nat) : Int) - 1074 + ((L + 1023 : Nat) : Int) + 53).toNat = L + 2 by omega]) hz w
theorem Ldexp_whole (n a : Nat) (hn : n ≤ 9007199254740992) (hna : 4503599627370496 ≤ n ∨ a = 0) (ha : a ≤ 2045) (w : World) :
    Calls Tryz.prog 146 #[.float .f64 (Ieee.double.nearest false n 0), .int .i64 ((a : Int) - 1074)] w fun ee w' => ee = .returned (.float .f64 (a * 4503599627370496 + n)) ∧ w' = w := by
  have cf := ldexp_whole n a hn hna ha
  generalize a * 4503599627370496 + n = t at *
  generalize Ieee.double.nearest false n 0 = x at *
  generalize (a : Int) - 1074 = e at *
  clear hn hna ha
  go_enter Tryz.func146, Tryz.ntmps146
  go_wp2_with (first | (go_at_call 192; refine (cf _).mono ?_; rintro e w' ⟨rfl, rfl⟩) | go_in)
  go_ret
  exact ⟨rfl, rfl⟩
end Go.Proofs.YtellndmbllmjgaaGreatDoor
