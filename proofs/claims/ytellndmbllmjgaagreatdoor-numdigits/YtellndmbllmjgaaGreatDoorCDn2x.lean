/- rounded of the document. -/
import Derived.Test.YtellndmbllmjgaaGreatDoorCPo1x
import Derived.Test.YtellndmbllmjgaaGreatDoorCDp2x
import Derived.Test.YtellndmbllmjgaaGreatDoorCMo1x
import Derived.Test.YtellndmbllmjgaaGreatDoorCDa8x
import Derived.Test.YtellndmbllmjgaaGreatDoorCTx3x
import Derived.Test.YtellndmbllmjgaaGreatDoorCDb7x
import Derived.Test.YtellndmbllmjgaaGreatDoorCNt2x
set_option linter.unusedVariables false
namespace Go.Proofs.YtellndmbllmjgaaGreatDoor
open Go.RowKit Go.Shelf Go.Sort Fs Fl Fl2

theorem ten_pw4 {k n : Nat} (h : 4 * k ≤ 16 * n) : 10 ^ k ≤ pw n := by
  have h1 : (10 : Nat) ^ k ≤ 16 ^ k := Nat.pow_le_pow_left (by omega) _
  have h2 : (16 : Nat) ^ k = 2 ^ (4 * k) := by rw [show (16 : Nat) = 2 ^ 4 from rfl, ← Nat.pow_mul]
  rw [h2] at h1
  exact Nat.le_trans h1 (two_pw3 h)
theorem pS_pw4 {M E : Nat} {k : Int} (hM : M < pw 4) (hE : E ≤ 2045) (hk : k ≤ 480) : pS M E k < pw 400 := by
  unfold pS
  have h1 : 2 ^ (E - 1074) * 10 ^ k.toNat ≤ pw 61 * 10 ^ k.toNat := Nat.mul_le_mul_right _ (two_pw3 (by omega))
  have h2 : pw 61 * 10 ^ k.toNat < pw 200 := pw_lt_mul (Nat.le_refl (pw 61)) (Nat.lt_of_le_of_lt (ten_pw4 (n := 130) (by omega)) (pw_strict (show 130 < 139 by omega))) (by omega)
  rw [Nat.mul_assoc]
  exact pw_lt_mul (Nat.le_of_lt hM) (Nat.lt_of_le_of_lt h1 h2) (by omega)
theorem qS_pw4 {E : Nat} {k : Int} (hk : -480 ≤ k) : qS E k < pw 400 := by
  unfold qS
  exact pw_lt_mul (two_pw3 (n := 68) (by omega)) (Nat.lt_of_le_of_lt (ten_pw4 (n := 130) (by omega)) (pw_strict (show 130 < 139 by omega))) (by omega)
theorem qS_pos (E : Nat) (k : Int) : 0 < qS E k := Nat.mul_pos (Nat.pow_pos (by omega)) (Nat.pow_pos (by omega))
/-- A float over a power of ten, over one denominator. -/
def tS (M E c : Nat) (k : Int) : Nat := M * 2 ^ (E - 1074) * 10 ^ ((c : Int) + k).toNat
def dS (E c : Nat) : Nat := 2 ^ (1074 - E) * 10 ^ c
theorem dS_pos (E c : Nat) : 0 < dS E c := Nat.mul_pos (Nat.pow_pos (by omega)) (Nat.pow_pos (by omega))
theorem ps_ts (M E c : Nat) (k : Int) (hk : -(c : Int) ≤ k) : pS M E k * dS E c = tS M E c k * qS E k := by
  unfold pS dS tS qS
  have e : 10 ^ k.toNat * 10 ^ c = 10 ^ ((c : Int) + k).toNat * 10 ^ (-k).toNat := by
    rw [← Nat.pow_add, ← Nat.pow_add]
    congr 1
    omega
  generalize M * 2 ^ (E - 1074) = A at *
  generalize 2 ^ (1074 - E) = B at *
  calc A * 10 ^ k.toNat * (B * 10 ^ c) = A * B * (10 ^ k.toNat * 10 ^ c) := by grind
    _ = A * B * (10 ^ ((c : Int) + k).toNat * 10 ^ (-k).toNat) := by rw [e]
    _ = _ := by grind
theorem half_ratio {p q T D : Nat} (h : p * D = T * q) (hq : 0 < q) (hD : 0 < D) : (2 * p + q) / (2 * q) = (2 * T + D) / (2 * D) := by
  have e1 : (2 * p + q) * D = q * (2 * T + D) := by
    rw [Nat.add_mul, Nat.mul_assoc, h]
    grind
  have e2 : 2 * q * D = q * (2 * D) := by grind
  rw [← Nat.mul_div_mul_right (2 * p + q) (2 * q) hD, e1, e2, Nat.mul_div_mul_left _ _ hq]
theorem l10_ts {M E c : Nat} {n : Int} (hn : n ≤ (c : Int)) : L10 M E n ↔ tS M E c (-n) < dS E c := by
  have h := ps_ts M E c (-n) (by omega)
  have hq := qS_pos E (-n)
  have hd := dS_pos E c
  unfold L10
  constructor
  · intro h1
    have h2 : pS M E (-n) * dS E c < qS E (-n) * dS E c := Nat.mul_lt_mul_of_pos_right h1 hd
    rw [h, Nat.mul_comm (qS E (-n))] at h2
    exact Nat.lt_of_mul_lt_mul_right h2
  · intro h1
    have h2 : tS M E c (-n) * qS E (-n) < dS E c * qS E (-n) := Nat.mul_lt_mul_of_pos_right h1 hq
    rw [← h, Nat.mul_comm (dS E c)] at h2
    exact Nat.lt_of_mul_lt_mul_right h2
theorem ts_add (M E c : Nat) (k : Int) (j : Nat) (hk : -(c : Int) ≤ k) : tS M E c (k + j) = tS M E c k * 10 ^ j := by
  unfold tS
  rw [Nat.mul_assoc (M * 2 ^ (E - 1074)), ← Nat.pow_add]
  congr 2
  omega
/-- Rounded to n digits: neither fewer nor more. -/
theorem rr_bounds {M E n : Nat} {p : Int} (hn : 1 ≤ n) (hn2 : n ≤ 60) (h1 : L10 M E p) (h2 : ¬ L10 M E (p - 1)) (hp1 : -400 ≤ p) (hp2 : p ≤ 401) : 10 ^ (n - 1) ≤ (2 * pS M E (n - p) + qS E (n - p)) / (2 * qS E (n - p)) ∧ (2 * pS M E (n - p) + qS E (n - p)) / (2 * qS E (n - p)) ≤ 10 ^ n := by
  obtain ⟨c, hc⟩ : ∃ c, c = 500 := ⟨_, rfl⟩
  rw [half_ratio (ps_ts M E c ((n : Int) - p) (by omega)) (qS_pos _ _) (dS_pos E c)]
  rw [l10_ts (c := c) (by omega)] at h1 h2
  have e1 : tS M E c ((n : Int) - p) = tS M E c (-p) * 10 ^ n := by
    rw [← ts_add M E c (-p) n (by omega)]
    congr 1
    omega
  have e2 : tS M E c ((n : Int) - p) = tS M E c (-(p - 1)) * 10 ^ (n - 1) := by
    rw [← ts_add M E c (-(p - 1)) (n - 1) (by omega)]
    congr 1
    omega
  have hd := dS_pos E c
  constructor
  · rw [Nat.le_div_iff_mul_le (by omega), e2]
    have h3 : dS E c * 10 ^ (n - 1) ≤ tS M E c (-(p - 1)) * 10 ^ (n - 1) := Nat.mul_le_mul_right _ (Nat.le_of_not_lt h2)
    have h4 : 10 ^ (n - 1) * (2 * dS E c) = 2 * (dS E c * 10 ^ (n - 1)) := by grind
    omega
  · apply Nat.le_of_lt_succ
    rw [Nat.div_lt_iff_lt_mul (by omega), e1]
    have h3 : tS M E c (-p) * 10 ^ n < dS E c * 10 ^ n := Nat.mul_lt_mul_of_pos_right h1 (Nat.pow_pos (by omega))
    have h4 : (10 ^ n).succ * (2 * dS E c) = 2 * (dS E c * 10 ^ n) + 2 * dS E c := by rw [Nat.succ_eq_add_one]; grind
    omega
set_option maxRecDepth 100000 in
set_option maxHeartbeats 1000000 in
/-- **rounded, of the document.** -/
theorem roundR_any (r n : Nat) (h0 : 0 < r) (h : r < 9218868437227405312) (hn : 1 ≤ n) (hn2 : n ≤ 21) (w : World) :
    Calls Tryz.prog 62 #[.float .f64 r, .int .i64 (n : Int)] w fun e w' => ∃ (p : Int) (R : Nat), L10 (magR r) (expR r) p ∧ ¬ L10 (magR r) (expR r) (p - 1) ∧ R = (2 * pS (magR r) (expR r) (n - p) + qS (expR r) (n - p)) / (2 * qS (expR r) (n - p)) ∧
      e = .returned (.tuple #[.string (txt (decN (if R = 10 ^ n then 10 ^ (n - 1) else R))), .int .i64 (p + (if R = 10 ^ n then 1 else 0))]) ∧ Below w.heap.size w w' := by
  have cp := point_any r h0 h w
  have hm := mag53 r
  have hml := magR_lt r
  have hM0 : 0 < magR r := by have := magR_zero (r := r); omega
  have hel : expR r ≤ 2045 := by unfold expR; omega
  have CN := (show Hid _ from fun (k : Int) (hk1 : -480 ≤ k) (hk2 : k ≤ 480) (w1 : World) => nearR_any r k h (by omega) (by omega) (pS_pw4 hm hel hk2) (qS_pw4 hk1) (qS_pos _ _) w1)
  have HM : Hid (magR r < 9007199254740992 ∧ 0 < magR r ∧ expR r ≤ 2045) := ⟨hml, hM0, hel⟩
  clear hm hml hM0 hel h h0
  go_enter Tryz.func62, Tryz.ntmps62
  go_wp2_with (first | (go_at_call 86; fail))
  go_fit cp
  rintro e w1 ⟨p, rfl, hp1, hp2, hb1⟩
  obtain ⟨hM1, hM0, hE⟩ := HM.out
  have hpl : -400 < p := by
    rcases Int.lt_or_le (-400) p with h | h
    · exact h
    · exact absurd hp1 (l10_lo hM0 h)
  have hph : p ≤ 400 := by
    rcases Int.lt_or_le p 401 with h | h
    · omega
    · exact absurd (l10_hi hM1 hE (by omega)) hp2
  obtain ⟨b1, b2⟩ := rr_bounds hn (by omega) hp1 hp2 (by omega) (by omega)
  have HP : Hid (L10 (magR r) (expR r) p ∧ ¬ L10 (magR r) (expR r) (p - 1)) := ⟨hp1, hp2⟩
  have cn := CN.out ((n : Int) - p) (by omega) (by omega) w1
  obtain ⟨R, hR⟩ : ∃ R, R = (2 * pS (magR r) (expR r) (n - p) + qS (expR r) (n - p)) / (2 * qS (expR r) (n - p)) := ⟨_, rfl⟩
  rw [← hR] at cn b1 b2
  have HR : Hid (R = (2 * pS (magR r) (expR r) (n - p) + qS (expR r) (n - p)) / (2 * qS (expR r) (n - p))) := hR
  have HB : Hid (10 ^ (n - 1) ≤ R ∧ R ≤ 10 ^ n) := ⟨b1, b2⟩
  have bR : R < pw 100 := Nat.lt_of_le_of_lt b2 (Nat.lt_of_le_of_lt (ten_pw4 (n := 21) (by omega)) (pw_strict (by omega)))
  clear cp CN hR hp1 hp2 b1 b2 hM1 hM0 hE
  go_wp2_with (first | (go_at_call 61; fail))
  go_fit cn
  rintro e w2 ⟨v2, rfl, hv2, hb2⟩
  have cd := digB_any v2 R 10 (by omega) (by omega) w2 hv2 bR
  rw [toB_ten R R (Nat.le_refl _)] at cd
  have cd' : Calls Tryz.prog 33 #[v2, .int .i64 10] w2 fun e w' => e = .returned (.string (txt (decN R))) ∧ Below w2.heap.size w2 w' := cd
  have hb12 := hb1.trans (hb2.mono hb1.size)
  clear cn cd hv2 bR
  go_wp2_with (first | (go_at_call 33; fail))
  go_fit cd'
  rintro e w3 ⟨rfl, hb3⟩
  have hbw := hb12.trans (hb3.mono hb12.size)
  have hp10 : 0 < 10 ^ (n - 1) := Nat.pow_pos (by omega)
  clear cd'
  by_cases hc : R = 10 ^ n
  · have hnd : Lib.nDigits R = n + 1 := nDigits_of R (n + 1) (by omega) (by rw [Nat.add_sub_cancel]; omega) (by rw [hc]; exact Nat.pow_lt_pow_right (by omega) (by omega))
    have hsz := txt_size (decN R)
    rw [decN_length, hnd] at hsz
    have HX : Hid ((txt (decN R)).extract 0 n = txt (decN (10 ^ (n - 1)))) := by
      show (txt (decN R)).extract 0 n = txt (decN (10 ^ (n - 1)))
      have h1 : decN R = decN (10 ^ (n - 1)) ++ [48] := by
        have := decN_shift (10 ^ (n - 1)) 1 hp10
        rw [← Nat.pow_add, show n - 1 + 1 = n by omega, ← hc] at this
        exact this
      have h2 := ext_take (decN (10 ^ (n - 1))) [48]
      rw [← h1, decN_length, nDigits_of (10 ^ (n - 1)) n hn (Nat.le_refl _) (Nat.pow_lt_pow_right (by omega) (by omega))] at h2
      exact h2
    have HC : Hid (R = 10 ^ n) := hc
    generalize txt (decN R) = T at *
    have k1 : (n : Int) < ((n + 1 : Nat) : Int) := by omega
    clear hc hnd hp10
    go_wp2
    go_ret2
    refine ⟨p, R, HP.out.1, HP.out.2, HR.out, ?_, hbw⟩
    rw [if_pos HC.out, if_pos HC.out, ← HX.out]
    rfl
  · have hnd : Lib.nDigits R = n := nDigits_of R n hn HB.out.1 (by have := HB.out.2; omega)
    have hsz := txt_size (decN R)
    rw [decN_length, hnd] at hsz
    have HC : Hid (¬ R = 10 ^ n) := hc
    obtain ⟨T, hT⟩ : ∃ T, T = txt (decN R) := ⟨_, rfl⟩
    have HT : Hid (T = txt (decN R)) := hT
    rw [← hT] at hsz ⊢
    clear hc hnd hp10 hT
    go_wp2
    go_ret2
    refine ⟨p, R, HP.out.1, HP.out.2, HR.out, ?_, hbw⟩
    rw [if_neg HC.out, if_neg HC.out, ← HT.out, Int.add_zero]
    rfl
end Go.Proofs.YtellndmbllmjgaaGreatDoor
/- Both sides' digits are one. -/
set_option linter.unusedVariables false
namespace Go.Proofs.YtellndmbllmjgaaGreatDoor
open Go.RowKit Go.Shelf Go.Sort Fs Fl Fl2

/-- What exact says, over the document's numbers. -/
theorem ab_eq {r X k : Nat} (h : ExD r X k) : magR r * 2 ^ (expR r - 1074) * 10 ^ k = X * 2 ^ (1074 - expR r) := by
  obtain ⟨y, hy, hv⟩ := h
  unfold valR at hv
  rw [← hy]
  generalize magR r = M at *
  generalize expR r = E at *
  rcases Nat.lt_or_ge E y with h1 | h1
  · obtain ⟨j, hj⟩ : ∃ j, y = E + j := ⟨y - E, by omega⟩
    rw [hj, Nat.pow_add] at hv
    rw [show E - y = 0 by omega, show y - E = j by omega, Nat.pow_zero, Nat.mul_one]
    have hp : 0 < 2 ^ E := Nat.two_pow_pos E
    refine Nat.eq_of_mul_eq_mul_left hp ?_
    calc 2 ^ E * (M * 10 ^ k) = M * 2 ^ E * 10 ^ k := by grind
      _ = X * (2 ^ E * 2 ^ j) := hv
      _ = _ := by grind
  · obtain ⟨j, hj⟩ : ∃ j, E = y + j := ⟨E - y, by omega⟩
    rw [hj, Nat.pow_add] at hv
    rw [show E - y = j by omega, show y - E = 0 by omega, Nat.pow_zero, Nat.mul_one]
    have hp : 0 < 2 ^ y := Nat.two_pow_pos y
    refine Nat.eq_of_mul_eq_mul_left hp ?_
    calc 2 ^ y * (M * 2 ^ j * 10 ^ k) = M * (2 ^ y * 2 ^ j) * 10 ^ k := by grind
      _ = X * 2 ^ y := hv
      _ = _ := by grind
theorem ts_eq {M E X k : Nat} (h : M * 2 ^ (E - 1074) * 10 ^ k = X * 2 ^ (1074 - E)) (c : Nat) (n : Int) : tS M E c n * 10 ^ k = X * 10 ^ ((c : Int) + n).toNat * 2 ^ (1074 - E) := by
  unfold tS
  calc M * 2 ^ (E - 1074) * 10 ^ ((c : Int) + n).toNat * 10 ^ k = M * 2 ^ (E - 1074) * 10 ^ k * 10 ^ ((c : Int) + n).toNat := by grind
    _ = X * 2 ^ (1074 - E) * 10 ^ ((c : Int) + n).toNat := by rw [h]
    _ = _ := by grind
theorem l10_x {M E X k : Nat} (h : M * 2 ^ (E - 1074) * 10 ^ k = X * 2 ^ (1074 - E)) {n : Int} (c : Nat) (hn : n ≤ (c : Int)) : L10 M E n ↔ X * 10 ^ ((c : Int) - n).toNat < 10 ^ (c + k) := by
  rw [l10_ts hn]
  have h1 := ts_eq h c (-n)
  have e1 : (c : Int) + -n = (c : Int) - n := by omega
  rw [e1] at h1
  have h2 : dS E c * 10 ^ k = 10 ^ (c + k) * 2 ^ (1074 - E) := by unfold dS; rw [Nat.pow_add]; grind
  have hp : 0 < 10 ^ k := Nat.pow_pos (by omega)
  have hq : 0 < 2 ^ (1074 - E) := Nat.two_pow_pos _
  constructor
  · intro h3
    have h4 : tS M E c (-n) * 10 ^ k < dS E c * 10 ^ k := Nat.mul_lt_mul_of_pos_right h3 hp
    rw [h1, h2] at h4
    exact Nat.lt_of_mul_lt_mul_right h4
  · intro h3
    have h4 : X * 10 ^ ((c : Int) - n).toNat * 2 ^ (1074 - E) < 10 ^ (c + k) * 2 ^ (1074 - E) := Nat.mul_lt_mul_of_pos_right h3 hq
    rw [← h1, ← h2] at h4
    exact Nat.lt_of_mul_lt_mul_right h4
/-- The point: as many digits as there are, less those behind it. -/
theorem pt_eq {M E X k : Nat} (h : M * 2 ^ (E - 1074) * 10 ^ k = X * 2 ^ (1074 - E)) (hX : 0 < X) {p : Int} (h1 : L10 M E p) (h2 : ¬ L10 M E (p - 1)) (hp1 : -400 ≤ p) (hp2 : p ≤ 401) : p = (Lib.nDigits X : Int) - (k : Int) := by
  obtain ⟨c, hc⟩ : ∃ c, c = 500 := ⟨_, rfl⟩
  rw [l10_x h c (by omega)] at h1 h2
  have a1 := pow_digits X hX
  have a2 := lt_digits X
  have hnp := Lib.nDigits_pos X
  have b1 : 10 ^ (Lib.nDigits X - 1 + ((c : Int) - p).toNat) < 10 ^ (c + k) := by
    rw [Nat.pow_add]
    exact Nat.lt_of_le_of_lt (Nat.mul_le_mul_right _ a1) h1
  have b2 : 10 ^ (c + k) < 10 ^ (Lib.nDigits X + ((c : Int) - (p - 1)).toNat) := by
    rw [Nat.pow_add 10 (Lib.nDigits X)]
    exact Nat.lt_of_le_of_lt (Nat.le_of_not_lt h2) (Nat.mul_lt_mul_of_pos_right a2 (Nat.pow_pos (by omega)))
  have c1 := (Nat.pow_lt_pow_iff_right (show 1 < 10 by omega)).1 b1
  have c2 := (Nat.pow_lt_pow_iff_right (show 1 < 10 by omega)).1 b2
  omega
theorem cancel_ratio {p q T D T' D' : Nat} (h : p * D = T * q) (h2 : T * D' = T' * D) (hD : 0 < D) : p * D' = T' * q := by
  refine Nat.eq_of_mul_eq_mul_right hD ?_
  calc p * D' * D = p * D * D' := by grind
    _ = T * q * D' := by rw [h]
    _ = T * D' * q := by grind
    _ = T' * D * q := by rw [h2]
    _ = _ := by grind
/-- **Rounded by the document and by the program: one number.** -/
theorem rnd_eq {M E X k : Nat} (h : M * 2 ^ (E - 1074) * 10 ^ k = X * 2 ^ (1074 - E)) (n : Nat) (c : Nat) (K : Int) (hK : K = (n : Int) - ((Lib.nDigits X : Int) - (k : Int))) (hc : -(c : Int) ≤ K) :
    (2 * pS M E K + qS E K) / (2 * qS E K) = rndX X (Lib.nDigits X) n := by
  have h1 := ps_ts M E c K hc
  have h3 := ts_eq h c K
  have h2 : dS E c * 10 ^ k = 10 ^ (c + k) * 2 ^ (1074 - E) := by unfold dS; rw [Nat.pow_add]; grind
  have hp : 0 < 10 ^ k := Nat.pow_pos (by omega)
  unfold rndX
  split
  · rename_i hl
    obtain ⟨j, hj⟩ : ∃ j, n = Lib.nDigits X + j := ⟨n - Lib.nDigits X, by omega⟩
    rw [show n - Lib.nDigits X = j by omega]
    have e : ((c : Int) + K).toNat = c + k + j := by omega
    have hT : tS M E c K * 1 = X * 10 ^ j * dS E c := by
      refine Nat.eq_of_mul_eq_mul_right hp ?_
      rw [Nat.mul_one, h3, Nat.mul_assoc (X * 10 ^ j), h2, e, Nat.pow_add 10 (c + k)]
      grind
    rw [half_ratio (cancel_ratio h1 hT (dS_pos E c)) (qS_pos _ _) (by omega)]
    omega
  · rename_i hl
    obtain ⟨j, hj⟩ : ∃ j, Lib.nDigits X = n + j := ⟨Lib.nDigits X - n, by omega⟩
    rw [show Lib.nDigits X - n = j by omega]
    have e : ((c : Int) + K).toNat + j = c + k := by omega
    have hT : tS M E c K * 10 ^ j = X * dS E c := by
      refine Nat.eq_of_mul_eq_mul_right hp ?_
      rw [Nat.mul_assoc X, h2, ← e, Nat.pow_add 10 _ j]
      calc tS M E c K * 10 ^ j * 10 ^ k = tS M E c K * 10 ^ k * 10 ^ j := by grind
        _ = _ := by rw [h3]; grind
    rw [half_ratio (cancel_ratio h1 hT (dS_pos E c)) (qS_pos _ _) (Nat.pow_pos (by omega))]
/-- Where no digit is left. -/
theorem rnd_none {M E X k : Nat} (h : M * 2 ^ (E - 1074) * 10 ^ k = X * 2 ^ (1074 - E)) (c : Nat) (K : Int) (hK : (Lib.nDigits X : Int) - (k : Int) + K < 0) (hc : -(c : Int) ≤ K) :
    (2 * pS M E K + qS E K) / (2 * qS E K) = 0 := by
  have h1 := ps_ts M E c K hc
  have h3 := ts_eq h c K
  have h2 : dS E c * 10 ^ k = 10 ^ (c + k) * 2 ^ (1074 - E) := by unfold dS; rw [Nat.pow_add]; grind
  have hp : 0 < 10 ^ k := Nat.pow_pos (by omega)
  have hd := dS_pos E c
  rw [half_ratio h1 (qS_pos _ _) hd]
  refine Nat.div_eq_of_lt ?_
  have a2 := lt_digits X
  have h4 : tS M E c K * 10 < dS E c := by
    refine Nat.lt_of_mul_lt_mul_right (a := 10 ^ k) ?_
    rw [h2]
    have e5 : tS M E c K * 10 * 10 ^ k = X * 10 ^ (((c : Int) + K).toNat + 1) * 2 ^ (1074 - E) := by
      rw [Nat.pow_succ]
      calc tS M E c K * 10 * 10 ^ k = tS M E c K * 10 ^ k * 10 := by grind
        _ = _ := by rw [h3]; grind
    rw [e5]
    refine Nat.mul_lt_mul_of_pos_right ?_ (Nat.two_pow_pos _)
    refine Nat.lt_of_lt_of_le (Nat.mul_lt_mul_of_pos_right a2 (Nat.pow_pos (by omega))) ?_
    rw [← Nat.pow_add]
    exact Nat.pow_le_pow_right (by omega) (by omega)
  omega
end Go.Proofs.YtellndmbllmjgaaGreatDoor
/- Fixed of the document. -/
set_option linter.unusedVariables false
namespace Go.Proofs.YtellndmbllmjgaaGreatDoor
open Go.RowKit Go.Shelf Go.Sort Fs Fl Fl2

set_option maxRecDepth 100000 in
set_option maxHeartbeats 1000000 in
theorem fixR_no (x : Nat) (n : Int) (hn : n < 0 ∨ 20 < n) (w : World) :
    Calls Tryz.prog 19 #[.float .f64 x, .int .i64 n] w fun e w' => e = .returned (.tuple #[.string ⟨#[]⟩, .bool false]) ∧ w' = w := by
  rcases hn with h | h
  · go_enter Tryz.func19, Tryz.ntmps19
    go_wp2
    go_ret2
    exact ⟨rfl, rfl⟩
  · have h2 : ¬ n < 0 := by omega
    go_enter Tryz.func19, Tryz.ntmps19
    go_wp2
    go_ret2
    exact ⟨rfl, rfl⟩
set_option maxRecDepth 100000 in
set_option maxHeartbeats 1000000 in
/-- Fixed, where Text answers. -/
theorem fixR_far (x : Nat) (n : Nat) (hn : n ≤ 20) (b1 b2 b3 : Bool) (T : ByteArray) (w : World)
    (o1 : (FloatKind.f64.format.order x x != some .eq) = b1)
    (o2 : (FloatKind.f64.format.order x 4921056587992461136 == some .gt || FloatKind.f64.format.order x 4921056587992461136 == some .eq) = b2)
    (o3 : (FloatKind.f64.format.order x 14144428624847236944 == some .lt || FloatKind.f64.format.order x 14144428624847236944 == some .eq) = b3)
    (hb : b1 = true ∨ b2 = true ∨ b3 = true)
    (ct : Calls Tryz.prog 9 #[.float .f64 x] w fun e w' => e = .returned (.string T) ∧ Below w.heap.size w w') :
    Calls Tryz.prog 19 #[.float .f64 x, .int .i64 (n : Int)] w fun e w' => e = .returned (.tuple #[.string T, .bool true]) ∧ Below w.heap.size w w' := by
  cases b1
  · cases b2
    · cases b3
      · simp at hb
      · clear hb
        go_enter Tryz.func19, Tryz.ntmps19
        go_wp2_with (first | (go_at_call 9; refine ct.mono ?_; rintro e w2 ⟨rfl, hb2⟩))
        go_ret2
        exact ⟨rfl, hb2⟩
    · clear hb o3
      go_enter Tryz.func19, Tryz.ntmps19
      go_wp2_with (first | (go_at_call 9; refine ct.mono ?_; rintro e w2 ⟨rfl, hb2⟩))
      go_ret2
      exact ⟨rfl, hb2⟩
  · clear hb o2 o3
    go_enter Tryz.func19, Tryz.ntmps19
    go_wp2_with (first | (go_at_call 9; refine ct.mono ?_; rintro e w2 ⟨rfl, hb2⟩))
    go_ret2
    exact ⟨rfl, hb2⟩
theorem ext_txt (D : List Nat) (j : Nat) (h : j ≤ D.length) : (txt D).extract 0 j ++ ⟨#[46]⟩ ++ (txt D).extract j D.length = txt (D.take j ++ 46 :: D.drop j) := by
  rw [txt_extract, txt_extract, txt_dot, txt_append, txt_append]
  congr 1
  rw [List.drop_zero, Nat.sub_zero, List.take_of_length_le (l := D.drop j) (by rw [List.length_drop]; omega)]
  simp
/-- The end of Fixed: a point n places from the right. -/
theorem ptd_eq (D : List Nat) (n : Nat) : ptd D n = if n = 0 then padD D n else (padD D n).take ((padD D n).length - n) ++ 46 :: (padD D n).drop ((padD D n).length - n) := rfl
set_option maxRecDepth 100000 in
set_option maxHeartbeats 1000000 in
theorem fixR_mid (r n : Nat) (z : Bool) (D : List Nat) (hD0 : 0 < D.length) (hD : D.length ≤ 100) (hn : n ≤ 20) (hz : z = false → D = [48]) (w : World)
    (o1 : (FloatKind.f64.format.order r r != some .eq) = false)
    (o2 : (FloatKind.f64.format.order r 4921056587992461136 == some .gt || FloatKind.f64.format.order r 4921056587992461136 == some .eq) = false)
    (o3 : (FloatKind.f64.format.order r 14144428624847236944 == some .lt || FloatKind.f64.format.order r 14144428624847236944 == some .eq) = false)
    (o4 : (FloatKind.f64.format.order r 0 == some .lt) = false) (o5 : (FloatKind.f64.format.order r 0 == some .gt) = z)
    (cn : z = true → Calls Tryz.prog 61 #[.float .f64 r, .int .i64 (n : Int)] w fun e w' => ∃ v, e = .returned v ∧ (Calls Tryz.prog 33 #[v, .int .i64 10] w' fun e' w2 => e' = .returned (.string (txt D)) ∧ Below w'.heap.size w' w2) ∧ Below w.heap.size w w') :
    Calls Tryz.prog 19 #[.float .f64 r, .int .i64 (n : Int)] w fun e w' => e = .returned (.tuple #[.string (txt (ptd D n)), .bool true]) ∧ Below w.heap.size w w' := by
  have hTs := txt_size D
  have k1 : ¬ (n : Int) < 0 := by omega
  have k2 : ¬ (20 : Int) < (n : Int) := by omega
  obtain ⟨T, hT⟩ : ∃ T, T = txt D := ⟨_, rfl⟩
  obtain ⟨A, hA⟩ : ∃ A, A = txt (ptd D n) := ⟨_, rfl⟩
  obtain ⟨m, hm⟩ : ∃ m, m = D.length := ⟨_, rfl⟩
  rw [← hT, ← hm] at hTs
  rw [← hA]
  rw [← hT] at cn
  have HT : Hid (T = txt D) := hT
  have HA : Hid (A = txt (ptd D n)) := hA
  have Hm : Hid (m = D.length) := hm
  have HN := (show Hid _ from cn)
  have HZ := (show Hid _ from hz)
  rw [← hm] at hD0 hD
  clear hT hA hm cn hz
  rcases Nat.eq_zero_or_pos n with hn0 | hn0
  · subst hn0
    have HE : Hid (A = T) := by
      show A = T
      rw [HA.out, HT.out]
      unfold ptd padD
      rw [if_pos rfl, if_neg (by have := Hm.out; omega)]
    cases z
    · have hD1 := HZ.out rfl
      have HE2 : Hid (A = ⟨#[48]⟩) := by
        show A = ⟨#[48]⟩
        rw [HE.out, HT.out, hD1]
        rfl
      clear HN HZ hD1
      go_enter Tryz.func19, Tryz.ntmps19
      go_wp2
      go_ret2
      exact ⟨by rw [HE2.out]; rfl, Below.refl _ _⟩
    · have cn := HN.out rfl
      clear HZ HN
      go_enter Tryz.func19, Tryz.ntmps19
      go_wp2_with (first | (go_at_call 61; go_fit cn; rintro e w1 ⟨v, rfl, c33, hb1⟩; clear cn) | (go_at_call 33; go_fit c33; rintro e w2 ⟨rfl, hb2⟩; clear c33))
      go_ret2
      exact ⟨by rw [HE.out]; rfl, hb1.trans (hb2.mono hb1.size)⟩
  · have kn : ((n : Int) == 0) = false := by rw [beq_eq_false_iff_ne]; omega
    rcases Nat.lt_or_ge n m with hmn | hmn
    · obtain ⟨j, hj⟩ : ∃ j, m = n + j := ⟨m - n, by omega⟩
      subst hj
      have hj0 : 0 < j := by omega
      have kj : ((n + j : Nat) : Int) - (n : Int) = (j : Int) := by omega
      have kl : ¬ ((n + j : Nat) : Int) ≤ (n : Int) := by omega
      have HE : Hid (A = T.extract 0 j ++ ⟨#[46]⟩ ++ T.extract j (n + j)) := by
        show A = T.extract 0 j ++ ⟨#[46]⟩ ++ T.extract j (n + j)
        have h1 := Hm.out
        rw [HA.out, HT.out, h1, ext_txt D j (by omega), ptd_eq, if_neg (by omega)]
        unfold padD
        rw [if_neg (by omega), show D.length - n = j by omega]
      cases z
      · exfalso
        have h1 := HZ.out rfl
        have h2 := Hm.out
        rw [h1] at h2
        simp at h2
        omega
      · have cn := HN.out rfl
        clear HZ HN
        go_enter Tryz.func19, Tryz.ntmps19
        go_wp2_with (first | (go_at_call 61; go_fit cn; rintro e w1 ⟨v, rfl, c33, hb1⟩; clear cn) | (go_at_call 33; go_fit c33; rintro e w2 ⟨rfl, hb2⟩; clear c33))
        have kj2 : (j : Int) ≤ ((n + j : Nat) : Int) := by omega
        go_quiet (fail)
        go_wp2
        go_ret2
        exact ⟨by rw [HE.out]; rfl, below_drewN (hb1.trans (hb2.mono hb1.size))⟩
    · obtain ⟨c, hc⟩ : ∃ c, n + 1 = m + c := ⟨n + 1 - m, by omega⟩
      have kc : (n : Int) + 1 - (m : Int) = (c : Int) := by omega
      have kl : (m : Int) ≤ (n : Int) := by omega
      have cz := fun w => zeros_any c (by omega) w
      have hZs := txt_size (List.replicate c 48)
      rw [List.length_replicate] at hZs
      obtain ⟨Z, hZ⟩ : ∃ Z, Z = txt (List.replicate c 48) := ⟨_, rfl⟩
      have HZZ : Hid (Z = txt (List.replicate c 48)) := hZ
      rw [← hZ] at hZs
      have hU : (Z ++ T).size = n + 1 := by rw [ByteArray.size_append, hZs, hTs]; omega
      have HE : Hid (A = (Z ++ T).extract 0 1 ++ ⟨#[46]⟩ ++ (Z ++ T).extract 1 (n + 1)) := by
        show A = (Z ++ T).extract 0 1 ++ ⟨#[46]⟩ ++ (Z ++ T).extract 1 (n + 1)
        have h1 := Hm.out
        have h2 : (List.replicate c 48 ++ D).length = n + 1 := by rw [List.length_append, List.length_replicate]; omega
        have h3 := ext_txt (List.replicate c 48 ++ D) 1 (by omega)
        rw [h2] at h3
        rw [HA.out, HT.out, HZZ.out, txt_append, h3, ptd_eq, if_neg (by omega)]
        unfold padD
        rw [if_pos (by omega), show n + 1 - D.length = c by omega, h2, show n + 1 - n = 1 by omega]
      rw [← hZ] at cz
      have kU : ((n + 1 : Nat) : Int) - (n : Int) = 1 := by omega
      cases z
      · have hD1 := HZ.out rfl
        have hm1 : m = 1 := by rw [Hm.out, hD1]; rfl
        have hT1 : T = ⟨#[48]⟩ := by rw [HT.out, hD1]; rfl
        have hcn : c = n := by omega
        subst hm1 hT1 hcn
        clear HN HZ hD1 hZ hc kc
        go_enter Tryz.func19, Tryz.ntmps19
        go_wp2_with (first | (go_at_call 35; refine (cz _).mono ?_; rintro e w2 ⟨rfl, rfl⟩))
        have kj2 : (1 : Int) ≤ ((c + 1 : Nat) : Int) := by omega
        go_quiet (fail)
        go_wp2
        go_ret2
        exact ⟨by rw [HE.out]; rfl, below_drewN (Below.refl _ _)⟩
      · have cn := HN.out rfl
        clear HZ HN hZ hc
        go_enter Tryz.func19, Tryz.ntmps19
        go_wp2_with (first | (go_at_call 61; go_fit cn; rintro e w1 ⟨v, rfl, c33, hb1⟩; clear cn) | (go_at_call 33; go_fit c33; rintro e w2 ⟨rfl, hb2⟩; clear c33) | (go_at_call 35; refine (cz _).mono ?_; rintro e w3 ⟨rfl, rfl⟩))
        have kj2 : (1 : Int) ≤ ((n + 1 : Nat) : Int) := by omega
        go_quiet (fail)
        go_wp2
        go_ret2
        exact ⟨by rw [HE.out]; rfl, below_drewN (hb1.trans (hb2.mono hb1.size))⟩
end Go.Proofs.YtellndmbllmjgaaGreatDoor
/- Nought, and no digit. -/
set_option linter.unusedVariables false
namespace Go.Proofs.YtellndmbllmjgaaGreatDoor
open Go.RowKit Go.Shelf Go.Sort Fs Fl Fl2

theorem ptd_nil (n : Nat) : ptd [] n = ptd [48] n := by
  have e : padD [] n = padD [48] n := by
    unfold padD
    rw [if_pos (by simp)]
    by_cases h : ([48] : List Nat).length ≤ n
    · rw [if_pos h, List.append_nil, show n + 1 - ([48] : List Nat).length = n by simp, show n + 1 - ([] : List Nat).length = n + 1 by simp, ← List.replicate_succ']
    · have h0 : n = 0 := by simp at h; omega
      subst h0
      rfl
  unfold ptd
  rw [e]
theorem ptd_zeros (n : Nat) : ptd (List.replicate (n + 1) 48) n = ptd [48] n := by
  have e : padD (List.replicate (n + 1) 48) n = padD [48] n := by
    unfold padD
    rw [if_neg (by rw [List.length_replicate]; omega)]
    by_cases h : ([48] : List Nat).length ≤ n
    · rw [if_pos h, show n + 1 - ([48] : List Nat).length = n by simp, ← List.replicate_succ']
    · have h0 : n = 0 := by simp at h; omega
      subst h0
      rfl
  unfold ptd
  rw [e]
set_option maxRecDepth 100000 in
set_option maxHeartbeats 1000000 in
theorem pointed_nil0 (w : World) : Calls Tryz.prog 28 #[.string ⟨#[]⟩, .int .i64 0] w fun rr w' => rr = .returned (.string ⟨#[48]⟩) ∧ Below w.heap.size w w' := by
  have cr : Calls Tryz.prog 27 #[.string ⟨#[48]⟩, .int .i64 1] w fun e w' => e = .returned (.string ⟨#[48]⟩) ∧ Below w.heap.size w w' := zerosD_any 1 (by omega) w
  go_enter Tryz.func28, Tryz.ntmps28
  go_wp2_with (first | (go_at_call 27; refine cr.mono ?_; rintro ee w1 ⟨rfl, hb⟩))
  go_ret
  exact ⟨rfl, hb⟩
/-- pointed, of no digit. -/
theorem pointed_nil (n : Nat) (hn : n ≤ 1000) (w : World) : Calls Tryz.prog 28 #[.string (txt []), .int .i64 (n : Int)] w fun rr w' => rr = .returned (.string (txt (ptd [48] n))) ∧ Below w.heap.size w w' := by
  rcases Nat.eq_zero_or_pos n with h0 | h0
  · subst h0
    exact pointed_nil0 w
  · have hsz : (txt []).size = 0 := rfl
    refine (pointed_short (txt []) n (n + 1) h0 (by omega) (by omega) (by omega) w).mono ?_
    rintro e w' ⟨rfl, hb⟩
    refine ⟨?_, hb⟩
    have h2 : (List.replicate (n + 1) 48).length = n + 1 := List.length_replicate
    have h3 := ext_txt (List.replicate (n + 1) 48) 1 (by omega)
    rw [h2] at h3
    rw [txt_append, List.append_nil, txt_size, h2, h3, ← ptd_zeros, ptd_eq, if_neg (by omega)]
    unfold padD
    rw [if_neg (by omega), h2, show n + 1 - n = 1 by omega]
/-- nearest, of nought. -/
theorem near_zero (n : Int) (k : Nat) (hk : 1 ≤ k) (hk2 : k ≤ 9000) (w : World) :
    Calls Tryz.prog 108 #[.agg #[.string (txt [48]), .int .i64 n], .int .i64 (k : Int)] w fun e w' => e = .returned (.string (txt (List.replicate k 48))) ∧ Below w.heap.size w w' := by
  obtain ⟨j, hj⟩ : ∃ j, k = 1 + j := ⟨k - 1, by omega⟩
  have h1 := near_far (txt [48]) (txt (List.replicate j 48)) n k 1 j rfl hj (by omega) (by rw [txt_size]; simp) w (zerosD_any j (by omega))
  rw [txt_append] at h1
  have e : [48] ++ List.replicate j 48 = List.replicate k 48 := by rw [hj, Nat.add_comm, List.replicate_succ]; rfl
  rw [e] at h1
  exact h1
/-- rounded, of nought. -/
theorem rounded_zero (k : Nat) (hk : 1 ≤ k) (hk2 : k ≤ 9000) (w : World) :
    Calls Tryz.prog 110 #[.agg #[.string (txt [48]), .int .i64 1], .int .i64 (k : Int)] w fun e w' => e = .returned (.agg #[.string (txt (List.replicate k 48)), .int .i64 1]) ∧ Below w.heap.size w w' := by
  have hl : (txt (List.replicate k 48)).size = k := by rw [txt_size, List.length_replicate]
  refine (rounded_of (txt [48]) (txt (List.replicate k 48)) 1 k k hl (Nat.le_refl _) (by omega) (by omega) (by omega) w (fun W _ => near_zero 1 k hk hk2 W)).mono ?_
  rintro e w' ⟨rfl, hb⟩
  refine ⟨?_, hb⟩
  have e1 : (txt (List.replicate k 48)).extract 0 k = txt (List.replicate k 48) := by
    have := ext_all (List.replicate k 48)
    rw [hl] at this
    exact this
  have e2 : (1 : Int) + (k : Int) - (k : Int) = 1 := by omega
  rw [e1, e2]
end Go.Proofs.YtellndmbllmjgaaGreatDoor
/- Fixed: program and document. -/
set_option linter.unusedVariables false
namespace Go.Proofs.YtellndmbllmjgaaGreatDoor
open Go.RowKit Go.Shelf Go.Sort Fs Fl Fl2

/-- Rounded to a whole number, of the float by 10 to the K. -/
def rnR (r : Nat) (K : Int) : Nat := (2 * pS (magR r) (expR r) K + qS (expR r) K) / (2 * qS (expR r) K)
theorem val_21 : ∃ y, y = 1074 ∧ valR 4921056587992461136 = 10 ^ 21 * 2 ^ y := ⟨1074, rfl, by decide +kernel⟩
theorem l10_21 {r : Nat} (h : r < 4921056587992461136) : L10 (magR r) (expR r) 21 := by
  obtain ⟨y, hy, hv⟩ := val_21
  have h1 := valR_lt h
  rw [hv] at h1
  unfold valR at h1
  unfold L10 pS qS
  rw [show (-(21 : Int)).toNat = 0 by omega, show (-(-(21 : Int))).toNat = 21 by omega, Nat.pow_zero, Nat.mul_one, ← hy]
  generalize magR r = M at *
  generalize expR r = E at *
  rcases Nat.lt_or_ge E y with h2 | h2
  · obtain ⟨j, hj⟩ : ∃ j, y = E + j := ⟨y - E, by omega⟩
    rw [hj, Nat.pow_add] at h1
    rw [show E - y = 0 by omega, show y - E = j by omega, Nat.pow_zero, Nat.mul_one]
    refine Nat.lt_of_mul_lt_mul_right (a := 2 ^ E) ?_
    have : 2 ^ j * 10 ^ 21 * 2 ^ E = 10 ^ 21 * (2 ^ E * 2 ^ j) := by grind
    rw [this]
    exact h1
  · obtain ⟨j, hj⟩ : ∃ j, E = y + j := ⟨E - y, by omega⟩
    rw [hj, Nat.pow_add] at h1
    rw [show E - y = j by omega, show y - E = 0 by omega, Nat.pow_zero, Nat.one_mul]
    refine Nat.lt_of_mul_lt_mul_right (a := 2 ^ y) ?_
    have : M * 2 ^ j * 2 ^ y = M * (2 ^ y * 2 ^ j) := by grind
    rw [this]
    exact h1
theorem rn_21 {r : Nat} (h : r < 4921056587992461136) (n : Nat) (hn : n ≤ 20) : rnR r n ≤ 10 ^ (n + 21) := by
  obtain ⟨c, hc⟩ : ∃ c, c = 500 := ⟨_, rfl⟩
  unfold rnR
  have h1 := l10_21 h
  rw [half_ratio (ps_ts (magR r) (expR r) c (n : Int) (by omega)) (qS_pos _ _) (dS_pos _ c)]
  rw [l10_ts (c := c) (by omega)] at h1
  have e1 : tS (magR r) (expR r) c (n : Int) = tS (magR r) (expR r) c (-21) * 10 ^ (n + 21) := by
    rw [← ts_add _ _ c (-21) (n + 21) (by omega)]
    congr 1
    omega
  have hd := dS_pos (expR r) c
  apply Nat.le_of_lt_succ
  rw [Nat.div_lt_iff_lt_mul (by omega), e1]
  have h3 : tS (magR r) (expR r) c (-21) * 10 ^ (n + 21) < dS (expR r) c * 10 ^ (n + 21) := Nat.mul_lt_mul_of_pos_right h1 (Nat.pow_pos (by omega))
  have h4 : (10 ^ (n + 21)).succ * (2 * dS (expR r) c) = 2 * (dS (expR r) c * 10 ^ (n + 21)) + 2 * dS (expR r) c := by rw [Nat.succ_eq_add_one]; grind
  omega
theorem rn_digits {r : Nat} (h : r < 4921056587992461136) (n : Nat) (hn : n ≤ 20) : Lib.nDigits (rnR r n) ≤ 42 := by
  have h1 := rn_21 h n hn
  have h2 : 10 ^ (n + 21) < 10 ^ 42 := Nat.pow_lt_pow_right (by omega) (by omega)
  exact nDigits_le _ 42 (by omega) (by omega)
/-- **Fixed of the program, at what is not great.** -/
theorem fixP_mid (hC : PartC) (s : Bool) (r n : Nat) (h0 : 0 < r) (h : r < 4921056587992461136) (hn : n ≤ 20) (w : World) (hT : TabAt 4 Lib.deBruijn64tab w) :
    Calls Tryz.prog 56 #[.float .f64 (wd s r), .int .i64 (n : Int)] w fun e w' => e = .returned (.tuple #[.string (txt ((if s then [45] else []) ++ ptd (decN (rnR r n)) n)), .nilIface]) ∧ Below w.heap.size w w' := by
  have hf : r < 9218868437227405312 := by omega
  have hlz := lt_zero s r hf
  rw [decide_eq_true (show r ≠ 0 by omega), Bool.and_true] at hlz
  have hnd := rn_digits h n hn
  have c := fixW_of (wd s r) r (txt (if s then [45] else [])) n hn (by rw [txt_size]; split <;> simp)
    (fun S m => ∃ X k, ExD r X k ∧ k ≤ 1074 ∧ Lib.nDigits X ≤ 6401 ∧ 0 < X ∧ S = txt (decN X) ∧ m = (Lib.nDigits X : Int) - (k : Int))
    (fun S m hS => by obtain ⟨X, k, _, h2, h3, _, _, rfl⟩ := hS; omega)
    (fun U => U = txt (digL (rnR r n))) (fun T => T = txt (ptd (decN (rnR r n)) n)) w
    (by rw [ord_lt hf (by omega) h]; rfl) (minus_any (wd s r) s hlz) (abs_any s r (by omega))
    (fun W hW => (exactD_any hC r hf W (tab_below hT hW)).mono (by
      rintro e w' ⟨X, k, a1, a2, a3, a4, a5, rfl, hb⟩
      exact ⟨_, _, ⟨X, k, a1, a2, a3, a5 h0, rfl, rfl⟩, rfl, hb⟩))
    (fun S m hS W => by
      obtain ⟨X, k, a1, a2, a3, a4, rfl, rfl⟩ := hS
      refine (near_any X a4 (by omega) _ ((Lib.nDigits X : Int) - (k : Int) + (n : Int)) (by omega) (by omega) W).mono ?_
      rintro e w' ⟨rfl, hb⟩
      refine ⟨_, ?_, rfl, hb⟩
      have ha := ab_eq a1
      by_cases hneg : (Lib.nDigits X : Int) - (k : Int) + (n : Int) < 0
      · rw [if_pos hneg]
        have := rnd_none ha 500 (n : Int) hneg (by omega)
        unfold rnR
        rw [this]
        rfl
      · rw [if_neg hneg]
        obtain ⟨j, hj⟩ : ∃ j : Nat, (Lib.nDigits X : Int) - (k : Int) + (n : Int) = (j : Int) := ⟨((Lib.nDigits X : Int) - (k : Int) + (n : Int)).toNat, by omega⟩
        rw [hj, Int.toNat_natCast]
        have := rnd_eq ha j 500 (n : Int) (by omega) (by omega)
        unfold rnR
        rw [this])
    (fun U hU W => by
      subst hU
      have hl := ptd_len (decN (rnR r n)) n
      rw [decN_length] at hl
      by_cases hz : rnR r n = 0
      · have hd : digL (rnR r n) = [] := by unfold digL; rw [if_pos hz]
        rw [hd]
        refine (pointed_nil n (by omega) W).mono ?_
        rintro e w' ⟨rfl, hb⟩
        refine ⟨_, ?_, ?_, rfl, hb⟩
        · rw [hz, decN_zero]
        · rw [txt_size]
          have := ptd_len [48] n
          simp at this
          omega
      · have hd : digL (rnR r n) = decN (rnR r n) := by unfold digL; rw [if_neg hz]
        rw [hd]
        have hnp := Lib.nDigits_pos (rnR r n)
        refine (pointed_any (decN (rnR r n)) n (by rw [decN_length]; exact hnp) (by rw [decN_length]; omega) (by omega) W).mono ?_
        rintro e w' ⟨rfl, hb⟩
        exact ⟨_, rfl, by rw [txt_size]; omega, rfl, hb⟩)
  refine c.mono ?_
  rintro e w' ⟨T, rfl, rfl, hb⟩
  rw [txt_append]
  exact ⟨rfl, hb⟩
end Go.Proofs.YtellndmbllmjgaaGreatDoor
