/- point. -/
import Derived.Test.YtellndmbllmjgaaGreatDoorCSc1x
import Derived.Test.YtellndmbllmjgaaGreatDoorCPt1x
set_option linter.unusedVariables false
namespace Go.Proofs.YtellndmbllmjgaaGreatDoor
open Go.RowKit Go.Shelf Go.Sort Fs Fl Fl2

/-- The float lies below 10 to the n. -/
def L10 (M E : Nat) (n : Int) : Prop := pS M E (-n) < qS E (-n)
theorem ten_two (k : Nat) : 2 ^ (3 * k) ≤ 10 ^ k := by
  rw [Nat.pow_mul]
  exact Nat.pow_le_pow_left (by omega) k
theorem l10_hi {M E : Nat} {n : Int} (hM : M < 9007199254740992) (hE : E ≤ 2045) (hn : 400 ≤ n) : L10 M E n := by
  unfold L10 pS qS
  obtain ⟨k, rfl⟩ : ∃ k : Nat, n = (k : Int) := ⟨n.toNat, by omega⟩
  rw [Int.neg_neg, Int.toNat_natCast, show (-(k : Int)).toNat = 0 by omega, Nat.pow_zero, Nat.mul_one]
  have h1 : M * 2 ^ (E - 1074) < 2 ^ 53 * 2 ^ (E - 1074) := (Nat.mul_lt_mul_right (Nat.two_pow_pos _)).2 (by have : (2:Nat)^53 = 9007199254740992 := by decide
                                                                                                             omega)
  have h2 : 2 ^ 53 * 2 ^ (E - 1074) ≤ 2 ^ (3 * k) := by
    rw [← Nat.pow_add]
    exact Nat.pow_le_pow_right (by omega) (by omega)
  have h3 := ten_two k
  have h4 : 10 ^ k ≤ 2 ^ (1074 - E) * 10 ^ k := Nat.le_mul_of_pos_left _ (Nat.two_pow_pos _)
  omega
theorem l10_lo {M E : Nat} {n : Int} (hM : 0 < M) (hn : n ≤ -400) : ¬ L10 M E n := by
  unfold L10 pS qS
  obtain ⟨k, rfl⟩ : ∃ k : Nat, n = -(k : Int) := ⟨(-n).toNat, by omega⟩
  rw [Int.neg_neg, Int.toNat_natCast, show (-(k : Int)).toNat = 0 by omega, Nat.pow_zero, Nat.mul_one]
  have h1 : 2 ^ (1074 - E) ≤ 2 ^ (3 * k) := Nat.pow_le_pow_right (by omega) (by omega)
  have h3 := ten_two k
  have h4 : 1 * 10 ^ k ≤ M * 2 ^ (E - 1074) * 10 ^ k := Nat.mul_le_mul_right _ (Nat.mul_pos hM (Nat.two_pow_pos _))
  omega
theorem pS_pw {M E : Nat} {k : Int} (hM : M < pw 4) (hE : E ≤ 2045) (hk : k ≤ 2100) : pS M E k < pw 1000 := by
  unfold pS
  have h1 : 2 ^ (E - 1074) * 10 ^ k.toNat ≤ pw 61 * 10 ^ k.toNat := Nat.mul_le_mul_right _ (two_pw3 (by omega))
  have h2 : pw 61 * 10 ^ k.toNat < pw 561 := by
    have := pw_lt_mul (Nat.le_refl (pw 61)) (ten_pw (k := k.toNat) (by omega)) (Nat.le_refl (61 + 500))
    exact this
  have h3 : M * (2 ^ (E - 1074) * 10 ^ k.toNat) < pw 1000 := pw_lt_mul (Nat.le_of_lt hM) (Nat.lt_of_le_of_lt h1 h2) (by omega)
  rw [Nat.mul_assoc]
  exact h3
theorem qS_pw {E : Nat} {k : Int} (hk : -2100 ≤ k) : qS E k < pw 1000 := by
  unfold qS
  exact pw_lt_mul (two_pw3 (n := 68) (by omega)) (ten_pw (by omega)) (by omega)
theorem conv_i64 (b : Nat) (v : Int) (h : floatToIntVal .f64 b .i64 = some v) (w : World) : (convert 23 3 (.float .f64 b)).run Tryz.prog w = .ok (.int .i64 v) w :=
  run_convert_float_int w 23 3 .f64 .i64 b v (by rw [Tryz.underlying23]; rfl) Tryz.underlying3 h
set_option maxRecDepth 100000 in
set_option maxHeartbeats 1000000 in
/-- **point.** -/
theorem point_any (r : Nat) (h0 : 0 < r) (h : r < 9218868437227405312) (w : World) :
    Calls Tryz.prog 86 #[.float .f64 r] w fun e w' => ∃ n : Int, e = .returned (.int .i64 n) ∧ L10 (magR r) (expR r) n ∧ ¬ L10 (magR r) (expR r) (n - 1) ∧ Below w.heap.size w w' := by
  obtain ⟨y, hy, cl⟩ := log10_any r h0 h
  obtain ⟨f, n0, hf, hn1, hn2, cf⟩ := Floor_any y hy
  have cv := conv_i64 f n0 hf
  have SC := (show Hid _ from fun (k : Int) (h1 : -2100 ≤ k) (h2 : k ≤ 2100) (w1 : World) => scaled_any r k h h1 h2 w1)
  have hM0 : 0 < magR r := by have := magR_zero (r := r); omega
  have HM : Hid (magR r < pw 4 ∧ magR r < 9007199254740992 ∧ 0 < magR r) := ⟨mag53 r, magR_lt r, hM0⟩
  have hE : expR r ≤ 2045 := by unfold expR; omega
  generalize magR r = M at *
  generalize expR r = E at *
  have CC := (show Hid _ from fun (k : Int) (h1 : -2100 ≤ k) (h2 : k ≤ 2100) (w1 : World) (x y : Value) (hx : NatIs w1 x (pS M E k)) (hy : NatIs w1 y (qS E k)) => cmp_any x y _ _ w1 hx hy (pS_pw HM.out.1 hE h2) (qS_pw h1))
  have HI := (show Hid _ from fun n (hn : (400 : Int) ≤ n) => l10_hi HM.out.2.1 hE hn)
  have LO := (show Hid _ from fun n (hn : n ≤ (-400 : Int)) => l10_lo (E := E) HM.out.2.2 hn)
  clear hy hf hM0 HM
  go_enter Tryz.func86, Tryz.ntmps86
  go_wp2_with (first | (go_at_call 132; refine (cl _).mono ?_; rintro e wq ⟨rfl, hwq⟩; rw [hwq]; clear hwq wq) | (go_at_call 131; refine (cf _).mono ?_; rintro e wq ⟨rfl, hwq⟩; rw [hwq]; clear hwq wq))
  clear cl cf cv
  go_loopw [3] (fun vn wr => ∃ n : Int, vn = .int .i64 n ∧ -2049 ≤ n ∧ n ≤ 2050 ∧ Below w.heap.size w wr) (fun vn _ => (2050 - RowKit.intOf vn).toNat)
  case atStart => exact ⟨n0 - 1, by go_num, by omega, by omega, Below.refl _ _⟩
  case round =>
    obtain ⟨n, rfl, hn3, hn4, hbw⟩ := hrel
    have cs := SC.out (-n) (by omega) (by omega) wr
    have CN := (show Hid _ from CC.out (-n) (by omega) (by omega))
    by_cases hL : L10 M E n
    · have HL : Hid (L10 M E n) := hL
      clear hL
      go_wp2_with (first | (go_at_call 87; refine cs.mono ?_; rintro e w1 ⟨x1, x2, rfl, hx1, hx2, hw1⟩; clear cs; have cc := CN.out w1 x1 x2 hx1 hx2; clear CN) | (go_at_call 67; refine cc.mono ?_; rintro e w2 ⟨c, rfl, hcmp, nn, rfl⟩; clear cc; have kc : c < 0 := hcmp.2.2 HL.out; clear hcmp))
      have hb1 : Below w.heap.size w (w1.drewN nn) := hbw.trans ((below_drewN hw1).mono hbw.size)
      go_loopw [3] (fun vn wr => ∃ n : Int, vn = .int .i64 n ∧ -2049 ≤ n ∧ n ≤ 2050 ∧ L10 M E n ∧ Below w.heap.size w wr) (fun vn _ => (RowKit.intOf vn + 2050).toNat)
      case atStart => exact ⟨n, rfl, hn3, hn4, HL.out, hb1⟩
      case round =>
        clear HL hb1 hbw hn3 hn4 hw1 hx1 hx2
        obtain ⟨m, rfl, hm1, hm2, hL, hbw⟩ := hrel
        have hm3 : -400 < m := by
          rcases Int.lt_or_le (-400) m with h1 | h1
          · exact h1
          · exact absurd hL (LO.out m h1)
        have HL : Hid (L10 M E m) := hL
        clear hL
        have cs := SC.out (1 - m) (by omega) (by omega) wr
        have CN := (show Hid _ from CC.out (1 - m) (by omega) (by omega))
        have HE1 : Hid (-(m - 1) = 1 - m) := (by omega : -(m - 1) = 1 - m)
        by_cases hL2 : L10 M E (m - 1)
        · have HL2 : Hid (pS M E (1 - m) < qS E (1 - m)) := by
            have := hL2
            unfold L10 at this
            rw [HE1.out] at this
            exact this
          have HL3 : Hid (L10 M E (m - 1)) := hL2
          clear hL2
          go_wp2_with (first | (go_at_call 87; refine cs.mono ?_; rintro e w3 ⟨x3, x4, rfl, hx3, hx4, hw3⟩; clear cs; have cc := CN.out w3 x3 x4 hx3 hx4; clear CN) | (go_at_call 67; refine cc.mono ?_; rintro e w4 ⟨c2, rfl, hcmp, nn2, rfl⟩; clear cc; have kc2 : ¬ (0 : Int) ≤ c2 := Int.not_le.2 (hcmp.2.2 HL2.out); clear hcmp))
          have hb3 : Below w.heap.size w (w3.drewN nn2) := hbw.trans ((below_drewN hw3).mono hbw.size)
          refine ⟨⟨m - 1, rfl, by omega, by omega, HL3.out, hb3⟩, ?_⟩
          simp only [RowKit.intOf]
          omega
        · have HL2 : Hid (qS E (1 - m) ≤ pS M E (1 - m)) := by
            have := hL2
            unfold L10 at this
            rw [HE1.out] at this
            exact Nat.le_of_not_lt this
          have HL3 : Hid (¬ L10 M E (m - 1)) := hL2
          clear hL2
          go_wp2_with (first | (go_at_call 87; refine cs.mono ?_; rintro e w3 ⟨x3, x4, rfl, hx3, hx4, hw3⟩; clear cs; have cc := CN.out w3 x3 x4 hx3 hx4; clear CN) | (go_at_call 67; refine cc.mono ?_; rintro e w4 ⟨c2, rfl, hcmp, nn2, rfl⟩; clear cc; have kc2 : (0 : Int) ≤ c2 := cmp_ge hcmp HL2.out; clear hcmp))
          have hb3 : Below w.heap.size w (w3.drewN nn2) := hbw.trans ((below_drewN hw3).mono hbw.size)
          go_ret
          exact ⟨m, rfl, HL.out, HL3.out, hb3⟩
    · have hn5 : n < 400 := by
        rcases Int.lt_or_le n 400 with h1 | h1
        · exact h1
        · exact absurd (HI.out n h1) hL
      have HL : Hid (qS E (-n) ≤ pS M E (-n)) := Nat.le_of_not_lt hL
      clear hL
      go_wp2_with (first | (go_at_call 87; refine cs.mono ?_; rintro e w1 ⟨x1, x2, rfl, hx1, hx2, hw1⟩; clear cs; have cc := CN.out w1 x1 x2 hx1 hx2; clear CN) | (go_at_call 67; refine cc.mono ?_; rintro e w2 ⟨c, rfl, hcmp, nn, rfl⟩; clear cc; have kc : ¬ c < 0 := Int.not_lt.2 (cmp_ge hcmp HL.out); clear hcmp))
      have hb1 : Below w.heap.size w (w1.drewN nn) := hbw.trans ((below_drewN hw1).mono hbw.size)
      refine ⟨⟨n + 1, rfl, by omega, by omega, hb1⟩, ?_⟩
      simp only [RowKit.intOf]
      omega
end Go.Proofs.YtellndmbllmjgaaGreatDoor
/- Fewest: what is asked of its walk. -/
set_option linter.unusedVariables false
namespace Go.Proofs.YtellndmbllmjgaaGreatDoor
open Go.RowKit Go.Shelf Go.Sort Fs Fl Fl2

theorem order_infp (r : Nat) (hr : r < 9218868437227405312) : FloatKind.f64.format.order 9218868437227405312 r = some .gt := by
  show Ieee.double.order 9218868437227405312 r = some .gt
  unfold Ieee.Format.order
  have r1 : Ieee.double.read 9218868437227405312 = .infinity false := by have := read_inf false; rw [wd_false] at this; exact this
  have r2 : Ieee.double.read r = .number false (magR r) ((expR r : Int) - 1074) := by have := read_wd false r hr; rw [wd_false] at this; exact this
  rw [r1, r2]
  rfl
theorem word_eq (R r : Nat) (hr : r < 9218868437227405312) (h : R = r) : (FloatKind.f64.format.order (min R 9218868437227405312) r != some .eq) = false ∧ (FloatKind.f64.format.order (min R 9218868437227405312) r == some .eq) = true := by
  subst h
  rw [Nat.min_eq_left (Nat.le_of_lt hr), ord_eq hr]
  exact ⟨rfl, rfl⟩
theorem word_ne (R r : Nat) (hr : r < 9218868437227405312) (h : R ≠ r) : (FloatKind.f64.format.order (min R 9218868437227405312) r != some .eq) = true ∧ (FloatKind.f64.format.order (min R 9218868437227405312) r == some .eq) = false := by
  rcases Nat.lt_or_ge R 9218868437227405312 with h1 | h1
  · rw [Nat.min_eq_left (Nat.le_of_lt h1)]
    rcases Nat.lt_or_gt_of_ne h with h2 | h2
    · rw [ord_lt h1 hr h2]; exact ⟨rfl, rfl⟩
    · rw [ord_gt h1 hr h2]; exact ⟨rfl, rfl⟩
  · rw [Nat.min_eq_right h1, order_infp r hr]
    exact ⟨rfl, rfl⟩
theorem decN_one : decN 1 = [49] := by
  apply List.ext_getElem?
  intro i
  have h1 : Lib.nDigits 1 = 1 := Lib.nDigits_small (by omega)
  rcases Nat.eq_zero_or_pos i with h | h
  · subst h
    rw [decN_at 1 0 (by omega), h1]
    rfl
  · rw [List.getElem?_eq_none (by rw [decN_length, h1]; omega), List.getElem?_eq_none (by simp; omega)]
/-- What is so of a float and its digits. -/
structure Few (M E d J nn : Nat) : Prop where
  told : Fs.Told M E d J
  d60 : d < 1152921504606846976
  pos : 1 ≤ nn
  nn8 : nn ≤ 800
  lo : BB (nn - 1) ≤ XX M E
  hi : XX M E < BB nn
  sm : 0 < M ∧ (10 ≤ M ∨ E = 0)
/-- How often it goes round. -/
def stopK (J nn : Nat) : Nat := if J < nn then nn - J else 1
theorem Few.low {M E d J nn k : Nat} (h : Few M E d J nn) (hk1 : 1 ≤ k) (hk2 : k ≤ stopK J nn) : XX M E / BB (nn - k) < 1152921504606846976 ∧ 0 < XX M E / BB (nn - k) ∧ k ≤ nn := by
  unfold stopK at hk2
  have hkn : k ≤ nn := by split at hk2 <;> have := h.pos <;> omega
  have h0 : 0 < XX M E / BB (nn - k) := by
    refine Nat.div_pos ?_ (BB_pos _)
    exact Nat.le_trans (BB_mono (by omega)) h.lo
  refine ⟨?_, h0, hkn⟩
  split at hk2
  · rename_i hJ
    have hd : d = XX M E / BB J + 1 ∨ d = XX M E / BB J := by
      obtain ⟨_, p2, p3⟩ := h.told.pick
      exact (Classical.em _).elim (fun h => Or.inl (p2 h)) (fun h => Or.inr (p3 h))
    have h1 : XX M E / BB (nn - k) ≤ XX M E / BB J := Nat.div_le_div_left (BB_mono (by omega)) (BB_pos _)
    have := h.d60
    omega
  · rename_i hJ
    have hk : k = 1 := by omega
    subst hk
    have h1 : XX M E / BB (nn - 1) < 10 := by
      rw [Nat.div_lt_iff_lt_mul (BB_pos _)]
      have := BB_add 1 (nn - 1)
      rw [show 1 + (nn - 1) = nn by have := h.pos; omega, Nat.pow_one] at this
      rw [← this]
      exact h.hi
    omega
theorem Few.go {M E d J nn k : Nat} (h : Few M E d J nn) (hk1 : 1 ≤ k) (hk : k < stopK J nn) (D : Nat) : ¬ Inn (LL M E) (UU M E) (M % 2) (D * BB (nn - k)) := by
  unfold stopK at hk
  split at hk
  · exact h.told.none' D (nn - k) (by omega)
  · omega
/-- Where it stops: what is taken. -/
def Up (M E j : Nat) : Prop := Inn (LL M E) (UU M E) (M % 2) ((XX M E / BB j + 1) * BB j) ∧ (¬ Inn (LL M E) (UU M E) (M % 2) (XX M E / BB j * BB j) ∨ BB j < 2 * (XX M E % BB j) ∨ (2 * (XX M E % BB j) = BB j ∧ XX M E / BB j % 2 = 1))
theorem Few.stop {M E d J nn : Nat} (h : Few M E d J nn) (hJ : J < nn) : stopK J nn = nn - J ∧ nn - (nn - J) = J ∧ (Inn (LL M E) (UU M E) (M % 2) (XX M E / BB J * BB J) ∨ Inn (LL M E) (UU M E) (M % 2) ((XX M E / BB J + 1) * BB J)) ∧ (Up M E J → d = XX M E / BB J + 1) ∧ (¬ Up M E J → d = XX M E / BB J) ∧ Lib.nDigits d = nn - J := by
  obtain ⟨p1, p2, p3⟩ := h.told.pick
  obtain ⟨g1, g2⟩ := few_at h.told h.lo h.hi hJ
  refine ⟨by unfold stopK; rw [if_pos hJ], by omega, p1, p2, p3, ?_⟩
  refine len_digits (by omega) ?_ (Nat.div_eq_of_lt g2)
  exact g1
theorem Few.ten {M E d J nn : Nat} (h : Few M E d J nn) (hJ : nn ≤ J) : stopK J nn = 1 ∧ J = nn ∧ d = 1 ∧ XX M E / BB (nn - 1) = 9 ∧ Inn (LL M E) (UU M E) (M % 2) ((XX M E / BB (nn - 1) + 1) * BB (nn - 1)) ∧ BB (nn - 1) < 2 * (XX M E % BB (nn - 1)) := by
  obtain ⟨a1, a2, a3, a4, a5⟩ := few_ten h.sm.1 h.sm.2 h.told h.pos h.lo h.hi hJ
  refine ⟨by unfold stopK; rw [if_neg (by omega)], a1, a2, a3, ?_, a4⟩
  rw [a3]
  exact a5
theorem few_of {r d J : Nat} {n : Int} (h0 : 0 < r) (h : r < 9218868437227405312) (hT : Fs.Told (magR r) (expR r) d J) (hd : d < 1152921504606846976) (h1 : L10 (magR r) (expR r) n) (h2 : ¬ L10 (magR r) (expR r) (n - 1)) : ∃ nn : Nat, (nn : Int) = n + 400 ∧ Few (magR r) (expR r) d J nn := by
  have hM0 : 0 < magR r := by have := magR_zero (r := r); omega
  have hE : expR r ≤ 2045 := by unfold expR; omega
  have hn1 : -400 < n := by
    rcases Int.lt_or_le (-400) n with h3 | h3
    · exact h3
    · exact absurd h1 (l10_lo hM0 h3)
  have hn2 : n - 1 < 400 := by
    rcases Int.lt_or_le (n - 1) 400 with h3 | h3
    · exact h3
    · exact absurd (l10_hi (magR_lt r) hE h3) h2
  obtain ⟨nn, hnn⟩ : ∃ nn : Nat, (nn : Int) = n + 400 := ⟨(n + 400).toNat, by omega⟩
  refine ⟨nn, hnn, hT, hd, by omega, by omega, ?_, ?_, hM0, ?_⟩
  · have hr := scale_rel (magR r) (expR r) (nn - 1) (-(n - 1)) (by omega)
    unfold L10 at h2
    rw [lt_rel (qS_pos _ _) (BB_pos _) hr] at h2
    exact Nat.le_of_not_lt h2
  · have hr := scale_rel (magR r) (expR r) nn (-n) (by omega)
    unfold L10 at h1
    rw [lt_rel (qS_pos _ _) (BB_pos _) hr] at h1
    exact h1
  · rcases Nat.lt_or_ge r 4503599627370496 with h3 | h3
    · exact Or.inr (by unfold expR; rw [Nat.div_eq_of_lt h3])
    · refine Or.inl ?_
      unfold magR
      rw [if_neg (by omega)]
      omega
theorem pS_pw9 {M E : Nat} {k : Int} (hM : M < pw 4) (hE : E ≤ 2045) (hk : k ≤ 2100) : pS M E k < pw 900 := by
  unfold pS
  have h1 : 2 ^ (E - 1074) * 10 ^ k.toNat ≤ pw 61 * 10 ^ k.toNat := Nat.mul_le_mul_right _ (two_pw3 (by omega))
  have h2 : pw 61 * 10 ^ k.toNat < pw 561 := by
    have := pw_lt_mul (Nat.le_refl (pw 61)) (ten_pw (k := k.toNat) (by omega)) (Nat.le_refl (61 + 500))
    exact this
  have h3 : M * (2 ^ (E - 1074) * 10 ^ k.toNat) < pw 900 := pw_lt_mul (Nat.le_of_lt hM) (Nat.lt_of_le_of_lt h1 h2) (by omega)
  rw [Nat.mul_assoc]
  exact h3
theorem qS_pw9 {E : Nat} {k : Int} (hk : -2100 ≤ k) : qS E k < pw 900 := by
  unfold qS
  exact pw_lt_mul (two_pw3 (n := 68) (by omega)) (ten_pw (by omega)) (by omega)
end Go.Proofs.YtellndmbllmjgaaGreatDoor
