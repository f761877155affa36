/- point. -/
import Derived.Test.YtellndmbllmjgaaGreatDoorLo1
import Derived.Test.YtellndmbllmjgaaGreatDoorSc1
set_option linter.unusedVariables false
namespace Go.Proofs.YtellndmbllmjgaaGreatDoor
open Go.RowKit Go.Shelf Go.Sort Fs Fl Fl2

/-- The float lies below 10 to the n. -/
def L10 (M E : Nat) (n : Int) : Prop := pS M E (-n) < qS E (-n)
theorem ten_two (k : Nat) : 2 ^ (3 * k) ≤ 10 ^ k := by
  rw [Nat.pow_mul]
  exact Nat.pow_le_pow_left (by omega) k
theorem l10_hi {M E : Nat} {n : Int} (hM : M < 9007199254740992) (hE : E ≤ 2045) (hn : 400 ≤ n) : L10 M E n := by
  unfold L10 pS qS
  obtain ⟨k, rfl⟩ : ∃ k : Nat, n = (k : Int) := ⟨n.toNat, by omega⟩
  rw [Int.neg_neg, Int.toNat_natCast, show (-(k : Int)).toNat = 0 by omega, Nat.pow_zero, Nat.mul_one]
  have h1 : M * 2 ^ (E - 1074) < 2 ^ 53 * 2 ^ (E - 1074) := (Nat.mul_lt_mul_right (Nat.two_pow_pos _)).2 (by have : (2:Nat)^53 = 9007199254740992 := by decide
                                                                                                             omega)
  have h2 : 2 ^ 53 * 2 ^ (E - 1074) ≤ 2 ^ (3 * k) := by
    rw [← Nat.pow_add]
    exact Nat.pow_le_pow_right (by omega) (by omega)
  have h3 := ten_two k
  have h4 : 10 ^ k ≤ 2 ^ (1074 - E) * 10 ^ k := Nat.le_mul_of_pos_left _ (Nat.two_pow_pos _)
  omega
theorem l10_lo {M E : Nat} {n : Int} (hM : 0 < M) (hn : n ≤ -400) : ¬ L10 M E n := by
  unfold L10 pS qS
  obtain ⟨k, rfl⟩ : ∃ k : Nat, n = -(k : Int) := ⟨(-n).toNat, by omega⟩
  rw [Int.neg_neg, Int.toNat_natCast, show (-(k : Int)).toNat = 0 by omega, Nat.pow_zero, Nat.mul_one]
  have h1 : 2 ^ (1074 - E) ≤ 2 ^ (3 * k) := Nat.pow_le_pow_right (by omega) (by omega)
  have h3 := ten_two k
  have h4 : 1 * 10 ^ k ≤ M * 2 ^ (E - 1074) * 10 ^ k := Nat.mul_le_mul_right _ (Nat.mul_pos hM (Nat.two_pow_pos _))
  omega
theorem pS_pw {M E : Nat} {k : Int} (hM : M < pw 4) (hE : E ≤ 2045) (hk : k ≤ 2100) : pS M E k < pw 1000 := by
  unfold pS
  have h1 : 2 ^ (E - 1074) * 10 ^ k.toNat ≤ pw 61 * 10 ^ k.toNat := Nat.mul_le_mul_right _ (two_pw3 (by omega))
  have h2 : pw 61 * 10 ^ k.toNat < pw 561 := by
    have := pw_lt_mul (Nat.le_refl (pw 61)) (ten_pw (k := k.toNat) (by omega)) (Nat.le_refl (61 + 500))
    exact this
  have h3 : M * (2 ^ (E - 1074) * 10 ^ k.toNat) < pw 1000 := pw_lt_mul (Nat.le_of_lt hM) (Nat.lt_of_le_of_lt h1 h2) (by omega)
  rw [Nat.mul_assoc]
  exact h3
theorem qS_pw {E : Nat} {k : Int} (hk : -2100 ≤ k) : qS E k < pw 1000 := by
  unfold qS
  exact pw_lt_mul (two_pw3 (n := 68) (by omega)) (ten_pw (by omega)) (by omega)
theorem conv_i64 (b : Nat) (v : Int) (h : floatToIntVal .f64 b .i64 = some v) (w : World) : (convert 23 3 (.float .f64 b)).run Tryz.prog w = .ok (.int .i64 v) w :=
  run_convert_float_int w 23 3 .f64 .i64 b v (by rw [Tryz.underlying23]; rfl) Tryz.underlying3 h
set_option maxRecDepth 100000 in
set_option maxHeartbeats 1000000 in
/-- **point.** -/
theorem point_any (r : Nat) (h0 : 0 < r) (h : r < 9218868437227405312) (w : World) :
    Calls Tryz.prog 86 #[.float .f64 r] w fun e w' => ∃ n : Int, e = .returned (.int .i64 n) ∧ L10 (magR r) (expR r) n ∧ ¬ L10 (magR r) (expR r) (n - 1) ∧ Below w.heap.size w w' := by
  obtain ⟨y, hy, cl⟩ := log10_any r h0 h
  obtain ⟨f, n0, hf, hn1, hn2, cf⟩ := Floor_any y hy
  have cv := conv_i64 f n0 hf
  have SC := (show Hid _ from fun (k : Int) (h1 : -2100 ≤ k) (h2 : k ≤ 2100) (w1 : World) => scaled_any r k h h1 h2 w1)
  have hM0 : 0 < magR r := by have := magR_zero (r := r); omega
  have HM : Hid (magR r < pw 4 ∧ magR r < 9007199254740992 ∧ 0 < magR r) := ⟨mag53 r, magR_lt r, hM0⟩
  have hE : expR r ≤ 2045 := by unfold expR; omega
  generalize magR r = M at *
  generalize expR r = E at *
  have CC := (show Hid _ from fun (k : Int) (h1 : -2100 ≤ k) (h2 : k ≤ 2100) (w1 : World) (x y : Value) (hx : NatIs w1 x (pS M E k)) (hy : NatIs w1 y (qS E k)) => cmp_any x y _ _ w1 hx hy (pS_pw HM.out.1 hE h2) (qS_pw h1))
  have HI := (show Hid _ from fun n (hn : (400 : Int) ≤ n) => l10_hi HM.out.2.1 hE hn)
  have LO := (show Hid _ from fun n (hn : n ≤ (-400 : Int)) => l10_lo (E := E) HM.out.2.2 hn)
  clear hy hf hM0 HM
  go_enter Tryz.func86, Tryz.ntmps86
  go_wp2_with (first | (go_at_call 132; refine (cl _).mono ?_; rintro e wq ⟨rfl, hwq⟩; rw [hwq]; clear hwq wq) | (go_at_call 131; refine (cf _).mono ?_; rintro e wq ⟨rfl, hwq⟩; rw [hwq]; clear hwq wq))
  clear cl cf cv
  go_loopw [3] (fun vn wr => ∃ n : Int, vn = .int .i64 n ∧ -2049 ≤ n ∧ n ≤ 2050 ∧ Below w.heap.size w wr) (fun vn _ => (2050 - RowKit.intOf vn).toNat)
  case atStart => exact ⟨n0 - 1, by go_num, by omega, by omega, Below.refl _ _⟩
  case round =>
    obtain ⟨n, rfl, hn3, hn4, hbw⟩ := hrel
    have cs := SC.out (-n) (by omega) (by omega) wr
    have CN := (show Hid _ from CC.out (-n) (by omega) (by omega))
    by_cases hL : L10 M E n
    · have HL : Hid (L10 M E n) := hL
      clear hL
      go_wp2_with (first | (go_at_call 87; refine cs.mono ?_; rintro e w1 ⟨x1, x2, rfl, hx1, hx2, hw1⟩; clear cs; have cc := CN.out w1 x1 x2 hx1 hx2; clear CN) | (go_at_call 67; refine cc.mono ?_; rintro e w2 ⟨c, rfl, hcmp, nn, rfl⟩; clear cc; have kc : c < 0 := hcmp.2.2 HL.out; clear hcmp))
      have hb1 : Below w.heap.size w (w1.drewN nn) := hbw.trans ((below_drewN hw1).mono hbw.size)
      go_loopw [3] (fun vn wr => ∃ n : Int, vn = .int .i64 n ∧ -2049 ≤ n ∧ n ≤ 2050 ∧ L10 M E n ∧ Below w.heap.size w wr) (fun vn _ => (RowKit.intOf vn + 2050).toNat)
      case atStart => exact ⟨n, rfl, hn3, hn4, HL.out, hb1⟩
      case round =>
        clear HL hb1 hbw hn3 hn4 hw1 hx1 hx2
        obtain ⟨m, rfl, hm1, hm2, hL, hbw⟩ := hrel
        have hm3 : -400 < m := by
          rcases Int.lt_or_le (-400) m with h1 | h1
          · exact h1
          · exact absurd hL (LO.out m h1)
        have HL : Hid (L10 M E m) := hL
        clear hL
        have cs := SC.out (1 - m) (by omega) (by omega) wr
        have CN := (show Hid _ from CC.out (1 - m) (by omega) (by omega))
        have HE1 : Hid (-(m - 1) = 1 - m) := (by omega : -(m - 1) = 1 - m)
        by_cases hL2 : L10 M E (m - 1)
        · have HL2 : Hid (pS M E (1 - m) < qS E (1 - m)) := by
            have := hL2
            unfold L10 at this
            rw [HE1.out] at this
            exact this
          have HL3 : Hid (L10 M E (m - 1)) := hL2
          clear hL2
          go_wp2_with (first | (go_at_call 87; refine cs.mono ?_; rintro e w3 ⟨x3, x4, rfl, hx3, hx4, hw3⟩; clear cs; have cc := CN.out w3 x3 x4 hx3 hx4; clear CN) | (go_at_call 67; refine cc.mono ?_; rintro e w4 ⟨c2, rfl, hcmp, nn2, rfl⟩; clear cc; have kc2 : ¬ (0 : Int) ≤ c2 := Int.not_le.2 (hcmp.2.2 HL2.out); clear hcmp))
          have hb3 : Below w.heap.size w (w3.drewN nn2) := hbw.trans ((below_drewN hw3).mono hbw.size)
          refine ⟨⟨m - 1, rfl, by omega, by omega, HL3.out, hb3⟩, ?_⟩
          simp only [RowKit.intOf]
          omega
        · have HL2 : Hid (qS E (1 - m) ≤ pS M E (1 - m)) := by
            have := hL2
            unfold L10 at this
            rw [HE1.out] at this
            exact Nat.le_of_not_lt this
          have HL3 : Hid (¬ L10 M E (m - 1)) := hL2
          clear hL2
          go_wp2_with (first | (go_at_call 87; refine cs.mono ?_; rintro e w3 ⟨x3, x4, rfl, hx3, hx4, hw3⟩; clear cs; have cc := CN.out w3 x3 x4 hx3 hx4; clear CN) | (go_at_call 67; refine cc.mono ?_; rintro e w4 ⟨c2, rfl, hcmp, nn2, rfl⟩; clear cc; have kc2 : (0 : Int) ≤ c2 := cmp_ge hcmp HL2.out; clear hcmp))
          have hb3 : Below w.heap.size w (w3.drewN nn2) := hbw.trans ((below_drewN hw3).mono hbw.size)
          go_ret
          exact ⟨m, rfl, HL.out, HL3.out, hb3⟩
    · have hn5 : n < 400 := by
        rcases Int.lt_or_le n 400 with h1 | h1
        · exact h1
        · exact absurd (HI.out n h1) hL
      have HL : Hid (qS E (-n) ≤ pS M E (-n)) := Nat.le_of_not_lt hL
      clear hL
      go_wp2_with (first | (go_at_call 87; refine cs.mono ?_; rintro e w1 ⟨x1, x2, rfl, hx1, hx2, hw1⟩; clear cs; have cc := CN.out w1 x1 x2 hx1 hx2; clear CN) | (go_at_call 67; refine cc.mono ?_; rintro e w2 ⟨c, rfl, hcmp, nn, rfl⟩; clear cc; have kc : ¬ c < 0 := Int.not_lt.2 (cmp_ge hcmp HL.out); clear hcmp))
      have hb1 : Below w.heap.size w (w1.drewN nn) := hbw.trans ((below_drewN hw1).mono hbw.size)
      refine ⟨⟨n + 1, rfl, by omega, by omega, hb1⟩, ?_⟩
      simp only [RowKit.intOf]
      omega
end Go.Proofs.YtellndmbllmjgaaGreatDoor
