/- Parts, Scaled. -/
import Derived.Test.YtellndmbllmjgaaGreatDoorLd1
import Derived.Test.YtellndmbllmjgaaGreatDoorFw
set_option linter.unusedVariables false
namespace Go.Proofs.YtellndmbllmjgaaGreatDoor
open Go.RowKit Go.Shelf Go.Sort Fs Fl Fl2

set_option maxRecDepth 100000 in
theorem parts_any (r : Nat) (h : r < 9218868437227405312) (w : World) : Calls Tryz.prog 63 #[.float .f64 r] w fun e w' => e = .returned (.tuple #[.int .u64 ((magR r : Nat) : Int), .int .i64 ((expR r : Int) - 1074)]) ∧ w' = w := by
  have x1 := Tryz.tobits103 r
  obtain ⟨f, hf⟩ : ∃ f, f = r % 4503599627370496 := ⟨_, rfl⟩
  obtain ⟨q, hq⟩ : ∃ q, q = r / 4503599627370496 := ⟨_, rfl⟩
  have e1 : (r : Int) / 4503599627370496 = (q : Int) := by omega
  have e2 : (r : Int) % 4503599627370496 = (f : Int) := by omega
  have hq2 : q < 2047 := by omega
  have hf2 : f < 4503599627370496 := by omega
  have e3 : (q : Int) % 2048 = (q : Int) := by omega
  rcases Nat.eq_zero_or_pos q with h0 | h0
  · have em : magR r = f := by unfold magR; rw [if_pos (by omega)]; omega
    have ee : expR r = 0 := by unfold expR; omega
    rw [em, ee]
    subst h0
    have HE2 : Hid ((r : Int) % 4503599627370496 = (f : Int)) := e2
    clear hf hq h em ee e2
    go_enter Tryz.func63, Tryz.ntmps63
    go_wp2
    go_ret2
    refine ⟨?_, rfl⟩
    rw [← HE2.out]
    rfl
  · have em : magR r = 4503599627370496 + f := by unfold magR; rw [if_neg (by omega)]; omega
    have ee : ((expR r : Nat) : Int) = (q : Int) - 1 := by unfold expR; omega
    rw [em, ee]
    have t0 : ((q : Int) == 0) = false := by rw [beq_eq_false_iff_ne]; omega
    have HQ : Hid (0 < q) := h0
    clear hf hq h em ee h0
    go_enter Tryz.func63, Tryz.ntmps63
    go_wp2
    go_ret2
    refine ⟨?_, rfl⟩
    have a1 : ((4503599627370496 + f : Nat) : Int) = (f : Int) + 4503599627370496 := by omega
    have a2 : (q : Int) - 1 - 1074 = (q : Int) - 1075 := by omega
    rw [a1, a2]
    rfl
theorem mag53 (r : Nat) : magR r < pw 4 := Nat.lt_trans (magR_lt r) (by decide)
/-- A power of ten is not great. -/
theorem two_pw3 {i n : Nat} (h : i ≤ 16 * n) : 2 ^ i ≤ pw n := by
  unfold pw
  rw [pow16]
  exact Nat.pow_le_pow_right (by omega) h
theorem ten_pw {k : Nat} (h : k ≤ 2100) : 10 ^ k < pw 500 := by
  have h1 : 10 ^ k ≤ 10 ^ (3 * (k / 3 + 1)) := Nat.pow_le_pow_right (by omega) (by omega)
  have h2 : (10 : Nat) ^ (3 * (k / 3 + 1)) = 1000 ^ (k / 3 + 1) := by rw [Nat.pow_mul]
  have h3 : (1000 : Nat) ^ (k / 3 + 1) ≤ 1024 ^ (k / 3 + 1) := Nat.pow_le_pow_left (by omega) _
  have h4 : (1024 : Nat) ^ (k / 3 + 1) = 2 ^ (10 * (k / 3 + 1)) := by rw [Nat.pow_mul]
  have h5 : 2 ^ (10 * (k / 3 + 1)) ≤ pw 450 := two_pw3 (by omega)
  have h6 : pw 450 < pw 500 := pw_strict (by omega)
  rw [h2] at h1
  rw [h4] at h3
  exact Nat.lt_of_le_of_lt (Nat.le_trans h1 (Nat.le_trans h3 h5)) h6
set_option maxRecDepth 100000 in
set_option maxHeartbeats 1000000 in
/-- **Scaled.** -/
theorem scaled_any (r : Nat) (k : Int) (h : r < 9218868437227405312) (hk1 : -2100 ≤ k) (hk2 : k ≤ 2100) (w : World) :
    Calls Tryz.prog 87 #[.float .f64 r, .int .i64 k] w fun e w' => ∃ vp vq, e = .returned (.tuple #[vp, vq]) ∧ NatIs w' vp (pS (magR r) (expR r) k) ∧ NatIs w' vq (qS (expR r) k) ∧ Below w.heap.size w w' := by
  have cp := parts_any r h w
  have hm := mag53 r
  have hml := magR_lt r
  have hel : expR r ≤ 2045 := by unfold expR; omega
  generalize hM : magR r = M at *
  generalize hE : expR r = E at *
  have cn := nat_any M (by omega) w
  have C1 : Hid (∀ w, Calls Tryz.prog 32 #[.int .u64 1] w fun e w' => ∃ v, e = .returned v ∧ NatIs w' v 1 ∧ Below w.heap.size w w') := fun w => nat_any 1 (by omega) w
  have HM : Hid (M < pw 4) := hm
  have CT : Hid (∀ (j : Nat) w, j ≤ 2100 → Calls Tryz.prog 64 #[.int .u64 10, .int .i64 (j : Int)] w fun e w' => ∃ v, e = .returned v ∧ NatIs w' v (10 ^ j) ∧ Below w.heap.size w w') := by
    intro j w hj
    have := power_any 10 (j : Int) (by omega) (by omega) (by omega) (by omega) (by rw [Int.toNat_natCast]; exact ten_pw hj) w
    rw [Int.toNat_natCast] at this
    exact this
  have C2 : Hid (∀ (j : Nat) w, j ≤ 1074 → Calls Tryz.prog 64 #[.int .u64 2, .int .i64 (j : Int)] w fun e w' => ∃ v, e = .returned v ∧ NatIs w' v (2 ^ j) ∧ Below w.heap.size w w') := by
    intro j w hj
    have := power_any 2 (j : Int) (by omega) (by omega) (by omega) (by omega) (by rw [Int.toNat_natCast]; exact Nat.lt_of_le_of_lt (two_pw3 (n := 68) (by omega)) (pw_strict (by omega))) w
    rw [Int.toNat_natCast] at this
    exact this
  clear hM hE hm h
  by_cases hE : 1074 ≤ E
  · obtain ⟨b, rfl⟩ : ∃ b, E = b + 1074 := ⟨E - 1074, by omega⟩
    have eb : ((b + 1074 : Nat) : Int) - 1074 = (b : Int) := by omega
    rw [eb] at cp
    have hbb : b ≤ 971 := by omega
    have ke : (0 : Int) ≤ (b : Int) := by omega
    have HE : Hid (b + 1074 - 1074 = b ∧ 1074 - (b + 1074) = 0) := ⟨by omega, by omega⟩
    clear eb hE hel
    rcases Int.lt_or_le k 0 with hk0 | hk0
    rotate_left
    · obtain ⟨j, rfl⟩ : ∃ j : Nat, k = (j : Int) := ⟨k.natAbs, by omega⟩
      have kk : (0 : Int) ≤ (j : Int) := by omega
      have HBP : Hid (M * 2 ^ b < pw 1000) := (by rw [Nat.mul_comm]; exact pw_lt_mul (two_pw3 (n := 68) (by omega)) HM.out (by omega))
      have HBQ : Hid (1 < pw 1000) := Nat.lt_of_lt_of_le (by decide : 1 < pw 1) (pw_mono (by omega))
      go_enter Tryz.func87, Tryz.ntmps87
      go_wp2_with (first | (go_at_call 63; refine cp.mono ?_; rintro e w0 ⟨rfl, rfl⟩; clear cp) | (go_at_call 32; refine cn.mono ?_; rintro e w1 ⟨x1, rfl, hx1, hw1⟩; clear cn; have c1 := C1.out w1; clear C1) | (go_at_call 32; refine c1.mono ?_; rintro e w2 ⟨x2, rfl, hx2, hw2⟩; clear c1; have hw12 := hw1.trans (hw2.mono hw1.size); have c2 := C2.out b w2 (by omega); clear C2) | (go_at_call 64; refine c2.mono ?_; rintro e w3 ⟨x3, rfl, hx3, hw3⟩; clear c2; have hw13 := hw12.trans (hw3.mono hw12.size); have cm := mul_any x1 x3 M (2 ^ b) w3 ((hx1.below hw2).below hw3) hx3 (pw_lt HM.out (by omega)) (pw_lt (Nat.lt_of_le_of_lt (two_pw3 (n := 68) (by omega)) (pw_strict (show 68 < 69 by omega))) (by omega))) | (go_at_call 65; refine cm.mono ?_; rintro e w4 ⟨x4, rfl, hx4, hw4⟩; clear cm; have hw14 := hw13.trans (hw4.mono hw13.size); have hx2' := (hx2.below hw3).below hw4; have ct := CT.out j w4 (by omega); clear CT) | (go_at_call 64; refine ct.mono ?_; rintro e w5 ⟨x5, rfl, hx5, hw5⟩; clear ct; have hw15 := hw14.trans (hw5.mono hw14.size); have hP := hx4.below hw5; have hQ := hx2'.below hw5; have cz := mul_any x4 x5 (M * 2 ^ b) (10 ^ j) w5 hP hx5 (HBP.out) (pw_lt (ten_pw (by omega)) (by omega))) | (go_at_call 65; refine cz.mono ?_; rintro e w6 ⟨x6, rfl, hx6, hw6⟩; clear cz))
      go_ret2
      refine ⟨x6, x2, rfl, ?_, ?_, hw15.trans (hw6.mono hw15.size)⟩
      · have e1 : pS M (b + 1074) (j : Int) = M * 2 ^ b * 10 ^ j := by unfold pS; rw [Int.toNat_natCast, HE.out.1]
        rw [e1]; exact hx6
      · have e1 : qS (b + 1074) (j : Int) = 1 := by unfold qS; rw [show (-(j : Int)).toNat = 0 by omega, HE.out.2, Nat.pow_zero, Nat.mul_one]; try simp
        rw [e1]; exact hQ.below hw6
    · obtain ⟨j, rfl⟩ : ∃ j : Nat, k = -(j : Int) := ⟨k.natAbs, by omega⟩
      have kj : 0 < j := by omega
      have kk : ¬ (0 : Int) ≤ -(j : Int) := by omega
      have HBP : Hid (M * 2 ^ b < pw 1000) := (by rw [Nat.mul_comm]; exact pw_lt_mul (two_pw3 (n := 68) (by omega)) HM.out (by omega))
      have HBQ : Hid (1 < pw 1000) := Nat.lt_of_lt_of_le (by decide : 1 < pw 1) (pw_mono (by omega))
      go_enter Tryz.func87, Tryz.ntmps87
      go_wp2_with (first | (go_at_call 63; refine cp.mono ?_; rintro e w0 ⟨rfl, rfl⟩; clear cp) | (go_at_call 32; refine cn.mono ?_; rintro e w1 ⟨x1, rfl, hx1, hw1⟩; clear cn; have c1 := C1.out w1; clear C1) | (go_at_call 32; refine c1.mono ?_; rintro e w2 ⟨x2, rfl, hx2, hw2⟩; clear c1; have hw12 := hw1.trans (hw2.mono hw1.size); have c2 := C2.out b w2 (by omega); clear C2) | (go_at_call 64; refine c2.mono ?_; rintro e w3 ⟨x3, rfl, hx3, hw3⟩; clear c2; have hw13 := hw12.trans (hw3.mono hw12.size); have cm := mul_any x1 x3 M (2 ^ b) w3 ((hx1.below hw2).below hw3) hx3 (pw_lt HM.out (by omega)) (pw_lt (Nat.lt_of_le_of_lt (two_pw3 (n := 68) (by omega)) (pw_strict (show 68 < 69 by omega))) (by omega))) | (go_at_call 65; refine cm.mono ?_; rintro e w4 ⟨x4, rfl, hx4, hw4⟩; clear cm; have hw14 := hw13.trans (hw4.mono hw13.size); have hx2' := (hx2.below hw3).below hw4; have ct := CT.out j w4 (by omega); clear CT) | (go_at_call 64; refine ct.mono ?_; rintro e w5 ⟨x5, rfl, hx5, hw5⟩; clear ct; have hw15 := hw14.trans (hw5.mono hw14.size); have hP := hx4.below hw5; have hQ := hx2'.below hw5; have cz := mul_any x2 x5 (1) (10 ^ j) w5 hQ hx5 (HBQ.out) (pw_lt (ten_pw (by omega)) (by omega))) | (go_at_call 65; refine cz.mono ?_; rintro e w6 ⟨x6, rfl, hx6, hw6⟩; clear cz))
      go_ret2
      refine ⟨x4, x6, rfl, ?_, ?_, hw15.trans (hw6.mono hw15.size)⟩
      · have e1 : pS M (b + 1074) (-(j : Int)) = M * 2 ^ b := by unfold pS; rw [show (-(j : Int)).toNat = 0 by omega, HE.out.1]; simp
        rw [e1]; exact hP.below hw6
      · have e1 : qS (b + 1074) (-(j : Int)) = 1 * 10 ^ j := by unfold qS; rw [Int.neg_neg, Int.toNat_natCast, HE.out.2]; try simp
        rw [e1]; exact hx6
  · obtain ⟨b, hb⟩ : ∃ b, 1074 - E = b := ⟨_, rfl⟩
    have eb : (E : Int) - 1074 = -(b : Int) := by omega
    rw [eb] at cp
    have hb0 : 0 < b := by omega
    have hbb : b ≤ 1074 := by omega
    have ke : ¬ (0 : Int) ≤ -(b : Int) := by omega
    have HE : Hid (E - 1074 = 0 ∧ 1074 - E = b) := ⟨by omega, hb⟩
    clear eb hE hel hb
    rcases Int.lt_or_le k 0 with hk0 | hk0
    rotate_left
    · obtain ⟨j, rfl⟩ : ∃ j : Nat, k = (j : Int) := ⟨k.natAbs, by omega⟩
      have kk : (0 : Int) ≤ (j : Int) := by omega
      have HBP : Hid (M < pw 1000) := pw_lt HM.out (by omega)
      have HBQ : Hid (2 ^ b < pw 1000) := Nat.lt_of_le_of_lt (two_pw3 (n := 68) (by omega)) (pw_strict (by omega))
      go_enter Tryz.func87, Tryz.ntmps87
      go_wp2_with (first | (go_at_call 63; refine cp.mono ?_; rintro e w0 ⟨rfl, rfl⟩; clear cp) | (go_at_call 32; refine cn.mono ?_; rintro e w1 ⟨x1, rfl, hx1, hw1⟩; clear cn; have c1 := C1.out w1; clear C1) | (go_at_call 32; refine c1.mono ?_; rintro e w2 ⟨x2, rfl, hx2, hw2⟩; clear c1; have hw12 := hw1.trans (hw2.mono hw1.size); have c2 := C2.out b w2 (by omega); clear C2) | (go_at_call 64; refine c2.mono ?_; rintro e w4 ⟨x3, rfl, hx3, hw4⟩; clear c2; have hw14 := hw12.trans (hw4.mono hw12.size); have hx1' := (hx1.below hw2).below hw4; have ct := CT.out j w4 (by omega); clear CT) | (go_at_call 64; refine ct.mono ?_; rintro e w5 ⟨x5, rfl, hx5, hw5⟩; clear ct; have hw15 := hw14.trans (hw5.mono hw14.size); have hP := hx1'.below hw5; have hQ := hx3.below hw5; have cz := mul_any x1 x5 (M) (10 ^ j) w5 hP hx5 (HBP.out) (pw_lt (ten_pw (by omega)) (by omega))) | (go_at_call 65; refine cz.mono ?_; rintro e w6 ⟨x6, rfl, hx6, hw6⟩; clear cz))
      go_ret2
      refine ⟨x6, x3, rfl, ?_, ?_, hw15.trans (hw6.mono hw15.size)⟩
      · have e1 : pS M E (j : Int) = M * 10 ^ j := by unfold pS; rw [Int.toNat_natCast, HE.out.1]; simp
        rw [e1]; exact hx6
      · have e1 : qS E (j : Int) = 2 ^ b := by unfold qS; rw [show (-(j : Int)).toNat = 0 by omega, HE.out.2, Nat.pow_zero, Nat.mul_one]
        rw [e1]; exact hQ.below hw6
    · obtain ⟨j, rfl⟩ : ∃ j : Nat, k = -(j : Int) := ⟨k.natAbs, by omega⟩
      have kj : 0 < j := by omega
      have kk : ¬ (0 : Int) ≤ -(j : Int) := by omega
      have HBP : Hid (M < pw 1000) := pw_lt HM.out (by omega)
      have HBQ : Hid (2 ^ b < pw 1000) := Nat.lt_of_le_of_lt (two_pw3 (n := 68) (by omega)) (pw_strict (by omega))
      go_enter Tryz.func87, Tryz.ntmps87
      go_wp2_with (first | (go_at_call 63; refine cp.mono ?_; rintro e w0 ⟨rfl, rfl⟩; clear cp) | (go_at_call 32; refine cn.mono ?_; rintro e w1 ⟨x1, rfl, hx1, hw1⟩; clear cn; have c1 := C1.out w1; clear C1) | (go_at_call 32; refine c1.mono ?_; rintro e w2 ⟨x2, rfl, hx2, hw2⟩; clear c1; have hw12 := hw1.trans (hw2.mono hw1.size); have c2 := C2.out b w2 (by omega); clear C2) | (go_at_call 64; refine c2.mono ?_; rintro e w4 ⟨x3, rfl, hx3, hw4⟩; clear c2; have hw14 := hw12.trans (hw4.mono hw12.size); have hx1' := (hx1.below hw2).below hw4; have ct := CT.out j w4 (by omega); clear CT) | (go_at_call 64; refine ct.mono ?_; rintro e w5 ⟨x5, rfl, hx5, hw5⟩; clear ct; have hw15 := hw14.trans (hw5.mono hw14.size); have hP := hx1'.below hw5; have hQ := hx3.below hw5; have cz := mul_any x3 x5 (2 ^ b) (10 ^ j) w5 hQ hx5 (HBQ.out) (pw_lt (ten_pw (by omega)) (by omega))) | (go_at_call 65; refine cz.mono ?_; rintro e w6 ⟨x6, rfl, hx6, hw6⟩; clear cz))
      go_ret2
      refine ⟨x1, x6, rfl, ?_, ?_, hw15.trans (hw6.mono hw15.size)⟩
      · have e1 : pS M E (-(j : Int)) = M := by unfold pS; rw [show (-(j : Int)).toNat = 0 by omega, HE.out.1]; simp
        rw [e1]; exact hP.below hw6
      · have e1 : qS E (-(j : Int)) = 2 ^ b * 10 ^ j := by unfold qS; rw [Int.neg_neg, Int.toNat_natCast, HE.out.2]
        rw [e1]; exact hx6
end Go.Proofs.YtellndmbllmjgaaGreatDoor
