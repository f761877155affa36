/- Parts, Scaled. -/
import Derived.Test.YtellndmbllmjgaaGreatDoorCRtx
import Derived.Test.YtellndmbllmjgaaGreatDoorCFwx
import Derived.Test.YtellndmbllmjgaaGreatDoorCRa2
import Derived.Test.YtellndmbllmjgaaGreatDoorCTx3x
import Derived.Laws.Sem
import GoSem.Extern.MathLog
import Derived.Test.YtellndmbllmjgaaGreatDoorCFl2x
import Derived.Test.YtellndmbllmjgaaGreatDoorCSl
import Derived.Laws.FloatArith
import Derived.WalkKit
set_option linter.unusedVariables false
namespace Go.Proofs.YtellndmbllmjgaaGreatDoor
open Go.RowKit Go.Shelf Go.Sort Fs Fl Fl2

set_option maxRecDepth 100000 in
theorem parts_any (r : Nat) (h : r < 9218868437227405312) (w : World) : Calls Tryz.prog 63 #[.float .f64 r] w fun e w' => e = .returned (.tuple #[.int .u64 ((magR r : Nat) : Int), .int .i64 ((expR r : Int) - 1074)]) ∧ w' = w := by
  have x1 := Tryz.tobits103 r
  obtain ⟨f, hf⟩ : ∃ f, f = r % 4503599627370496 := ⟨_, rfl⟩
  obtain ⟨q, hq⟩ : ∃ q, q = r / 4503599627370496 := ⟨_, rfl⟩
  have e1 : (r : Int) / 4503599627370496 = (q : Int) := by omega
  have e2 : (r : Int) % 4503599627370496 = (f : Int) := by omega
  have hq2 : q < 2047 := by omega
  have hf2 : f < 4503599627370496 := by omega
  have e3 : (q : Int) % 2048 = (q : Int) := by omega
  rcases Nat.eq_zero_or_pos q with h0 | h0
  · have em : magR r = f := by unfold magR; rw [if_pos (by omega)]; omega
    have ee : expR r = 0 := by unfold expR; omega
    rw [em, ee]
    subst h0
    have HE2 : Hid ((r : Int) % 4503599627370496 = (f : Int)) := e2
    clear hf hq h em ee e2
    go_enter Tryz.func63, Tryz.ntmps63
    go_wp2
    go_ret2
    refine ⟨?_, rfl⟩
    rw [← HE2.out]
    rfl
  · have em : magR r = 4503599627370496 + f := by unfold magR; rw [if_neg (by omega)]; omega
    have ee : ((expR r : Nat) : Int) = (q : Int) - 1 := by unfold expR; omega
    rw [em, ee]
    have t0 : ((q : Int) == 0) = false := by rw [beq_eq_false_iff_ne]; omega
    have HQ : Hid (0 < q) := h0
    clear hf hq h em ee h0
    go_enter Tryz.func63, Tryz.ntmps63
    go_wp2
    go_ret2
    refine ⟨?_, rfl⟩
    have a1 : ((4503599627370496 + f : Nat) : Int) = (f : Int) + 4503599627370496 := by omega
    have a2 : (q : Int) - 1 - 1074 = (q : Int) - 1075 := by omega
    rw [a1, a2]
    rfl
theorem mag53 (r : Nat) : magR r < pw 4 := Nat.lt_trans (magR_lt r) (by decide)
/-- A power of ten is not great. -/
theorem two_pw3 {i n : Nat} (h : i ≤ 16 * n) : 2 ^ i ≤ pw n := by
  unfold pw
  rw [pow16]
  exact Nat.pow_le_pow_right (by omega) h
theorem ten_pw {k : Nat} (h : k ≤ 2100) : 10 ^ k < pw 500 := by
  have h1 : 10 ^ k ≤ 10 ^ (3 * (k / 3 + 1)) := Nat.pow_le_pow_right (by omega) (by omega)
  have h2 : (10 : Nat) ^ (3 * (k / 3 + 1)) = 1000 ^ (k / 3 + 1) := by rw [Nat.pow_mul]
  have h3 : (1000 : Nat) ^ (k / 3 + 1) ≤ 1024 ^ (k / 3 + 1) := Nat.pow_le_pow_left (by omega) _
  have h4 : (1024 : Nat) ^ (k / 3 + 1) = 2 ^ (10 * (k / 3 + 1)) := by rw [Nat.pow_mul]
  have h5 : 2 ^ (10 * (k / 3 + 1)) ≤ pw 450 := two_pw3 (by omega)
  have h6 : pw 450 < pw 500 := pw_strict (by omega)
  rw [h2] at h1
  rw [h4] at h3
  exact Nat.lt_of_le_of_lt (Nat.le_trans h1 (Nat.le_trans h3 h5)) h6
set_option maxRecDepth 100000 in
set_option maxHeartbeats 1000000 in
/-- **Scaled.** -/
theorem scaled_any (r : Nat) (k : Int) (h : r < 9218868437227405312) (hk1 : -2100 ≤ k) (hk2 : k ≤ 2100) (w : World) :
    Calls Tryz.prog 87 #[.float .f64 r, .int .i64 k] w fun e w' => ∃ vp vq, e = .returned (.tuple #[vp, vq]) ∧ NatIs w' vp (pS (magR r) (expR r) k) ∧ NatIs w' vq (qS (expR r) k) ∧ Below w.heap.size w w' := by
  have cp := parts_any r h w
  have hm := mag53 r
  have hml := magR_lt r
  have hel : expR r ≤ 2045 := by unfold expR; omega
  generalize hM : magR r = M at *
  generalize hE : expR r = E at *
  have cn := nat_any M (by omega) w
  have C1 : Hid (∀ w, Calls Tryz.prog 32 #[.int .u64 1] w fun e w' => ∃ v, e = .returned v ∧ NatIs w' v 1 ∧ Below w.heap.size w w') := fun w => nat_any 1 (by omega) w
  have HM : Hid (M < pw 4) := hm
  have CT : Hid (∀ (j : Nat) w, j ≤ 2100 → Calls Tryz.prog 64 #[.int .u64 10, .int .i64 (j : Int)] w fun e w' => ∃ v, e = .returned v ∧ NatIs w' v (10 ^ j) ∧ Below w.heap.size w w') := by
    intro j w hj
    have := power_any 10 (j : Int) (by omega) (by omega) (by omega) (by omega) (by rw [Int.toNat_natCast]; exact ten_pw hj) w
    rw [Int.toNat_natCast] at this
    exact this
  have C2 : Hid (∀ (j : Nat) w, j ≤ 1074 → Calls Tryz.prog 64 #[.int .u64 2, .int .i64 (j : Int)] w fun e w' => ∃ v, e = .returned v ∧ NatIs w' v (2 ^ j) ∧ Below w.heap.size w w') := by
    intro j w hj
    have := power_any 2 (j : Int) (by omega) (by omega) (by omega) (by omega) (by rw [Int.toNat_natCast]; exact Nat.lt_of_le_of_lt (two_pw3 (n := 68) (by omega)) (pw_strict (by omega))) w
    rw [Int.toNat_natCast] at this
    exact this
  clear hM hE hm h
  by_cases hE : 1074 ≤ E
  · obtain ⟨b, rfl⟩ : ∃ b, E = b + 1074 := ⟨E - 1074, by omega⟩
    have eb : ((b + 1074 : Nat) : Int) - 1074 = (b : Int) := by omega
    rw [eb] at cp
    have hbb : b ≤ 971 := by omega
    have ke : (0 : Int) ≤ (b : Int) := by omega
    have HE : Hid (b + 1074 - 1074 = b ∧ 1074 - (b + 1074) = 0) := ⟨by omega, by omega⟩
    clear eb hE hel
    rcases Int.lt_or_le k 0 with hk0 | hk0
    rotate_left
    · obtain ⟨j, rfl⟩ : ∃ j : Nat, k = (j : Int) := ⟨k.natAbs, by omega⟩
      have kk : (0 : Int) ≤ (j : Int) := by omega
      have HBP : Hid (M * 2 ^ b < pw 1000) := (by rw [Nat.mul_comm]; exact pw_lt_mul (two_pw3 (n := 68) (by omega)) HM.out (by omega))
      have HBQ : Hid (1 < pw 1000) := Nat.lt_of_lt_of_le (by decide : 1 < pw 1) (pw_mono (by omega))
      go_enter Tryz.func87, Tryz.ntmps87
      go_wp2_with (first | (go_at_call 63; refine cp.mono ?_; rintro e w0 ⟨rfl, rfl⟩; clear cp) | (go_at_call 32; refine cn.mono ?_; rintro e w1 ⟨x1, rfl, hx1, hw1⟩; clear cn; have c1 := C1.out w1; clear C1) | (go_at_call 32; refine c1.mono ?_; rintro e w2 ⟨x2, rfl, hx2, hw2⟩; clear c1; have hw12 := hw1.trans (hw2.mono hw1.size); have c2 := C2.out b w2 (by omega); clear C2) | (go_at_call 64; refine c2.mono ?_; rintro e w3 ⟨x3, rfl, hx3, hw3⟩; clear c2; have hw13 := hw12.trans (hw3.mono hw12.size); have cm := mul_any x1 x3 M (2 ^ b) w3 ((hx1.below hw2).below hw3) hx3 (pw_lt HM.out (by omega)) (pw_lt (Nat.lt_of_le_of_lt (two_pw3 (n := 68) (by omega)) (pw_strict (show 68 < 69 by omega))) (by omega))) | (go_at_call 65; refine cm.mono ?_; rintro e w4 ⟨x4, rfl, hx4, hw4⟩; clear cm; have hw14 := hw13.trans (hw4.mono hw13.size); have hx2' := (hx2.below hw3).below hw4; have ct := CT.out j w4 (by omega); clear CT) | (go_at_call 64; refine ct.mono ?_; rintro e w5 ⟨x5, rfl, hx5, hw5⟩; clear ct; have hw15 := hw14.trans (hw5.mono hw14.size); have hP := hx4.below hw5; have hQ := hx2'.below hw5; have cz := mul_any x4 x5 (M * 2 ^ b) (10 ^ j) w5 hP hx5 (HBP.out) (pw_lt (ten_pw (by omega)) (by omega))) | (go_at_call 65; refine cz.mono ?_; rintro e w6 ⟨x6, rfl, hx6, hw6⟩; clear cz))
      go_ret2
      refine ⟨x6, x2, rfl, ?_, ?_, hw15.trans (hw6.mono hw15.size)⟩
      · have e1 : pS M (b + 1074) (j : Int) = M * 2 ^ b * 10 ^ j := by unfold pS; rw [Int.toNat_natCast, HE.out.1]
        rw [e1]; exact hx6
      · have e1 : qS (b + 1074) (j : Int) = 1 := by unfold qS; rw [show (-(j : Int)).toNat = 0 by omega, HE.out.2, Nat.pow_zero, Nat.mul_one]; try simp
        rw [e1]; exact hQ.below hw6
    · obtain ⟨j, rfl⟩ : ∃ j : Nat, k = -(j : Int) := ⟨k.natAbs, by omega⟩
      have kj : 0 < j := by omega
      have kk : ¬ (0 : Int) ≤ -(j : Int) := by omega
      have HBP : Hid (M * 2 ^ b < pw 1000) := (by rw [Nat.mul_comm]; exact pw_lt_mul (two_pw3 (n := 68) (by omega)) HM.out (by omega))
      have HBQ : Hid (1 < pw 1000) := Nat.lt_of_lt_of_le (by decide : 1 < pw 1) (pw_mono (by omega))
      go_enter Tryz.func87, Tryz.ntmps87
      go_wp2_with (first | (go_at_call 63; refine cp.mono ?_; rintro e w0 ⟨rfl, rfl⟩; clear cp) | (go_at_call 32; refine cn.mono ?_; rintro e w1 ⟨x1, rfl, hx1, hw1⟩; clear cn; have c1 := C1.out w1; clear C1) | (go_at_call 32; refine c1.mono ?_; rintro e w2 ⟨x2, rfl, hx2, hw2⟩; clear c1; have hw12 := hw1.trans (hw2.mono hw1.size); have c2 := C2.out b w2 (by omega); clear C2) | (go_at_call 64; refine c2.mono ?_; rintro e w3 ⟨x3, rfl, hx3, hw3⟩; clear c2; have hw13 := hw12.trans (hw3.mono hw12.size); have cm := mul_any x1 x3 M (2 ^ b) w3 ((hx1.below hw2).below hw3) hx3 (pw_lt HM.out (by omega)) (pw_lt (Nat.lt_of_le_of_lt (two_pw3 (n := 68) (by omega)) (pw_strict (show 68 < 69 by omega))) (by omega))) | (go_at_call 65; refine cm.mono ?_; rintro e w4 ⟨x4, rfl, hx4, hw4⟩; clear cm; have hw14 := hw13.trans (hw4.mono hw13.size); have hx2' := (hx2.below hw3).below hw4; have ct := CT.out j w4 (by omega); clear CT) | (go_at_call 64; refine ct.mono ?_; rintro e w5 ⟨x5, rfl, hx5, hw5⟩; clear ct; have hw15 := hw14.trans (hw5.mono hw14.size); have hP := hx4.below hw5; have hQ := hx2'.below hw5; have cz := mul_any x2 x5 (1) (10 ^ j) w5 hQ hx5 (HBQ.out) (pw_lt (ten_pw (by omega)) (by omega))) | (go_at_call 65; refine cz.mono ?_; rintro e w6 ⟨x6, rfl, hx6, hw6⟩; clear cz))
      go_ret2
      refine ⟨x4, x6, rfl, ?_, ?_, hw15.trans (hw6.mono hw15.size)⟩
      · have e1 : pS M (b + 1074) (-(j : Int)) = M * 2 ^ b := by unfold pS; rw [show (-(j : Int)).toNat = 0 by omega, HE.out.1]; simp
        rw [e1]; exact hP.below hw6
      · have e1 : qS (b + 1074) (-(j : Int)) = 1 * 10 ^ j := by unfold qS; rw [Int.neg_neg, Int.toNat_natCast, HE.out.2]; try simp
        rw [e1]; exact hx6
  · obtain ⟨b, hb⟩ : ∃ b, 1074 - E = b := ⟨_, rfl⟩
    have eb : (E : Int) - 1074 = -(b : Int) := by omega
    rw [eb] at cp
    have hb0 : 0 < b := by omega
    have hbb : b ≤ 1074 := by omega
    have ke : ¬ (0 : Int) ≤ -(b : Int) := by omega
    have HE : Hid (E - 1074 = 0 ∧ 1074 - E = b) := ⟨by omega, hb⟩
    clear eb hE hel hb
    rcases Int.lt_or_le k 0 with hk0 | hk0
    rotate_left
    · obtain ⟨j, rfl⟩ : ∃ j : Nat, k = (j : Int) := ⟨k.natAbs, by omega⟩
      have kk : (0 : Int) ≤ (j : Int) := by omega
      have HBP : Hid (M < pw 1000) := pw_lt HM.out (by omega)
      have HBQ : Hid (2 ^ b < pw 1000) := Nat.lt_of_le_of_lt (two_pw3 (n := 68) (by omega)) (pw_strict (by omega))
      go_enter Tryz.func87, Tryz.ntmps87
      go_wp2_with (first | (go_at_call 63; refine cp.mono ?_; rintro e w0 ⟨rfl, rfl⟩; clear cp) | (go_at_call 32; refine cn.mono ?_; rintro e w1 ⟨x1, rfl, hx1, hw1⟩; clear cn; have c1 := C1.out w1; clear C1) | (go_at_call 32; refine c1.mono ?_; rintro e w2 ⟨x2, rfl, hx2, hw2⟩; clear c1; have hw12 := hw1.trans (hw2.mono hw1.size); have c2 := C2.out b w2 (by omega); clear C2) | (go_at_call 64; refine c2.mono ?_; rintro e w4 ⟨x3, rfl, hx3, hw4⟩; clear c2; have hw14 := hw12.trans (hw4.mono hw12.size); have hx1' := (hx1.below hw2).below hw4; have ct := CT.out j w4 (by omega); clear CT) | (go_at_call 64; refine ct.mono ?_; rintro e w5 ⟨x5, rfl, hx5, hw5⟩; clear ct; have hw15 := hw14.trans (hw5.mono hw14.size); have hP := hx1'.below hw5; have hQ := hx3.below hw5; have cz := mul_any x1 x5 (M) (10 ^ j) w5 hP hx5 (HBP.out) (pw_lt (ten_pw (by omega)) (by omega))) | (go_at_call 65; refine cz.mono ?_; rintro e w6 ⟨x6, rfl, hx6, hw6⟩; clear cz))
      go_ret2
      refine ⟨x6, x3, rfl, ?_, ?_, hw15.trans (hw6.mono hw15.size)⟩
      · have e1 : pS M E (j : Int) = M * 10 ^ j := by unfold pS; rw [Int.toNat_natCast, HE.out.1]; simp
        rw [e1]; exact hx6
      · have e1 : qS E (j : Int) = 2 ^ b := by unfold qS; rw [show (-(j : Int)).toNat = 0 by omega, HE.out.2, Nat.pow_zero, Nat.mul_one]
        rw [e1]; exact hQ.below hw6
    · obtain ⟨j, rfl⟩ : ∃ j : Nat, k = -(j : Int) := ⟨k.natAbs, by omega⟩
      have kj : 0 < j := by omega
      have kk : ¬ (0 : Int) ≤ -(j : Int) := by omega
      have HBP : Hid (M < pw 1000) := pw_lt HM.out (by omega)
      have HBQ : Hid (2 ^ b < pw 1000) := Nat.lt_of_le_of_lt (two_pw3 (n := 68) (by omega)) (pw_strict (by omega))
      go_enter Tryz.func87, Tryz.ntmps87
      go_wp2_with (first | (go_at_call 63; refine cp.mono ?_; rintro e w0 ⟨rfl, rfl⟩; clear cp) | (go_at_call 32; refine cn.mono ?_; rintro e w1 ⟨x1, rfl, hx1, hw1⟩; clear cn; have c1 := C1.out w1; clear C1) | (go_at_call 32; refine c1.mono ?_; rintro e w2 ⟨x2, rfl, hx2, hw2⟩; clear c1; have hw12 := hw1.trans (hw2.mono hw1.size); have c2 := C2.out b w2 (by omega); clear C2) | (go_at_call 64; refine c2.mono ?_; rintro e w4 ⟨x3, rfl, hx3, hw4⟩; clear c2; have hw14 := hw12.trans (hw4.mono hw12.size); have hx1' := (hx1.below hw2).below hw4; have ct := CT.out j w4 (by omega); clear CT) | (go_at_call 64; refine ct.mono ?_; rintro e w5 ⟨x5, rfl, hx5, hw5⟩; clear ct; have hw15 := hw14.trans (hw5.mono hw14.size); have hP := hx1'.below hw5; have hQ := hx3.below hw5; have cz := mul_any x3 x5 (2 ^ b) (10 ^ j) w5 hQ hx5 (HBQ.out) (pw_lt (ten_pw (by omega)) (by omega))) | (go_at_call 65; refine cz.mono ?_; rintro e w6 ⟨x6, rfl, hx6, hw6⟩; clear cz))
      go_ret2
      refine ⟨x1, x6, rfl, ?_, ?_, hw15.trans (hw6.mono hw15.size)⟩
      · have e1 : pS M E (-(j : Int)) = M := by unfold pS; rw [show (-(j : Int)).toNat = 0 by omega, HE.out.1]; simp
        rw [e1]; exact hP.below hw6
      · have e1 : qS E (-(j : Int)) = 2 ^ b * 10 ^ j := by unfold qS; rw [Int.neg_neg, Int.toNat_natCast, HE.out.2]
        rw [e1]; exact hx6
end Go.Proofs.YtellndmbllmjgaaGreatDoor
/- decimal. -/
set_option linter.unusedVariables false
namespace Go.Proofs.YtellndmbllmjgaaGreatDoor
open Go.RowKit Go.Shelf Go.Sort Fs Fl Fl2

/-- R is the word that the decimal number s times 10 to the j (less 400) is read as. -/
def DecIs (s j R : Nat) : Prop := ∀ r, R = r ↔ Inn (LL (magR r) (expR r)) (UU (magR r) (expR r)) (magR r % 2) (s * BB j)
theorem dec_up {s j R : Nat} (hj : 400 ≤ j) (h : Near (s * 10 ^ (j - 400)) 1 R) : DecIs s j R := by
  intro r
  rw [← near_up r s j hj]
  constructor
  · rintro rfl; exact h
  · intro h2; exact near_one (by omega) h h2
theorem dec_down {s j R : Nat} (hj : j < 400) (h : Near s (10 ^ (400 - j)) R) : DecIs s j R := by
  intro r
  rw [← near_down r s j hj]
  constructor
  · rintro rfl; exact h
  · intro h2; exact near_one (Nat.pow_pos (by omega)) h h2
theorem ten_pw2 {k : Nat} (h : k ≤ 2100) : 10 ^ k ≤ pw 450 := by
  have h1 : 10 ^ k ≤ 10 ^ (3 * (k / 3 + 1)) := Nat.pow_le_pow_right (by omega) (by omega)
  have h2 : (10 : Nat) ^ (3 * (k / 3 + 1)) = 1000 ^ (k / 3 + 1) := by rw [Nat.pow_mul]
  have h3 : (1000 : Nat) ^ (k / 3 + 1) ≤ 1024 ^ (k / 3 + 1) := Nat.pow_le_pow_left (by omega) _
  have h4 : (1024 : Nat) ^ (k / 3 + 1) = 2 ^ (10 * (k / 3 + 1)) := by rw [Nat.pow_mul]
  have h5 : 2 ^ (10 * (k / 3 + 1)) ≤ pw 450 := two_pw3 (by omega)
  rw [h2] at h1
  rw [h4] at h3
  exact Nat.le_trans h1 (Nat.le_trans h3 h5)
set_option maxRecDepth 100000 in
set_option maxHeartbeats 1000000 in
/-- **decimal.** -/
theorem dec_any (u : Value) (s j : Nat) (w : World) (hu : NatIs w u s) (hs : 0 < s) (hs2 : s < pw 5) (hj : j ≤ 2000) (k : Int) (hk : k = (j : Int) - 400) :
    Calls Tryz.prog 88 #[u, .int .i64 k] w fun e w' => ∃ R, DecIs s j R ∧ e = .returned (.float .f64 (min R 9218868437227405312)) ∧ Below w.heap.size w w' := by
  have CT : Hid (∀ (i : Nat) w, i ≤ 2100 → Calls Tryz.prog 64 #[.int .u64 10, .int .i64 (i : Int)] w fun e w' => ∃ v, e = .returned v ∧ NatIs w' v (10 ^ i) ∧ Below w.heap.size w w') := by
    intro i w hi
    have := power_any 10 (i : Int) (by omega) (by omega) (by omega) (by omega) (by rw [Int.toNat_natCast]; exact ten_pw hi) w
    rw [Int.toNat_natCast] at this
    exact this
  by_cases h4 : 400 ≤ j
  · obtain ⟨i, hi⟩ : ∃ i, j - 400 = i := ⟨_, rfl⟩
    obtain rfl : k = (i : Int) := by omega
    have k0 : (0 : Int) ≤ (i : Int) := by omega
    have hib : i ≤ 1600 := by omega
    have ct := CT.out i w (by omega)
    have b1 : s * 10 ^ i < pw 490 := by
      rw [Nat.mul_comm]
      exact pw_lt_mul (ten_pw2 (by omega)) hs2 (by omega)
    have hp : 0 < s * 10 ^ i := Nat.mul_pos hs (Nat.pow_pos (by omega))
    have MU := (show Hid _ from fun (w1 : World) (x : Value) (hx : NatIs w1 x (10 ^ i)) (hb : Below w.heap.size w w1) => mul_any u x s (10 ^ i) w1 (hu.below hb) hx (pw_lt hs2 (by omega)) (pw_lt (ten_pw (by omega)) (by omega)))
    have C1 : Hid (∀ w, Calls Tryz.prog 32 #[.int .u64 1] w fun e w' => ∃ v, e = .returned v ∧ NatIs w' v 1 ∧ Below w.heap.size w w') := fun w => nat_any 1 (by omega) w
    have RA := (show Hid _ from fun (w1 : World) (x y : Value) (hx : NatIs w1 x (s * 10 ^ i)) (hy : NatIs w1 y 1) => ratio_pos x y (s * 10 ^ i) 1 w1 hx hy b1 (Nat.lt_of_lt_of_le (by decide : 1 < pw 1) (pw_mono (by omega))) hp (by omega))
    have HI : Hid (j - 400 = i ∧ 400 ≤ j) := ⟨hi, h4⟩
    clear b1 hp CT hi h4 hk hs2
    go_enter Tryz.func88, Tryz.ntmps88
    go_wp2_with (first | (go_at_call 64; refine ct.mono ?_; rintro e w1 ⟨x1, rfl, hx1, hw1⟩; clear ct; have cm := MU.out w1 x1 hx1 hw1; clear MU) | (go_at_call 65; refine cm.mono ?_; rintro e w2 ⟨x2, rfl, hx2, hw2⟩; clear cm; have hw12 := hw1.trans (hw2.mono hw1.size); have c1 := C1.out w2; clear C1) | (go_at_call 32; refine c1.mono ?_; rintro e w3 ⟨x3, rfl, hx3, hw3⟩; clear c1; have hw13 := hw12.trans (hw3.mono hw12.size); have ra := RA.out w3 x2 x3 (hx2.below hw3) hx3; clear RA) | (go_at_call 102; refine ra.mono ?_; rintro e w4 ⟨R, hR, rfl, hw4⟩; clear ra))
    go_ret
    obtain ⟨e1, e2⟩ := HI.out
    subst e1
    exact ⟨R, dec_up e2 hR, rfl, hw13.trans (hw4.mono hw13.size)⟩
  · obtain ⟨i, hi⟩ : ∃ i, 400 - j = i := ⟨_, rfl⟩
    obtain rfl : k = -(i : Int) := by omega
    have hi0 : 0 < i := by omega
    have hib : i ≤ 400 := by omega
    have k0 : ¬ (0 : Int) ≤ -(i : Int) := by omega
    have ct := CT.out i w (by omega)
    have b1 : 10 ^ i < pw 490 := Nat.lt_of_le_of_lt (ten_pw2 (by omega)) (pw_strict (by omega))
    have hp : 0 < 10 ^ i := Nat.pow_pos (by omega)
    have RA := (show Hid _ from fun (w1 : World) (y : Value) (hb : Below w.heap.size w w1) (hy : NatIs w1 y (10 ^ i)) => ratio_pos u y s (10 ^ i) w1 (hu.below hb) hy (pw_lt hs2 (by omega)) b1 hs hp)
    have HI : Hid (400 - j = i ∧ j < 400) := ⟨hi, by omega⟩
    clear b1 hp CT hi h4 hk hs2
    go_enter Tryz.func88, Tryz.ntmps88
    go_wp2_with (first | (go_at_call 64; refine ct.mono ?_; rintro e w1 ⟨x1, rfl, hx1, hw1⟩; clear ct; have ra := RA.out w1 x1 hw1 hx1; clear RA) | (go_at_call 102; refine ra.mono ?_; rintro e w4 ⟨R, hR, rfl, hw4⟩; clear ra))
    go_ret
    obtain ⟨e1, e2⟩ := HI.out
    subst e1
    exact ⟨R, dec_down e2 hR, rfl, hw1.trans (hw4.mono hw1.size)⟩
end Go.Proofs.YtellndmbllmjgaaGreatDoor
/- How great math.archLog's answer can be. -/
set_option linter.unusedVariables false
set_option linter.unusedSimpArgs false
namespace Go.Proofs.YtellndmbllmjgaaGreatDoor
namespace Fl
open Ieee Go

theorem run_add {P : Program} {w : World} {x y z : Nat} (h : double.add x y = some z) : (Extern.MathAsm.add x y).run P w = .ok z w := by
  have h' : FloatKind.f64.format.add x y = some z := h
  unfold Extern.MathAsm.add Extern.MathAsm.arith Op.floatArith
  simp [h', Result.andThen]
theorem run_sub {P : Program} {w : World} {x y z : Nat} (h : double.sub x y = some z) : (Extern.MathAsm.sub x y).run P w = .ok z w := by
  have h' : FloatKind.f64.format.sub x y = some z := h
  unfold Extern.MathAsm.sub Extern.MathAsm.arith Op.floatArith
  simp [h', Result.andThen]
theorem run_mul {P : Program} {w : World} {x y z : Nat} (h : double.mul x y = some z) : (Extern.MathAsm.mul x y).run P w = .ok z w := by
  have h' : FloatKind.f64.format.mul x y = some z := h
  unfold Extern.MathAsm.mul Extern.MathAsm.arith Op.floatArith
  simp [h', Result.andThen]
theorem run_div {P : Program} {w : World} {x y z : Nat} (h : double.div x y = some z) : (Extern.MathAsm.div x y).run P w = .ok z w := by
  have h' : FloatKind.f64.format.div x y = some z := h
  unfold Extern.MathAsm.div Extern.MathAsm.arith Op.floatArith
  simp [h', Result.andThen]
theorem ofInt_sz (n : Int) (h : n.natAbs ≤ 1024) : Sz 1033 (Extern.MathAsm.ofInt32 n) := by
  obtain ⟨r, hr, hn⟩ := nearest_le (decide (n < 0)) n.natAbs 0 0 1033 (by omega) (by omega) (by
    rw [Nat.zero_add, Nat.add_zero, show 1033 = 10 + 1023 from rfl, e2_add 10 1023]
    have h10 : e2 10 = 1024 := by decide
    exact Nat.mul_le_mul_right (e2 1023) (show n.natAbs ≤ e2 10 by omega))
  exact ⟨decide (n < 0), r, Eq.trans rfl hn, hr⟩
theorem add_1 : double.add 0 4607182418800017408 = some 4607182418800017408 := by decide +kernel
theorem add_2 : double.add 4607182418800017408 4607182418800017408 = some 4611686018427387904 := by decide +kernel
theorem log_run (x : Nat) (h0 : 0 < x) (h1 : x < 9218868437227405312) : ∃ z, Sz 1035 z ∧ ∀ (P : Program) (w : World), (Extern.MathLog.archLog #[.float .f64 x]).run P w = .ok (.float .f64 z) w := by
  obtain ⟨f1, hf1⟩ : ∃ f1, f1 = x % 2 ^ 52 + Extern.MathAsm.half := ⟨_, rfl⟩
  obtain ⟨k0, hk0⟩ : ∃ k0, k0 = Extern.MathAsm.ofInt32 (Int.ofNat (x / 2 ^ 52) - 0x3FE) := ⟨_, rfl⟩
  obtain ⟨small, hs⟩ : ∃ small, small = !Extern.MathAsm.lt 0x3FE6A09E667F3BCD f1 := ⟨_, rfl⟩
  have hh : Extern.MathAsm.half = 1022 * 4503599627370496 := by decide
  have ho : Extern.MathAsm.one = 4607182418800017408 := rfl
  have htw : Extern.MathAsm.two = 4611686018427387904 := rfl
  have hf : f1 ≤ 1023 * 4503599627370496 := by rw [hf1, hh]; omega
  have hk : Sz 1033 k0 := by rw [hk0]; exact ofInt_sz _ (by rw [Int.ofNat_eq_natCast]; omega)
  -- whether it is doubled
  obtain ⟨o, ho1, ho2, ho3⟩ : ∃ o, o = (if small then Extern.MathAsm.one else 0) ∧ Sz 1033 o ∧ ∃ d, double.add o Extern.MathAsm.one = some d ∧ d ≤ 1024 * 4503599627370496 := by
    refine ⟨_, rfl, ?_, ?_⟩
    · split
      · exact Sz.lit _ _ (by rw [ho]; omega)
      · exact Sz.lit _ _ (by omega)
    · split
      · exact ⟨_, by rw [ho]; exact add_2, by omega⟩
      · exact ⟨_, by rw [ho]; exact add_1, by omega⟩
  obtain ⟨d, hd1, hd2⟩ := ho3
  obtain ⟨k, ek, bk⟩ := sub_sz (by omega) (by omega) hk ho2
  obtain ⟨g, eg, bg⟩ := mul_pos (T := 1024) (by omega) (by omega) (by omega) (by omega) (by omega) (by omega) (by omega) hf hd2
  obtain ⟨f, ef, bf⟩ := sub_one bg
  obtain ⟨t, et, bt1, bt2⟩ := add_two bf
  obtain ⟨s, es, bs⟩ := div_sz bf bt1 (by omega)
  obtain ⟨s2, es2, bs2⟩ := mul_sz (T := 1023) (by omega) (by omega) (by omega) (by omega) (by omega) (by omega) (by omega) bs bs
  obtain ⟨s4, es4, bs4⟩ := mul_sz (T := 1023) (by omega) (by omega) (by omega) (by omega) (by omega) (by omega) (by omega) bs2 bs2
  have lit : ∀ x, x ≤ 1023 * 4503599627370496 → Sz 1023 x := fun x h => Sz.lit _ _ h
  obtain ⟨a1, ea1, ba1⟩ := mul_sz (T := 1023) (by omega) (by omega) (by omega) (by omega) (by omega) (by omega) (by omega) (lit 0x3FC2F112DF3E5244 (by omega)) bs4
  obtain ⟨a2, ea2, ba2⟩ := add_sz (by omega) (by omega) ba1 (lit 0x3FC7466496CB03DE (by omega))
  obtain ⟨a3, ea3, ba3⟩ := mul_sz (T := 1024) (by omega) (by omega) (by omega) (by omega) (by omega) (by omega) (by omega) ba2 bs4
  obtain ⟨a4, ea4, ba4⟩ := add_sz (by omega) (by omega) ba3 ((lit 0x3FD2492494229359 (by omega)).mono (by omega))
  obtain ⟨a5, ea5, ba5⟩ := mul_sz (T := 1025) (by omega) (by omega) (by omega) (by omega) (by omega) (by omega) (by omega) ba4 bs4
  obtain ⟨a6, ea6, ba6⟩ := add_sz (by omega) (by omega) ba5 ((lit 0x3FE5555555555593 (by omega)).mono (by omega))
  obtain ⟨t1, et1, bt1'⟩ := mul_sz (T := 1026) (by omega) (by omega) (by omega) (by omega) (by omega) (by omega) (by omega) bs2 ba6
  obtain ⟨c1, ec1, bc1⟩ := mul_sz (T := 1023) (by omega) (by omega) (by omega) (by omega) (by omega) (by omega) (by omega) (lit 0x3FC39A09D078C69F (by omega)) bs4
  obtain ⟨c2, ec2, bc2⟩ := add_sz (by omega) (by omega) bc1 (lit 0x3FCC71C51D8E78AF (by omega))
  obtain ⟨c3, ec3, bc3⟩ := mul_sz (T := 1024) (by omega) (by omega) (by omega) (by omega) (by omega) (by omega) (by omega) bc2 bs4
  obtain ⟨c4, ec4, bc4⟩ := add_sz (by omega) (by omega) bc3 ((lit 0x3FD999999997FA04 (by omega)).mono (by omega))
  obtain ⟨t2, et2, bt2'⟩ := mul_sz (T := 1025) (by omega) (by omega) (by omega) (by omega) (by omega) (by omega) (by omega) bs4 bc4
  obtain ⟨r, er, br⟩ := add_sz (by omega) (by omega) bt1' (bt2'.mono (by omega))
  obtain ⟨h2, eh2, bh2⟩ := mul_sz (T := 1023) (by omega) (by omega) (by omega) (by omega) (by omega) (by omega) (by omega) (lit Extern.MathAsm.half (by rw [hh]; omega)) bf
  obtain ⟨hq, ehq, bhq⟩ := mul_sz (T := 1023) (by omega) (by omega) (by omega) (by omega) (by omega) (by omega) (by omega) bh2 bf
  obtain ⟨i1, ei1, bi1⟩ := add_sz (by omega) (by omega) br (bhq.mono (by omega))
  obtain ⟨i2, ei2, bi2⟩ := mul_sz (T := 1028) (by omega) (by omega) (by omega) (by omega) (by omega) (by omega) (by omega) bs bi1
  obtain ⟨i3, ei3, bi3⟩ := mul_sz (T := 1002) (by omega) (by omega) (by omega) (by omega) (by omega) (by omega) (by omega) (Sz.lit 991 0x3DEA39EF35793C76 (by omega)) bk
  obtain ⟨i4, ei4, bi4⟩ := add_sz (by omega) (by omega) bi2 (bi3.mono (by omega))
  obtain ⟨j1, ej1, bj1⟩ := sub_sz (by omega) (by omega) (bhq.mono (show 1023 ≤ 1029 by omega)) bi4
  obtain ⟨j2, ej2, bj2⟩ := sub_sz (by omega) (by omega) bj1 (bf.mono (by omega))
  obtain ⟨j3, ej3, bj3⟩ := mul_sz (T := 1034) (by omega) (by omega) (by omega) (by omega) (by omega) (by omega) (by omega) bk (lit 0x3FE62E42FEE00000 (by omega))
  obtain ⟨z, ez, bz⟩ := sub_sz (by omega) (by omega) bj3 (bj2.mono (by omega))
  refine ⟨z, bz, fun P w => ?_⟩
  have g1 : (x % 2 ^ 63 == 0) = false := by rw [beq_eq_false_iff_ne]; omega
  have g2 : ¬ x ≥ 2 ^ 63 := by omega
  have hpi : Extern.MathAsm.posInf = 9218868437227405312 := rfl
  have g3 : ¬ x ≥ Extern.MathAsm.posInf := by omega
  have key : ∀ (a1 : Nat → Sem Value) (a2 : Array Value → Sem Value), Extern.MathLog.archLog.match_1 (fun _ => Sem Value) #[.float .f64 x] a1 a2 = a1 x := fun _ _ => rfl
  delta Extern.MathLog.archLog
  rw [key]
  simp only [g1, if_neg g2, if_neg g3, Bool.false_eq_true, if_false]
  rw [← hf1, ← hk0, ← hs, ← ho1]
  simp only [Sem.run_bind, Sem.run_pure, run_sub ek, run_add hd1, run_mul eg, ho ▸ run_sub ef, htw ▸ run_add et, run_div es, run_mul es2, run_mul es4, run_mul ea1, run_add ea2, run_mul ea3, run_add ea4, run_mul ea5, run_add ea6, run_mul et1, run_mul ec1, run_add ec2, run_mul ec3, run_add ec4, run_mul et2, run_add er, run_mul eh2, run_mul ehq, run_add ei1, run_mul ei2, run_mul ei3, run_add ei4, run_sub ej1, run_sub ej2, run_mul ej3, run_sub ez, Result.andThen]
end Fl
end Go.Proofs.YtellndmbllmjgaaGreatDoor
/- Log10, Floor, and the whole number of it. -/
set_option linter.unusedVariables false
namespace Go.Proofs.YtellndmbllmjgaaGreatDoor
open Go.RowKit Fl

theorem cutdown_le (s : Bool) (N d c : Nat) (h : N ≤ c * 2 ^ d) : Ieee.Toward.down.cut s N d ≤ c := by
  unfold Ieee.Toward.cut
  simp only [Nat.shiftLeft_eq, Nat.one_mul]
  have hp : 0 < 2 ^ min d (N.log2 + 2) := Nat.two_pow_pos _
  have hmin : 2 ^ min d (N.log2 + 2) ≤ 2 ^ d := Nat.pow_le_pow_right (by omega) (Nat.min_le_left _ _)
  have hle : N ≤ c * 2 ^ min d (N.log2 + 2) ∨ c = 0 ∨ N < 2 ^ min d (N.log2 + 2) := by
    rcases Nat.le_total d (N.log2 + 2) with hd | hd
    · rw [Nat.min_eq_left hd]; exact Or.inl h
    · rw [Nat.min_eq_right hd]
      have a := Nat.lt_log2_self (n := N)
      exact Or.inr (Or.inr (Nat.lt_of_lt_of_le a (Nat.pow_le_pow_right (by omega) (by omega))))
  generalize 2 ^ min d (N.log2 + 2) = g at *
  have hN0 : c = 0 → N = 0 := by intro h0; rw [h0, Nat.zero_mul] at h; omega
  have h1 := Nat.div_add_mod N g
  have h2 := Nat.mod_lt N hp
  have hb := Bool.toNat_le (s && N % g != 0)
  by_cases h0 : N % g = 0
  · have : (s && N % g != 0) = false := by rw [h0]; simp
    rw [this]
    simp only [Bool.toNat_false, Nat.add_zero]
    rcases hle with h3 | h3 | h3
    · exact Nat.div_le_of_le_mul (by rw [Nat.mul_comm]; exact h3)
    · rw [hN0 h3]; simp
    · rw [Nat.div_eq_of_lt h3]; omega
  · have hc : 0 < c := by
      rcases Nat.eq_zero_or_pos c with h3 | h3
      · rw [hN0 h3] at h0; simp at h0
      · exact h3
    have hlt : N / g < c := by
      rcases hle with h3 | h3 | h3
      · rcases Nat.lt_or_ge (N / g) c with h4 | h4
        · exact h4
        · have := Nat.mul_le_mul_left g h4
          rw [Nat.mul_comm c] at h3
          omega
      · omega
      · rw [Nat.div_eq_of_lt h3]; exact hc
    omega
theorem i64_small (s : Bool) (c : Nat) (hc : c ≤ 2048) : floatToIntVal .f64 (Ieee.double.nearest s c 0) .i64 = some (key s c) := by
  rcases Nat.eq_zero_or_pos c with h0 | h0
  · subst h0
    rw [nearest_zero, word_wd]
    cases s <;> decide +kernel
  · obtain ⟨M, L, hN, hL⟩ := norm_small (n := c) (by omega) (by omega)
    rw [nearest_whole hN (by omega)]
    refine toIntVal_of _ _ _ ?_ ?_
    · rw [read_word s c M L hN (by omega)]
      have hM := norm_M hN hL
      simp only [Ieee.Datum.toInt, Ieee.Datum.integral, signed_key, cut_toward_zero, Nat.shiftLeft_eq]
      rw [show ((L : Int) - 52).toNat = 0 by omega, show (-((L : Int) - 52)).toNat = 52 - L by omega, hM, Nat.pow_zero, Nat.mul_one, Nat.mul_one, Nat.mul_div_cancel _ (Nat.two_pow_pos _)]
    · have h1 : IntKind.i64.min = -9223372036854775808 := by decide
      have h2 : IntKind.i64.max = 9223372036854775807 := by decide
      rw [h1, h2]
      cases s
      · rw [key_false]; omega
      · rw [key_true]; omega
/-- What Floor makes of a number that is not above 2048. -/
theorem floor_ok (y : Nat) (h : Sz 1034 y) : ∃ (s : Bool) (c : Nat), c ≤ 2048 ∧ (Ieee.double.read y).isNaN = false ∧ Ieee.double.write ((Ieee.double.read y).integral .down) = Ieee.double.nearest s c 0 := by
  obtain ⟨s, a, rfl, ha⟩ := h
  have hlt : a < 9218868437227405312 := by omega
  have hv := valR_le (by omega) ha
  rw [read_wd s a hlt]
  refine ⟨s, _, ?_, rfl, rfl⟩
  refine cutdown_le s _ _ _ ?_
  rw [Nat.shiftLeft_eq]
  unfold valR at hv
  have e1 : e2 (1034 + 51) = 2048 * e2 1074 := by
    have := e2_add 11 1074
    have h11 : e2 11 = 2048 := by decide
    rw [show 11 + 1074 = 1034 + 51 from rfl, h11] at this
    exact this
  rw [e1] at hv
  rcases Nat.le_total 1074 (expR a) with h | h
  · rw [show (-((expR a : Int) - 1074)).toNat = 0 by omega, show ((expR a : Int) - 1074).toNat = expR a - 1074 by omega, Nat.pow_zero, Nat.mul_one]
    have e3 : 2 ^ expR a = 2 ^ (expR a - 1074) * e2 1074 := by
      have := e2_add (expR a - 1074) 1074
      rw [show expR a - 1074 + 1074 = expR a by omega] at this
      exact this
    rw [e3, ← Nat.mul_assoc] at hv
    exact Nat.le_of_mul_le_mul_right hv (e2_pos 1074)
  · rw [show ((expR a : Int) - 1074).toNat = 0 by omega, show (-((expR a : Int) - 1074)).toNat = 1074 - expR a by omega, Nat.pow_zero, Nat.mul_one]
    have e3 : e2 1074 = 2 ^ (1074 - expR a) * 2 ^ expR a := by
      have := e2_add (1074 - expR a) (expR a)
      rw [show 1074 - expR a + expR a = 1074 by omega] at this
      exact this
    rw [e3, ← Nat.mul_assoc] at hv
    exact Nat.le_of_mul_le_mul_right hv (Nat.two_pow_pos _)
theorem Tryz.logged (x : Nat) (h0 : 0 < x) (h1 : x < 9218868437227405312) : ∃ z, Sz 1035 z ∧ ∀ w, (callFunc 271 #[.float .f64 x]).run Tryz.prog w = .ok (.value (.float .f64 z)) w := by
  obtain ⟨z, hz, hr⟩ := log_run x h0 h1
  refine ⟨z, hz, fun w => ?_⟩
  rw [run_callFunc_extern (P := Tryz.prog) (f := 271) (e := Extern.MathLog.archLog) Tryz.func271 (by kernel_rfl) (by kernel_rfl) (by kernel_rfl) (by kernel_rfl)]
  simp [hr, Result.andThen]
theorem Tryz.floored (b : Nat) (w : World) (h : (Ieee.double.read b).isNaN = false) : (callFunc 176 #[.float .f64 b]).run Tryz.prog w = .ok (.value (.float .f64 (Ieee.double.write ((Ieee.double.read b).integral .down)))) w := by
  rw [run_callFunc_extern (P := Tryz.prog) (f := 176) (e := Extern.MathFloor.toIntegral "math.archFloor" .down) Tryz.func176 (by kernel_rfl) (by kernel_rfl) (by kernel_rfl) (by kernel_rfl)]
  have hd : FloatKind.f64.decode b = Ieee.double.read b := rfl
  generalize Ieee.double.read b = d at h hd ⊢
  generalize hq : FloatKind.f64.decode b = q at hd
  subst hd
  have key : Extern.MathFloor.toIntegral "math.archFloor" .down #[.float .f64 b] = pure (.float .f64 (FloatKind.f64.encode (q.integral .down))) := by
    show Extern.MathFloor.toIntegral.match_1 (fun _ => Sem Value) (FloatKind.f64.decode b) _ _ = _
    rw [hq]
    cases q with
    | number s m i => rfl
    | infinity s => rfl
    | nan s t => exact absurd h (by simp [Ieee.Datum.isNaN])
  rw [key]
  rfl
theorem log10_any (r : Nat) (h0 : 0 < r) (h1 : r < 9218868437227405312) : ∃ z, Sz 1034 z ∧ ∀ w, Calls Tryz.prog 132 #[.float .f64 r] w fun e w' => e = .returned (.float .f64 z) ∧ w' = w := by
  obtain ⟨y, hy, hr⟩ := Tryz.logged r h0 h1
  obtain ⟨z, hz, hs⟩ := mul_sz (T := 1034) (by omega) (by omega) (by omega) (by omega) (by omega) (by omega) (by omega) hy (Sz.lit 1022 4601495173785380110 (by omega))
  refine ⟨z, hs, fun w => ?_⟩
  have hm : ∀ ty w, (binOp .mul ty (.float .f64 y) (.float .f64 4601495173785380110)).run Tryz.prog w = .ok (.float .f64 z) w := fun ty w => run_float_arith w .mul ty .f64 _ _ z hz
  have c1 : ∀ w, Calls Tryz.prog 234 #[.float .f64 r] w fun e w' => e = .returned (.float .f64 y) ∧ w' = w := by
    intro w
    clear hm hz hs hy h0 h1
    go_enter Tryz.func234, Tryz.ntmps234
    go_wp2
    go_ret
    exact ⟨rfl, rfl⟩
  have c2 : ∀ w, Calls Tryz.prog 179 #[.float .f64 r] w fun e w' => e = .returned (.float .f64 z) ∧ w' = w := by
    intro w
    clear hz hs hy h0 h1 hr
    go_enter Tryz.func179, Tryz.ntmps179
    go_wp2_with (first | (go_at_call 234; refine (c1 _).mono ?_; rintro e w' ⟨rfl, rfl⟩) | go_in)
    go_ret
    exact ⟨rfl, rfl⟩
  clear hz hs hy h0 h1 hr hm c1
  go_enter Tryz.func132, Tryz.ntmps132
  go_wp2_with (first | (go_at_call 179; refine (c2 _).mono ?_; rintro e w' ⟨rfl, rfl⟩) | go_in)
  go_ret
  exact ⟨rfl, rfl⟩
theorem Floor_any (y : Nat) (h : Sz 1034 y) : ∃ f n, floatToIntVal .f64 f .i64 = some n ∧ -2048 ≤ n ∧ n ≤ 2048 ∧ ∀ w, Calls Tryz.prog 131 #[.float .f64 y] w fun e w' => e = .returned (.float .f64 f) ∧ w' = w := by
  obtain ⟨s, c, hc, hn, he⟩ := floor_ok y h
  refine ⟨_, _, i64_small s c hc, ?_, ?_, fun w => ?_⟩
  · cases s
    · rw [key_false]; omega
    · rw [key_true]; omega
  · cases s
    · rw [key_false]; omega
    · rw [key_true]; omega
  · have x1 := fun w => Tryz.floored y w hn
    rw [he] at x1
    generalize Ieee.double.nearest s c 0 = f at *
    clear hn he h hc
    go_enter Tryz.func131, Tryz.ntmps131
    go_wp2
    go_ret
    exact ⟨rfl, rfl⟩
end Go.Proofs.YtellndmbllmjgaaGreatDoor
