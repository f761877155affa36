/- decimal. -/
import Derived.Test.YtellndmbllmjgaaGreatDoorRa2
import Derived.Test.YtellndmbllmjgaaGreatDoorSc1
set_option linter.unusedVariables false
namespace Go.Proofs.YtellndmbllmjgaaGreatDoor
open Go.RowKit Go.Shelf Go.Sort Fs Fl Fl2

/-- R is the word that the decimal number s times 10 to the j (less 400) is read as. -/
def DecIs (s j R : Nat) : Prop := ∀ r, R = r ↔ Inn (LL (magR r) (expR r)) (UU (magR r) (expR r)) (magR r % 2) (s * BB j)
theorem dec_up {s j R : Nat} (hj : 400 ≤ j) (h : Near (s * 10 ^ (j - 400)) 1 R) : DecIs s j R := by
  intro r
  rw [← near_up r s j hj]
  constructor
  · rintro rfl; exact h
  · intro h2; exact near_one (by omega) h h2
theorem dec_down {s j R : Nat} (hj : j < 400) (h : Near s (10 ^ (400 - j)) R) : DecIs s j R := by
  intro r
  rw [← near_down r s j hj]
  constructor
  · rintro rfl; exact h
  · intro h2; exact near_one (Nat.pow_pos (by omega)) h h2
theorem ten_pw2 {k : Nat} (h : k ≤ 2100) : 10 ^ k ≤ pw 450 := by
  have h1 : 10 ^ k ≤ 10 ^ (3 * (k / 3 + 1)) := Nat.pow_le_pow_right (by omega) (by omega)
  have h2 : (10 : Nat) ^ (3 * (k / 3 + 1)) = 1000 ^ (k / 3 + 1) := by rw [Nat.pow_mul]
  have h3 : (1000 : Nat) ^ (k / 3 + 1) ≤ 1024 ^ (k / 3 + 1) := Nat.pow_le_pow_left (by omega) _
  have h4 : (1024 : Nat) ^ (k / 3 + 1) = 2 ^ (10 * (k / 3 + 1)) := by rw [Nat.pow_mul]
  have h5 : 2 ^ (10 * (k / 3 + 1)) ≤ pw 450 := two_pw3 (by omega)
  rw [h2] at h1
  rw [h4] at h3
  exact Nat.le_trans h1 (Nat.le_trans h3 h5)
set_option maxRecDepth 100000 in
set_option maxHeartbeats 1000000 in
/-- **decimal.** -/
theorem dec_any (u : Value) (s j : Nat) (w : World) (hu : NatIs w u s) (hs : 0 < s) (hs2 : s < pw 5) (hj : j ≤ 2000) (k : Int) (hk : k = (j : Int) - 400) :
    Calls Tryz.prog 88 #[u, .int .i64 k] w fun e w' => ∃ R, DecIs s j R ∧ e = .returned (.float .f64 (min R 9218868437227405312)) ∧ Below w.heap.size w w' := by
  have CT : Hid (∀ (i : Nat) w, i ≤ 2100 → Calls Tryz.prog 64 #[.int .u64 10, .int .i64 (i : Int)] w fun e w' => ∃ v, e = .returned v ∧ NatIs w' v (10 ^ i) ∧ Below w.heap.size w w') := by
    intro i w hi
    have := power_any 10 (i : Int) (by omega) (by omega) (by omega) (by omega) (by rw [Int.toNat_natCast]; exact ten_pw hi) w
    rw [Int.toNat_natCast] at this
    exact this
  by_cases h4 : 400 ≤ j
  · obtain ⟨i, hi⟩ : ∃ i, j - 400 = i := ⟨_, rfl⟩
    obtain rfl : k = (i : Int) := by omega
    have k0 : (0 : Int) ≤ (i : Int) := by omega
    have hib : i ≤ 1600 := by omega
    have ct := CT.out i w (by omega)
    have b1 : s * 10 ^ i < pw 490 := by
      rw [Nat.mul_comm]
      exact pw_lt_mul (ten_pw2 (by omega)) hs2 (by omega)
    have hp : 0 < s * 10 ^ i := Nat.mul_pos hs (Nat.pow_pos (by omega))
    have MU := (show Hid _ from fun (w1 : World) (x : Value) (hx : NatIs w1 x (10 ^ i)) (hb : Below w.heap.size w w1) => mul_any u x s (10 ^ i) w1 (hu.below hb) hx (pw_lt hs2 (by omega)) (pw_lt (ten_pw (by omega)) (by omega)))
    have C1 : Hid (∀ w, Calls Tryz.prog 32 #[.int .u64 1] w fun e w' => ∃ v, e = .returned v ∧ NatIs w' v 1 ∧ Below w.heap.size w w') := fun w => nat_any 1 (by omega) w
    have RA := (show Hid _ from fun (w1 : World) (x y : Value) (hx : NatIs w1 x (s * 10 ^ i)) (hy : NatIs w1 y 1) => ratio_pos x y (s * 10 ^ i) 1 w1 hx hy b1 (Nat.lt_of_lt_of_le (by decide : 1 < pw 1) (pw_mono (by omega))) hp (by omega))
    have HI : Hid (j - 400 = i ∧ 400 ≤ j) := ⟨hi, h4⟩
    clear b1 hp CT hi h4 hk hs2
    go_enter Tryz.func88, Tryz.ntmps88
    go_wp2_with (first | (go_at_call 64; refine ct.mono ?_; rintro e w1 ⟨x1, rfl, hx1, hw1⟩; clear ct; have cm := MU.out w1 x1 hx1 hw1; clear MU) | (go_at_call 65; refine cm.mono ?_; rintro e w2 ⟨x2, rfl, hx2, hw2⟩; clear cm; have hw12 := hw1.trans (hw2.mono hw1.size); have c1 := C1.out w2; clear C1) | (go_at_call 32; refine c1.mono ?_; rintro e w3 ⟨x3, rfl, hx3, hw3⟩; clear c1; have hw13 := hw12.trans (hw3.mono hw12.size); have ra := RA.out w3 x2 x3 (hx2.below hw3) hx3; clear RA) | (go_at_call 102; refine ra.mono ?_; rintro e w4 ⟨R, hR, rfl, hw4⟩; clear ra))
    go_ret
    obtain ⟨e1, e2⟩ := HI.out
    subst e1
    exact ⟨R, dec_up e2 hR, rfl, hw13.trans (hw4.mono hw13.size)⟩
  · obtain ⟨i, hi⟩ : ∃ i, 400 - j = i := ⟨_, rfl⟩
    obtain rfl : k = -(i : Int) := by omega
    have hi0 : 0 < i := by omega
    have hib : i ≤ 400 := by omega
    have k0 : ¬ (0 : Int) ≤ -(i : Int) := by omega
    have ct := CT.out i w (by omega)
    have b1 : 10 ^ i < pw 490 := Nat.lt_of_le_of_lt (ten_pw2 (by omega)) (pw_strict (by omega))
    have hp : 0 < 10 ^ i := Nat.pow_pos (by omega)
    have RA := (show Hid _ from fun (w1 : World) (y : Value) (hb : Below w.heap.size w w1) (hy : NatIs w1 y (10 ^ i)) => ratio_pos u y s (10 ^ i) w1 (hu.below hb) hy (pw_lt hs2 (by omega)) b1 hs hp)
    have HI : Hid (400 - j = i ∧ j < 400) := ⟨hi, by omega⟩
    clear b1 hp CT hi h4 hk hs2
    go_enter Tryz.func88, Tryz.ntmps88
    go_wp2_with (first | (go_at_call 64; refine ct.mono ?_; rintro e w1 ⟨x1, rfl, hx1, hw1⟩; clear ct; have ra := RA.out w1 x1 hw1 hx1; clear RA) | (go_at_call 102; refine ra.mono ?_; rintro e w4 ⟨R, hR, rfl, hw4⟩; clear ra))
    go_ret
    obtain ⟨e1, e2⟩ := HI.out
    subst e1
    exact ⟨R, dec_down e2 hR, rfl, hw1.trans (hw4.mono hw1.size)⟩
end Go.Proofs.YtellndmbllmjgaaGreatDoor
