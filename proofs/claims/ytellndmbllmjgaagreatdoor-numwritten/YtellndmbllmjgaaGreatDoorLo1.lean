/- Log10, Floor, and the whole number of it. -/
import Derived.Test.YtellndmbllmjgaaGreatDoorLg2
import Derived.Test.YtellndmbllmjgaaGreatDoorFlA
import Derived.Test.YtellndmbllmjgaaGreatDoorSl
import Derived.Laws.FloatArith
import Derived.WalkKit
set_option linter.unusedVariables false
namespace Go.Proofs.YtellndmbllmjgaaGreatDoor
open Go.RowKit Fl

theorem cutdown_le (s : Bool) (N d c : Nat) (h : N ≤ c * 2 ^ d) : Ieee.Toward.down.cut s N d ≤ c := by
  unfold Ieee.Toward.cut
  simp only [Nat.shiftLeft_eq, Nat.one_mul]
  have hp : 0 < 2 ^ min d (N.log2 + 2) := Nat.two_pow_pos _
  have hmin : 2 ^ min d (N.log2 + 2) ≤ 2 ^ d := Nat.pow_le_pow_right (by omega) (Nat.min_le_left _ _)
  have hle : N ≤ c * 2 ^ min d (N.log2 + 2) ∨ c = 0 ∨ N < 2 ^ min d (N.log2 + 2) := by
    rcases Nat.le_total d (N.log2 + 2) with hd | hd
    · rw [Nat.min_eq_left hd]; exact Or.inl h
    · rw [Nat.min_eq_right hd]
      have a := Nat.lt_log2_self (n := N)
      exact Or.inr (Or.inr (Nat.lt_of_lt_of_le a (Nat.pow_le_pow_right (by omega) (by omega))))
  generalize 2 ^ min d (N.log2 + 2) = g at *
  have hN0 : c = 0 → N = 0 := by intro h0; rw [h0, Nat.zero_mul] at h; omega
  have h1 := Nat.div_add_mod N g
  have h2 := Nat.mod_lt N hp
  have hb := Bool.toNat_le (s && N % g != 0)
  by_cases h0 : N % g = 0
  · have : (s && N % g != 0) = false := by rw [h0]; simp
    rw [this]
    simp only [Bool.toNat_false, Nat.add_zero]
    rcases hle with h3 | h3 | h3
    · exact Nat.div_le_of_le_mul (by rw [Nat.mul_comm]; exact h3)
    · rw [hN0 h3]; simp
    · rw [Nat.div_eq_of_lt h3]; omega
  · have hc : 0 < c := by
      rcases Nat.eq_zero_or_pos c with h3 | h3
      · rw [hN0 h3] at h0; simp at h0
      · exact h3
    have hlt : N / g < c := by
      rcases hle with h3 | h3 | h3
      · rcases Nat.lt_or_ge (N / g) c with h4 | h4
        · exact h4
        · have := Nat.mul_le_mul_left g h4
          rw [Nat.mul_comm c] at h3
          omega
      · omega
      · rw [Nat.div_eq_of_lt h3]; exact hc
    omega
theorem i64_small (s : Bool) (c : Nat) (hc : c ≤ 2048) : floatToIntVal .f64 (Ieee.double.nearest s c 0) .i64 = some (key s c) := by
  rcases Nat.eq_zero_or_pos c with h0 | h0
  · subst h0
    rw [nearest_zero, word_wd]
    cases s <;> decide +kernel
  · obtain ⟨M, L, hN, hL⟩ := norm_small (n := c) (by omega) (by omega)
    rw [nearest_whole hN (by omega)]
    refine toIntVal_of _ _ _ ?_ ?_
    · rw [read_word s c M L hN (by omega)]
      have hM := norm_M hN hL
      simp only [Ieee.Datum.toInt, Ieee.Datum.integral, signed_key, cut_toward_zero, Nat.shiftLeft_eq]
      rw [show ((L : Int) - 52).toNat = 0 by omega, show (-((L : Int) - 52)).toNat = 52 - L by omega, hM, Nat.pow_zero, Nat.mul_one, Nat.mul_one, Nat.mul_div_cancel _ (Nat.two_pow_pos _)]
    · have h1 : IntKind.i64.min = -9223372036854775808 := by decide
      have h2 : IntKind.i64.max = 9223372036854775807 := by decide
      rw [h1, h2]
      cases s
      · rw [key_false]; omega
      · rw [key_true]; omega
/-- What Floor makes of a number that is not above 2048. -/
theorem floor_ok (y : Nat) (h : Sz 1034 y) : ∃ (s : Bool) (c : Nat), c ≤ 2048 ∧ (Ieee.double.read y).isNaN = false ∧ Ieee.double.write ((Ieee.double.read y).integral .down) = Ieee.double.nearest s c 0 := by
  obtain ⟨s, a, rfl, ha⟩ := h
  have hlt : a < 9218868437227405312 := by omega
  have hv := valR_le (by omega) ha
  rw [read_wd s a hlt]
  refine ⟨s, _, ?_, rfl, rfl⟩
  refine cutdown_le s _ _ _ ?_
  rw [Nat.shiftLeft_eq]
  unfold valR at hv
  have e1 : e2 (1034 + 51) = 2048 * e2 1074 := by
    have := e2_add 11 1074
    have h11 : e2 11 = 2048 := by decide
    rw [show 11 + 1074 = 1034 + 51 from rfl, h11] at this
    exact this
  rw [e1] at hv
  rcases Nat.le_total 1074 (expR a) with h | h
  · rw [show (-((expR a : Int) - 1074)).toNat = 0 by omega, show ((expR a : Int) - 1074).toNat = expR a - 1074 by omega, Nat.pow_zero, Nat.mul_one]
    have e3 : 2 ^ expR a = 2 ^ (expR a - 1074) * e2 1074 := by
      have := e2_add (expR a - 1074) 1074
      rw [show expR a - 1074 + 1074 = expR a by omega] at this
      exact this
    rw [e3, ← Nat.mul_assoc] at hv
    exact Nat.le_of_mul_le_mul_right hv (e2_pos 1074)
  · rw [show ((expR a : Int) - 1074).toNat = 0 by omega, show (-((expR a : Int) - 1074)).toNat = 1074 - expR a by omega, Nat.pow_zero, Nat.mul_one]
    have e3 : e2 1074 = 2 ^ (1074 - expR a) * 2 ^ expR a := by
      have := e2_add (1074 - expR a) (expR a)
      rw [show 1074 - expR a + expR a = 1074 by omega] at this
      exact this
    rw [e3, ← Nat.mul_assoc] at hv
    exact Nat.le_of_mul_le_mul_right hv (Nat.two_pow_pos _)
theorem Tryz.logged (x : Nat) (h0 : 0 < x) (h1 : x < 9218868437227405312) : ∃ z, Sz 1035 z ∧ ∀ w, (callFunc 271 #[.float .f64 x]).run Tryz.prog w = .ok (.value (.float .f64 z)) w := by
  obtain ⟨z, hz, hr⟩ := log_run x h0 h1
  refine ⟨z, hz, fun w => ?_⟩
  rw [run_callFunc_extern (P := Tryz.prog) (f := 271) (e := Extern.MathLog.archLog) Tryz.func271 (by kernel_rfl) (by kernel_rfl) (by kernel_rfl) (by kernel_rfl)]
  simp [hr, Result.andThen]
theorem Tryz.floored (b : Nat) (w : World) (h : (Ieee.double.read b).isNaN = false) : (callFunc 176 #[.float .f64 b]).run Tryz.prog w = .ok (.value (.float .f64 (Ieee.double.write ((Ieee.double.read b).integral .down)))) w := by
  rw [run_callFunc_extern (P := Tryz.prog) (f := 176) (e := Extern.MathFloor.toIntegral "math.archFloor" .down) Tryz.func176 (by kernel_rfl) (by kernel_rfl) (by kernel_rfl) (by kernel_rfl)]
  have hd : FloatKind.f64.decode b = Ieee.double.read b := rfl
  generalize Ieee.double.read b = d at h hd ⊢
  generalize hq : FloatKind.f64.decode b = q at hd
  subst hd
  have key : Extern.MathFloor.toIntegral "math.archFloor" .down #[.float .f64 b] = pure (.float .f64 (FloatKind.f64.encode (q.integral .down))) := by
    show Extern.MathFloor.toIntegral.match_1 (fun _ => Sem Value) (FloatKind.f64.decode b) _ _ = _
    rw [hq]
    cases q with
    | number s m i => rfl
    | infinity s => rfl
    | nan s t => exact absurd h (by simp [Ieee.Datum.isNaN])
  rw [key]
  rfl
theorem log10_any (r : Nat) (h0 : 0 < r) (h1 : r < 9218868437227405312) : ∃ z, Sz 1034 z ∧ ∀ w, Calls Tryz.prog 132 #[.float .f64 r] w fun e w' => e = .returned (.float .f64 z) ∧ w' = w := by
  obtain ⟨y, hy, hr⟩ := Tryz.logged r h0 h1
  obtain ⟨z, hz, hs⟩ := mul_sz (T := 1034) (by omega) (by omega) (by omega) (by omega) (by omega) (by omega) (by omega) hy (Sz.lit 1022 4601495173785380110 (by omega))
  refine ⟨z, hs, fun w => ?_⟩
  have hm : ∀ ty w, (binOp .mul ty (.float .f64 y) (.float .f64 4601495173785380110)).run Tryz.prog w = .ok (.float .f64 z) w := fun ty w => run_float_arith w .mul ty .f64 _ _ z hz
  have c1 : ∀ w, Calls Tryz.prog 234 #[.float .f64 r] w fun e w' => e = .returned (.float .f64 y) ∧ w' = w := by
    intro w
    clear hm hz hs hy h0 h1
    go_enter Tryz.func234, Tryz.ntmps234
    go_wp2
    go_ret
    exact ⟨rfl, rfl⟩
  have c2 : ∀ w, Calls Tryz.prog 179 #[.float .f64 r] w fun e w' => e = .returned (.float .f64 z) ∧ w' = w := by
    intro w
    clear hz hs hy h0 h1 hr
    go_enter Tryz.func179, Tryz.ntmps179
    go_wp2_with (first | (go_at_call 234; refine (c1 _).mono ?_; rintro e w' ⟨rfl, rfl⟩) | go_in)
    go_ret
    exact ⟨rfl, rfl⟩
  clear hz hs hy h0 h1 hr hm c1
  go_enter Tryz.func132, Tryz.ntmps132
  go_wp2_with (first | (go_at_call 179; refine (c2 _).mono ?_; rintro e w' ⟨rfl, rfl⟩) | go_in)
  go_ret
  exact ⟨rfl, rfl⟩
theorem Floor_any (y : Nat) (h : Sz 1034 y) : ∃ f n, floatToIntVal .f64 f .i64 = some n ∧ -2048 ≤ n ∧ n ≤ 2048 ∧ ∀ w, Calls Tryz.prog 131 #[.float .f64 y] w fun e w' => e = .returned (.float .f64 f) ∧ w' = w := by
  obtain ⟨s, c, hc, hn, he⟩ := floor_ok y h
  refine ⟨_, _, i64_small s c hc, ?_, ?_, fun w => ?_⟩
  · cases s
    · rw [key_false]; omega
    · rw [key_true]; omega
  · cases s
    · rw [key_false]; omega
    · rw [key_true]; omega
  · have x1 := fun w => Tryz.floored y w hn
    rw [he] at x1
    generalize Ieee.double.nearest s c 0 = f at *
    clear hn he h hc
    go_enter Tryz.func131, Tryz.ntmps131
    go_wp2
    go_ret
    exact ⟨rfl, rfl⟩
end Go.Proofs.YtellndmbllmjgaaGreatDoor
