/- Plain mathematics: the word nearest to a fraction, and which fractions lie nearest to a word. -/
import Derived.Test.YtellndmbllmjgaaGreatDoorCFl2x
import Derived.Test.YtellndmbllmjgaaGreatDoorCFe2x
import Derived.Test.YtellndmbllmjgaaGreatDoorCBn9x
import Derived.Test.YtellndmbllmjgaaGreatDoorCTx3x
import Derived.Laws.BitsAllLaws
import Derived.Laws.Bits64b
set_option linter.unusedVariables false
namespace Go.Proofs.YtellndmbllmjgaaGreatDoor
namespace Fs
open Fl

/-- The bounds between which a word is the nearest: in quarters of the least number. -/
def loR (r : Nat) : Nat := 4 * magR r * 2 ^ expR r - (if Skew (magR r) (expR r) then 2 ^ expR r else 2 * 2 ^ expR r)
def upR (r : Nat) : Nat := 4 * magR r * 2 ^ expR r + 2 * 2 ^ expR r
theorem magR_par (r : Nat) : magR r % 2 = r % 2 := by unfold magR; split <;> omega
theorem magR_at {e n : Nat} (h : n < 9007199254740992) (h2 : 4503599627370496 ≤ n ∨ e = 0) : magR (e * 4503599627370496 + n) = n := by
  unfold magR
  rcases h2 with h2 | h2
  · rw [if_neg (by omega)]; omega
  · subst h2; split <;> omega
theorem expR_at {e n : Nat} (h : n < 9007199254740992) (h2 : 4503599627370496 ≤ n ∨ e = 0) : expR (e * 4503599627370496 + n) = e := by
  unfold expR
  rcases h2 with h2 | h2
  · omega
  · subst h2; omega
theorem r_split (r : Nat) : ∃ e n, r = e * 4503599627370496 + n ∧ n < 9007199254740992 ∧ (4503599627370496 ≤ n ∨ e = 0) := by
  by_cases h : r < 4503599627370496
  · exact ⟨0, r, by omega, by omega, Or.inr rfl⟩
  · exact ⟨r / 4503599627370496 - 1, r % 4503599627370496 + 4503599627370496, by omega, by omega, Or.inl (by omega)⟩
theorem up_succ (r : Nat) : upR r = loR (r + 1) := by
  obtain ⟨e, n, rfl, h1, h2⟩ := r_split r
  unfold upR loR
  rw [magR_at h1 h2, expR_at h1 h2]
  by_cases h : n + 1 < 9007199254740992
  · have e1 : e * 4503599627370496 + n + 1 = e * 4503599627370496 + (n + 1) := by omega
    have h3 : 4503599627370496 ≤ n + 1 ∨ e = 0 := by omega
    rw [e1, magR_at h h3, expR_at h h3]
    have : ¬ Skew (n + 1) e := by unfold Skew; omega
    rw [if_neg this]
    generalize 2 ^ e = P
    have : 4 * (n + 1) * P = 4 * n * P + 4 * P := by grind
    omega
  · have hn : n = 9007199254740991 := by omega
    subst hn
    have e1 : e * 4503599627370496 + 9007199254740991 + 1 = (e + 1) * 4503599627370496 + 4503599627370496 := by omega
    rw [e1, magR_at (e := e + 1) (n := 4503599627370496) (by omega) (Or.inl (by omega)), expR_at (e := e + 1) (n := 4503599627370496) (by omega) (Or.inl (by omega))]
    have : Skew 4503599627370496 (e + 1) := ⟨rfl, by omega⟩
    rw [if_pos this, Nat.pow_succ]
    generalize 2 ^ e = P
    omega
theorem lo_lt_up (r : Nat) : loR r < upR r := by
  unfold loR upR
  have := Nat.two_pow_pos (expR r)
  split <;> omega
theorem lo_mono {a b : Nat} (h : a ≤ b) : loR a ≤ loR b := by
  obtain ⟨k, rfl⟩ := Nat.le.dest h
  clear h
  induction k with
  | zero => exact Nat.le_refl _
  | succ k ih =>
    have h1 := lo_lt_up (a + k)
    rw [up_succ] at h1
    exact Nat.le_trans ih (Nat.le_of_lt h1)
/-- The fraction p by q lies nearest to the word R. -/
def Near (p q R : Nat) : Prop := Inn (loR R * q) (upR R * q) (R % 2) (p * Z76)
theorem near_lt {p q r R : Nat} (hq : 0 < q) (h : r < R) (h1 : Near p q r) (h2 : Near p q R) : False := by
  unfold Near at h1 h2
  have a1 : p * Z76 ≤ upR r * q ∧ (r % 2 = 1 → p * Z76 < upR r * q) := by
    unfold Inn at h1
    split at h1
    · exact ⟨h1.2, by omega⟩
    · exact ⟨Nat.le_of_lt h1.2, fun _ => h1.2⟩
  have a2 : loR R * q ≤ p * Z76 ∧ (R % 2 = 1 → loR R * q < p * Z76) := by
    unfold Inn at h2
    split at h2
    · exact ⟨h2.1, by omega⟩
    · exact ⟨Nat.le_of_lt h2.1, fun _ => h2.1⟩
  generalize p * Z76 = A at *
  rw [up_succ] at a1
  rcases Nat.eq_or_lt_of_le h with e | e
  · have : R = r + 1 := e.symm
    subst this
    have := a1.1
    have := a2.1
    have e1 : A = loR (r + 1) * q := by omega
    rcases Nat.mod_two_eq_zero_or_one r with hr | hr
    · have := a2.2 (by omega); omega
    · have := a1.2 hr; omega
  · have h3 := lo_lt_up (r + 1)
    rw [up_succ] at h3
    have h4 := lo_mono (show r + 1 + 1 ≤ R by omega)
    have h5 : loR (r + 1) * q < loR R * q := (Nat.mul_lt_mul_right hq).2 (by omega)
    omega
theorem near_one {p q r R : Nat} (hq : 0 < q) (h1 : Near p q r) (h2 : Near p q R) : r = R := by
  rcases Nat.lt_trichotomy r R with h | h | h
  · exact (near_lt hq h h1 h2).elim
  · exact h
  · exact (near_lt hq h h2 h1).elim
/-- What is rounded: N by the whole number below, what is left over, and half of what it is held against. -/
theorem near_of {p q a b e N left n : Nat} (hq : 0 < q) (hb : 0 < b) (hdiv : a = N * b + left) (hl : left < b) (hrel : 4 * a * (q * 2 ^ e) = p * Z76 * b) (hN : N < 9007199254740992) (hN2 : 4503599627370496 ≤ N ∨ e = 0)
    (hn : (n = N + 1 ∧ (b < 2 * left ∨ (2 * left = b ∧ N % 2 = 1))) ∨ (n = N ∧ ¬ (b < 2 * left ∨ (2 * left = b ∧ N % 2 = 1)))) : Near p q (e * 4503599627370496 + n) := by
  unfold Near
  generalize hA : p * Z76 = A at *
  obtain ⟨Q, hQ⟩ : ∃ Q, Q = q * 2 ^ e := ⟨_, rfl⟩
  rw [← hQ] at hrel
  have hQ0 : 0 < Q := by rw [hQ]; exact Nat.mul_pos hq (Nat.two_pow_pos e)
  have cancel : ∀ x, x * b ≤ 4 * a → x * Q ≤ A := by
    intro x h
    have h1 : x * b * Q ≤ 4 * a * Q := Nat.mul_le_mul_right _ h
    rw [hrel, Nat.mul_right_comm] at h1
    exact Nat.le_of_mul_le_mul_right h1 hb
  have cancel2 : ∀ x, 4 * a ≤ x * b → A ≤ x * Q := by
    intro x h
    have h1 : 4 * a * Q ≤ x * b * Q := Nat.mul_le_mul_right _ h
    rw [hrel, Nat.mul_right_comm] at h1
    exact Nat.le_of_mul_le_mul_right h1 hb
  have cancel3 : ∀ x, x * b < 4 * a → x * Q < A := by
    intro x h
    have h1 : x * b * Q < 4 * a * Q := (Nat.mul_lt_mul_right hQ0).2 h
    rw [hrel, Nat.mul_right_comm] at h1
    exact Nat.lt_of_mul_lt_mul_right h1
  have cancel4 : ∀ x, 4 * a < x * b → A < x * Q := by
    intro x h
    have h1 : 4 * a * Q < x * b * Q := (Nat.mul_lt_mul_right hQ0).2 h
    rw [hrel, Nat.mul_right_comm] at h1
    exact Nat.lt_of_mul_lt_mul_right h1
  have x0 : ∀ c, (4 * N + c) * b = 4 * (N * b) + c * b := by intro c; grind
  have x1 := x0 0
  have x2 := x0 2
  have x4 := x0 4
  have x6 := x0 6
  -- the four bounds
  have L : (4 * n - 2) * Q ≤ A := by
    rcases hn with ⟨rfl, h⟩ | ⟨rfl, h⟩
    · refine cancel _ ?_
      rw [show 4 * (N + 1) - 2 = 4 * N + 2 by omega, x2]; omega
    · refine Nat.le_trans (Nat.mul_le_mul_right _ (show 4 * n - 2 ≤ 4 * n + 0 by omega)) (cancel _ ?_)
      rw [x1]; omega
  have U : A ≤ (4 * n + 2) * Q := by
    refine cancel2 _ ?_
    rcases hn with ⟨rfl, h⟩ | ⟨rfl, h⟩
    · rw [show 4 * (N + 1) + 2 = 4 * N + 6 by omega, x6]; omega
    · rw [x2]; omega
  have S : n % 2 = 1 → (4 * n - 2) * Q < A ∧ A < (4 * n + 2) * Q := by
    intro ho
    rcases hn with ⟨rfl, h⟩ | ⟨rfl, h⟩
    · refine ⟨cancel3 _ ?_, cancel4 _ ?_⟩
      · rw [show 4 * (N + 1) - 2 = 4 * N + 2 by omega, x2]; omega
      · rw [show 4 * (N + 1) + 2 = 4 * N + 6 by omega, x6]; omega
    · refine ⟨?_, cancel4 _ ?_⟩
      · refine Nat.lt_of_lt_of_le ((Nat.mul_lt_mul_right hQ0).2 (show 4 * n - 2 < 4 * n + 0 by omega)) (cancel _ ?_)
        rw [x1]; omega
      · rw [x2]; omega
  have LN : 4 * N * Q ≤ A := cancel (4 * N) (by rw [show 4 * N = 4 * N + 0 by omega, x1]; omega)
  have UN : A < (4 * N + 4) * Q := cancel4 _ (by rw [x4]; omega)
  have hnN : n ≤ 9007199254740992 := by omega
  have hn2 : 4503599627370496 ≤ n ∨ e = 0 := by omega
  rcases Nat.lt_or_eq_of_le hnN with h | h
  · unfold loR upR
    rw [magR_at h hn2, expR_at h hn2]
    have hpar : (e * 4503599627370496 + n) % 2 = n % 2 := by omega
    rw [hpar]
    by_cases hs : Skew n e
    · rw [if_pos hs]
      have e1 : (4 * n * 2 ^ e - 2 ^ e) * q ≤ 4 * N * Q := by
        have : 4503599627370496 ≤ N := by have := hs.2; omega
        have h1 : (4 * n * 2 ^ e - 2 ^ e) * q ≤ (4 * n * 2 ^ e) * q := Nat.mul_le_mul_right _ (Nat.sub_le _ _)
        have h2 : (4 * n * 2 ^ e) * q = 4 * n * Q := by rw [hQ]; grind
        have h3 : 4 * n * Q ≤ 4 * N * Q := Nat.mul_le_mul_right _ (by have := hs.1; omega)
        omega
      have e2 : (4 * n * 2 ^ e + 2 * 2 ^ e) * q = (4 * n + 2) * Q := by rw [hQ]; grind
      have h0 : n % 2 = 0 := by have := hs.1; omega
      rw [e2]
      unfold Inn
      rw [if_pos h0]
      exact ⟨by omega, U⟩
    · rw [if_neg hs]
      have e1 : (4 * n * 2 ^ e - 2 * 2 ^ e) * q = (4 * n - 2) * Q := by
        rw [← Nat.sub_mul, hQ]; grind
      have e2 : (4 * n * 2 ^ e + 2 * 2 ^ e) * q = (4 * n + 2) * Q := by rw [hQ]; grind
      rw [e1, e2]
      unfold Inn
      split
      · exact ⟨L, U⟩
      · exact S (by omega)
  · subst h
    have e1 : e * 4503599627370496 + 9007199254740992 = (e + 1) * 4503599627370496 + 4503599627370496 := by omega
    unfold loR upR
    rw [e1, magR_at (e := e + 1) (n := 4503599627370496) (by omega) (Or.inl (by omega)), expR_at (e := e + 1) (n := 4503599627370496) (by omega) (Or.inl (by omega))]
    have hs : Skew 4503599627370496 (e + 1) := ⟨rfl, by omega⟩
    rw [if_pos hs]
    have h0 : ((e + 1) * 4503599627370496 + 4503599627370496) % 2 = 0 := by omega
    rw [h0]
    unfold Inn
    rw [if_pos rfl]
    have p1 : 2 ^ (e + 1) = 2 ^ e * 2 := Nat.pow_succ ..
    have g1 : (4 * 4503599627370496 * 2 ^ (e + 1) - 2 ^ (e + 1)) * q = (4 * 9007199254740992 - 2) * Q := by
      rw [p1, hQ]
      generalize 2 ^ e = P
      rw [show 4 * 4503599627370496 * (P * 2) - P * 2 = (4 * 9007199254740992 - 2) * P by omega]
      grind
    have g2 : (4 * 4503599627370496 * 2 ^ (e + 1) + 2 * 2 ^ (e + 1)) * q = (4 * 9007199254740992 + 4) * Q := by
      rw [p1, hQ]
      generalize 2 ^ e = P
      rw [show 4 * 4503599627370496 * (P * 2) + 2 * (P * 2) = (4 * 9007199254740992 + 4) * P by omega]
      grind
    rw [g1, g2]
    refine ⟨L, Nat.le_trans U (Nat.mul_le_mul_right _ (by omega))⟩
end Fs
end Go.Proofs.YtellndmbllmjgaaGreatDoor
/- The walks of Abs, IsInf, IsNaN, normalize, Ldexp. -/
set_option linter.unusedVariables false
namespace Go.Proofs.YtellndmbllmjgaaGreatDoor
open Go.RowKit Go.Shelf Go.Sort Fs Fl

theorem Tryz.frombits7 (x : Int) (w : World) : (callFunc 7 #[.int .u64 x]).run Tryz.prog w = .ok (.value (.float .f64 x.toNat)) w := by
  rw [run_callFunc_extern (P := Tryz.prog) (f := 7) (e := Extern.MathFloatBits.float64frombits) Tryz.func7 (by kernel_rfl) (by kernel_rfl) (by kernel_rfl) (by kernel_rfl)]
  rfl
theorem Tryz.tobits103 (b : Nat) (w : World) : (callFunc 103 #[.float .f64 b]).run Tryz.prog w = .ok (.value (.int .u64 b)) w := by
  rw [run_callFunc_extern (P := Tryz.prog) (f := 103) (e := Extern.MathFloatBits.float64bits) Tryz.func103 (by kernel_rfl) (by kernel_rfl) (by kernel_rfl) (by kernel_rfl)]
  rfl
theorem ord_lt {a b : Nat} (ha : a < 9218868437227405312) (hb : b < 9218868437227405312) (h : a < b) : FloatKind.f64.format.order a b = some .lt := by
  have h1 : FloatKind.f64.format.order a b = some (compare (a : Int) (b : Int)) := order_pos a b ha hb
  rw [h1, cmp_lt (by omega)]
theorem ord_gt {a b : Nat} (ha : a < 9218868437227405312) (hb : b < 9218868437227405312) (h : b < a) : FloatKind.f64.format.order a b = some .gt := by
  have h1 : FloatKind.f64.format.order a b = some (compare (a : Int) (b : Int)) := order_pos a b ha hb
  rw [h1, cmp_gt (by omega)]
theorem ord_eq {a : Nat} (ha : a < 9218868437227405312) : FloatKind.f64.format.order a a = some .eq := by
  have h1 : FloatKind.f64.format.order a a = some (compare (a : Int) (a : Int)) := order_pos a a ha ha
  rw [h1, cmp_eq]
theorem not_gt {a b : Nat} (ha : a < 9218868437227405312) (hb : b < 9218868437227405312) (h : a ≤ b) : (FloatKind.f64.format.order a b == some .gt) = false := by
  rcases Nat.lt_or_eq_of_le h with h1 | h1
  · rw [ord_lt ha hb h1]; rfl
  · rw [h1, ord_eq hb]; rfl
theorem not_lt {a b : Nat} (ha : a < 9218868437227405312) (hb : b < 9218868437227405312) (h : b ≤ a) : (FloatKind.f64.format.order a b == some .lt) = false := by
  rcases Nat.lt_or_eq_of_le h with h1 | h1
  · rw [ord_gt ha hb h1]; rfl
  · rw [h1, ord_eq ha]; rfl
theorem abs_bits (r : Nat) (h : r < 9223372036854775808) : bits .andNot .u64 (r : Int) 9223372036854775808 = (r : Int) := by
  refine (u64_andNot_nat r 9223372036854775808 (by omega) (by omega)).trans ?_
  have e : r &&& (2 ^ 63 - 1) = r % 2 ^ 63 := Nat.and_two_pow_sub_one_eq_mod _ _
  have e2 : r % 2 ^ 63 = r := Nat.mod_eq_of_lt h
  rw [e2] at e
  exact congrArg Int.ofNat e
/-- Abs, of what is not below 0. -/
theorem abs_pos (r : Nat) (h : r < 9223372036854775808) (w : World) : Calls Tryz.prog 71 #[.float .f64 r] w fun e w' => e = .returned (.float .f64 r) ∧ w' = w := by
  have h1 := abs_bits r h
  have x1 := Tryz.tobits103 r
  have x2 := Tryz.frombits7 (r : Int)
  rw [Int.toNat_natCast] at x2
  clear h
  go_enter Tryz.func71, Tryz.ntmps71
  go_wp2
  go_ret
  exact ⟨rfl, rfl⟩
theorem isNaN_any (x : Nat) (w : World) : Calls Tryz.prog 232 #[.float .f64 x] w fun e w' => e = .returned (.bool (FloatKind.f64.format.order x x != some .eq)) ∧ w' = w := by
  go_enter Tryz.func232, Tryz.ntmps232
  go_wp2
  go_ret
  exact ⟨rfl, rfl⟩
theorem isInf_pos (r : Nat) (h : r < 9223372036854775808) (w : World) : Calls Tryz.prog 25 #[.float .f64 r, .int .i64 0] w fun e w' => e = .returned (.bool (FloatKind.f64.format.order r 9218868437227405311 == some .gt)) ∧ w' = w := by
  have ca := abs_pos r h
  clear h
  go_enter Tryz.func25, Tryz.ntmps25
  go_wp2_with (first | (go_at_call 71; refine (ca _).mono ?_; rintro e w' ⟨rfl, rfl⟩) | go_in)
  go_ret
  exact ⟨rfl, rfl⟩
set_option maxRecDepth 100000 in
theorem normalize_any (r : Nat) (h1 : 4503599627370496 ≤ r) (h2 : r < 9218868437227405312) (w : World) : Calls Tryz.prog 237 #[.float .f64 r] w fun e w' => e = .returned (.tuple #[.float .f64 r, .int .i64 0]) ∧ w' = w := by
  have ca := abs_pos r (by omega)
  have ho := not_lt h2 (b := 4503599627370496) (by omega) h1
  clear h1 h2
  go_enter Tryz.func237, Tryz.ntmps237
  go_wp2_with (first | (go_at_call 71; refine (ca _).mono ?_; rintro e w' ⟨rfl, rfl⟩) | go_in)
  go_ret2
  exact ⟨rfl, rfl⟩
theorem strip_exp (f q : Nat) (hf : f < 4503599627370496) (hq : q < 2048) : bits .andNot .u64 ((q * 4503599627370496 + f : Nat) : Int) 9218868437227405312 = (f : Int) := by
  have hx : q * 4503599627370496 + f < 9223372036854775808 := by omega
  refine (u64_andNot_nat (q * 4503599627370496 + f) 9218868437227405312 (by omega) (by omega)).trans ?_
  generalize hX : q * 4503599627370496 + f = x at *
  have e1 : x &&& (2 ^ 63 - 1) = x % 2 ^ 63 := Nat.and_two_pow_sub_one_eq_mod _ _
  have e2 : x % 2 ^ 63 = x := Nat.mod_eq_of_lt hx
  have e3 : x &&& (2 ^ 52 - 1) = x % 2 ^ 52 := Nat.and_two_pow_sub_one_eq_mod _ _
  have e4 : x % 2 ^ 52 = f := by omega
  have e5 : (9223372036854775807 : Nat) &&& (18446744073709551615 - 9218868437227405312) = 4503599627370495 := by decide
  have e6 : x &&& (18446744073709551615 - 9218868437227405312) = f := by
    have : x = x &&& 9223372036854775807 := (e1.trans e2).symm
    rw [this, Nat.and_assoc, e5]
    exact e3.trans e4
  exact congrArg Int.ofNat e6
theorem put_exp (f q : Nat) (hf : f < 4503599627370496) (hq : q < 2048) : bits .or .u64 (f : Int) ((q * 4503599627370496 : Nat) : Int) = ((q * 4503599627370496 + f : Nat) : Int) := by
  refine (bits_or_u64_nat f (q * 4503599627370496) (by omega) (by omega)).trans ?_
  have e : 2 ^ 52 * q + f = 2 ^ 52 * q ||| f := Nat.two_pow_add_eq_or_of_lt hf q
  rw [Nat.or_comm] at e
  have e2 : 2 ^ 52 * q = q * 4503599627370496 := Nat.mul_comm _ _
  rw [e2] at e
  exact congrArg Int.ofNat e.symm
theorem and_all : (List.range 2048).all (fun q => bits .and .i64 (q : Int) 2047 == (q : Int)) = true := by decide +kernel
theorem and_11 (q : Nat) (h : q < 2048) : bits .and .i64 (q : Int) 2047 = (q : Int) := by
  have := and_all
  rw [List.all_eq_true] at this
  exact beq_iff_eq.1 (this q (List.mem_range.2 h))
namespace Fl2
open Ieee
/-- **The word nearest to what is a word's own number is that word.** -/
theorem nearest_exact (s : Bool) (mag e d r : Nat) (hr : r < 9218868437227405312) (h : mag * e2 e = valR r * e2 d) : double.nearest s mag ((e : Int) - (d + 1074 : Nat)) = wd s r := by
  unfold e2 at h
  by_cases h0 : mag = 0
  · have hv : valR r = 0 := by
      rw [h0, Nat.zero_mul] at h
      rcases Nat.mul_eq_zero.1 h.symm with h1 | h1
      · exact h1
      · have := Nat.two_pow_pos d; omega
    rw [h0, nearest_zero, word_wd, valR_zero.1 hv]
  · have hm0 : magR r ≠ 0 := by
      intro hm
      unfold valR at h
      rw [hm, Nat.zero_mul, Nat.zero_mul] at h
      rcases Nat.mul_eq_zero.1 h with h1 | h1
      · exact h0 h1
      · have := Nat.two_pow_pos e; omega
    unfold valR at h
    rw [Nat.mul_assoc, ← Nat.pow_add] at h
    have hlog : mag.log2 + e = (magR r).log2 + (expR r + d) := by
      have l1 : (mag * 2 ^ e).log2 = mag.log2 + e := log2_of (by rw [Nat.pow_add]; exact Nat.mul_le_mul_right _ (Nat.log2_self_le h0)) (by rw [show mag.log2 + e + 1 = (mag.log2 + 1) + e by omega, Nat.pow_add]; exact (Nat.mul_lt_mul_right (Nat.two_pow_pos e)).2 Nat.lt_log2_self)
      have l2 : ∀ D, (magR r * 2 ^ D).log2 = (magR r).log2 + D := fun D => log2_of (by rw [Nat.pow_add]; exact Nat.mul_le_mul_right _ (Nat.log2_self_le hm0)) (by rw [show (magR r).log2 + D + 1 = ((magR r).log2 + 1) + D by omega, Nat.pow_add]; exact (Nat.mul_lt_mul_right (Nat.two_pow_pos _)).2 Nat.lt_log2_self)
      rw [h, l2] at l1
      omega
    have hlr : (magR r).log2 ≤ 52 ∧ (expR r ≠ 0 → (magR r).log2 = 52) := by
      have hl := magR_lt r
      refine ⟨?_, fun hne => ?_⟩
      · have : (magR r).log2 < 53 := (Nat.log2_lt hm0).2 (by have : (2:Nat)^53 = 9007199254740992 := by decide
                                                             omega)
        omega
      · exact log2_of (by have := magR_ge hne; have h52 : (2:Nat)^52 = 4503599627370496 := by decide
                          omega) (by have h53 : (2:Nat)^(52+1) = 9007199254740992 := by decide
                                     omega)
    have hlast : max ((e : Int) - (d + 1074 : Nat) + (mag.log2 : Int) - 52) (-1074) = (expR r : Int) - 1074 := by
      by_cases hne : expR r = 0
      · have := hlr.1; omega
      · have := hlr.2 hne; omega
    have hkept : Toward.even.cut s (mag <<< ((e : Int) - (d + 1074 : Nat) - ((expR r : Int) - 1074)).toNat) ((expR r : Int) - 1074 - ((e : Int) - (d + 1074 : Nat))).toNat = magR r := by
      rcases Nat.le_total (expR r + d) e with hle | hle
      · obtain ⟨t, ht⟩ : ∃ t, e = t + (expR r + d) := ⟨e - (expR r + d), by omega⟩
        have e1 : ((e : Int) - (d + 1074 : Nat) - ((expR r : Int) - 1074)).toNat = t := by omega
        have e2 : ((expR r : Int) - 1074 - ((e : Int) - (d + 1074 : Nat))).toNat = 0 := by omega
        rw [e1, e2, cut_zero_drop, Nat.shiftLeft_eq]
        rw [ht, Nat.pow_add, ← Nat.mul_assoc] at h
        exact pow_cancel h
      · obtain ⟨t, ht⟩ : ∃ t, expR r + d = t + e := ⟨expR r + d - e, by omega⟩
        have e1 : ((e : Int) - (d + 1074 : Nat) - ((expR r : Int) - 1074)).toNat = 0 := by omega
        have e2 : ((expR r : Int) - 1074 - ((e : Int) - (d + 1074 : Nat))).toNat = t := by omega
        rw [ht, Nat.pow_add, ← Nat.mul_assoc] at h
        have hm := pow_cancel h
        rw [e1, e2, Nat.shiftLeft_eq, Nat.pow_zero, Nat.mul_one, hm]
        exact cut_exact s (magR r) t (by omega)
    rw [nearest_at s mag _ _ _ h0 hlast hkept, word_wd]
    have e3 : ((expR r : Int) - 1074 - -1074).toNat = expR r := by omega
    have e4 : expR r * 4503599627370496 + magR r = r := by
      obtain ⟨a, n, rfl, h1, h2⟩ := r_split r
      rw [magR_at h1 h2, expR_at h1 h2]
    rw [e3, e4, Nat.min_eq_left (Nat.le_of_lt hr)]
theorem mul_pow (k r r' : Nat) (hk : 1 ≤ k) (hk2 : k < 2047) (hr : r < 9218868437227405312) (hr' : r' < 9218868437227405312) (h : valR r * e2 (k + 51) = valR r' * e2 1074) : double.mul (k * 4503599627370496) r = some r' := by
  have hm : magR (k * 4503599627370496) = 4503599627370496 := by unfold magR; rw [if_neg (by omega)]; omega
  have he : expR (k * 4503599627370496) = k - 1 := by unfold expR; omega
  have hv : magR r * 2 ^ expR r = valR r := rfl
  have e0 : 4503599627370496 * magR r * e2 (k - 1 + expR r) = valR r' * e2 1074 := by
    rw [← h, e2_add, show k + 51 = 52 + (k - 1) by omega, e2_add 52, ← hv]
    have : e2 52 = 4503599627370496 := by decide
    rw [this]
    generalize e2 (k - 1) = x
    change 4503599627370496 * magR r * (x * 2 ^ expR r) = _
    grind
  have hn := nearest_exact (false ^^ false) (4503599627370496 * magR r) (k - 1 + expR r) 1074 r' hr' e0
  unfold Format.mul
  have r1 : double.read (k * 4503599627370496) = double.read (wd false (k * 4503599627370496)) := by rw [wd_false]
  have r2 : double.read r = double.read (wd false r) := by rw [wd_false]
  rw [r1, r2, read_wd false _ (by omega), read_wd false _ hr, hm, he]
  simp only [Datum.product, Option.map_some, Format.write]
  rw [show (((k - 1 : Nat) : Int) - 1074 + ((expR r : Int) - 1074)) = ((k - 1 + expR r : Nat) : Int) - ((1074 + 1074 : Nat) : Int) by omega, hn, Bool.xor_false, wd_false]
end Fl2
end Go.Proofs.YtellndmbllmjgaaGreatDoor
/- The walk of Ldexp. -/
set_option linter.unusedVariables false
namespace Go.Proofs.YtellndmbllmjgaaGreatDoor
open Go.RowKit Go.Shelf Go.Sort Fs Fl Fl2

theorem inf_any (w : World) : Calls Tryz.prog 48 #[.int .i64 1] w fun e w' => e = .returned (.float .f64 9218868437227405312) ∧ w' = w := by
  have x2 := Tryz.frombits7 9218868437227405312
  rw [show ((9218868437227405312 : Int)).toNat = 9218868437227405312 from rfl] at x2
  go_enter Tryz.func48, Tryz.ntmps48
  go_wp2
  go_ret
  exact ⟨rfl, rfl⟩
/-- What Ldexp asks of a float ahead. -/
structure Asks (r : Nat) : Prop where
  cn : ∀ w, Calls Tryz.prog 237 #[.float .f64 r] w fun e w' => e = .returned (.tuple #[.float .f64 r, .int .i64 0]) ∧ w' = w
  ci : ∀ w, Calls Tryz.prog 25 #[.float .f64 r, .int .i64 0] w fun e w' => e = .returned (.bool false) ∧ w' = w
  cq : ∀ w, Calls Tryz.prog 232 #[.float .f64 r] w fun e w' => e = .returned (.bool false) ∧ w' = w
  o1 : (FloatKind.f64.format.order r 0 == some .eq) = false
  o2 : (FloatKind.f64.format.order r 0 == some .lt) = false
theorem asks (r : Nat) (h1 : 4503599627370496 ≤ r) (h2 : r < 9218868437227405312) : Asks r := by
  have ci := isInf_pos r (by omega)
  have cq := isNaN_any r
  have o2 : (FloatKind.f64.format.order r 9218868437227405311 == some .gt) = false := not_gt h2 (by omega) (by omega)
  have o3 : (FloatKind.f64.format.order r r != some .eq) = false := by rw [ord_eq h2]; rfl
  rw [o2] at ci
  rw [o3] at cq
  exact ⟨normalize_any r h1 h2, ci, cq, by rw [ord_gt h2 (by omega) (by omega)]; rfl, not_lt h2 (by omega) (by omega)⟩
set_option maxRecDepth 100000 in
set_option maxHeartbeats 400000 in
theorem ldexp_norm (r q f t : Nat) (e : Int) (hr : r = q * 4503599627370496 + f) (hf : f < 4503599627370496) (hq1 : 0 < q) (hq2 : q < 2047) (he1 : 1 ≤ e + q) (he2 : e + q ≤ 2046) (ht : t = (e + q).toNat * 4503599627370496 + f) (w : World) :
    Calls Tryz.prog 192 #[.float .f64 r, .int .i64 e] w fun ee w' => ee = .returned (.float .f64 t) ∧ w' = w := by
  obtain ⟨cn, ci, cq, o1, o2⟩ := asks r (by omega) (by omega)
  have x1 := Tryz.tobits103 r
  have b1 : bits .andNot .u64 (r : Int) 9218868437227405312 = (f : Int) := by rw [hr]; exact strip_exp f q hf (by omega)
  have q1 : (r : Int) / 4503599627370496 = (q : Int) := by omega
  have b3 : bits .and .i64 (q : Int) 2047 = (q : Int) := and_11 q (by omega)
  obtain ⟨p, hp⟩ : ∃ p : Nat, e + q = (p : Int) := ⟨(e + q).toNat, by omega⟩
  have b2 : bits .or .u64 (f : Int) ((p : Int) * 4503599627370496) = (t : Int) := by
    have := put_exp f p hf (by omega)
    rw [show p * 4503599627370496 + f = t by omega] at this
    rw [← this]
    congr 1
  have hm : ∀ ty w, (binOp .mul ty (.float .f64 4607182418800017408) (.float .f64 t)).run Tryz.prog w = .ok (.float .f64 t) w := by
    intro ty w
    exact run_float_arith w .mul ty .f64 _ _ t (mul_pow 1023 t t (by omega) (by omega) (by omega) (by omega) rfl)
  have x2 := Tryz.frombits7 (t : Int)
  rw [Int.toNat_natCast] at x2
  have e1 : e + ((q : Int) - 1023) + 1023 = (p : Int) := by omega
  have k1 : ¬ e + ((q : Int) - 1023) < -1075 := by omega
  have k2 : ¬ 1023 < e + ((q : Int) - 1023) := by omega
  have k3 : ¬ e + ((q : Int) - 1023) < -1022 := by omega
  clear ht hr hp
  go_enter Tryz.func192, Tryz.ntmps192
  go_wp2_with (first | (go_at_call 237; refine (cn _).mono ?_; rintro e w' ⟨rfl, rfl⟩) | (go_at_call 25; refine (ci _).mono ?_; rintro e w' ⟨rfl, rfl⟩) | (go_at_call 232; refine (cq _).mono ?_; rintro e w' ⟨rfl, rfl⟩) | go_in)
  go_ret
  exact ⟨rfl, rfl⟩
set_option maxRecDepth 100000 in
set_option maxHeartbeats 400000 in
theorem ldexp_over (r q f : Nat) (e : Int) (hr : r = q * 4503599627370496 + f) (hf : f < 4503599627370496) (hq1 : 0 < q) (hq2 : q < 2047) (he1 : 2046 < e + q) (he2 : e ≤ 5000) (w : World) :
    Calls Tryz.prog 192 #[.float .f64 r, .int .i64 e] w fun ee w' => ee = .returned (.float .f64 9218868437227405312) ∧ w' = w := by
  obtain ⟨cn, ci, cq, o1, o2⟩ := asks r (by omega) (by omega)
  have x1 := Tryz.tobits103 r
  have q1 : (r : Int) / 4503599627370496 = (q : Int) := by omega
  have b3 : bits .and .i64 (q : Int) 2047 = (q : Int) := and_11 q (by omega)
  have c48 := inf_any
  have k1 : ¬ e + ((q : Int) - 1023) < -1075 := by omega
  have k2 : 1023 < e + ((q : Int) - 1023) := by omega
  clear hr
  go_enter Tryz.func192, Tryz.ntmps192
  go_wp2_with (first | (go_at_call 237; refine (cn _).mono ?_; rintro e w' ⟨rfl, rfl⟩) | (go_at_call 25; refine (ci _).mono ?_; rintro e w' ⟨rfl, rfl⟩) | (go_at_call 232; refine (cq _).mono ?_; rintro e w' ⟨rfl, rfl⟩) | (go_at_call 48; refine (c48 _).mono ?_; rintro e w' ⟨rfl, rfl⟩) | go_in)
  go_ret
  exact ⟨rfl, rfl⟩
set_option maxRecDepth 100000 in
set_option maxHeartbeats 400000 in
theorem ldexp_low (r q f t z : Nat) (e : Int) (hr : r = q * 4503599627370496 + f) (hf : f < 4503599627370496) (hq1 : 0 < q) (hq2 : q < 2047) (he1 : -52 ≤ e + q) (he2 : e + q < 1) (ht : t = (e + q + 53).toNat * 4503599627370496 + f)
    (hz : Ieee.double.mul 4368491638549381120 t = some z) (w : World) :
    Calls Tryz.prog 192 #[.float .f64 r, .int .i64 e] w fun ee w' => ee = .returned (.float .f64 z) ∧ w' = w := by
  obtain ⟨cn, ci, cq, o1, o2⟩ := asks r (by omega) (by omega)
  have x1 := Tryz.tobits103 r
  have b1 : bits .andNot .u64 (r : Int) 9218868437227405312 = (f : Int) := by rw [hr]; exact strip_exp f q hf (by omega)
  have q1 : (r : Int) / 4503599627370496 = (q : Int) := by omega
  have b3 : bits .and .i64 (q : Int) 2047 = (q : Int) := and_11 q (by omega)
  obtain ⟨p, hp⟩ : ∃ p : Nat, e + q + 53 = (p : Int) := ⟨(e + q + 53).toNat, by omega⟩
  have b2 : bits .or .u64 (f : Int) ((p : Int) * 4503599627370496) = (t : Int) := by
    have := put_exp f p hf (by omega)
    rw [show p * 4503599627370496 + f = t by omega] at this
    rw [← this]
    congr 1
  have hm : ∀ ty w, (binOp .mul ty (.float .f64 4368491638549381120) (.float .f64 t)).run Tryz.prog w = .ok (.float .f64 z) w := by
    intro ty w
    exact run_float_arith w .mul ty .f64 _ _ z hz
  have x2 := Tryz.frombits7 (t : Int)
  rw [Int.toNat_natCast] at x2
  have e1 : e + ((q : Int) - 1023) + 53 + 1023 = (p : Int) := by omega
  have k1 : ¬ e + ((q : Int) - 1023) < -1075 := by omega
  have k2 : ¬ 1023 < e + ((q : Int) - 1023) := by omega
  have k3 : e + ((q : Int) - 1023) < -1022 := by omega
  clear ht hr hp hz
  go_enter Tryz.func192, Tryz.ntmps192
  go_wp2_with (first | (go_at_call 237; refine (cn _).mono ?_; rintro e w' ⟨rfl, rfl⟩) | (go_at_call 25; refine (ci _).mono ?_; rintro e w' ⟨rfl, rfl⟩) | (go_at_call 232; refine (cq _).mono ?_; rintro e w' ⟨rfl, rfl⟩) | go_in)
  go_ret
  exact ⟨rfl, rfl⟩
theorem ldexp_zero (e : Int) (w : World) : Calls Tryz.prog 192 #[.float .f64 0, .int .i64 e] w fun ee w' => ee = .returned (.float .f64 0) ∧ w' = w := by
  have o1 : (FloatKind.f64.format.order 0 0 == some .eq) = true := by decide
  go_enter Tryz.func192, Tryz.ntmps192
  go_wp2
  go_ret
  exact ⟨rfl, rfl⟩
/-- **Ldexp, of a whole number of few digits.** -/
theorem ldexp_whole (n a : Nat) (hn : n ≤ 9007199254740992) (hna : 4503599627370496 ≤ n ∨ a = 0) (ha : a ≤ 2045) (w : World) :
    Calls Tryz.prog 192 #[.float .f64 (Ieee.double.nearest false n 0), .int .i64 ((a : Int) - 1074)] w fun ee w' => ee = .returned (.float .f64 (a * 4503599627370496 + n)) ∧ w' = w := by
  rcases Nat.eq_zero_or_pos n with h0 | h0
  · subst h0
    have : a = 0 := by omega
    subst this
    rw [nearest_zero, word_wd, wd_false]
    exact ldexp_zero _ w
  · obtain ⟨M, L, hN, hL⟩ : ∃ M L, Norm n M L ∧ L ≤ 53 := by
      rcases Nat.lt_or_eq_of_le hn with h | h
      · obtain ⟨M, L, h1, h2⟩ := norm_small (by omega) h
        exact ⟨M, L, h1, by omega⟩
      · rw [h]
        exact ⟨4503599627370496, 53, norm_pow 53, by omega⟩
    have hM1 := hN.M_le
    have hM2 := hN.M_lt
    rw [nearest_whole hN (by omega), wd_false]
    have hq : rungI M L = (L + 1023) * 4503599627370496 + (M - 4503599627370496) := by unfold rungI; omega
    by_cases hbig : 4503599627370496 ≤ n
    · have hval : (L = 52 ∧ M = n) ∨ (L = 53 ∧ M = 4503599627370496 ∧ n = 9007199254740992) := by
        have h52 : (2 : Nat) ^ 52 = 4503599627370496 := by decide
        have h53 : (2 : Nat) ^ 53 = 9007199254740992 := by decide
        have h54 : (2 : Nat) ^ 54 = 18014398509481984 := by decide
        have hL52 : 52 ≤ L := by
          rcases Nat.lt_or_ge L 52 with h | h
          · have h1 : 2 ^ (L + 1) ≤ 2 ^ 52 := Nat.pow_le_pow_right (by omega) (by omega)
            have := hN.2.2
            omega
          · exact h
        rcases Nat.lt_or_ge 52 L with h | h
        · have : L = 53 := by omega
          subst this
          have h1 := hN.2.1
          have h2 := hN.1
          have : n = 9007199254740992 := by omega
          exact Or.inr ⟨rfl, by omega, this⟩
        · have : L = 52 := by omega
          subst this
          have h2 := hN.1
          exact Or.inl ⟨rfl, by omega⟩
      by_cases hov : a + L = 2098
      · have h1 := ldexp_over (rungI M L) (L + 1023) (M - 4503599627370496) ((a : Int) - 1074) hq (by omega) (by omega) (by omega) (by omega) (by omega) w
        rw [show a * 4503599627370496 + n = 9218868437227405312 by omega]
        exact h1
      · exact ldexp_norm (rungI M L) (L + 1023) (M - 4503599627370496) (a * 4503599627370496 + n) ((a : Int) - 1074) hq (by omega) (by omega) (by omega) (by omega) (by omega) (by omega) w
    · have ha0 : a = 0 := by omega
      subst ha0
      have hL52 : L < 52 := by
        rcases Nat.lt_or_ge L 52 with h | h
        · exact h
        · have h52 : (2 : Nat) ^ 52 = 4503599627370496 := by decide
          have h1 : 2 ^ 52 ≤ 2 ^ L := Nat.pow_le_pow_right (by omega) h
          have := hN.2.1
          omega
      rw [Nat.zero_mul, Nat.zero_add]
      have ht : magR ((L + 2) * 4503599627370496 + (M - 4503599627370496)) = M ∧ expR ((L + 2) * 4503599627370496 + (M - 4503599627370496)) = L + 1 := by
        rw [show (L + 2) * 4503599627370496 + (M - 4503599627370496) = (L + 1) * 4503599627370496 + M by omega]
        exact ⟨magR_at hM2 (Or.inl hM1), expR_at hM2 (Or.inl hM1)⟩
      have hz : Ieee.double.mul 4368491638549381120 ((L + 2) * 4503599627370496 + (M - 4503599627370496)) = some n := by
        refine mul_pow 970 _ n (by omega) (by omega) (by omega) (by omega) ?_
        have v1 : valR ((L + 2) * 4503599627370496 + (M - 4503599627370496)) = n * e2 53 := by
          unfold valR
          rw [ht.1, ht.2, Nat.pow_succ, ← Nat.mul_assoc, hN.1, show e2 53 = 2 ^ 52 * 2 from rfl, Nat.mul_assoc]
        have v2 : valR n = n := by
          unfold valR magR expR
          rw [if_pos (by omega), Nat.div_eq_of_lt (by omega)]
          simp
        rw [v1, v2, Nat.mul_assoc, ← e2_add]
      exact ldexp_low (rungI M L) (L + 1023) (M - 4503599627370496) ((L + 2) * 4503599627370496 + (M - 4503599627370496)) n (((0 : Nat) : Int) - 1074) hq (by omega) (by omega) (by omega) (by omega) (by omega) (by rw [show (((0 : Nat) : Int) - 1074 + ((L + 1023 : Nat) : Int) + 53).toNat = L + 2 by omega]) hz w
theorem Ldexp_whole (n a : Nat) (hn : n ≤ 9007199254740992) (hna : 4503599627370496 ≤ n ∨ a = 0) (ha : a ≤ 2045) (w : World) :
    Calls Tryz.prog 146 #[.float .f64 (Ieee.double.nearest false n 0), .int .i64 ((a : Int) - 1074)] w fun ee w' => ee = .returned (.float .f64 (a * 4503599627370496 + n)) ∧ w' = w := by
  have cf := ldexp_whole n a hn hna ha
  generalize a * 4503599627370496 + n = t at *
  generalize Ieee.double.nearest false n 0 = x at *
  generalize (a : Int) - 1074 = e at *
  clear hn hna ha
  go_enter Tryz.func146, Tryz.ntmps146
  go_wp2_with (first | (go_at_call 192; refine (cf _).mono ?_; rintro e w' ⟨rfl, rfl⟩) | go_in)
  go_ret
  exact ⟨rfl, rfl⟩
end Go.Proofs.YtellndmbllmjgaaGreatDoor
