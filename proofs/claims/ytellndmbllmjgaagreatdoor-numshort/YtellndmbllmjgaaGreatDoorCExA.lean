/- Exact powers of ten: a product and a quotient of floats. -/
import Derived.Test.YtellndmbllmjgaaGreatDoorCUp7
import Derived.Test.YtellndmbllmjgaaGreatDoorCUsA
set_option linter.unusedVariables false
namespace Go.Proofs.YtellndmbllmjgaaGreatDoor
namespace Fs
open Fl Ieee

theorem mul_near {n M L n' M' L' : Nat} (h : Norm n M L) (h' : Norm n' M' L') (hL : L ≤ 1023) (hL' : L' ≤ 1023) : ∃ R, Near (n * n') 1 R ∧ double.mul (rungI M L) (rungI M' L') = some (min R 9218868437227405312) := by
  have hM := h.M_le
  have hM' := h'.M_le
  have r1 := read_word false n M L h hL
  have r2 := read_word false n' M' L' h' hL'
  rw [wd_false] at r1 r2
  obtain ⟨R, hR, hn⟩ := nearest_near false (M * M') (L + L') 104 (n * n') 1 (Nat.mul_ne_zero (by omega) (by omega)) (by decide) (by
    have e1 := h.1
    have e2 := h'.1
    rw [Nat.mul_one, Nat.pow_add, show (2 : Nat) ^ 104 = 2 ^ 52 * 2 ^ 52 from rfl]
    generalize 2 ^ L = a at *
    generalize 2 ^ L' = b at *
    generalize (2 : Nat) ^ 52 = c at *
    calc M * M' * (a * b) = (M * a) * (M' * b) := by grind
      _ = n * c * (n' * c) := by rw [e1, e2]
      _ = n * n' * (c * c) := by grind)
  refine ⟨R, hR, ?_⟩
  unfold Format.mul
  rw [r1, r2]
  simp only [Datum.product, Option.map_some, Format.write]
  rw [show (L : Int) - 52 + ((L' : Int) - 52) = ((L + L' : Nat) : Int) - (104 : Nat) by omega, Bool.xor_false, hn, wd_false]
theorem div_near {n M L n' M' L' : Nat} (h : Norm n M L) (h' : Norm n' M' L') (hL : L ≤ 1023) (hL' : L' ≤ 1023) (hn' : 0 < n') : ∃ R, Near n n' R ∧ double.div (rungI M L) (rungI M' L') = some (min R 9218868437227405312) := by
  have hM := h.M_le
  have hM' := h'.M_le
  have r1 := read_word false n M L h hL
  have r2 := read_word false n' M' L' h' hL'
  rw [wd_false] at r1 r2
  obtain ⟨more, hm⟩ : ∃ more, more = 54 + M'.log2 - M.log2 := ⟨_, rfl⟩
  obtain ⟨R, hR, hn⟩ := quot_near false M M' L L' n n' more (by omega) (by omega) hn' hm (by
    have e1 := h.1
    have e2 := h'.1
    generalize 2 ^ L = a at *
    generalize 2 ^ L' = b at *
    rw [e1, e2]
    generalize (2 : Nat) ^ 52 = c at *
    grind)
  refine ⟨R, hR, ?_⟩
  unfold Format.div
  rw [r1, r2]
  simp only [Datum.quotient]
  rw [if_neg (by omega)]
  simp only [Option.map_some, Format.write]
  rw [show double.fractionBits + 2 + M'.log2 - M.log2 = more from hm.symm]
  rw [show (L : Int) - 52 - ((L' : Int) - 52) - (more : Int) - 1 = (L : Int) - (L' : Int) - (more : Int) - 1 by omega, Bool.xor_false, hn, wd_false]
/-- The words of 10 to the 0 .. 22. -/
def p10L : List Nat := [4607182418800017408, 4621819117588971520, 4636737291354636288, 4652007308841189376, 4666723172467343360, 4681608360884174848, 4696837146684686336, 4711630319722168320, 4726483295884279808, 4741671816366391296, 4756540486875873280, 4771362005757984768, 4786511204640096256, 4801453603149578240, 4816244402031689728, 4831355200913801216, 4846369599423283200, 4861130398305394688, 4876203697187506176, 4891288408196988160, 4906019910204099648, 4921056587992461136, 4936209963552724370]
def p10w (k : Nat) : Nat := p10L[k]?.getD 0
def p10ok (k : Nat) : Bool :=
  let w := p10w k
  let L := w / 4503599627370496 - 1023
  let M := 4503599627370496 + w % 4503599627370496
  (M * 2 ^ L == 10 ^ k * 2 ^ 52) && decide (2 ^ L ≤ 10 ^ k) && decide (10 ^ k < 2 ^ (L + 1)) && (w == rungI M L) && decide (L ≤ 1023)
theorem p10_all : (List.range 23).all p10ok = true := by decide +kernel
theorem p10_at (k : Nat) (h : k ≤ 22) : ∃ M L, Norm (10 ^ k) M L ∧ L ≤ 1023 ∧ p10w k = rungI M L := by
  have := List.all_eq_true.1 p10_all k (List.mem_range.2 (by omega))
  simp only [p10ok, Bool.and_eq_true, beq_iff_eq, decide_eq_true_eq] at this
  obtain ⟨⟨⟨⟨a, b⟩, c⟩, d⟩, e⟩ := this
  exact ⟨_, _, ⟨a, b, c⟩, e, d⟩
/-- A whole number that is read as it is. -/
theorem whole_near {n M L : Nat} (h : Norm n M L) (hL : L ≤ 1023) : ∃ R, Near n 1 R ∧ rungI M L = min R 9218868437227405312 := by
  have hM := h.M_le
  have h0 : n ≠ 0 := by
    have := h.2.1
    have := Nat.two_pow_pos L
    omega
  obtain ⟨R, hR, hn⟩ := nearest_near false n 0 0 n 1 h0 (by decide) (by simp)
  refine ⟨R, hR, ?_⟩
  have e := nearest_whole (s := false) h hL
  rw [show ((0 : Nat) : Int) - ((0 : Nat) : Int) = 0 by rfl, e, wd_false, wd_false] at hn
  exact hn
theorem up15 : upR 4831355200913801216 < 1000000000000001 * Z76 := by decide +kernel
theorem le_of_near {N R : Nat} (h : Near N 1 R) (hR : R ≤ 4831355200913801216) : N ≤ 1000000000000000 := by
  have h1 : N * Z76 ≤ upR R := by
    unfold Near Inn at h
    split at h
    · have := h.2; omega
    · have := h.2; omega
  have h2 : upR R ≤ upR 4831355200913801216 := by
    rw [up_succ, up_succ]
    exact lo_mono (by omega)
  have h3 := up15
  have h4 : N * Z76 < 1000000000000001 * Z76 := by omega
  have := Nat.lt_of_mul_lt_mul_right h4
  omega
/-- What atof64exact answers where it answers. -/
theorem exact_zero {d M L : Nat} (h : Norm d M L) (hL : L ≤ 1023) : ∃ R, DecNear d 400 R ∧ rungI M L = min R 9218868437227405312 := by
  obtain ⟨R, h1, h2⟩ := whole_near h hL
  refine ⟨R, ?_, h2⟩
  unfold DecNear
  rw [if_pos (by omega), show 400 - 400 = 0 by omega, Nat.pow_zero, Nat.mul_one]
  exact h1
theorem exact_up {d M L k : Nat} (h : Norm d M L) (hL : L ≤ 1023) (hk : k ≤ 22) : ∃ R, DecNear d (400 + k) R ∧ double.mul (rungI M L) (p10w k) = some (min R 9218868437227405312) := by
  obtain ⟨M', L', h', hL', e⟩ := p10_at k hk
  obtain ⟨R, h1, h2⟩ := mul_near h h' hL hL'
  refine ⟨R, ?_, by rw [e]; exact h2⟩
  unfold DecNear
  rw [if_pos (by omega), show 400 + k - 400 = k by omega]
  exact h1
theorem exact_down {d M L k : Nat} (h : Norm d M L) (hL : L ≤ 1023) (hk : k ≤ 22) (h0 : 0 < k) : ∃ R, DecNear d (400 - k) R ∧ double.div (rungI M L) (p10w k) = some (min R 9218868437227405312) := by
  obtain ⟨M', L', h', hL', e⟩ := p10_at k hk
  obtain ⟨R, h1, h2⟩ := div_near h h' hL hL' (Nat.pow_pos (by decide))
  refine ⟨R, ?_, by rw [e]; exact h2⟩
  unfold DecNear
  rw [if_neg (by omega), show 400 - (400 - k) = k by omega]
  exact h1
/-- The product of two steps: where the first is not above 10 to the 15, it is exact. -/
theorem exact_two {d M L k : Nat} (h : Norm d M L) (hL : L ≤ 1023) (hk : k ≤ 22) : ∃ f, double.mul (rungI M L) (p10w k) = some f ∧ f ≤ 9218868437227405312 ∧ (f ≤ 4831355200913801216 → ∃ R, DecNear d (400 + (k + 22)) R ∧ double.mul f (p10w 22) = some (min R 9218868437227405312)) := by
  obtain ⟨M', L', h', hL', e⟩ := p10_at k hk
  obtain ⟨R, h1, h2⟩ := mul_near h h' hL hL'
  refine ⟨_, by rw [e]; exact h2, Nat.min_le_right _ _, fun hf => ?_⟩
  have hR : R ≤ 4831355200913801216 := by omega
  have hN := le_of_near h1 hR
  have hd0 : 0 < d := by have := h.2.1; have := Nat.two_pow_pos L; omega
  have hN0 : d * 10 ^ k ≠ 0 := Nat.mul_ne_zero (by omega) (Nat.ne_of_gt (Nat.pow_pos (by decide)))
  obtain ⟨M2, L2, hN2, hL2⟩ := norm_small hN0 (by omega)
  obtain ⟨R', g1, g2⟩ := whole_near hN2 (by omega)
  have e3 := near_one (by decide) h1 g1
  subst e3
  rw [← g2]
  obtain ⟨M3, L3, h3, hL3, e3⟩ := p10_at 22 (by omega)
  obtain ⟨R3, k1, k2⟩ := mul_near hN2 h3 (by omega) hL3
  refine ⟨R3, ?_, by rw [e3]; exact k2⟩
  unfold DecNear
  rw [if_pos (by omega), show 400 + (k + 22) - 400 = k + 22 by omega, Nat.pow_add, ← Nat.mul_assoc]
  exact k1
end Fs
end Go.Proofs.YtellndmbllmjgaaGreatDoor
/- What parseFloat64 packs, at every word and every power. -/
set_option linter.unusedVariables false
namespace Go.Proofs.YtellndmbllmjgaaGreatDoor
namespace Fs
open Fl

theorem usc_bounds (i s x hi lo : Nat) (hi1 : 3 ≤ i) (hi2 : i < 659) (hs : 8 ≤ s) (hx0 : 2 ^ 63 ≤ x) (hx : x < 2 ^ 64) (hhi : hi < 2 ^ 64) (hlo : lo < 2 ^ 64) (hpm : pmOf i + lo = hi * 2 ^ 64) :
    uscaleN x hi lo s / 4 ≤ 18014398509481984 - 16 ∧ (s = 8 → 4503599627370496 ≤ uscaleN x hi lo s / 4) := by
  have U := usc64 i s x hi lo hi1 hi2 hs hx0 hx hhi hlo hpm
  obtain ⟨c1, c2⟩ := cut_bounds (i := i) (s := s) hi1 hi2 hs hx0 hx
  have hB : 0 < 4 * (Td i * 2 ^ (128 + s)) := Nat.mul_pos (by decide) (Nat.mul_pos (Td_pos i) (Nat.two_pow_pos _))
  obtain ⟨r1, _, _⟩ := rnd_is hB U
  generalize 4 * (Td i * 2 ^ (128 + s)) = B at *
  generalize uscaleN x hi lo s = u at *
  generalize x * Tn i = A at *
  rw [← r1]
  refine ⟨?_, fun h => ?_⟩
  · have : A / B < 18014398509481984 - 16 + 1 := (Nat.div_lt_iff_lt_mul hB).2 (by rw [Nat.add_mul]; omega)
    omega
  · exact (Nat.le_div_iff_mul_le hB).2 (c1 h)
theorem rnd_bounds (u : Nat) (h1 : u / 4 ≤ 18014398509481984 - 16) : u < 72057594037927936 ∧ (u < 36028797018963966 → rnd u < 9007199254740992 ∧ (4503599627370496 ≤ u / 4 → 4503599627370496 ≤ rnd u)) ∧ (36028797018963966 ≤ u → 4503599627370496 ≤ rnd (half u) ∧ rnd (half u) < 9007199254740992 ∧ half u < 36028797018963968) := by
  refine ⟨by omega, fun h => ?_, fun h => ?_⟩
  · unfold rnd
    omega
  · rw [half_eq]
    unfold rnd
    split <;> omega
/-- What is so of the packing. -/
structure Packs (d b j s E : Nat) : Prop where
  at' : ∀ hi lo, hi < 2 ^ 64 → lo < 2 ^ 64 → pmOf (j - 52) + lo = hi * 2 ^ 64 → DecNear d j (packN (uscaleN (d * 2 ^ (64 - b)) hi lo s) E) ∧ uscaleN (d * 2 ^ (64 - b)) hi lo s < 72057594037927936 ∧
    (uscaleN (d * 2 ^ (64 - b)) hi lo s < 36028797018963966 → rnd (uscaleN (d * 2 ^ (64 - b)) hi lo s) < 9007199254740992 ∧ (4503599627370496 ≤ rnd (uscaleN (d * 2 ^ (64 - b)) hi lo s) ∨ E = 0)) ∧
    (36028797018963966 ≤ uscaleN (d * 2 ^ (64 - b)) hi lo s → 4503599627370496 ≤ rnd (half (uscaleN (d * 2 ^ (64 - b)) hi lo s)) ∧ rnd (half (uscaleN (d * 2 ^ (64 - b)) hi lo s)) < 9007199254740992 ∧ half (uscaleN (d * 2 ^ (64 - b)) hi lo s) < 36028797018963968)
theorem packs_of {d b j s E : Nat} (hj : 55 ≤ j) (hj2 : j ≤ 710) (hs : 8 ≤ s) (hsE : s = 8 ∨ E = 0) (hx0 : 2 ^ 63 ≤ d * 2 ^ (64 - b)) (hx : d * 2 ^ (64 - b) < 2 ^ 64)
    (h : ∀ hi lo, hi < 2 ^ 64 → lo < 2 ^ 64 → pmOf (j - 52) + lo = hi * 2 ^ 64 → DecNear d j (packN (uscaleN (d * 2 ^ (64 - b)) hi lo s) E)) : Packs d b j s E := by
  refine ⟨fun hi lo hhi hlo hpm => ?_⟩
  obtain ⟨b1, b2⟩ := usc_bounds (j - 52) s _ hi lo (by omega) (by omega) hs hx0 hx hhi hlo hpm
  have hh := h hi lo hhi hlo hpm
  generalize uscaleN (d * 2 ^ (64 - b)) hi lo s = u at *
  obtain ⟨c1, c2, c3⟩ := rnd_bounds u b1
  refine ⟨hh, c1, fun hu => ⟨(c2 hu).1, ?_⟩, c3⟩
  rcases hsE with h8 | h0
  · exact .inl ((c2 hu).2 (b2 h8))
  · exact .inr h0
theorem lpI_up (P : Nat) : lpI (P : Int) = (lpN P : Int) := by unfold lpI lpN; omega
theorem lpI_down (q : Nat) : lpI (-(q : Int)) = -(lpM q : Int) := by unfold lpI lpM; omega
/-- **All of parseFloat64's numbers.** -/
theorem parse_all (d b j : Nat) (hb0 : 0 < b) (hb : b ≤ 64) (h1 : 2 ^ (b - 1) ≤ d) (h2 : d < 2 ^ b) (hj : 55 ≤ j) (hj2 : j ≤ 710) :
    ∃ lp e s : Int, lp = lpI ((j : Int) - 400) ∧ e = min 1074 (53 - (b : Int) - lp) ∧ s = -(e - (64 - (b : Int)) + lp + 3) ∧ -1200 ≤ lp ∧ lp ≤ 1100 ∧ -1200 ≤ e ∧ e ≤ 1074 ∧ 8 ≤ s ∧ s ≤ 200 ∧
    ((64 ≤ s ∧ DecNear d j 0) ∨ (s < 64 ∧ ∃ sN E : Nat, s = (sN : Int) ∧ 8 ≤ sN ∧ e = 1074 - (E : Int) ∧ E ≤ 2200 ∧ Packs d b j sN E)) := by
  have hx0 : 2 ^ 63 ≤ d * 2 ^ (64 - b) := by
    have := Nat.mul_le_mul_right (2 ^ (64 - b)) h1
    rwa [← Nat.pow_add, show b - 1 + (64 - b) = 63 by omega] at this
  have hx : d * 2 ^ (64 - b) < 2 ^ 64 := by
    have := (Nat.mul_lt_mul_right (Nat.two_pow_pos (64 - b))).2 h2
    rwa [← Nat.pow_add, show b + (64 - b) = 64 by omega] at this
  rcases Nat.lt_or_ge j 400 with hlt | hge
  · obtain ⟨q, hq⟩ : ∃ q, q = 400 - j := ⟨_, rfl⟩
    have hp : (j : Int) - 400 = -(q : Int) := by omega
    have hL1 : lpM q ≤ 1147 := by unfold lpM; omega
    have hdn : ∀ R, Near d (10 ^ q) R → DecNear d j R := by
      intro R h
      unfold DecNear
      rw [if_neg (by omega), ← hq]
      exact h
    have hi52 : 348 - q = j - 52 := by omega
    rw [hp, lpI_down]
    refine ⟨_, _, _, rfl, rfl, rfl, by omega, by omega, by omega, by omega, ?_⟩
    rcases Nat.lt_or_ge (1021 + b) (lpM q) with hL | hL
    · have he : min (1074 : Int) (53 - (b : Int) - -(lpM q : Int)) = 1074 := by omega
      rw [he]
      refine ⟨by omega, by omega, ?_⟩
      rcases Nat.lt_or_ge (lpM q) (b + 1077) with hs | hs
      · refine .inr ⟨by omega, lpM q - b - 1013, 0, by omega, by omega, by omega, by omega, ?_⟩
        refine packs_of hj hj2 (by omega) (.inr rfl) hx0 hx ?_
        intro hi lo hhi hlo hpm
        exact hdn _ (parse_low q d b hi lo (by omega) (by omega) hb hL hx0 hx hhi hlo (by rw [hi52]; exact hpm))
      · exact .inl ⟨by omega, hdn _ (parse_none q d b (by omega) (by omega) hs h2)⟩
    · have he : min (1074 : Int) (53 - (b : Int) - -(lpM q : Int)) = 53 - (b : Int) + (lpM q : Int) := by omega
      rw [he]
      refine ⟨by omega, by omega, .inr ⟨by omega, 8, 1021 + b - lpM q, by omega, by omega, by omega, by omega, ?_⟩⟩
      refine packs_of hj hj2 (by omega) (.inl rfl) hx0 hx ?_
      intro hi lo hhi hlo hpm
      exact hdn _ (parse_down q d b hi lo (by omega) (by omega) hb hL hx0 hx hhi hlo (by rw [hi52]; exact hpm))
  · obtain ⟨P, hP⟩ : ∃ P, P = j - 400 := ⟨_, rfl⟩
    have hp : (j : Int) - 400 = (P : Int) := by omega
    have hL1 : lpN P ≤ 1030 := by unfold lpN; omega
    have hi52 : 348 + P = j - 52 := by omega
    rw [hp, lpI_up]
    have he : min (1074 : Int) (53 - (b : Int) - (lpN P : Int)) = 53 - (b : Int) - (lpN P : Int) := by omega
    refine ⟨_, _, _, rfl, rfl, rfl, by omega, by omega, by omega, by omega, ?_⟩
    rw [he]
    refine ⟨by omega, by omega, .inr ⟨by omega, 8, 1021 + b + lpN P, by omega, by omega, by omega, by omega, ?_⟩⟩
    refine packs_of hj hj2 (by omega) (.inl rfl) hx0 hx ?_
    intro hi lo hhi hlo hpm
    unfold DecNear
    rw [if_pos (by omega), ← hP]
    exact parse_up P d b hi lo (by omega) hb hx0 hx hhi hlo (by rw [hi52]; exact hpm)
end Fs
end Go.Proofs.YtellndmbllmjgaaGreatDoor
/- One times a word, minus one times a word. -/
set_option linter.unusedVariables false
namespace Go.Proofs.YtellndmbllmjgaaGreatDoor
namespace Fs
open Fl Ieee

theorem near_self (r y : Nat) (hy : y = 1074) (h : 0 < r) : Near (valR r) (2 ^ y) r := by
  obtain ⟨k, hk, hZ⟩ := Z76_pw
  have e : Z76 = 4 * 2 ^ y := by
    rw [hZ, show k = y + 2 by omega, Nat.pow_add, Nat.mul_comm]
  unfold Near
  rw [e]
  have hq := Nat.two_pow_pos y
  have hm : 0 < magR r := by
    rcases Nat.eq_zero_or_pos (magR r) with h1 | h1
    · have := magR_zero.1 h1; omega
    · exact h1
  have hp := Nat.two_pow_pos (expR r)
  have e2 : valR r * (4 * 2 ^ y) = 4 * magR r * 2 ^ expR r * 2 ^ y := by unfold valR; grind
  rw [e2]
  have hA : 2 ^ expR r ≤ magR r * 2 ^ expR r := Nat.le_mul_of_pos_left _ hm
  have e3 : 4 * magR r * 2 ^ expR r = 4 * (magR r * 2 ^ expR r) := Nat.mul_assoc ..
  apply Inn.self
  · apply (Nat.mul_lt_mul_right hq).2
    unfold loR
    rw [e3]
    split <;> omega
  · apply (Nat.mul_lt_mul_right hq).2
    unfold upR
    omega
theorem one_at : magR 4607182418800017408 = 4503599627370496 ∧ expR 4607182418800017408 = 1022 := by decide
theorem mul_inf (s : Bool) : double.mul (wd s 4607182418800017408) 9218868437227405312 = some (wd s 9218868437227405312) := by
  cases s
  · rw [wd_false, wd_false]; decide +kernel
  · rw [wd_true, wd_true]; decide +kernel
/-- **The sign goes ahead.** -/
theorem mul_unit (s : Bool) (r : Nat) (h : r ≤ 9218868437227405312) : double.mul (wd s 4607182418800017408) r = some (wd s r) := by
  rcases Nat.lt_or_eq_of_le h with hlt | heq
  · have r1 := read_wd s 4607182418800017408 (by decide)
    have r2 := read_wd false r hlt
    rw [one_at.1, one_at.2] at r1
    rw [wd_false] at r2
    unfold Format.mul
    rw [r1, r2]
    simp only [Datum.product, Option.map_some, Format.write, Bool.xor_false]
    rcases Nat.eq_zero_or_pos r with h0 | h0
    · subst h0
      rw [show magR 0 = 0 by decide, Nat.mul_zero, nearest_zero, word_wd]
    · have hm : 0 < magR r := by
        rcases Nat.eq_zero_or_pos (magR r) with h1 | h1
        · have := magR_zero.1 h1; omega
        · exact h1
      obtain ⟨y, hy⟩ : ∃ y : Nat, y = 1074 := ⟨_, rfl⟩
      obtain ⟨R, hR, hn⟩ := nearest_near s (4503599627370496 * magR r) (expR r) (y + 52) (valR r) (2 ^ y) (Nat.mul_ne_zero (by decide) (by omega)) (Nat.two_pow_pos y) (by
        unfold valR
        rw [Nat.pow_add, show (2 : Nat) ^ 52 = 4503599627370496 by decide]
        generalize 2 ^ y = q
        generalize 2 ^ expR r = b
        grind)
      have e := near_one (Nat.two_pow_pos y) (near_self r y hy h0) hR
      subst e
      rw [show ((1022 : Nat) : Int) - 1074 + ((expR r : Int) - 1074) = (expR r : Int) - ((y + 52 : Nat) : Int) by omega, hn, Nat.min_eq_left (by omega)]
  · subst heq
    exact mul_inf s
end Fs
end Go.Proofs.YtellndmbllmjgaaGreatDoor
