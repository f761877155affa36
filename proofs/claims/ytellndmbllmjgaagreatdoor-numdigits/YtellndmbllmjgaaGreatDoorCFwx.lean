/- Plain mathematics: the document's way to the fewest digits comes to the same. -/
import Derived.Test.YtellndmbllmjgaaGreatDoorCRtx
set_option linter.unusedVariables false
namespace Go.Proofs.YtellndmbllmjgaaGreatDoor
namespace Fs
open Fl

/-- A float times a power of ten, as a fraction. -/
def pS (M E : Nat) (k : Int) : Nat := M * 2 ^ (E - 1074) * 10 ^ k.toNat
def qS (E : Nat) (k : Int) : Nat := 2 ^ (1074 - E) * 10 ^ (-k).toNat
theorem qS_pos (E : Nat) (k : Int) : 0 < qS E k := Nat.mul_pos (Nat.two_pow_pos _) (Nat.pow_pos (by omega))
theorem Z76_add (a : Nat) : 2 ^ (a + 1076) = 2 ^ a * Z76 := by unfold Z76; exact Nat.pow_add 2 a 1076
theorem K400_add (a : Nat) : 10 ^ (400 + a) = K400 * 10 ^ a := by unfold K400; exact Nat.pow_add 10 400 a
theorem two_rel (E : Nat) : 2 ^ (E - 1074) * Z76 = 4 * 2 ^ E * 2 ^ (1074 - E) := by
  rw [← Z76_add, show E - 1074 + 1076 = 2 + E + (1074 - E) by omega, Nat.pow_add, Nat.pow_add]
/-- The grid's mesh. -/
def BB (j : Nat) : Nat := 10 ^ j * Z76
theorem BB_pos (j : Nat) : 0 < BB j := Nat.mul_pos (Nat.pow_pos (by omega)) Z76_pos
theorem BB_add (a j : Nat) : BB (a + j) = 10 ^ a * BB j := by unfold BB; rw [Nat.pow_add, Nat.mul_assoc]
theorem scale_rel (M E j : Nat) (k : Int) (h : (j : Int) + k = 400) : pS M E k * BB j = XX M E * qS E k := by
  have h1 := two_rel E
  have h2 : 10 ^ k.toNat * 10 ^ j = K400 * 10 ^ (-k).toNat := by
    rw [← Nat.pow_add, ← K400_add, show k.toNat + j = 400 + (-k).toNat by omega]
  unfold pS qS BB XX
  generalize 10 ^ k.toNat = a at *
  generalize 10 ^ j = b at *
  generalize 10 ^ (-k).toNat = c at *
  generalize 2 ^ (E - 1074) = d at *
  generalize 2 ^ (1074 - E) = e at *
  generalize 2 ^ E = f at *
  generalize Z76 = Z at *
  generalize K400 = K at *
  calc M * d * a * (b * Z) = M * (d * Z) * (a * b) := by grind
    _ = M * (4 * f * e) * (K * c) := by rw [h1, h2]
    _ = 4 * M * f * K * (e * c) := by grind
theorem lt_rel {p q X B : Nat} (hq : 0 < q) (hB : 0 < B) (h : p * B = X * q) : p < q ↔ X < B := by
  constructor
  · intro hl
    have : p * B < q * B := (Nat.mul_lt_mul_right hB).2 hl
    rw [h, Nat.mul_comm q] at this
    exact Nat.lt_of_mul_lt_mul_right this
  · intro hl
    have : X * q < B * q := (Nat.mul_lt_mul_right hq).2 hl
    rw [← h, Nat.mul_comm B] at this
    exact Nat.lt_of_mul_lt_mul_right this
theorem div_rel {p q X B : Nat} (hq : 0 < q) (hB : 0 < B) (h : p * B = X * q) : p / q = X / B ∧ (q < 2 * (p % q) ↔ B < 2 * (X % B)) ∧ (2 * (p % q) = q ↔ 2 * (X % B) = B) := by
  have h1 : p / q = X / B := by
    rw [← Nat.mul_div_mul_right p q hB, ← Nat.mul_div_mul_right X B hq, h, Nat.mul_comm q B]
  have h2 : p % q * B = X % B * q := by
    rw [← Nat.mul_mod_mul_right, ← Nat.mul_mod_mul_right, h, Nat.mul_comm q B]
  refine ⟨h1, ?_, ?_⟩
  · have := lt_rel (p := q) (q := 2 * (p % q)) (X := B) (B := 2 * (X % B))
    constructor
    · intro hl
      have h3 : q * B < 2 * (p % q) * B := (Nat.mul_lt_mul_right hB).2 hl
      rw [Nat.mul_assoc, h2, ← Nat.mul_assoc, Nat.mul_comm q] at h3
      exact Nat.lt_of_mul_lt_mul_right h3
    · intro hl
      have h3 : B * q < 2 * (X % B) * q := (Nat.mul_lt_mul_right hq).2 hl
      rw [Nat.mul_assoc, ← h2, ← Nat.mul_assoc, Nat.mul_comm B] at h3
      exact Nat.lt_of_mul_lt_mul_right h3
  · constructor
    · intro hl
      have h3 : 2 * (p % q) * B = q * B := by rw [hl]
      rw [Nat.mul_assoc, h2, ← Nat.mul_assoc, Nat.mul_comm q] at h3
      exact Nat.eq_of_mul_eq_mul_right hq h3
    · intro hl
      have h3 : 2 * (X % B) * q = B * q := by rw [hl]
      rw [Nat.mul_assoc, ← h2, ← Nat.mul_assoc, Nat.mul_comm B] at h3
      exact Nat.eq_of_mul_eq_mul_right hB h3
theorem Inn.scale {a b o w c : Nat} (hc : 0 < c) : Inn (a * c) (b * c) o (w * c) ↔ Inn a b o w := by
  unfold Inn
  split
  · rw [Nat.mul_le_mul_right_iff hc, Nat.mul_le_mul_right_iff hc]
  · rw [Nat.mul_lt_mul_right hc, Nat.mul_lt_mul_right hc]
/-- What a decimal number is read as. -/
theorem near_up (r D j : Nat) (hj : 400 ≤ j) : Near (D * 10 ^ (j - 400)) 1 r ↔ Inn (LL (magR r) (expR r)) (UU (magR r) (expR r)) (magR r % 2) (D * BB j) := by
  unfold Near
  rw [← Inn.scale K400_pos (a := loR r * 1), magR_par]
  have e1 : D * 10 ^ (j - 400) * Z76 * K400 = D * BB j := by
    unfold BB
    rw [show j = 400 + (j - 400) by omega, K400_add, Nat.add_sub_cancel_left]
    generalize 10 ^ (j - 400) = a
    generalize Z76 = Z
    generalize K400 = K
    grind
  rw [e1, Nat.mul_one, Nat.mul_one]
  exact Iff.rfl
theorem near_down (r D j : Nat) (hj : j < 400) : Near D (10 ^ (400 - j)) r ↔ Inn (LL (magR r) (expR r)) (UU (magR r) (expR r)) (magR r % 2) (D * BB j) := by
  unfold Near
  rw [← Inn.scale (c := 10 ^ j) (Nat.pow_pos (by omega)) (a := loR r * 10 ^ (400 - j)), magR_par]
  have e0 : 10 ^ (400 - j) * 10 ^ j = K400 := by
    have h := K400_add 0
    rw [Nat.pow_zero, Nat.mul_one] at h
    rw [← Nat.pow_add, ← h, show 400 - j + j = 400 + 0 by omega]
  have e1 : D * Z76 * 10 ^ j = D * BB j := by unfold BB; rw [Nat.mul_assoc, Nat.mul_comm Z76]
  rw [e1, Nat.mul_assoc, Nat.mul_assoc, e0]
  exact Iff.rfl
theorem UX (M E : Nat) : UU M E * (2 * M) = XX M E * (2 * M + 1) := by
  unfold UU XX
  generalize 2 ^ E = P
  generalize K400 = K
  grind
/-- Where the fewest digits have just as many places as the number: which they are. -/
theorem few_at {M E d J nn : Nat} (hT : Told M E d J) (hlo : BB (nn - 1) ≤ XX M E) (hhi : XX M E < BB nn) (hJ : J < nn) : 10 ^ (nn - J - 1) ≤ d ∧ d < 10 ^ (nn - J) := by
  have hB := BB_pos J
  have e1 : BB nn = 10 ^ (nn - J) * BB J := by rw [← BB_add, show nn - J + J = nn by omega]
  have e2 : BB (nn - 1) = 10 ^ (nn - J - 1) * BB J := by rw [← BB_add, show nn - J - 1 + J = nn - 1 by omega]
  have h1 : XX M E / BB J < 10 ^ (nn - J) := by
    rw [Nat.div_lt_iff_lt_mul hB, ← e1]
    exact hhi
  have h2 : 10 ^ (nn - J - 1) ≤ XX M E / BB J := by
    rw [Nat.le_div_iff_mul_le hB, ← e2]
    exact hlo
  have hp := hT.pick
  have hd : d = XX M E / BB J + 1 ∨ d = XX M E / BB J := by
    obtain ⟨_, p2, p3⟩ := hp
    exact (Classical.em _).elim (fun h => Or.inl (p2 h)) (fun h => Or.inr (p3 h))
  have h3 : d ≤ 10 ^ (nn - J) := by omega
  have h4 : d ≠ 10 ^ (nn - J) := by
    intro h
    apply hT.last
    rw [h, show nn - J = nn - J - 1 + 1 by omega, Nat.pow_succ]
    exact Nat.mul_mod_left ..
  omega
/-- The numbers that are so small that their neighbours lie a tenth away. -/
def tinyB (M : Nat) : Bool :=
  let nn := if M ≤ 2 then 77 else 78
  decide (BB (nn - 1) ≤ XX M 0) && decide (XX M 0 < BB nn) && (if M = 2 then decide (XX M 0 / BB (nn - 1) = 9) && decide (BB (nn - 1) < 2 * (XX M 0 % BB (nn - 1))) else decide (UU M 0 < BB nn))
theorem tiny_ok : ((List.range 10).all fun M => M == 0 || tinyB M) = true := by decide +kernel
theorem tiny (M : Nat) (h0 : 0 < M) (h : M < 10) : tinyB M = true := by
  have := tiny_ok
  rw [List.all_eq_true] at this
  have h1 := this M (List.mem_range.2 h)
  rw [Bool.or_eq_true, beq_iff_eq] at h1
  rcases h1 with h1 | h1
  · omega
  · exact h1
theorem BB_mono {a b : Nat} (h : a ≤ b) : BB a ≤ BB b := Nat.mul_le_mul_right _ (Nat.pow_le_pow_right (by omega) h)
theorem few_ten {M E d J nn : Nat} (hM : 0 < M) (hS : 10 ≤ M ∨ E = 0) (hT : Told M E d J) (h1 : 1 ≤ nn) (hlo : BB (nn - 1) ≤ XX M E) (hhi : XX M E < BB nn) (hJ : nn ≤ J) :
    J = nn ∧ d = 1 ∧ XX M E / BB (nn - 1) = 9 ∧ BB (nn - 1) < 2 * (XX M E % BB (nn - 1)) ∧ Inn (LL M E) (UU M E) (M % 2) ((9 + 1) * BB (nn - 1)) := by
  have hup : d * BB J ≤ UU M E := by
    have := hT.isin
    unfold Inn at this
    split at this
    · exact this.2
    · exact Nat.le_of_lt this.2
  have hux := UX M E
  have hd0 : 0 < d := by have := hT.last; omega
  have eJ : BB J = 10 ^ (J - nn) * BB nn := by rw [← BB_add, show J - nn + nn = J by omega]
  have hB := BB_pos nn
  have key : d * 10 ^ (J - nn) ≤ 1 := by
    have a1 : d * BB J * (2 * M) ≤ XX M E * (2 * M + 1) := by rw [← hux]; exact Nat.mul_le_mul_right _ hup
    have a2 : XX M E * (2 * M + 1) < BB nn * (2 * M + 1) := (Nat.mul_lt_mul_right (by omega)).2 hhi
    rw [eJ] at a1
    have a3 : d * 10 ^ (J - nn) * (2 * M) * BB nn < (2 * M + 1) * BB nn := by
      have : d * (10 ^ (J - nn) * BB nn) * (2 * M) = d * 10 ^ (J - nn) * (2 * M) * BB nn := by
        generalize 10 ^ (J - nn) = t
        generalize BB nn = b
        grind
      rw [this] at a1
      rw [Nat.mul_comm (BB nn)] at a2
      omega
    have a4 : d * 10 ^ (J - nn) * (2 * M) < 2 * M + 1 := Nat.lt_of_mul_lt_mul_right a3
    rcases Nat.lt_or_ge 1 (d * 10 ^ (J - nn)) with h | h
    · have : 2 * (2 * M) ≤ d * 10 ^ (J - nn) * (2 * M) := Nat.mul_le_mul_right _ h
      omega
    · exact h
  have hp : 0 < 10 ^ (J - nn) := Nat.pow_pos (by omega)
  have hd1 : d = 1 := by
    have : d * 1 ≤ d * 10 ^ (J - nn) := Nat.mul_le_mul_left _ hp
    omega
  have hJn : J = nn := by
    rcases Nat.eq_or_lt_of_le hJ with h | h
    · exact h.symm
    · exfalso
      have : 10 ^ 1 ≤ 10 ^ (J - nn) := Nat.pow_le_pow_right (by omega) (by omega)
      rw [hd1] at key
      omega
  subst hd1
  subst hJn
  have e10 : BB J = 10 * BB (J - 1) := by
    have := BB_add 1 (J - 1)
    rw [show 1 + (J - 1) = J by omega, Nat.pow_one] at this
    exact this
  have hin : Inn (LL M E) (UU M E) (M % 2) ((9 + 1) * BB (J - 1)) := by
    have := hT.isin
    change Inn (LL M E) (UU M E) (M % 2) (1 * BB J) at this
    rw [Nat.one_mul, e10] at this
    exact this
  rw [Nat.one_mul] at hup
  have hB1 := BB_pos (J - 1)
  by_cases hten : 10 ≤ M
  · -- a float that is not so small
    have a1 : BB J * (2 * M) ≤ XX M E * (2 * M + 1) := by rw [← hux]; exact Nat.mul_le_mul_right _ hup
    rw [e10] at a1 hhi
    have a2 : 19 * BB (J - 1) < 2 * XX M E := by
      rcases Nat.lt_or_ge (19 * BB (J - 1)) (2 * XX M E) with h | h
      · exact h
      · exfalso
        have b1 : 2 * XX M E * (2 * M + 1) ≤ 19 * BB (J - 1) * (2 * M + 1) := Nat.mul_le_mul_right _ h
        have b2 : 10 * BB (J - 1) * (2 * M) = M * BB (J - 1) * 20 := by grind
        have b3 : 19 * BB (J - 1) * (2 * M + 1) = M * BB (J - 1) * 38 + 19 * BB (J - 1) := by grind
        have b4 : 10 * BB (J - 1) ≤ M * BB (J - 1) := Nat.mul_le_mul_right _ hten
        have b5 : 2 * XX M E * (2 * M + 1) = 2 * (XX M E * (2 * M + 1)) := Nat.mul_assoc ..
        omega
    generalize XX M E = X at *
    generalize BB (J - 1) = B at *
    have hdiv : X / B = 9 := by
      rw [Nat.div_eq_iff hB1]
      omega
    refine ⟨rfl, rfl, hdiv, ?_, hin⟩
    have := Nat.div_add_mod X B
    rw [hdiv] at this
    omega
  · have hE : E = 0 := by omega
    subst hE
    have ht := tiny M hM (by omega)
    unfold tinyB at ht
    simp only [Bool.and_eq_true, decide_eq_true_eq] at ht
    obtain ⟨⟨t1, t2⟩, t3⟩ := ht
    have hnn : J = if M ≤ 2 then 77 else 78 := by
      obtain ⟨m, hm⟩ : ∃ m, m = if M ≤ 2 then 77 else 78 := ⟨_, rfl⟩
      have hm2 : 1 ≤ m := by rw [hm]; split <;> omega
      rw [← hm] at t1 t2 ⊢
      rcases Nat.lt_trichotomy J m with h | h | h
      · have := BB_mono (show J ≤ m - 1 by omega); omega
      · exact h
      · have := BB_mono (show m ≤ J - 1 by omega); omega
    rw [← hnn] at t1 t2 t3
    by_cases h2 : M = 2
    · rw [if_pos h2] at t3
      simp only [Bool.and_eq_true, decide_eq_true_eq] at t3
      exact ⟨rfl, rfl, t3.1, t3.2, hin⟩
    · rw [if_neg h2] at t3
      simp only [decide_eq_true_eq] at t3
      omega
theorem Told.none' {M E d J : Nat} (hT : Told M E d J) (D k : Nat) (h : J < k) : ¬ Inn (LL M E) (UU M E) (M % 2) (D * BB k) := hT.none D k h
/-- A whole number below 2 to the 53rd is told by itself. -/
theorem told_whole {M E d J x : Nat} (hM : 0 < M) (hT : Told M E d J) (hx0 : 0 < x) (hx : XX M E = x * BB 400) (hE : E ≤ 1074) : 400 ≤ J ∧ d * 10 ^ (J - 400) = x := by
  have hB := BB_pos 400
  obtain ⟨g1, g2, g3, g4, g5, g6⟩ := XL (e := E) hM
  have hself : Inn (LL M E) (UU M E) (M % 2) (x * BB 400) := by rw [← hx]; exact Inn.self g2 g5
  have hJ : 400 ≤ J := by
    rcases Nat.lt_or_ge J 400 with h | h
    · exact absurd hself (hT.none' x 400 h)
    · exact h
  refine ⟨hJ, ?_⟩
  -- the bounds lie less than one away
  have hw : 2 * (2 ^ E * K400) < BB 400 := by
    obtain ⟨t, ht⟩ : ∃ t, 1074 = E + t := ⟨1074 - E, by omega⟩
    have h2 : BB 400 = 4 * (2 ^ E * K400) * 2 ^ t := by
      have e0 : BB 400 = K400 * Z76 := by delta BB K400; exact Eq.refl _
      have e1 : Z76 = 4 * 2 ^ E * 2 ^ t := by
        have h := Z76_add 0
        rw [Nat.pow_zero, Nat.one_mul, show 0 + 1076 = 2 + E + t by omega, Nat.pow_add, Nat.pow_add] at h
        exact h.symm
      rw [e0, e1]
      grind
    have h3 : 0 < 2 ^ E * K400 := Nat.mul_pos (Nat.two_pow_pos _) K400_pos
    have h4 : 4 * (2 ^ E * K400) * 1 ≤ 4 * (2 ^ E * K400) * 2 ^ t := Nat.mul_le_mul_left _ (Nat.two_pow_pos t)
    generalize 2 ^ E * K400 = Q at *
    omega
  have hin := hT.isin
  have e1 : d * (10 ^ J * Z76) = d * 10 ^ (J - 400) * BB 400 := by
    have := BB_add (J - 400) 400
    rw [show J - 400 + 400 = J by omega] at this
    show d * BB J = _
    rw [this, Nat.mul_assoc]
  rw [e1] at hin
  have hb : LL M E ≤ d * 10 ^ (J - 400) * BB 400 ∧ d * 10 ^ (J - 400) * BB 400 ≤ UU M E := by
    unfold Inn at hin
    split at hin
    · exact hin
    · exact ⟨Nat.le_of_lt hin.1, Nat.le_of_lt hin.2⟩
  have hL : XX M E - LL M E ≤ 2 * (2 ^ E * K400) := by rw [g1]; split <;> omega
  generalize d * 10 ^ (J - 400) = y at *
  rcases Nat.lt_trichotomy y x with h | h | h
  · have : (y + 1) * BB 400 ≤ x * BB 400 := Nat.mul_le_mul_right _ h
    rw [Nat.add_mul] at this
    omega
  · exact h
  · have : (x + 1) * BB 400 ≤ y * BB 400 := Nat.mul_le_mul_right _ h
    rw [Nat.add_mul] at this
    omega
end Fs
end Go.Proofs.YtellndmbllmjgaaGreatDoor
/- Ratio: what its loop keeps. -/
set_option linter.unusedVariables false
namespace Go.Proofs.YtellndmbllmjgaaGreatDoor
open Go.RowKit Go.Shelf Go.Sort Fs Fl Fl2

def AA (p a : Nat) : Nat := p * 2 ^ (1074 - a)
def BQ (q a : Nat) : Nat := q * 2 ^ (a - 1074)
theorem BQ_pos {q : Nat} (a : Nat) (h : 0 < q) : 0 < BQ q a := Nat.mul_pos h (Nat.two_pow_pos _)
theorem ab_rel (p q a : Nat) : 4 * AA p a * (q * 2 ^ a) = p * Z76 * BQ q a := by
  have h := two_rel a
  unfold AA BQ
  generalize 2 ^ (1074 - a) = x at *
  generalize 2 ^ (a - 1074) = y at *
  generalize 2 ^ a = z at *
  generalize Z76 = Z at *
  calc 4 * (p * x) * (q * z) = p * q * (4 * z * x) := by grind
    _ = p * q * (y * Z) := by rw [h]
    _ = p * Z * (q * y) := by grind
theorem ab_next (p q a : Nat) : (AA p a = 2 * AA p (a + 1) ∧ BQ q (a + 1) = BQ q a) ∨ (AA p a = AA p (a + 1) ∧ BQ q (a + 1) = 2 * BQ q a) := by
  unfold AA BQ
  rcases Nat.lt_or_ge a 1074 with h | h
  · refine Or.inl ⟨?_, ?_⟩
    · rw [show 1074 - a = (1074 - (a + 1)) + 1 by omega, Nat.pow_succ]; grind
    · rw [show a + 1 - 1074 = 0 by omega, show a - 1074 = 0 by omega]
  · refine Or.inr ⟨?_, ?_⟩
    · rw [show 1074 - a = 0 by omega, show 1074 - (a + 1) = 0 by omega]
    · rw [show a + 1 - 1074 = (a - 1074) + 1 by omega, Nat.pow_succ]; grind
/-- What is so at the power that is tried. -/
structure Try (p q a : Nat) : Prop where
  up : AA p a < 36028797018963968 * BQ q a
  low : a = 0 ∨ 4503599627370496 * BQ q a ≤ AA p a
theorem Try.next {p q a : Nat} (h : Try p q a) (hge : 9007199254740992 * BQ q a ≤ AA p a) : Try p q (a + 1) := by
  rcases ab_next p q a with ⟨e1, e2⟩ | ⟨e1, e2⟩
  · have := h.up
    exact ⟨by omega, Or.inr (by omega)⟩
  · have := h.up
    exact ⟨by omega, Or.inr (by omega)⟩
/-- Where it ends. -/
def amax (p q : Nat) (t1 t2 : Nat) : Nat := ((t1 : Int) - t2 + 1020).toNat + 3
theorem try_first {p q t1 t2 : Nat} (h1 : 2 ^ (t1 - 1) ≤ p) (h2 : p < 2 ^ t1) (h3 : 2 ^ (t2 - 1) ≤ q) (h4 : q < 2 ^ t2) (g1 : 1 ≤ t1) (g2 : 1 ≤ t2) (a : Nat) (ha : (a : Int) = max ((t1 : Int) - t2 + 1020) 0) : Try p q a := by
  constructor
  · unfold AA BQ
    have e1 : p * 2 ^ (1074 - a) < 2 ^ t1 * 2 ^ (1074 - a) := (Nat.mul_lt_mul_right (Nat.two_pow_pos _)).2 h2
    have e2 : 2 ^ (t2 - 1) * 2 ^ (a - 1074) ≤ q * 2 ^ (a - 1074) := Nat.mul_le_mul_right _ h3
    have e3 : 2 ^ t1 * 2 ^ (1074 - a) ≤ 2 ^ 55 * (2 ^ (t2 - 1) * 2 ^ (a - 1074)) := by
      rw [← Nat.pow_add, ← Nat.pow_add, ← Nat.pow_add]
      exact Nat.pow_le_pow_right (by omega) (by omega)
    have e4 : (2 : Nat) ^ 55 = 36028797018963968 := by decide
    rw [e4] at e3
    have e5 := Nat.mul_le_mul_left 36028797018963968 e2
    omega
  · by_cases h0 : a = 0
    · exact Or.inl h0
    · refine Or.inr ?_
      unfold AA BQ
      have e1 : q * 2 ^ (a - 1074) ≤ 2 ^ t2 * 2 ^ (a - 1074) := Nat.mul_le_mul_right _ (by omega)
      have e2 : 2 ^ (t1 - 1) * 2 ^ (1074 - a) ≤ p * 2 ^ (1074 - a) := Nat.mul_le_mul_right _ h1
      have e3 : 2 ^ 52 * (2 ^ t2 * 2 ^ (a - 1074)) ≤ 2 ^ (t1 - 1) * 2 ^ (1074 - a) := by
        rw [← Nat.pow_add, ← Nat.pow_add, ← Nat.pow_add]
        exact Nat.pow_le_pow_right (by omega) (by omega)
      have e4 : (2 : Nat) ^ 52 = 4503599627370496 := by decide
      rw [e4] at e3
      have e5 := Nat.mul_le_mul_left 4503599627370496 e1
      omega
/-- It goes on but two times. -/
theorem try_end {p q t1 t2 a : Nat} (h2 : p < 2 ^ t1) (h3 : 2 ^ (t2 - 1) ≤ q) (g2 : 1 ≤ t2) (hge : 9007199254740992 * BQ q a ≤ AA p a) : (a : Int) < (t1 : Int) - t2 + 1022 := by
  unfold AA BQ at hge
  have e1 : p * 2 ^ (1074 - a) < 2 ^ t1 * 2 ^ (1074 - a) := (Nat.mul_lt_mul_right (Nat.two_pow_pos _)).2 h2
  have e2 : 2 ^ (t2 - 1) * 2 ^ (a - 1074) ≤ q * 2 ^ (a - 1074) := Nat.mul_le_mul_right _ h3
  have e4 : (2 : Nat) ^ 53 = 9007199254740992 := by decide
  have e5 := Nat.mul_le_mul_left 9007199254740992 e2
  have e6 : 2 ^ 53 * (2 ^ (t2 - 1) * 2 ^ (a - 1074)) < 2 ^ t1 * 2 ^ (1074 - a) := by rw [e4]; omega
  rw [← Nat.pow_add, ← Nat.pow_add, ← Nat.pow_add] at e6
  have e7 := (Nat.pow_lt_pow_iff_right (by omega : 1 < 2)).1 e6
  omega
theorem try_quo {p q a : Nat} (hq : 0 < q) (h : Try p q a) : AA p a < 2 ^ 61 * BQ q a := by
  have h1 := h.up
  have h2 := BQ_pos a hq
  have e : (2 : Nat) ^ 61 = 2305843009213693952 := by decide
  rw [e]
  omega
theorem try_low {p q a : Nat} (hq : 0 < q) (h : Try p q a) : 4503599627370496 ≤ AA p a / BQ q a ∨ a = 0 := by
  rcases h.low with h1 | h1
  · exact Or.inr h1
  · left
    rw [Nat.le_div_iff_mul_le (BQ_pos a hq)]
    exact h1
theorem try_ge {p q a : Nat} (hq : 0 < q) (h : 9007199254740992 ≤ AA p a / BQ q a) : 9007199254740992 * BQ q a ≤ AA p a := by
  rw [Nat.le_div_iff_mul_le (BQ_pos a hq)] at h
  exact h
theorem two_pw2 {i n : Nat} (h : i ≤ 16 * n) : 2 ^ i ≤ pw n := by
  unfold pw
  rw [pow16]
  exact Nat.pow_le_pow_right (by omega) h
theorem pw_two {i n : Nat} (h : 2 ^ i < pw n) : i < 16 * n := by
  unfold pw at h
  rw [pow16] at h
  exact (Nat.pow_lt_pow_iff_right (by omega : 1 < 2)).1 h
/-- Where p and q are not great. -/
theorem try_pw {p q a : Nat} (hq : 0 < q) (bp : p < pw 490) (bq : q < pw 490) (h : Try p q a) : AA p a < pw 900 ∧ BQ q a < pw 900 ∧ 2 ^ (1074 - a) < pw 500 ∧ 2 ^ (a - 1074) < pw 500 := by
  have h68 : 2 ^ (1074 - a) ≤ pw 68 := two_pw2 (by omega)
  have h1 : AA p a < pw 900 := by
    unfold AA
    rw [Nat.mul_comm]
    exact pw_lt_mul h68 bp (by omega)
  have h2 : 1074 < a → BQ q a ≤ p := by
    intro ha
    rcases h.low with h3 | h3
    · omega
    · have h4 : AA p a = p := by unfold AA; rw [show 1074 - a = 0 by omega, Nat.pow_zero, Nat.mul_one]
      rw [h4] at h3
      omega
  have h5 : BQ q a < pw 490 := by
    rcases Nat.lt_or_ge 1074 a with ha | ha
    · exact Nat.lt_of_le_of_lt (h2 ha) bp
    · have h4 : BQ q a = q := by unfold BQ; rw [show a - 1074 = 0 by omega, Nat.pow_zero, Nat.mul_one]
      rw [h4]
      exact bq
  have h6 : 2 ^ (a - 1074) ≤ BQ q a := by
    unfold BQ
    exact Nat.le_mul_of_pos_left _ hq
  exact ⟨h1, pw_lt h5 (by omega), Nat.lt_of_le_of_lt h68 (pw_strict (by omega)), Nat.lt_of_le_of_lt h6 (pw_lt h5 (by omega))⟩
theorem try_end2 {p q a : Nat} (hq : 0 < q) (bp : p < pw 490) (h : Try p q a) : a ≤ 9000 := by
  rcases h.low with h3 | h3
  · omega
  · rcases Nat.lt_or_ge 1074 a with ha | ha
    · have h4 : AA p a = p := by unfold AA; rw [show 1074 - a = 0 by omega, Nat.pow_zero, Nat.mul_one]
      rw [h4] at h3
      have h6 : 2 ^ (a - 1074) ≤ BQ q a := by
        unfold BQ
        exact Nat.le_mul_of_pos_left _ hq
      have h7 : 2 ^ (a - 1074) < pw 490 := by
        refine Nat.lt_of_le_of_lt ?_ bp
        omega
      have := pw_two h7
      omega
    · omega
end Go.Proofs.YtellndmbllmjgaaGreatDoor
