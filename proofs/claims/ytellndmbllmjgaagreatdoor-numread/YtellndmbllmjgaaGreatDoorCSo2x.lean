/- Doubling a decimal: how many digits come, by the table of cutoffs. Whole numbers and lists alone. -/
import Derived.Test.YtellndmbllmjgaaGreatDoorCAe1x
import Derived.Test.YtellndmbllmjgaaGreatDoorCSc1x
set_option linter.unusedVariables false
namespace Go.Proofs.YtellndmbllmjgaaGreatDoor
namespace Fs

/-- Which of two rows of digits stands first, the shorter read as if zeros came: b against c, whose last digit is none. -/
def pre : List Nat → List Nat → Bool
  | _, [] => false
  | [], _ :: _ => true
  | b :: bs, c :: cs => if b = c then pre bs cs else decide (b < c)

theorem pre_is : ∀ (c b : List Nat), Dig c → Dig b → (c = [] ∨ ∃ m z, c = m ++ [z] ∧ 48 < z) →
    (pre b c = true ↔ vD b * 10 ^ c.length < vD c * 10 ^ b.length)
  | [], b, _, _, _ => by
    cases b <;> simp [pre, vD_nil]
  | c :: cs, [], hc, _, hz => by
    simp only [pre, true_iff, vD_nil, Nat.zero_mul, List.length_nil, Nat.pow_zero, Nat.mul_one]
    rcases hz with hz | ⟨m, z, hz, h⟩
    · cases hz
    · rw [hz, vD_snoc]; omega
  | c :: cs, b :: bs, hc, hb, hz => by
    have hc' : Dig cs := fun x hx => hc x (List.mem_cons_of_mem _ hx)
    have hb' : Dig bs := fun x hx => hb x (List.mem_cons_of_mem _ hx)
    have c1 := hc c (List.mem_cons_self ..)
    have b1 := hb b (List.mem_cons_self ..)
    have lc := vD_lt cs hc'
    have lb := vD_lt bs hb'
    have hz' : cs = [] ∨ ∃ m z, cs = m ++ [z] ∧ 48 < z := by
      rcases hz with hz | ⟨m, z, hz, h⟩
      · cases hz
      · cases m with
        | nil => left; simp at hz; exact hz.2
        | cons x m => right; simp at hz; exact ⟨m, z, hz.2, h⟩
    have ih := pre_is cs bs hc' hb' hz'
    rw [vD_cons, vD_cons, List.length_cons, List.length_cons]
    generalize hP : 10 ^ cs.length = P at *
    generalize hQ : 10 ^ bs.length = Q at *
    have eP : 10 ^ (cs.length + 1) = 10 * P := by rw [Nat.pow_succ, hP, Nat.mul_comm]
    have eQ : 10 ^ (bs.length + 1) = 10 * Q := by rw [Nat.pow_succ, hQ, Nat.mul_comm]
    rw [eP, eQ]
    generalize hx : vD bs = x at *
    generalize hy : vD cs = y at *
    have m1 : x * P < Q * P := Nat.mul_lt_mul_of_pos_right lb (by rw [← hP]; exact Nat.pow_pos (by decide))
    have m2 : y * Q < P * Q := Nat.mul_lt_mul_of_pos_right lc (by rw [← hQ]; exact Nat.pow_pos (by decide))
    have mc : P * Q = Q * P := Nat.mul_comm ..
    have f1 : ((b - 48) * Q + x) * (10 * P) = 10 * ((b - 48) * (Q * P) + x * P) := by rw [Nat.add_mul, Nat.mul_add]; ac_rfl
    have f2 : ((c - 48) * P + y) * (10 * Q) = 10 * ((c - 48) * (Q * P) + y * Q) := by rw [Nat.add_mul, Nat.mul_add]; ac_rfl
    rw [f1, f2]
    unfold pre
    by_cases hbc : b = c
    · subst hbc
      simp only [if_true]
      rw [ih]; omega
    · simp only [if_neg hbc, decide_eq_true_eq]
      have k1 : b < c → (b - 48) * (Q * P) + Q * P ≤ (c - 48) * (Q * P) := by
        intro h
        have : (b - 48 + 1) * (Q * P) ≤ (c - 48) * (Q * P) := Nat.mul_le_mul_right _ (by omega)
        rw [Nat.add_mul, Nat.one_mul] at this; exact this
      have k2 : c < b → (c - 48) * (Q * P) + Q * P ≤ (b - 48) * (Q * P) := by
        intro h
        have : (c - 48 + 1) * (Q * P) ≤ (b - 48) * (Q * P) := Nat.mul_le_mul_right _ (by omega)
        rw [Nat.add_mul, Nat.one_mul] at this; exact this
      constructor
      · intro h; have := k1 h; omega
      · intro h
        rcases Nat.lt_trichotomy b c with h1 | h1 | h1
        · exact h1
        · exact (hbc h1).elim
        · have := k2 h1; omega

/-- How many digits two to the k has. -/
theorem two_digits (k w : Nat) (hw : 0 < w) (hk : w ≤ k) (h1 : 10 ^ (k - w) ≤ 5 ^ k) (h2 : 5 ^ k < 10 ^ (k - w + 1)) : 10 ^ (w - 1) < 2 ^ k ∧ 2 ^ k ≤ 10 ^ w := by
  have e : 5 ^ k * 2 ^ k = 10 ^ k := by rw [← Nat.mul_pow]
  have h5 : 0 < 5 ^ k := Nat.pow_pos (by decide)
  constructor
  · rcases Nat.lt_or_ge (10 ^ (w - 1)) (2 ^ k) with h | h
    · exact h
    · exfalso
      have a1 : 5 ^ k * 2 ^ k ≤ 5 ^ k * 10 ^ (w - 1) := Nat.mul_le_mul_left _ h
      have a2 : 5 ^ k * 10 ^ (w - 1) < 10 ^ (k - w + 1) * 10 ^ (w - 1) := Nat.mul_lt_mul_of_pos_right h2 (Nat.pow_pos (by decide))
      rw [← Nat.pow_add, show k - w + 1 + (w - 1) = k by omega] at a2
      omega
  · rcases Nat.lt_or_ge (10 ^ w) (2 ^ k) with h | h
    · exfalso
      have a1 : 5 ^ k * 10 ^ w < 5 ^ k * 2 ^ k := Nat.mul_lt_mul_of_pos_left h h5
      have a2 : 10 ^ (k - w) * 10 ^ w ≤ 5 ^ k * 10 ^ w := Nat.mul_le_mul_right _ h1
      rw [← Nat.pow_add, show k - w + w = k by omega] at a2
      omega
    · exact h

/-- How many digits a number has when it is doubled k times: the table's w, one less where it lies below the cutoff five to the k. -/
theorem left_digits {N nd k w : Nat} (hw : 0 < w) (hk : w ≤ k) (h1 : 10 ^ (k - w) ≤ 5 ^ k) (h2 : 5 ^ k < 10 ^ (k - w + 1))
    (hn : 0 < nd) (hlo : 10 ^ (nd - 1) ≤ N) (hup : N < 10 ^ nd) :
    (N * 10 ^ (k - w + 1) < 5 ^ k * 10 ^ nd → 10 ^ (nd + w - 2) ≤ N * 2 ^ k ∧ N * 2 ^ k < 10 ^ (nd + w - 1)) ∧
    (¬ N * 10 ^ (k - w + 1) < 5 ^ k * 10 ^ nd → 10 ^ (nd + w - 1) ≤ N * 2 ^ k ∧ N * 2 ^ k < 10 ^ (nd + w)) := by
  obtain ⟨t1, t2⟩ := two_digits k w hw hk h1 h2
  have e : 5 ^ k * 2 ^ k = 10 ^ k := by rw [← Nat.mul_pow]
  have h20 : 0 < 2 ^ k := Nat.pow_pos (by decide)
  have e1 : 10 ^ (k - w + 1) * 10 ^ (nd + w - 1) = 10 ^ k * 10 ^ nd := by rw [← Nat.pow_add, ← Nat.pow_add]; congr 1; omega
  have e2 : 5 ^ k * 10 ^ nd * 2 ^ k = 10 ^ (k - w + 1) * 10 ^ (nd + w - 1) := by rw [e1, ← e]; ac_rfl
  have e3 : N * 10 ^ (k - w + 1) * 2 ^ k = 10 ^ (k - w + 1) * (N * 2 ^ k) := by ac_rfl
  constructor
  · intro h
    have a1 := Nat.mul_lt_mul_of_pos_right h h20
    rw [e2, e3] at a1
    refine ⟨?_, Nat.lt_of_mul_lt_mul_left a1⟩
    have a2 : 10 ^ (nd - 1) * 10 ^ (w - 1) ≤ N * 2 ^ k := Nat.mul_le_mul hlo (Nat.le_of_lt t1)
    rw [← Nat.pow_add, show nd - 1 + (w - 1) = nd + w - 2 by omega] at a2
    exact a2
  · intro h
    have a1 := Nat.mul_le_mul_right (2 ^ k) (Nat.le_of_not_lt h)
    rw [e2, e3] at a1
    refine ⟨Nat.le_of_mul_le_mul_left a1 (Nat.pow_pos (by decide)), ?_⟩
    have a2 : N * 2 ^ k < 10 ^ nd * 2 ^ k := Nat.mul_lt_mul_of_pos_right hup h20
    have a3 : 10 ^ nd * 2 ^ k ≤ 10 ^ nd * 10 ^ w := Nat.mul_le_mul_left _ t2
    rw [← Nat.pow_add] at a3
    omega

end Fs
end Go.Proofs.YtellndmbllmjgaaGreatDoor
/- The digits that doubling and halving a decimal write, one by one; trailing zeros. Whole numbers alone. -/
set_option linter.unusedVariables false
namespace Go.Proofs.YtellndmbllmjgaaGreatDoor
namespace Fs

theorem p10 (c : Nat) : 0 < 10 ^ c := Nat.pow_pos (by decide)
theorem p2 (c : Nat) : 0 < 2 ^ c := Nat.pow_pos (by decide)
/-- The last c + 1 digits are the last c and one more. -/
theorem mod_next (N c : Nat) : N % 10 ^ (c + 1) = N / 10 ^ c % 10 * 10 ^ c + N % 10 ^ c := by
  rw [Nat.pow_succ, Nat.mod_mul, Nat.mul_comm (10 ^ c), Nat.add_comm]
theorem div_next (N c : Nat) : N / 10 ^ (c + 1) = N / 10 ^ c / 10 := by rw [Nat.pow_succ, Nat.div_div_eq_div_mul]
theorem mod_none (M c : Nat) : M % 10 ^ (c + 1) = 0 ↔ M % 10 ^ c = 0 ∧ M / 10 ^ c % 10 = 0 := by
  rw [mod_next]
  have h := p10 c
  constructor
  · intro h1
    refine ⟨by omega, ?_⟩
    rcases Nat.eq_zero_or_pos (M / 10 ^ c % 10) with h2 | h2
    · exact h2
    · have := Nat.mul_le_mul_right (10 ^ c) h2; omega
  · rintro ⟨h1, h2⟩; rw [h1, h2]; simp

/-- Doubling, from the last digit on: what is carried behind c digits. -/
def lsN (N k c : Nat) : Nat := 2 ^ k * (N % 10 ^ c) / 10 ^ c
theorem lsN_zero (N k : Nat) : lsN N k 0 = 0 := by unfold lsN; simp [Nat.mod_one]
theorem lsN_lt (N k c : Nat) : lsN N k c < 2 ^ k := by
  unfold lsN
  rw [Nat.div_lt_iff_lt_mul (p10 c)]
  exact Nat.mul_lt_mul_of_pos_left (Nat.mod_lt _ (p10 c)) (p2 k)
theorem ls_sum (N k c : Nat) : lsN N k c + N / 10 ^ c % 10 * 2 ^ k = 2 ^ k * (N % 10 ^ (c + 1)) / 10 ^ c := by
  unfold lsN
  rw [mod_next, Nat.mul_add, show 2 ^ k * (N / 10 ^ c % 10 * 10 ^ c) = N / 10 ^ c % 10 * 2 ^ k * 10 ^ c by ac_rfl]
  rw [Nat.add_comm (_ * 10 ^ c), Nat.add_mul_div_right _ _ (p10 c)]
theorem ls_quo (N k c : Nat) : (lsN N k c + N / 10 ^ c % 10 * 2 ^ k) / 10 = lsN N k (c + 1) := by
  rw [ls_sum]; unfold lsN; rw [div_next]
theorem ls_rem (N k c : Nat) : (lsN N k c + N / 10 ^ c % 10 * 2 ^ k) % 10 = N * 2 ^ k / 10 ^ c % 10 := by
  rw [ls_sum]
  have e : N * 2 ^ k = 2 ^ k * (N / 10 ^ (c + 1)) * 10 * 10 ^ c + 2 ^ k * (N % 10 ^ (c + 1)) := by
    have := Nat.div_add_mod N (10 ^ (c + 1))
    calc _ = 2 ^ k * (10 ^ (c + 1) * (N / 10 ^ (c + 1)) + N % 10 ^ (c + 1)) := by rw [this, Nat.mul_comm]
      _ = _ := by rw [Nat.mul_add, Nat.pow_succ]; ac_rfl
  rw [e, Nat.add_comm (_ * 10 ^ c), Nat.add_mul_div_right _ _ (p10 c), Nat.add_mul_mod_self_right]
theorem ls_all {N k c : Nat} (h : N < 10 ^ c) : lsN N k c = N * 2 ^ k / 10 ^ c := by
  unfold lsN; rw [Nat.mod_eq_of_lt h, Nat.mul_comm]
/-- Halving, from the first digit on: the first r digits, zeros behind the last. -/
def hvP (N nd r : Nat) : Nat := N * 10 ^ r / 10 ^ nd
theorem hvP_zero {N nd : Nat} (h : N < 10 ^ nd) : hvP N nd 0 = 0 := by unfold hvP; simp; omega
theorem hvP_in {N nd r : Nat} (h : r ≤ nd) : hvP N nd r = N / 10 ^ (nd - r) := by
  unfold hvP
  have : 10 ^ nd = 10 ^ (nd - r) * 10 ^ r := by rw [← Nat.pow_add]; congr 1; omega
  rw [this, Nat.mul_div_mul_right _ _ (p10 r)]
theorem hvP_next {N nd r : Nat} (h : r < nd) : hvP N nd (r + 1) = hvP N nd r * 10 + N / 10 ^ (nd - 1 - r) % 10 := by
  rw [hvP_in (by omega), hvP_in (by omega), show nd - r = nd - 1 - r + 1 by omega, div_next, show nd - (r + 1) = nd - 1 - r by omega]
  omega
theorem hvP_over {N nd r : Nat} (h : nd ≤ r) : hvP N nd (r + 1) = hvP N nd r * 10 := by
  obtain ⟨j, rfl⟩ : ∃ j, r = nd + j := ⟨r - nd, by omega⟩
  unfold hvP
  rw [show N * 10 ^ (nd + j + 1) = N * 10 ^ (j + 1) * 10 ^ nd by rw [show nd + j + 1 = (j + 1) + nd by omega, Nat.pow_add]; ac_rfl,
    show N * 10 ^ (nd + j) = N * 10 ^ j * 10 ^ nd by rw [Nat.add_comm nd, Nat.pow_add]; ac_rfl,
    Nat.mul_div_cancel _ (p10 nd), Nat.mul_div_cancel _ (p10 nd), Nat.pow_succ]; ac_rfl
theorem hvP_mono (N nd r : Nat) : hvP N nd r ≤ hvP N nd (r + 1) := by
  unfold hvP
  refine Nat.div_le_div_right (Nat.mul_le_mul_left _ ?_)
  exact Nat.pow_le_pow_right (by decide) (by omega)
/-- What is left over at place r. -/
def hvN (N nd k r : Nat) : Nat := hvP N nd r % (10 * 2 ^ k)
theorem hvN_dig (N nd k r : Nat) : hvN N nd k r / 2 ^ k = hvP N nd r / 2 ^ k % 10 := by
  unfold hvN
  rw [Nat.mul_comm, Nat.mod_mul_right_div_self]
theorem hvN_mod (N nd k r : Nat) : hvN N nd k r % 2 ^ k = hvP N nd r % 2 ^ k := by
  unfold hvN
  exact Nat.mod_mul_left_mod ..
theorem mod_ten {a d P : Nat} (hd : d < 10) (hP : 0 < P) : (a * 10 + d) % (10 * P) = a % P * 10 + d := by
  have h1 := Nat.div_add_mod a P
  have h2 := Nat.mod_lt a hP
  have e : a * 10 + d = (a % P * 10 + d) + 10 * P * (a / P) := by
    calc _ = (P * (a / P) + a % P) * 10 + d := by rw [h1]
      _ = _ := by rw [Nat.add_mul]; rw [show P * (a / P) * 10 = 10 * P * (a / P) by ac_rfl]; omega
  rw [e, Nat.add_mul_mod_self_left, Nat.mod_eq_of_lt]
  omega
theorem hvN_next {N nd k r : Nat} (h : r < nd) : hvN N nd k r % 2 ^ k * 10 + N / 10 ^ (nd - 1 - r) % 10 = hvN N nd k (r + 1) := by
  rw [hvN_mod]
  unfold hvN
  rw [hvP_next h, mod_ten (Nat.mod_lt _ (by decide)) (p2 k)]
theorem hvN_over {N nd k r : Nat} (h : nd ≤ r) : hvN N nd k r % 2 ^ k * 10 = hvN N nd k (r + 1) := by
  rw [hvN_mod]
  unfold hvN
  rw [hvP_over h]
  have := mod_ten (a := hvP N nd r) (d := 0) (by decide) (p2 k)
  simpa using this.symm
theorem hvN_lt (N nd k r : Nat) : hvN N nd k r < 10 * 2 ^ k := Nat.mod_lt _ (Nat.mul_pos (by decide) (p2 k))

/-- Halving k times is five to the k, k places down: the digit that is written at place i of m. -/
theorem hv_is {N nd k r : Nat} (h : r ≤ nd + k) : hvP N nd r / 2 ^ k = N * 5 ^ k / 10 ^ (nd + k - r) := by
  unfold hvP
  rw [Nat.div_div_eq_div_mul]
  have e1 : 10 ^ nd * 2 ^ k * 5 ^ k = 10 ^ (nd + k - r) * 10 ^ r := by
    rw [← Nat.pow_add, show nd + k - r + r = nd + k by omega, Nat.pow_add, ten_two5 k]; ac_rfl
  rw [← Nat.mul_div_mul_right (N * 10 ^ r) (10 ^ nd * 2 ^ k) (Nat.pow_pos (n := k) (show 0 < 5 by decide)), e1]
  rw [show N * 10 ^ r * 5 ^ k = N * 5 ^ k * 10 ^ r by ac_rfl, Nat.mul_div_mul_right _ _ (p10 r)]

/-- How many digits halving leaves: r is the first place where the digits read reach two to the k. -/
theorem right_digits {N nd k r : Nat} (hN : N < 10 ^ nd) (hr : 0 < r) (hrk : r ≤ nd + k) (h1 : hvP N nd (r - 1) < 2 ^ k) (h2 : 2 ^ k ≤ hvP N nd r) :
    10 ^ (nd + k - r) ≤ N * 5 ^ k ∧ N * 5 ^ k < 10 ^ (nd + k - r + 1) := by
  have a1 := hv_is (N := N) (nd := nd) (k := k) (r := r - 1) (by omega)
  have a2 := hv_is (N := N) (nd := nd) (k := k) (r := r) (by omega)
  rw [Nat.div_eq_of_lt h1] at a1
  have a3 : 1 ≤ hvP N nd r / 2 ^ k := (Nat.le_div_iff_mul_le (p2 k)).2 (by omega)
  rw [a2] at a3
  constructor
  · have := (Nat.le_div_iff_mul_le (p10 _)).1 a3; omega
  · have := Nat.lt_of_div_eq_zero (p10 (nd + k - (r - 1))) a1.symm
    rw [show nd + k - (r - 1) = nd + k - r + 1 by omega] at this; exact this

/-- At place nd + k, at the latest, a first digit stands: the search ends. -/
theorem hv_reach {N nd k : Nat} (h : 0 < N) : 2 ^ k ≤ hvP N nd (nd + k) := by
  have := hv_is (N := N) (nd := nd) (k := k) (r := nd + k) (Nat.le_refl _)
  rw [show nd + k - (nd + k) = 0 by omega, Nat.pow_zero, Nat.div_one] at this
  have h5 : 1 ≤ N * 5 ^ k := Nat.mul_pos h (Nat.pow_pos (by decide))
  rw [← this] at h5
  have := (Nat.le_div_iff_mul_le (p2 k)).1 h5; omega

/-- Nothing is left over behind place nd + k. -/
theorem hv_end {N nd k r : Nat} (h : nd + k < r) : hvN N nd k r = 0 := by
  obtain ⟨j, rfl⟩ : ∃ j, r = nd + k + 1 + j := ⟨r - nd - k - 1, by omega⟩
  unfold hvN hvP
  have e : N * 10 ^ (nd + k + 1 + j) = N * 5 ^ k * 10 ^ j * (10 * 2 ^ k) * 10 ^ nd := by
    rw [Nat.pow_add, Nat.pow_succ, Nat.pow_add, ten_two5 k]; ac_rfl
  rw [e, Nat.mul_div_cancel _ (p10 nd), Nat.mul_mod_left]

/-- Nothing left over at place r: the digits from there on are none. -/
theorem hv_none {N nd k r : Nat} (hr : 0 < r) (hn : nd ≤ r) (h : r ≤ nd + k) (h0 : hvN N nd k r = 0) : N * 5 ^ k % 10 ^ (nd + k - r + 1) = 0 := by
  obtain ⟨j, rfl⟩ : ∃ j, r = nd + j := ⟨r - nd, by omega⟩
  obtain ⟨i, rfl⟩ : ∃ i, k = j + i := ⟨k - j, by omega⟩
  unfold hvN hvP at h0
  have e : N * 10 ^ (nd + j) = N * 10 ^ j * 10 ^ nd := by rw [Nat.add_comm nd, Nat.pow_add]; ac_rfl
  rw [e, Nat.mul_div_cancel _ (p10 nd)] at h0
  obtain ⟨x, hx⟩ := Nat.dvd_of_mod_eq_zero h0
  have e2 : nd + (j + i) - (nd + j) + 1 = i + 1 := by omega
  rw [e2]
  apply Nat.mod_eq_zero_of_dvd
  refine ⟨x, ?_⟩
  have e3 : 2 ^ j * (N * 5 ^ (j + i)) = 2 ^ j * (10 ^ (i + 1) * x) := by
    calc _ = N * 10 ^ j * 5 ^ i := by rw [Nat.pow_add, ten_two5 j]; ac_rfl
      _ = 10 * 2 ^ (j + i) * x * 5 ^ i := by rw [hx]
      _ = _ := by rw [Nat.pow_add, Nat.pow_succ, ten_two5 i]; ac_rfl
  exact Nat.eq_of_mul_eq_mul_left (p2 j) e3

/-- Digits as they stand in a row: the first nd of N. -/
structure Row (f : Nat → Nat) (nd N : Nat) : Prop where
  pos : 0 < nd
  lo : 10 ^ (nd - 1) ≤ N
  up : N < 10 ^ nd
  get : ∀ i, i < nd → f i = 48 + N / 10 ^ (nd - 1 - i) % 10
theorem Row.some {f : Nat → Nat} {nd N : Nat} (h : Row f nd N) : 0 < N := Nat.lt_of_lt_of_le (p10 _) h.lo
theorem Row.dig {f : Nat → Nat} {nd N i : Nat} (h : Row f nd N) (hi : i < nd) : 48 ≤ f i ∧ f i < 58 := by
  have := h.get i hi
  have h2 := Nat.mod_lt (N / 10 ^ (nd - 1 - i)) (show 0 < 10 by decide)
  omega
/-- The first digits of a row. -/
theorem Row.front {f : Nat → Nat} {m M nd : Nat} (h0 : 0 < nd) (hm : nd ≤ m) (hlo : 10 ^ (m - 1) ≤ M) (hup : M < 10 ^ m)
    (hget : ∀ i, i < nd → f i = 48 + M / 10 ^ (m - 1 - i) % 10) : Row f nd (M / 10 ^ (m - nd)) := by
  refine ⟨h0, ?_, ?_, ?_⟩
  · rw [Nat.le_div_iff_mul_le (p10 _), ← Nat.pow_add]
    rw [show nd - 1 + (m - nd) = m - 1 by omega]; exact hlo
  · rw [Nat.div_lt_iff_lt_mul (p10 _), ← Nat.pow_add]
    rw [show nd + (m - nd) = m by omega]; exact hup
  · intro i hi
    rw [hget i hi, Nat.div_div_eq_div_mul, ← Nat.pow_add]
    rw [show m - nd + (nd - 1 - i) = m - 1 - i by omega]
/-- One trailing zero less. -/
theorem Row.trim {f : Nat → Nat} {nd N : Nat} (h : Row f (nd + 1) N) (h0 : f nd = 48) : 0 < nd ∧ Row f nd (N / 10) ∧ N = N / 10 * 10 := by
  have e := h.get nd (by omega)
  rw [show nd + 1 - 1 - nd = 0 by omega, Nat.pow_zero, Nat.div_one] at e
  have hz : N % 10 = 0 := by omega
  have hlo := h.lo
  have hp : 0 < nd := by
    rcases Nat.eq_zero_or_pos nd with h1 | h1
    · subst h1
      have := h.up
      have := h.lo
      simp at *
      omega
    · exact h1
  have r := Row.front (f := f) (nd := nd) hp (by omega : nd ≤ nd + 1) h.lo h.up (fun i hi => h.get i (by omega))
  rw [show nd + 1 - nd = 1 by omega, Nat.pow_one] at r
  exact ⟨hp, r, by omega⟩

/-- A row that is cut at 800 digits, as the true number's. -/
theorem Cut.row {B p q lo hi L R M E m : Nat} {tr : Bool} (h : Cut B p q lo hi L R M E tr) (hq : 0 < q) (hlo : 10 ^ (m - 1) ≤ M) 
    (h1 : B + L ≤ lo + R + 1100) (h2 : hi + R ≤ B + L + 1110) :
    Cut B p q lo hi L R (M / 10 ^ (m - 800)) (E + (m - 800)) (tr || decide (M % 10 ^ (m - 800) ≠ 0)) := by
  rcases Nat.lt_or_ge 800 m with h3 | h3
  · obtain ⟨H, hH⟩ : ∃ H, H = 799 := ⟨_, rfl⟩
    refine Cut.cut hH h hq rfl ?_ h1 h2
    rw [Nat.le_div_iff_mul_le (p10 _), ← Nat.pow_add]
    rw [show H + (m - 800) = m - 1 by omega]; exact hlo
  · rw [show m - 800 = 0 by omega, Nat.pow_zero, Nat.div_one, Nat.mod_one, Nat.add_zero]
    simpa using h

end Fs
end Go.Proofs.YtellndmbllmjgaaGreatDoor
/- A decimal's state, doubled and halved; how often the two loops turn. Whole numbers alone. -/
set_option linter.unusedVariables false
namespace Go.Proofs.YtellndmbllmjgaaGreatDoor
namespace Fs

/-- A decimal: its row, its point, what it says of the true number. -/
structure Dst (B p q lo hi L R : Nat) (f : Nat → Nat) (nd : Nat) (dp : Int) (tr : Bool) (N E : Nat) : Prop where
  row : Row f nd N
  le : nd ≤ 800
  off : (E : Int) = B + dp - nd
  cut : Cut B p q lo hi L R N E tr
/-- What a shift leaves: the first 800 digits of M, which has m, without trailing zeros. -/
structure Shd (f : Nat → Nat) (nd M m N z : Nat) : Prop where
  row : Row f nd N
  last : N % 10 ≠ 0
  all : N * 10 ^ z = M / 10 ^ (m - 800)
  cnt : nd + z = min m 800

theorem pow_three (N E y z : Nat) : N * 10 ^ (E + y + z) = N * 10 ^ z * 10 ^ y * 10 ^ E := by rw [Nat.pow_add, Nat.pow_add]; ac_rfl
theorem pow_two' (N E y : Nat) : N * 10 ^ (E + y) = N * 10 ^ y * 10 ^ E := by rw [Nat.pow_add]; ac_rfl
theorem Dst.narrow {B p q lo hi lo' hi' L R nd N E : Nat} {f : Nat → Nat} {dp : Int} {tr : Bool} (h : Dst B p q lo hi L R f nd dp tr N E)
    (h1 : lo ≤ lo') (h2 : hi' ≤ hi) : Dst B p q lo' hi' L R f nd dp tr N E := ⟨h.row, h.le, h.off, h.cut.narrow h1 h2⟩

theorem Dst.left {B p q lo hi L R nd N E k m nd' N' z : Nat} {f f' : Nat → Nat} {dp dp' : Int} {tr : Bool}
    (h : Dst B p q lo hi L R f nd dp tr N E) (hq : 0 < q) (hm : 10 ^ (m - 1) ≤ N * 2 ^ k) (S : Shd f' nd' (N * 2 ^ k) m N' z) (hdp : dp' = dp + m - nd)
    (h1 : B + (L + k) ≤ lo + R + 1100) (h2 : hi + R ≤ B + (L + k) + 1110) :
    Dst B p q lo hi (L + k) R f' nd' dp' (tr || decide (N * 2 ^ k % 10 ^ (m - 800) ≠ 0)) N' (E + (m - 800) + z) := by
  have c := (h.cut.left k).row hq hm h1 h2
  have e1 := h.off
  have e2 := S.cnt
  refine ⟨S.row, by omega, by omega, c.as ?_⟩
  rw [← S.all, pow_three, pow_two']

theorem Dst.right {B p q lo hi L R nd N E k m nd' N' z : Nat} {f f' : Nat → Nat} {dp dp' : Int} {tr : Bool}
    (h : Dst B p q lo hi L R f nd dp tr N (E + k)) (hq : 0 < q) (hm : 10 ^ (m - 1) ≤ N * 5 ^ k) (S : Shd f' nd' (N * 5 ^ k) m N' z) (hdp : dp' = dp + m - nd - k)
    (hL : L ≤ lo + R) (h1 : B + L ≤ lo + (R + k) + 1100) (h2 : hi + (R + k) ≤ B + L + 1110) :
    Dst B p q lo hi L (R + k) f' nd' dp' (tr || decide (N * 5 ^ k % 10 ^ (m - 800) ≠ 0)) N' (E + (m - 800) + z) := by
  have c := (h.cut.right hL).row hq hm h1 h2
  have e1 := h.off
  have e2 := S.cnt
  refine ⟨S.row, by omega, by omega, c.as ?_⟩
  rw [← S.all, pow_three, pow_two']

/-- What a shift leaves is no more than what was shifted. -/
theorem Shd.under {f : Nat → Nat} {nd M m N z : Nat} (S : Shd f nd M m N z) (E : Nat) : N * 10 ^ (E + (m - 800) + z) ≤ M * 10 ^ E := by
  rw [pow_three, S.all]
  exact Nat.mul_le_mul_right _ (Nat.div_mul_le_self ..)

theorem Cut.low {B p q lo hi L R N E : Nat} {tr : Bool} (h : Cut B p q lo hi L R N E tr) : N * 10 ^ E * (q * 2 ^ R) ≤ p * 2 ^ L * 10 ^ B := by
  rw [← Nat.mul_assoc]
  cases tr with
  | false => exact Nat.le_of_eq (h.same rfl)
  | true => exact Nat.le_of_lt (h.more rfl)

/-- The value lies by its point: D is the point's place, from the offset on. -/
theorem Dst.place {B p q lo hi L R nd N E : Nat} {f : Nat → Nat} {dp : Int} {tr : Bool} (h : Dst B p q lo hi L R f nd dp tr N E)
    {D : Nat} (hD : (D : Int) = B + dp) : 10 ^ (D - 1) ≤ N * 10 ^ E ∧ N * 10 ^ E < 10 ^ D := by
  have e := h.off
  have hp := h.row.pos
  constructor
  · have := Nat.mul_le_mul_right (10 ^ E) h.row.lo
    rw [← Nat.pow_add, show nd - 1 + E = D - 1 by omega] at this; exact this
  · have := Nat.mul_lt_mul_of_pos_right h.row.up (p10 E)
    rw [← Nat.pow_add, show nd + E = D by omega] at this; exact this

/-- The shift by a point's place. -/
def pwt (d : Nat) : Nat := if 9 ≤ d then 27 else [1, 3, 6, 9, 13, 16, 19, 23, 26].getD d 0
theorem pwt_pos (d : Nat) : 0 < pwt d ∧ pwt d ≤ 27 := by
  unfold pwt
  split
  · omega
  · have h : d < 9 := by omega
    have : ∀ d, d < 9 → 0 < [1, 3, 6, 9, 13, 16, 19, 23, 26].getD d 0 ∧ [1, 3, 6, 9, 13, 16, 19, 23, 26].getD d 0 ≤ 27 := by decide
    exact this d h
theorem pwt_le {d : Nat} (h0 : 0 < d) : 2 ^ pwt d ≤ 10 ^ d := by
  unfold pwt
  split
  · rename_i h
    exact Nat.le_trans (by decide) (ten_mono h)
  · have h : d < 9 := by omega
    have : ∀ d, d < 9 → 0 < d → 2 ^ [1, 3, 6, 9, 13, 16, 19, 23, 26].getD d 0 ≤ 10 ^ d := by decide
    exact this d h h0

/-- The first loop: a number below ten to the 310 is not halved often. -/
theorem down_few {B p q lo hi R nd N E d : Nat} {f : Nat → Nat} {tr : Bool} (h : Dst B p q lo hi 0 R f nd (d : Int) tr N E) (hq : 0 < q)
    (hp : p < 10 ^ 310 * q) (h0 : 0 < d) : R + pwt d < 1040 ∧ q * 2 ^ R ≤ p := by
  have h1 := (h.place (D := B + d) (by omega)).1
  have h2 := h.cut.low
  have h3 := Nat.mul_le_mul_right (q * 2 ^ R) h1
  rw [Nat.pow_zero, Nat.mul_one] at h2
  have h4 : 10 ^ B * (10 ^ (d - 1) * (q * 2 ^ R)) ≤ 10 ^ B * p := by
    rw [show B + d - 1 = B + (d - 1) by omega, Nat.pow_add] at h3
    calc _ = 10 ^ B * 10 ^ (d - 1) * (q * 2 ^ R) := by ac_rfl
      _ ≤ _ := Nat.le_trans h3 h2
      _ = _ := Nat.mul_comm ..
  have h5 := Nat.le_of_mul_le_mul_left h4 (p10 B)
  have h6 : 1 * (q * 2 ^ R) ≤ 10 ^ (d - 1) * (q * 2 ^ R) := Nat.mul_le_mul_right _ (p10 _)
  refine ⟨?_, by omega⟩
  have h7 := pwt_le h0
  have h8 : 2 ^ pwt d * (q * 2 ^ R) ≤ 10 ^ d * (q * 2 ^ R) := Nat.mul_le_mul_right _ h7
  have h9 : 10 ^ d * (q * 2 ^ R) = 10 * (10 ^ (d - 1) * (q * 2 ^ R)) := by
    rw [show d = d - 1 + 1 by omega, Nat.pow_succ, show d - 1 + 1 - 1 = d - 1 by omega]; ac_rfl
  have ha : q * 2 ^ (R + pwt d) < q * 2 ^ 1040 := by
    have e1 : q * 2 ^ (R + pwt d) = 2 ^ pwt d * (q * 2 ^ R) := by rw [Nat.pow_add]; ac_rfl
    have e2 : 10 * (10 ^ 310 * q) ≤ q * 2 ^ 1040 := by
      obtain ⟨H, hH⟩ : ∃ H, H = 310 := ⟨_, rfl⟩
      obtain ⟨K, hK⟩ : ∃ K, K = 1040 := ⟨_, rfl⟩
      rw [← hH, ← hK]
      have e3 : 10 * 10 ^ H ≤ 2 ^ K := by
        obtain ⟨u, hu⟩ : ∃ u, u = 104 := ⟨_, rfl⟩
        have := ten_le_two u
        rw [show 10 * u = K by omega] at this
        refine Nat.le_trans ?_ this
        rw [Nat.mul_comm, ← Nat.pow_succ]
        exact ten_mono (by omega)
      calc _ = q * (10 * 10 ^ H) := by ac_rfl
        _ ≤ _ := Nat.mul_le_mul_left _ e3
    omega
  exact two_inv (Nat.lt_of_mul_lt_mul_left ha)

/-- The second loop: below two to the -n, the number is not doubled often. -/
theorem up_few {B p q lo hi L R nd N E n : Nat} {f : Nat → Nat} {dp : Int} {tr : Bool} (h : Dst B p q lo hi L R f nd dp tr N E) (hq : 0 < q)
    (hlo : lo + R ≤ B + L) (hhi : hi + R = B + 1110) (hv : N * 10 ^ E * 2 ^ n ≤ 10 ^ B) (hv' : N * 10 ^ E * 2 ^ n < 10 ^ B)
    (hp : q ≤ p * 2 ^ 1100) (hL : L < 1100) (hR : 0 < R → q ≤ p) (hR' : R < 1040) :
    L + n < 1100 ∧ (0 < R → L + n < R) := by
  obtain ⟨K, hK⟩ : ∃ K, K = 1100 := ⟨_, rfl⟩
  rw [← hK] at hp
  obtain ⟨t, ht⟩ : ∃ t, t = min n (1110 - L) := ⟨_, rfl⟩
  have h1 := h.cut.half 1 (B + t) (B + t + L - R) (by decide) (by omega) (by omega) (by omega) (by
    have e : N * 10 ^ E * 2 ^ t ≤ N * 10 ^ E * 2 ^ n := Nat.mul_le_mul_left _ (two_mono (by omega))
    calc _ = N * 10 ^ E * 2 ^ t * 2 ^ B := by rw [Nat.pow_add]; ac_rfl
      _ < 10 ^ B * 2 ^ B := Nat.mul_lt_mul_of_pos_right (by omega) (p2 B)
      _ = _ := by rw [Nat.one_mul])
  rw [Nat.one_mul] at h1
  have h2 : p * 2 ^ (t + L) < q * 2 ^ R := by
    have h3 := Nat.mul_lt_mul_of_pos_right h1 (p2 R)
    have e1 : p * 2 ^ (B + t + L - R) * 2 ^ R = 2 ^ B * (p * 2 ^ (t + L)) := by
      rw [Nat.mul_assoc, ← Nat.pow_add, show B + t + L - R + R = B + (t + L) by omega, Nat.pow_add]; ac_rfl
    have e2 : q * 2 ^ B * 2 ^ R = 2 ^ B * (q * 2 ^ R) := by ac_rfl
    rw [e1, e2] at h3
    exact Nat.lt_of_mul_lt_mul_left h3
  rcases Nat.eq_zero_or_pos R with h0 | h0
  · subst h0
    have h3 : p * 2 ^ (t + L) < p * 2 ^ K := by rw [Nat.pow_zero, Nat.mul_one] at h2; omega
    have h4 := two_inv (Nat.lt_of_mul_lt_mul_left h3)
    omega
  · have h3 : p * 2 ^ (t + L) < p * 2 ^ R := Nat.lt_of_lt_of_le h2 (Nat.mul_le_mul_right _ (hR h0))
    have h4 := two_inv (Nat.lt_of_mul_lt_mul_left h3)
    omega

end Fs
end Go.Proofs.YtellndmbllmjgaaGreatDoor
/- A decimal at its start and at its end: the digits read, cut at 800; the whole number that it is rounded to. Whole numbers alone. -/
set_option linter.unusedVariables false
namespace Go.Proofs.YtellndmbllmjgaaGreatDoor
namespace Fs

theorem ten_331 {H K : Nat} (hH : H = 331) (hK : K = 1100) : 10 ^ H ≤ 2 ^ K := by
  have a : 10 ^ 59 ≤ 2 ^ 196 := by decide
  have b : 10 ^ 31 ≤ 2 ^ 103 := by decide
  have c : 10 ^ 5 ≤ 2 ^ 17 := by decide
  obtain ⟨x, hx⟩ : ∃ x, x = 59 := ⟨_, rfl⟩
  obtain ⟨y, hy⟩ : ∃ y, y = 196 := ⟨_, rfl⟩
  rw [← hx, ← hy] at a
  have a2 : (10 ^ x) ^ 5 ≤ (2 ^ y) ^ 5 := Nat.pow_le_pow_left a 5
  rw [← Nat.pow_mul, ← Nat.pow_mul] at a2
  have d := Nat.mul_le_mul (Nat.mul_le_mul a2 b) c
  rw [← Nat.pow_add, ← Nat.pow_add, ← Nat.pow_add, ← Nat.pow_add] at d
  rw [show x * 5 + 31 + 5 = H by omega, show y * 5 + 103 + 17 = K by omega] at d
  exact d

/-- The start: NF has td digits, dp of them ahead of the point; p / q is its value. -/
theorem Dst.start {B p q td NF E nd : Nat} {f : Nat → Nat} {dp : Int} (hq : 0 < q) (h0 : 0 < td) (hlo : 10 ^ (td - 1) ≤ NF) (hup : NF < 10 ^ td)
    (hE : (E : Int) = B + dp - td) (hpq : NF * 10 ^ E * q = p * 10 ^ B) (hnd : nd = min td 800)
    (hget : ∀ i, i < nd → f i = 48 + NF / 10 ^ (td - 1 - i) % 10) :
    Dst B p q (B - 1100) (B + 1110) 0 0 f nd dp (decide (NF % 10 ^ (td - 800) ≠ 0)) (NF / 10 ^ (td - 800)) (E + (td - 800)) := by
  have c := (Cut.exact (lo := B - 1100) (hi := B + 1110) hq hpq).row (m := td) hq hlo (by omega) (by omega)
  rw [Bool.false_or] at c
  have r := Row.front (f := f) (nd := nd) (by omega) (by omega) hlo hup hget
  rw [show td - nd = td - 800 by omega] at r
  exact ⟨r, by omega, by omega, c⟩
theorem start_low' {p q d H K : Nat} (hH : H = 331) (hK : K = 1100) (hd : d ≤ H) (h : q ≤ p * 10 ^ d) : q ≤ p * 2 ^ K :=
  Nat.le_trans h (Nat.mul_le_mul_left _ (Nat.le_trans (ten_mono hd) (ten_331 hH hK)))

/-- The end, where the point stands ahead of the row: nothing. -/
theorem Dst.end_neg {B p q lo hi L R nd N E : Nat} {f : Nat → Nat} {dp : Int} {tr : Bool} (h : Dst B p q lo hi L R f nd dp tr N E) (hB : 2 ≤ (B : Int) + dp) (hd : dp < 0) :
    2 * (N * 10 ^ E) < 10 ^ B := by
  obtain ⟨D, hD⟩ : ∃ D : Nat, (D : Int) = B + dp := ⟨((B : Int) + dp).toNat, by omega⟩
  have h1 := (h.place hD).2
  have h2 : 10 ^ D ≤ 10 ^ (B - 1) := ten_mono (by omega)
  have h3 : 10 ^ B = 10 * 10 ^ (B - 1) := by rw [show B = B - 1 + 1 by omega, Nat.pow_succ, show B - 1 + 1 - 1 = B - 1 by omega, Nat.mul_comm]
  have := p10 (B - 1)
  omega
/-- The end, where the point stands behind the row. -/
theorem Dst.end_over {B p q lo hi L R nd N E d : Nat} {f : Nat → Nat} {tr : Bool} (h : Dst B p q lo hi L R f nd (d : Int) tr N E) (hd : nd ≤ d) :
    N * 10 ^ E = N * 10 ^ (d - nd) * 10 ^ B := by
  have e := h.off
  rw [show E = d - nd + B by omega, Nat.pow_add]; ac_rfl
/-- The end, where it stands within. -/
theorem Dst.end_mid {B p q lo hi L R nd N E d : Nat} {f : Nat → Nat} {tr : Bool} (h : Dst B p q lo hi L R f nd (d : Int) tr N E) (hd : d < nd) (last : N % 10 ≠ 0) :
    N / 10 ^ (nd - d) * 10 ^ B ≤ N * 10 ^ E ∧ N * 10 ^ E < (N / 10 ^ (nd - d) + 1) * 10 ^ B ∧
    ((2 * (N / 10 ^ (nd - d)) + 1) * 10 ^ B < 2 * (N * 10 ^ E) ↔ 53 ≤ f d ∧ ¬ (f d = 53 ∧ d + 1 = nd)) ∧
    ((2 * (N / 10 ^ (nd - d)) + 1) * 10 ^ B = 2 * (N * 10 ^ E) ↔ f d = 53 ∧ d + 1 = nd) := by
  have e := h.off
  have g := h.row.get d hd
  obtain ⟨D, hD⟩ : ∃ D, nd - d = D + 1 := ⟨nd - d - 1, by omega⟩
  have hD' : nd - 1 - d = D := by omega
  have eB : 10 ^ B = 10 ^ (D + 1) * 10 ^ E := by rw [← Nat.pow_add]; congr 1; omega
  have dm := Nat.div_add_mod N (10 ^ (D + 1))
  have ml := Nat.mod_lt N (p10 (D + 1))
  have mn := mod_next N D
  have md := Nat.mod_lt N (p10 D)
  rw [hD, eB]
  rw [hD'] at g
  generalize hI : N / 10 ^ (D + 1) = I at *
  generalize hc : N / 10 ^ D % 10 = c at *
  have hc9 : c < 10 := by rw [← hc]; exact Nat.mod_lt _ (by decide)
  have e10 : 10 ^ (D + 1) = 10 * 10 ^ D := by rw [Nat.pow_succ, Nat.mul_comm]
  have hP := p10 D
  have hr : D = 0 ∨ 0 < N % 10 ^ D := by
    rcases Nat.eq_zero_or_pos D with h1 | h1
    · exact Or.inl h1
    · right
      rcases Nat.eq_zero_or_pos (N % 10 ^ D) with h2 | h2
      · exfalso
        have h3 : N % 10 ^ (D - 1 + 1) = 0 := by rw [show D - 1 + 1 = D by omega]; exact h2
        have h4 : N % 10 ^ 1 = 0 := by
          have hdvd : 10 ^ 1 ∣ 10 ^ (D - 1 + 1) := Nat.pow_dvd_pow 10 (by omega)
          exact Nat.mod_eq_zero_of_dvd (Nat.dvd_trans hdvd (Nat.dvd_of_mod_eq_zero h3))
        rw [Nat.pow_one] at h4
        exact last h4
      · exact h2
  have hr0 : D = 0 → N % 10 ^ D = 0 := by intro h1; subst h1; rw [Nat.pow_zero]; exact Nat.mod_one _
  have key : ∀ x y : Nat, (x * (10 ^ (D + 1) * 10 ^ E) = x * 10 ^ (D + 1) * 10 ^ E) := fun x y => (Nat.mul_assoc ..).symm
  have k1 : ∀ x y : Nat, (x * 10 ^ E < y * 10 ^ E ↔ x < y) := fun x y => Nat.mul_lt_mul_right (p10 E)
  have k2 : ∀ x y : Nat, (x * 10 ^ E ≤ y * 10 ^ E ↔ x ≤ y) := fun x y => Nat.mul_le_mul_right_iff (p10 E)
  have k3 : ∀ x y : Nat, (x * 10 ^ E = y * 10 ^ E ↔ x = y) := fun x y => ⟨fun h => Nat.eq_of_mul_eq_mul_right (p10 E) h, fun h => by rw [h]⟩
  have e2 : 2 * (N * 10 ^ E) = 2 * N * 10 ^ E := (Nat.mul_assoc ..).symm
  rw [e2, ← Nat.mul_assoc, ← Nat.mul_assoc, ← Nat.mul_assoc, k1, k2, k1, k3]
  have f1 : (I + 1) * 10 ^ (D + 1) = I * 10 ^ (D + 1) + 10 ^ (D + 1) := by rw [Nat.add_mul, Nat.one_mul]
  have f2 : (2 * I + 1) * 10 ^ (D + 1) = 2 * (I * 10 ^ (D + 1)) + 10 ^ (D + 1) := by rw [Nat.add_mul, Nat.one_mul, Nat.mul_assoc]
  rw [Nat.mul_comm] at dm
  rw [f1, f2]
  generalize hA : I * 10 ^ (D + 1) = A at *
  have hd1 : d + 1 = nd ↔ D = 0 := by omega
  rw [hd1]
  rw [mn] at dm ml
  rw [e10] at ml ⊢
  generalize hrr : N % 10 ^ D = r at *
  generalize hPP : 10 ^ D = P at *
  have hcases : c ≤ 4 ∨ c = 5 ∨ 6 ≤ c := by omega
  have b1 : c ≤ 4 → c * P ≤ 4 * P := fun h => Nat.mul_le_mul_right _ h
  have b2 : 6 ≤ c → 6 * P ≤ c * P := fun h => Nat.mul_le_mul_right _ h
  refine ⟨by omega, by omega, ?_, ?_⟩
  · rcases hcases with h1 | h1 | h1
    · have := b1 h1; omega
    · subst h1; omega
    · have := b2 h1; omega
  · rcases hcases with h1 | h1 | h1
    · have := b1 h1; omega
    · subst h1; omega
    · have := b2 h1; omega

end Fs
end Go.Proofs.YtellndmbllmjgaaGreatDoor
/- The second loop's step and its end; the whole number that a decimal is rounded to, as the true number's. Whole numbers alone. -/
set_option linter.unusedVariables false
namespace Go.Proofs.YtellndmbllmjgaaGreatDoor
namespace Fs

/-- Below one: the shift by the point's place stays below one. -/
theorem Dst.small_neg {B p q lo hi L R nd N E j : Nat} {f : Nat → Nat} {dp : Int} {tr : Bool} (h : Dst B p q lo hi L R f nd dp tr N E) (hj : dp = - (j : Int)) (h0 : 0 < j) (hB : j ≤ B) :
    N * 10 ^ E * 2 ^ pwt j < 10 ^ B := by
  have h1 := (h.place (D := B - j) (by omega)).2
  have h2 := pwt_le h0
  have h3 : N * 10 ^ E * 2 ^ pwt j ≤ N * 10 ^ E * 10 ^ j := Nat.mul_le_mul_left _ h2
  have h4 := Nat.mul_lt_mul_of_pos_right h1 (p10 j)
  rw [← Nat.pow_add, show B - j + j = B by omega] at h4
  omega
theorem Dst.first {B p q lo hi L R nd N E : Nat} {f : Nat → Nat} {tr : Bool} (h : Dst B p q lo hi L R f nd 0 tr N E) :
    (f 0 < 53 → N * 10 ^ E * 2 ^ pwt 0 < 10 ^ B) ∧ (53 ≤ f 0 → 10 ^ B ≤ 2 * (N * 10 ^ E)) := by
  have e := h.off
  have hp := h.row.pos
  have g := h.row.get 0 hp
  rw [Nat.sub_zero] at g
  have hlt : N / 10 ^ (nd - 1) < 10 := by
    rw [Nat.div_lt_iff_lt_mul (p10 _)]
    have := h.row.up
    rw [show nd = nd - 1 + 1 by omega, Nat.pow_succ] at this
    omega
  rw [Nat.mod_eq_of_lt hlt] at g
  have eB : 10 ^ B = 10 * 10 ^ (nd - 1) * 10 ^ E := by
    rw [show B = nd - 1 + 1 + E by omega, Nat.pow_add, Nat.pow_succ]; ac_rfl
  rw [eB]
  constructor
  · intro h1
    have h2 : N < 5 * 10 ^ (nd - 1) := (Nat.div_lt_iff_lt_mul (p10 _)).1 (by omega)
    have h3 : N * 2 < 10 * 10 ^ (nd - 1) := by omega
    calc _ = N * 2 * 10 ^ E := by rw [show pwt 0 = 1 by decide, Nat.pow_one]; ac_rfl
      _ < _ := Nat.mul_lt_mul_of_pos_right h3 (p10 E)
  · intro h1
    have h2 : 5 * 10 ^ (nd - 1) ≤ N := (Nat.le_div_iff_mul_le (p10 _)).1 (by omega)
    have h3 : 10 * 10 ^ (nd - 1) ≤ 2 * N := by omega
    calc _ ≤ 2 * N * 10 ^ E := Nat.mul_le_mul_right _ h3
      _ = _ := Nat.mul_assoc ..
/-- Its point doesn't pass. -/
theorem point_small {B N E m k : Nat} (hm : 10 ^ (m - 1) ≤ N * 2 ^ k) (h0 : 0 < m) (hv : N * 10 ^ E * 2 ^ k < 10 ^ B) : E + m ≤ B := by
  have h1 := Nat.mul_le_mul_right (10 ^ E) hm
  rw [← Nat.pow_add] at h1
  have h2 : 10 ^ (m - 1 + E) < 10 ^ B := by
    refine Nat.lt_of_le_of_lt h1 ?_
    calc _ = N * 10 ^ E * 2 ^ k := by ac_rfl
      _ < _ := hv
  rcases Nat.lt_or_ge (m - 1 + E) B with h3 | h3
  · omega
  · have := ten_mono h3; omega

/-- Whether the row is rounded up at its point. -/
def rupD (f : Nat → Nat) (nd : Nat) (dp : Int) (tr : Bool) : Bool :=
  if dp < 0 ∨ (nd : Int) ≤ dp then false
  else if f dp.toNat = 53 ∧ dp.toNat + 1 = nd then tr || (decide (0 < dp.toNat) && decide ((f (dp.toNat - 1) - 48) % 2 ≠ 0))
  else decide (53 ≤ f dp.toNat)

/-- The decimal's whole part, rounded, is the true number's. -/
theorem Dst.rounds {B p q lo hi L R nd N E U : Nat} {f : Nat → Nat} {dp : Int} {tr : Bool} (h : Dst B p q lo hi L R f nd dp tr N E) (hq : 0 < q) (last : N % 10 ≠ 0)
    (hB : 2 ≤ (B : Int) + dp) (h1 : lo ≤ U) (h2 : U ≤ hi) (h3 : B + 1 + L = U + R) (hv : N * 10 ^ E < 2 ^ 53 * 10 ^ B) :
    hvP N nd dp.toNat < 2 ^ 53 ∧ ∃ left, p * 2 ^ L = hvP N nd dp.toNat * (q * 2 ^ R) + left ∧ left < q * 2 ^ R ∧
      ((q * 2 ^ R < 2 * left ∨ (2 * left = q * 2 ^ R ∧ hvP N nd dp.toNat % 2 = 1)) ↔ rupD f nd dp tr = true) := by
  have hup := h.row.up
  rcases (by omega : dp < 0 ∨ 0 ≤ dp) with hd | hd
  · have e := h.end_neg hB hd
    have e0 : hvP N nd dp.toNat = 0 := by rw [show dp.toNat = 0 by omega]; exact hvP_zero hup
    rw [e0]
    obtain ⟨left, l1, l2, l3⟩ := h.cut.round (I := 0) hq (by decide) h1 h2 h3 (by omega) (by omega)
    refine ⟨by decide, left, l1, l2, l3.trans ?_⟩
    unfold rupD
    rw [if_pos (Or.inl hd)]
    constructor
    · intro h4; omega
    · intro h4; exact Bool.noConfusion h4
  · obtain ⟨d, rfl⟩ : ∃ d : Nat, dp = d := ⟨dp.toNat, by omega⟩
    rw [show (d : Int).toNat = d by omega]
    rcases Nat.lt_or_ge d nd with hdn | hdn
    · obtain ⟨a1, a2, a3, a4⟩ := h.end_mid hdn last
      have ei : hvP N nd d = N / 10 ^ (nd - d) := hvP_in (by omega)
      rw [ei]
      have hI : N / 10 ^ (nd - d) < 2 ^ 53 := by
        have : N / 10 ^ (nd - d) * 10 ^ B < 2 ^ 53 * 10 ^ B := Nat.lt_of_le_of_lt a1 hv
        exact Nat.lt_of_mul_lt_mul_right this
      obtain ⟨left, l1, l2, l3⟩ := h.cut.round hq hI h1 h2 h3 a1 a2
      refine ⟨hI, left, l1, l2, l3.trans ?_⟩
      rw [a3, a4]
      unfold rupD
      rw [if_neg (by omega), show (d : Int).toNat = d by omega]
      have odd : (decide (0 < d) && decide ((f (d - 1) - 48) % 2 ≠ 0)) = decide (N / 10 ^ (nd - d) % 2 = 1) := by
        rcases Nat.eq_zero_or_pos d with hd0 | hd0
        · subst hd0
          rw [Nat.sub_zero, Nat.div_eq_of_lt hup]; rfl
        · have g := h.row.get (d - 1) (by omega)
          rw [show nd - 1 - (d - 1) = nd - d by omega] at g
          have e2 : (f (d - 1) - 48) % 2 = N / 10 ^ (nd - d) % 2 := by omega
          rw [e2]
          have : decide (0 < d) = true := by simpa using hd0
          rw [this, Bool.true_and]
          rcases Nat.mod_two_eq_zero_or_one (N / 10 ^ (nd - d)) with h5 | h5 <;> rw [h5] <;> rfl
      by_cases hx : f d = 53 ∧ d + 1 = nd
      · rw [if_pos hx, odd]
        constructor
        · rintro (⟨_, h5⟩ | ⟨_, h5⟩)
          · exact (h5 hx).elim
          · rcases h5 with h5 | h5
            · rw [h5]; rfl
            · rw [h5]; simp
        · intro h5
          refine Or.inr ⟨hx, ?_⟩
          cases tr with
          | true => exact Or.inl rfl
          | false => right; simpa using h5
      · rw [if_neg hx]
        constructor
        · rintro (⟨h5, _⟩ | ⟨h5, _⟩)
          · simpa using h5
          · exact (hx h5).elim
        · intro h5
          exact Or.inl ⟨by simpa using h5, hx⟩
    · have a1 := h.end_over hdn
      have ei : hvP N nd d = N * 10 ^ (d - nd) := by
        unfold hvP
        rw [show d = d - nd + nd by omega, Nat.pow_add, ← Nat.mul_assoc, Nat.mul_div_cancel _ (p10 nd), show d - nd + nd - nd = d - nd by omega]
      rw [ei]
      have hI : N * 10 ^ (d - nd) < 2 ^ 53 := by
        rw [a1] at hv
        exact Nat.lt_of_mul_lt_mul_right hv
      obtain ⟨left, l1, l2, l3⟩ := h.cut.round (I := N * 10 ^ (d - nd)) hq hI h1 h2 h3 (by omega) (by
        rw [a1]; exact Nat.mul_lt_mul_of_pos_right (by omega) (p10 B))
      refine ⟨hI, left, l1, l2, l3.trans ?_⟩
      rw [a1]
      unfold rupD
      rw [if_pos (Or.inr (by omega))]
      have e3 : (2 * (N * 10 ^ (d - nd)) + 1) * 10 ^ B = 2 * (N * 10 ^ (d - nd) * 10 ^ B) + 10 ^ B := by rw [Nat.add_mul, Nat.one_mul, Nat.mul_assoc 2]
      have := p10 B
      rw [e3]
      constructor
      · intro h4; omega
      · intro h4; exact Bool.noConfusion h4

end Fs
end Go.Proofs.YtellndmbllmjgaaGreatDoor
