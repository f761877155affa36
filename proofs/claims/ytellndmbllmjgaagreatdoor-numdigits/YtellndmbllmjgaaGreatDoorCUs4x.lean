/- The fewest digits, of those the nearest: what the three scaled numbers say. -/
import Derived.Test.YtellndmbllmjgaaGreatDoorCUs2x
set_option linter.unusedVariables false
namespace Go.Proofs.YtellndmbllmjgaaGreatDoor
namespace Fs

/-- Within the bounds: they belong to it (o is 0) or not. -/
def Inn (Lo Up o W : Nat) : Prop := if o = 0 then Lo ≤ W ∧ W ≤ Up else Lo < W ∧ W < Up
theorem Inn.mid {Lo Up o W1 W W2 : Nat} (h1 : Inn Lo Up o W1) (h2 : Inn Lo Up o W2) (a : W1 ≤ W) (b : W ≤ W2) : Inn Lo Up o W := by
  unfold Inn at *
  split at h1
  · rename_i h
    rw [if_pos h] at h2 ⊢
    omega
  · rename_i h
    rw [if_neg h] at h2 ⊢
    omega
theorem Inn.self {Lo Up o X : Nat} (h1 : Lo < X) (h2 : X < Up) : Inn Lo Up o X := by
  unfold Inn
  split
  · omega
  · omega
/-- The one of both neighbours on the grid B that is taken. -/
def Pick (X Lo Up o B d : Nat) : Prop :=
  (Inn Lo Up o (X / B * B) ∨ Inn Lo Up o ((X / B + 1) * B)) ∧
  (Inn Lo Up o ((X / B + 1) * B) ∧ (¬ Inn Lo Up o (X / B * B) ∨ B < 2 * (X % B) ∨ (2 * (X % B) = B ∧ X / B % 2 = 1)) → d = X / B + 1) ∧
  (¬ (Inn Lo Up o ((X / B + 1) * B) ∧ (¬ Inn Lo Up o (X / B * B) ∨ B < 2 * (X % B) ∨ (2 * (X % B) = B ∧ X / B % 2 = 1))) → d = X / B)
theorem floor_le (X B : Nat) : X / B * B ≤ X := Nat.div_mul_le_self X B
theorem floor_gt (X B : Nat) (hB : 0 < B) : X < (X / B + 1) * B := by
  have := Nat.lt_mul_div_succ X hB
  rw [Nat.mul_comm]
  exact this
/-- Where only one point of the grid lies within, it is taken. -/
theorem pick_of_one {X Lo Up o B d : Nat} (hB : 0 < B) (h1 : Lo < X) (h2 : X < Up) (hd : Inn Lo Up o (d * B)) (one : ∀ D, Inn Lo Up o (D * B) → D = d) : Pick X Lo Up o B d := by
  have f1 := floor_le X B
  have f2 := floor_gt X B hB
  have hX : Inn Lo Up o X := Inn.self h1 h2
  have hdl : d = X / B ∨ d = X / B + 1 := by
    rcases Nat.lt_trichotomy d (X / B) with h | h | h
    · have := one (X / B) (Inn.mid hd hX (Nat.mul_le_mul_right B (Nat.le_of_lt h)) f1)
      omega
    · exact Or.inl h
    · rcases Nat.lt_or_eq_of_le h with h3 | h3
      · have := one (X / B + 1) (Inn.mid hX hd (Nat.le_of_lt f2) (Nat.mul_le_mul_right B h))
        omega
      · exact Or.inr h3.symm
  rcases hdl with e | e
  · have hl : Inn Lo Up o (X / B * B) := by rw [← e]; exact hd
    have hu : ¬ Inn Lo Up o ((X / B + 1) * B) := fun h => by have := one _ h; omega
    exact ⟨Or.inl hl, fun h => absurd h.1 hu, fun _ => e⟩
  · have hu : Inn Lo Up o ((X / B + 1) * B) := by rw [← e]; exact hd
    have hl : ¬ Inn Lo Up o (X / B * B) := fun h => by have := one _ h; omega
    exact ⟨Or.inr hu, fun _ => e, fun h => absurd ⟨hu, Or.inl hl⟩ h⟩

theorem ceil_iff {u A B o : Nat} (ho : o < 2) (U : Unr u A B) (D : Nat) : (u + o + 3) / 4 ≤ D ↔ (if o = 0 then A ≤ D * B else A < D * B) := by
  have h := U (2 * D)
  have e : 2 * D * B = 2 * (D * B) := Nat.mul_assoc ..
  rw [e] at h
  split
  · subst o
    omega
  · have : o = 1 := by omega
    subst this
    omega
theorem floor_iff {u A B o : Nat} (ho : o < 2) (U : Unr u A B) (hA : 0 < A) (D : Nat) : D ≤ (u - o) / 4 ↔ (if o = 0 then D * B ≤ A else D * B < A) := by
  have h := U (2 * D)
  have h0 := U 0
  have e : 2 * D * B = 2 * (D * B) := Nat.mul_assoc ..
  rw [e] at h
  rw [Nat.zero_mul] at h0
  split
  · subst o
    omega
  · have : o = 1 := by omega
    subst this
    omega
theorem inn_iff {umin umax Lo Up B o : Nat} (ho : o < 2) (U1 : Unr umin Lo B) (U2 : Unr umax Up B) (hU : 0 < Up) (D : Nat) :
    Inn Lo Up o (D * B) ↔ (umin + o + 3) / 4 ≤ D ∧ D ≤ (umax - o) / 4 := by
  rw [ceil_iff ho U1 D, floor_iff ho U2 hU D]
  unfold Inn
  split
  · exact Iff.rfl
  · exact Iff.rfl

/-- Half up, of two the even one. -/
def rnd (u : Nat) : Nat := (u + 1 + u / 4 % 2) / 4
theorem rnd_is {um X B : Nat} (hB : 0 < B) (U3 : Unr um X B) :
    X / B = um / 4 ∧ (rnd um = X / B + 1 ↔ (B < 2 * (X % B) ∨ (2 * (X % B) = B ∧ X / B % 2 = 1))) ∧ (¬ (B < 2 * (X % B) ∨ (2 * (X % B) = B ∧ X / B % 2 = 1)) → rnd um = X / B) := by
  have f1 := floor_le X B
  have f2 := floor_gt X B hB
  have a1 := (U3 (2 * (X / B))).1
  have a2 := (U3 (2 * (X / B + 1))).1
  have a3 := U3 (2 * (X / B) + 1)
  have e1 : 2 * (X / B) * B = 2 * (X / B * B) := Nat.mul_assoc ..
  have e2 : 2 * (X / B + 1) * B = 2 * ((X / B + 1) * B) := Nat.mul_assoc ..
  have e3 : (2 * (X / B) + 1) * B = 2 * (X / B * B) + B := by rw [Nat.add_mul, Nat.one_mul, e1]
  have e4 : (X / B + 1) * B = X / B * B + B := by rw [Nat.add_mul, Nat.one_mul]
  have dm := Nat.div_add_mod X B
  rw [Nat.mul_comm] at dm
  rw [e1] at a1
  rw [e2] at a2
  rw [e3] at a3
  unfold rnd
  generalize X / B * B = q at *
  generalize X / B = f at *
  generalize X % B = l at *
  omega

/-- What is answered: the digits' number, and whether the grid is the next one. -/
def shortN (umin umax um o : Nat) : Nat × Nat :=
  let dmin := (umin + o + 3) / 4
  let dmax := (umax - o) / 4
  if dmin ≤ dmax / 10 * 10 then (dmax / 10, 1) else if dmin < dmax then (rnd um, 0) else (dmin, 0)
theorem ten_eq {Lo Up o B a b dmin dmax : Nat} (hin : ∀ D, Inn Lo Up o (D * B) ↔ dmin ≤ D ∧ D ≤ dmax) (hw : dmax < dmin + 10) (ha : Inn Lo Up o (10 * a * B)) (hb : Inn Lo Up o (10 * b * B)) : a = b := by
  rw [hin] at ha hb
  omega
theorem short_core {X Lo Up B o umin umax um : Nat} (hB : 0 < B) (ho : o < 2) (U1 : Unr umin Lo B) (U2 : Unr umax Up B) (U3 : Unr um X B) (hL0 : 0 < Lo) (h1 : Lo < X) (h2 : X < Up) (w10 : Up < Lo + 10 * B) (wB : B ≤ Up - Lo)
    (sk : (X - Lo = Up - X ∧ (o = 1 → B < Up - Lo ∨ X % B = 0)) ∨ (o = 0 ∧ 2 * (X - Lo) = Up - X)) :
    let dk := shortN umin umax um o
    0 < dk.1 ∧ Inn Lo Up o (dk.1 * (10 ^ dk.2 * B)) ∧ Pick X Lo Up o (10 ^ dk.2 * B) dk.1 ∧ (∀ D j, dk.2 < j → Inn Lo Up o (D * (10 ^ j * B)) → D * 10 ^ j = dk.1 * 10 ^ dk.2) := by
  have hin := inn_iff ho U1 U2 (by omega)
  intro dk
  have hdk : dk = shortN umin umax um o := rfl
  clear_value dk
  unfold shortN at hdk
  simp only at hdk
  have hLe : Lo ≤ (umin + o + 3) / 4 * B := by
    have := (ceil_iff ho U1 ((umin + o + 3) / 4)).1 (Nat.le_refl _)
    split at this <;> omega
  have hUe : (umax - o) / 4 * B ≤ Up := by
    have := (floor_iff ho U2 (by omega) ((umax - o) / 4)).1 (Nat.le_refl _)
    split at this <;> omega
  generalize hdmin : (umin + o + 3) / 4 = dmin at *
  generalize hdmax : (umax - o) / 4 = dmax at *
  have hmin0 : 0 < dmin := by
    rcases Nat.eq_zero_or_pos dmin with h | h
    · rw [h, Nat.zero_mul] at hLe; omega
    · exact h
  have hw : dmax < dmin + 10 := by
    rcases Nat.lt_or_ge dmax (dmin + 10) with h | h
    · exact h
    · have := Nat.mul_le_mul_right B h
      rw [Nat.add_mul] at this
      omega
  -- multiples of ten
  have tens : ∀ D j, 0 < j → Inn Lo Up o (D * (10 ^ j * B)) → ∃ a, D * 10 ^ j = 10 * a ∧ dmin ≤ 10 * a ∧ 10 * a ≤ dmax := by
    intro D j hj h
    obtain ⟨k, rfl⟩ : ∃ k, j = k + 1 := ⟨j - 1, by omega⟩
    have e : D * 10 ^ (k + 1) = 10 * (D * 10 ^ k) := by rw [Nat.pow_succ, ← Nat.mul_assoc, Nat.mul_comm]
    refine ⟨D * 10 ^ k, e, ?_⟩
    rw [← Nat.mul_assoc, e, hin] at h
    exact h
  by_cases c1 : dmin ≤ dmax / 10 * 10
  · rw [if_pos c1] at hdk
    subst hdk
    simp only
    have e1 : dmax / 10 * (10 ^ 1 * B) = dmax / 10 * 10 * B := by rw [Nat.pow_one, Nat.mul_assoc]
    have hd : Inn Lo Up o (dmax / 10 * (10 ^ 1 * B)) := by
      rw [e1, hin]
      omega
    refine ⟨by omega, hd, ?_, ?_⟩
    · refine pick_of_one (by rw [Nat.pow_one]; omega) h1 h2 hd ?_
      intro D hD
      obtain ⟨a, ea, ha⟩ := tens D 1 (by omega) hD
      rw [Nat.pow_one] at ea
      omega
    · intro D j hj hD
      obtain ⟨a, ea, ha⟩ := tens D j (by omega) hD
      rw [ea, Nat.pow_one]
      omega
  · rw [if_neg c1] at hdk
    have noten : ∀ D j, 0 < j → ¬ Inn Lo Up o (D * (10 ^ j * B)) := by
      intro D j hj h
      obtain ⟨a, ea, ha1, ha2⟩ := tens D j hj h
      omega
    have f1 := floor_le X B
    have f2 := floor_gt X B hB
    have e4 : (X / B + 1) * B = X / B * B + B := by rw [Nat.add_mul, Nat.one_mul]
    have dm := Nat.div_add_mod X B
    rw [Nat.mul_comm] at dm
    obtain ⟨r1, r2, r3⟩ := rnd_is hB U3
    -- the nearest lies within
    have hle : dmin ≤ dmax := by
      rcases Nat.lt_or_ge dmax dmin with h | h
      · exfalso
        rcases sk with ⟨s1, s2⟩ | ⟨s1, s2⟩
        · -- one of both neighbours
          by_cases hh : 2 * (X % B) ≤ B
          · have : Inn Lo Up o (X / B * B) := by
              unfold Inn
              split
              · omega
              · have o1 : o = 1 := by omega
                have := s2 o1
                omega
            rw [hin] at this
            omega
          · have : Inn Lo Up o ((X / B + 1) * B) := by
              unfold Inn
              split
              · omega
              · have o1 : o = 1 := by omega
                have := s2 o1
                omega
            rw [hin] at this
            omega
        · by_cases hh : Lo ≤ X / B * B
          · have : Inn Lo Up o (X / B * B) := by
              unfold Inn
              rw [if_pos s1]
              omega
            rw [hin] at this
            omega
          · have : Inn Lo Up o ((X / B + 1) * B) := by
              unfold Inn
              rw [if_pos s1]
              omega
            rw [hin] at this
            omega
      · exact h
    by_cases c2 : dmin < dmax
    · rw [if_pos c2] at hdk
      subst hdk
      simp only
      rw [Nat.pow_zero, Nat.one_mul]
      by_cases hup : (B < 2 * (X % B) ∨ (2 * (X % B) = B ∧ X / B % 2 = 1))
      · have er := r2.2 hup
        have hd : Inn Lo Up o ((X / B + 1) * B) := by
          unfold Inn
          rcases sk with ⟨s1, s2⟩ | ⟨s1, s2⟩
          · split
            · omega
            · have o1 : o = 1 := by omega
              have := s2 o1
              omega
          · rw [if_pos s1]
            omega
        refine ⟨by omega, by rw [er]; exact hd, ⟨Or.inr hd, fun _ => er, fun h => absurd ⟨hd, Or.inr hup⟩ h⟩, fun D j hj hD => absurd hD (noten D j hj)⟩
      · have er := r3 hup
        have hd : Inn Lo Up o (X / B * B) := by
          rcases sk with ⟨s1, s2⟩ | ⟨s1, s2⟩
          · unfold Inn
            split
            · omega
            · have o1 : o = 1 := by omega
              have := s2 o1
              omega
          · -- both bounds' two neighbours lie above
            rcases Nat.lt_or_ge (X / B * B) Lo with hh | hh
            · exfalso
              have g1 : ¬ dmin ≤ X / B := fun h => by
                have := (ceil_iff ho U1 (X / B)).1 (by rw [hdmin]; exact h)
                rw [if_pos s1] at this
                omega
              have g3 : Inn Lo Up o ((X / B + 2) * B) := by
                rw [hin]
                have g2 : dmin ≤ X / B + 1 := by
                  have := (hin (X / B + 1)).1
                  rcases Nat.lt_or_ge (X / B + 1) dmin with h | h
                  · exfalso
                    have := Nat.mul_le_mul_right B (show X / B + 1 ≤ dmin - 1 by omega)
                    have k1 : ¬ (dmin ≤ dmin - 1) := by omega
                    have k2 := mt (ceil_iff ho U1 (dmin - 1)).2 (by rw [hdmin]; exact k1)
                    rw [if_pos s1] at k2
                    omega
                  · exact h
                omega
              have e5 : (X / B + 2) * B = X / B * B + 2 * B := by rw [Nat.add_mul]
              unfold Inn at g3
              rw [if_pos s1, e5] at g3
              omega
            · unfold Inn
              rw [if_pos s1]
              omega
        have hd0 : 0 < X / B := by
          rcases Nat.eq_zero_or_pos (X / B) with h | h
          · rw [h, Nat.zero_mul] at hd
            unfold Inn at hd
            split at hd <;> omega
          · exact h
        refine ⟨by omega, by rw [er]; exact hd, ⟨Or.inl hd, fun h => ?_, fun _ => er⟩, fun D j hj hD => absurd hD (noten D j hj)⟩
        rcases h.2 with h3 | h3
        · exact absurd hd h3
        · exact absurd h3 hup
    · rw [if_neg c2] at hdk
      subst hdk
      simp only
      rw [Nat.pow_zero, Nat.one_mul]
      have hd : Inn Lo Up o (dmin * B) := by
        rw [hin]
        omega
      refine ⟨hmin0, hd, pick_of_one hB h1 h2 hd ?_, fun D j hj hD => absurd hD (noten D j hj)⟩
      intro D hD
      rw [hin] at hD
      omega
end Fs
end Go.Proofs.YtellndmbllmjgaaGreatDoor
/- The fewest digits of each float: the powers of ten that are taken, looked at one by one. -/
set_option linter.unusedVariables false
namespace Go.Proofs.YtellndmbllmjgaaGreatDoor
namespace Fs

/-- Two numbers that are not to be written out. -/
def Z76 : Nat := 2 ^ 1076
def K400 : Nat := 10 ^ 400
theorem Z76_pos : 0 < Z76 := by decide +kernel
theorem K400_pos : 0 < K400 := by decide +kernel
/-- The power of ten that is taken: by the exponent; at a power of two; how far its own table's row is moved. -/
def pI (t : Int) : Int := -(t * 78913 / 262144)
def skI (t : Int) : Int := -((t * 631305 - 261663) / 2097152)
def lpI (p : Int) : Int := p * 108853 / 32768
/-- What is so of each exponent. -/
def factB (e : Nat) (p : Int) : Bool :=
  let i := (p + 348).toNat
  let g := (400 - p).toNat
  let s := (1082 - (e : Int) - lpI p).toNat
  decide (56 ≤ p + 348) && decide (p + 348 < 673) && decide (5 ≤ 1082 - (e : Int) - lpI p) && decide (1082 - (e : Int) - lpI p ≤ 8) &&
  (2 ^ 11 * Tn i * 10 ^ g * Z76 == K400 * Td i * (2 ^ 132 * 2 ^ s * 2 ^ e))
def widthB (e : Nat) (p : Int) : Bool :=
  let B := 10 ^ (400 - p).toNat * Z76
  let P := 2 ^ e * K400
  decide (B ≤ 4 * P) && decide (4 * P < 10 * B)
def widthS (e : Nat) (p : Int) : Bool :=
  let B := 10 ^ (400 - p).toNat * Z76
  let P := 2 ^ e * K400
  decide (B ≤ 3 * P) && decide (3 * P < 10 * B)
def factsTo : Nat → Bool
  | 0 => true
  | e + 1 => factB e (pI ((e : Int) - 1074)) && widthB e (pI ((e : Int) - 1074)) && (e == 0 || (factB e (skI ((e : Int) - 1074)) && widthS e (skI ((e : Int) - 1074)))) && factsTo e
theorem factsTo_at : ∀ n e, factsTo n = true → e < n → factB e (pI ((e : Int) - 1074)) = true ∧ widthB e (pI ((e : Int) - 1074)) = true ∧ (0 < e → factB e (skI ((e : Int) - 1074)) = true ∧ widthS e (skI ((e : Int) - 1074)) = true)
  | 0, _, _, h => absurd h (by omega)
  | n + 1, e, hc, h => by
    simp only [factsTo, Bool.and_eq_true, Bool.or_eq_true, beq_iff_eq] at hc
    rcases Nat.lt_or_eq_of_le (Nat.le_of_lt_succ h) with h1 | h1
    · exact factsTo_at n e hc.2 h1
    · subst h1
      refine ⟨hc.1.1.1, hc.1.1.2, fun h0 => ?_⟩
      rcases hc.1.2 with h2 | h2
      · omega
      · exact h2
set_option maxRecDepth 100000 in
theorem facts_ok : factsTo 2046 = true := by decide +kernel
theorem facts (e : Nat) (h : e < 2046) : factB e (pI ((e : Int) - 1074)) = true ∧ widthB e (pI ((e : Int) - 1074)) = true ∧ (0 < e → factB e (skI ((e : Int) - 1074)) = true ∧ widthS e (skI ((e : Int) - 1074)) = true) := factsTo_at 2046 e facts_ok h

/-- At a power of two the number below lies half as near. -/
def Skew (M e : Nat) : Prop := M = 4503599627370496 ∧ 0 < e
instance (M e : Nat) : Decidable (Skew M e) := by unfold Skew; infer_instance
def pOf (M e : Nat) : Int := if Skew M e then skI ((e : Int) - 1074) else pI ((e : Int) - 1074)
def XX (M e : Nat) : Nat := 4 * M * 2 ^ e * K400
def LL (M e : Nat) : Nat := (4 * M * 2 ^ e - (if Skew M e then 2 ^ e else 2 * 2 ^ e)) * K400
def UU (M e : Nat) : Nat := (4 * M * 2 ^ e + 2 * 2 ^ e) * K400
/-- The number d times 10 to the i (less 400) tells the float M times 2 to the e (less 1074) with the fewest digits, of those the nearest. -/
structure Short (M e d i : Nat) : Prop where
  pos : 0 < d
  isin : Inn (LL M e) (UU M e) (M % 2) (d * (10 ^ i * Z76))
  pick : Pick (XX M e) (LL M e) (UU M e) (M % 2) (10 ^ i * Z76) d
  one : ∀ D j, i < j → Inn (LL M e) (UU M e) (M % 2) (D * (10 ^ j * Z76)) → D * 10 ^ j = d * 10 ^ i

theorem pOf_fact {M e : Nat} (he : e < 2046) : factB e (pOf M e) = true := by
  obtain ⟨f1, f2, f3⟩ := facts e he
  unfold pOf
  split
  · rename_i h
    exact (f3 h.2).1
  · exact f1
theorem cross {x T I Z L4 K D P Q a : Nat} (hP : 0 < P) (h1 : x * (4 * P) = L4 * (2048 * a)) (h2 : 2048 * T * I * Z = K * D * (2 ^ 132 * Q * P)) : x * T * (I * Z) = L4 * K * (4 * (D * (2 ^ 128 * Q * a))) := by
  apply Nat.eq_of_mul_eq_mul_right (show 0 < 4 * P by omega)
  have e1 : x * T * (I * Z) * (4 * P) = x * (4 * P) * (T * I * Z) := by grind
  have e2 : L4 * (2048 * a) * (T * I * Z) = L4 * a * (2048 * T * I * Z) := by grind
  rw [e1, h1, e2, h2]
  grind
/-- Unrounded scaling, for each float and its bounds. -/
theorem usc_at {M e sh x L4 hi lo : Nat} (he : e < 2046) (hsh : 11 ≤ sh) (hx0 : 0 < x) (hx : x < 2 ^ 64) (h9 : x % 2 ^ 9 = 0) (hxl : x * (4 * 2 ^ e) = L4 * 2 ^ sh)
    (hhi : hi < 2 ^ 64) (hlo : lo < 2 ^ 64) (hpm : pmOf (pOf M e + 348).toNat + lo = hi * 2 ^ 64) :
    Unr (uscaleN x hi lo (sh - 11 + (1082 - (e : Int) - lpI (pOf M e)).toNat)) (L4 * K400) (10 ^ (400 - pOf M e).toNat * Z76) := by
  have f := pOf_fact (M := M) he
  unfold factB at f
  simp only [Bool.and_eq_true, decide_eq_true_eq, beq_iff_eq] at f
  obtain ⟨⟨⟨⟨f1, f2⟩, f3⟩, f4⟩, f5⟩ := f
  generalize pOf M e = p at *
  obtain ⟨s, hs⟩ : ∃ s, s = (1082 - (e : Int) - lpI p).toNat := ⟨_, rfl⟩
  rw [← hs] at f5 ⊢
  obtain ⟨y, rfl⟩ : ∃ y, x = y * 2 ^ 9 := ⟨x / 2 ^ 9, by omega⟩
  have U := usc (p + 348).toNat (sh - 11 + s) y hi lo (by omega) (by omega) (by omega) (by omega) (by omega) hhi hlo hpm
  refine Unr.of_eq ?_ ?_ ?_ U
  · have := Nat.mul_pos (Td_pos (p + 348).toNat) (Nat.two_pow_pos (128 + (sh - 11 + s)))
    omega
  · exact Nat.mul_pos (Nat.pow_pos (by omega)) Z76_pos
  · obtain ⟨a, rfl⟩ : ∃ a, sh = 11 + a := ⟨sh - 11, by omega⟩
    rw [show 11 + a - 11 + s = s + a by omega, show 128 + (s + a) = 128 + s + a by omega, Nat.pow_add, Nat.pow_add]
    have h1 : y * 2 ^ 9 * (4 * 2 ^ e) = L4 * (2048 * 2 ^ a) := by rw [hxl, Nat.pow_add]
    exact cross (Nat.two_pow_pos e) h1 f5
theorem XL {M e : Nat} (hM : 0 < M) : XX M e - LL M e = (if Skew M e then 2 ^ e * K400 else 2 * (2 ^ e * K400)) ∧ LL M e < XX M e ∧ 0 < LL M e ∧ UU M e - XX M e = 2 * (2 ^ e * K400) ∧ XX M e < UU M e ∧ XX M e = M * (4 * (2 ^ e * K400)) := by
  have hP : 0 < 2 ^ e * K400 := Nat.mul_pos (Nat.two_pow_pos e) K400_pos
  have eX : XX M e = M * (4 * (2 ^ e * K400)) := by unfold XX; grind
  have eU : UU M e = XX M e + 2 * (2 ^ e * K400) := by unfold UU XX; rw [Nat.add_mul, Nat.mul_assoc 2]
  have h4 : 1 * (4 * (2 ^ e * K400)) ≤ M * (4 * (2 ^ e * K400)) := Nat.mul_le_mul_right _ hM
  have eL : LL M e = XX M e - (if Skew M e then 2 ^ e * K400 else 2 * (2 ^ e * K400)) := by
    unfold LL XX
    rw [Nat.sub_mul]
    split
    · rfl
    · rw [Nat.mul_assoc 2]
  rw [eL, eU, eX]
  generalize 2 ^ e * K400 = P at *
  generalize M * (4 * P) = X at *
  split <;> omega
/-- **The fewest digits.** -/
theorem shortest {M e sh hi lo x1 x2 : Nat} (hM : 0 < M) (he : e < 2046) (hsh : 11 ≤ sh) (hm : M * 2 ^ sh + 2 ^ (sh - 1) < 2 ^ 64)
    (hx1 : x1 + (if Skew M e then 2 ^ (sh - 2) else 2 ^ (sh - 1)) = M * 2 ^ sh) (hx2 : x2 = M * 2 ^ sh + 2 ^ (sh - 1))
    (hhi : hi < 2 ^ 64) (hlo : lo < 2 ^ 64) (hpm : pmOf (pOf M e + 348).toNat + lo = hi * 2 ^ 64) :
    let s := sh - 11 + (1082 - (e : Int) - lpI (pOf M e)).toNat
    let dk := shortN (uscaleN x1 hi lo s) (uscaleN x2 hi lo s) (uscaleN (M * 2 ^ sh) hi lo s) (M % 2)
    Short M e dk.1 ((400 - pOf M e).toNat + dk.2) := by
  intro s dk
  obtain ⟨b, rfl⟩ : ∃ b, sh = b + 2 := ⟨sh - 2, by omega⟩
  have q0 : 2 ^ (b + 2) = 4 * 2 ^ b := by rw [Nat.pow_add, Nat.mul_comm]
  have q1 : 2 ^ (b + 2 - 1) = 2 * 2 ^ b := by rw [show b + 2 - 1 = b + 1 by omega, Nat.pow_succ, Nat.mul_comm]
  have q2 : 2 ^ (b + 2 - 2) = 2 ^ b := by rw [show b + 2 - 2 = b by omega]
  have q9 : 2 ^ b % 2 ^ 9 = 0 := pow_mod (by omega)
  obtain ⟨c, hc⟩ := Nat.dvd_of_mod_eq_zero q9
  have hb0 := Nat.two_pow_pos b
  have eM : M * (4 * 2 ^ b) = 4 * (M * 2 ^ b) := Nat.mul_left_comm ..
  have e9 : M * 2 ^ b = 2 ^ 9 * (M * c) := by rw [hc, Nat.mul_left_comm]
  have hMb : 1 * 2 ^ b ≤ M * 2 ^ b := Nat.mul_le_mul_right _ hM
  rw [q0, q1] at hm
  rw [q0, q1, q2] at hx1
  rw [q0, q1] at hx2
  rw [eM] at hm hx1 hx2
  obtain ⟨g1, g2, g3, g4, g5, g6⟩ := XL (e := e) hM
  have U3 := usc_at (M := M) (sh := b + 2) (x := M * 2 ^ (b + 2)) (L4 := 4 * M * 2 ^ e) he hsh (by rw [q0, eM]; omega) (by rw [q0, eM]; omega) (by rw [q0, eM]; omega) (by grind) hhi hlo hpm
  have U2 := usc_at (M := M) (sh := b + 2) (x := x2) (L4 := 4 * M * 2 ^ e + 2 * 2 ^ e) he hsh (by omega) (by omega) (by omega) (by rw [q0, hx2]; grind) hhi hlo hpm
  have U1 := usc_at (M := M) (sh := b + 2) (x := x1) (L4 := 4 * M * 2 ^ e - (if Skew M e then 2 ^ e else 2 * 2 ^ e)) he hsh
    (by split at hx1 <;> omega) (by split at hx1 <;> omega) (by split at hx1 <;> omega)
    (by
      rw [q0, Nat.sub_mul]
      split
      · rename_i h
        rw [if_pos h] at hx1
        have : x1 = 4 * (M * 2 ^ b) - 2 ^ b := by omega
        rw [this, Nat.sub_mul]
        congr 1 <;> grind
      · rename_i h
        rw [if_neg h] at hx1
        have : x1 = 4 * (M * 2 ^ b) - 2 * 2 ^ b := by omega
        rw [this, Nat.sub_mul]
        congr 1 <;> grind) hhi hlo hpm
  have hwid : 10 ^ (400 - pOf M e).toNat * Z76 ≤ UU M e - LL M e ∧ UU M e < LL M e + 10 * (10 ^ (400 - pOf M e).toNat * Z76) := by
    obtain ⟨f1, f2, f3⟩ := facts e he
    by_cases hsk : Skew M e
    · have f4 := (f3 hsk.2).2
      unfold widthS at f4
      simp only [Bool.and_eq_true, decide_eq_true_eq] at f4
      have ep : pOf M e = skI ((e : Int) - 1074) := if_pos hsk
      rw [← ep] at f4
      rw [if_pos hsk] at g1
      omega
    · unfold widthB at f2
      simp only [Bool.and_eq_true, decide_eq_true_eq] at f2
      have ep : pOf M e = pI ((e : Int) - 1074) := if_neg hsk
      rw [← ep] at f2
      rw [if_neg hsk] at g1
      omega
  have hB : 0 < 10 ^ (400 - pOf M e).toNat * Z76 := Nat.mul_pos (Nat.pow_pos (by omega)) Z76_pos
  have hsk : (XX M e - LL M e = UU M e - XX M e ∧ (M % 2 = 1 → 10 ^ (400 - pOf M e).toNat * Z76 < UU M e - LL M e ∨ XX M e % (10 ^ (400 - pOf M e).toNat * Z76) = 0)) ∨ (M % 2 = 0 ∧ 2 * (XX M e - LL M e) = UU M e - XX M e) := by
    by_cases hsk : Skew M e
    · rw [if_pos hsk] at g1
      refine Or.inr ⟨by rw [hsk.1], by omega⟩
    · rw [if_neg hsk] at g1
      refine Or.inl ⟨by omega, fun _ => ?_⟩
      by_cases hlt : 10 ^ (400 - pOf M e).toNat * Z76 < UU M e - LL M e
      · exact Or.inl hlt
      · have : 10 ^ (400 - pOf M e).toNat * Z76 = 4 * (2 ^ e * K400) := by omega
        rw [this, g6]
        exact Or.inr (Nat.mul_mod_left ..)
  have core := short_core hB (Nat.mod_lt M (by omega)) U1 U2 U3 g3 g2 g5 hwid.2 hwid.1 hsk
  change 0 < dk.1 ∧ Inn (LL M e) (UU M e) (M % 2) (dk.1 * (10 ^ dk.2 * (10 ^ (400 - pOf M e).toNat * Z76))) ∧ Pick (XX M e) (LL M e) (UU M e) (M % 2) (10 ^ dk.2 * (10 ^ (400 - pOf M e).toNat * Z76)) dk.1 ∧ (∀ D j, dk.2 < j → Inn (LL M e) (UU M e) (M % 2) (D * (10 ^ j * (10 ^ (400 - pOf M e).toNat * Z76))) → D * 10 ^ j = dk.1 * 10 ^ dk.2) at core
  clear_value dk
  have eg : ∀ j, 10 ^ j * (10 ^ (400 - pOf M e).toNat * Z76) = 10 ^ ((400 - pOf M e).toNat + j) * Z76 := by
    intro j
    rw [← Nat.mul_assoc, ← Nat.pow_add, Nat.add_comm]
  obtain ⟨c1, c2, c3, c4⟩ := core
  rw [eg] at c2 c3
  refine ⟨c1, c2, c3, ?_⟩
  intro D j hj hD
  obtain ⟨k, rfl⟩ : ∃ k, j = (400 - pOf M e).toNat + k := ⟨j - (400 - pOf M e).toNat, by omega⟩
  rw [← eg] at hD
  have := c4 D k (by omega) hD
  rw [Nat.pow_add, Nat.pow_add, Nat.mul_left_comm, this, Nat.mul_left_comm]
end Fs
end Go.Proofs.YtellndmbllmjgaaGreatDoor
