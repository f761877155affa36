/- The document's Uint32, of a finite word; both, of what is no finite number. -/
import Derived.Test.YtgccphecpkllcaaDoorR2
set_option linter.unusedVariables false
namespace Go.Proofs.YtgccphecpkllcaaDoor
open Go.RowKit Go.Shelf Fl

/-- The rung of a whole number. -/
def rungOf (n : Nat) : Nat := Ieee.double.nearest false n 0
theorem Wd.rung {n r : Nat} (h : Wd n r) : r = rungOf n := by
  unfold rungOf
  rcases h with ⟨rfl, rfl⟩ | ⟨M, L, hN, hL, rfl⟩
  · rw [nearest_zero, word_wd, wd_false]
  · rw [nearest_whole hN hL, wd_false]
theorem Mod_any (s : Bool) (n r : Nat) (h : Wd n r) (w : World) :
    Calls Tryd.prog 17 #[.float .f64 (wd s r), .float .f64 4751297606875873280] w fun e w' => e = .returned (.float .f64 (wd s (rungOf (n % 4294967296)))) ∧ w' = w := by
  refine (Mod_of (wd s r) 0 (fun x' => ∃ r', Wd (n % 4294967296) r' ∧ x' = wd s r') (fun w => mod_any s n r h w) w).mono ?_
  rintro e w' ⟨⟨x', ⟨r', hr', rfl⟩, rfl⟩, rfl⟩
  rw [hr'.rung]
  exact ⟨rfl, rfl⟩
theorem Wd_small {n : Nat} (h : n < 4294967296) : Wd n (rungOf n) := by
  by_cases h0 : n = 0
  · subst h0
    exact Or.inl ⟨rfl, by unfold rungOf; rw [nearest_zero, word_wd, wd_false]⟩
  · obtain ⟨M, L, hN, hL⟩ := norm_small h0 (by omega)
    exact Or.inr ⟨M, L, hN, by omega, by unfold rungOf; rw [nearest_whole hN (by omega), wd_false]⟩
theorem trunc_whole (s : Bool) (r : Nat) (h : r < 9218868437227405312) : ∃ t, Wd (wholeR r) t ∧ Ieee.double.write ((Ieee.double.read (wd s r)).integral .zero) = wd s t := by
  rw [trunc_wd s r h]
  by_cases h0 : wholeR r = 0
  · exact ⟨0, Or.inl ⟨h0, rfl⟩, by rw [h0, nearest_zero, word_wd]⟩
  · obtain ⟨M, L, hN, hL⟩ := norm_whole r h h0
    exact ⟨_, Or.inr ⟨M, L, hN, hL, rfl⟩, nearest_whole hN hL⟩
theorem num_notNaN (s : Bool) (r : Nat) (h : r < 9218868437227405312) : (Ieee.double.read (wd s r)).isNaN = false := by
  rw [read_wd s r h]; rfl
theorem max_wd : (18442240474082181119 : Nat) = wd true 9218868437227405311 := by rw [wd_true]
theorem num_orders (s : Bool) (r : Nat) (h : r < 9218868437227405312) : FloatKind.f64.format.order (wd s r) (wd s r) = some .eq ∧ (FloatKind.f64.format.order (wd s r) 9218868437227405311 == some .gt) = false ∧ (FloatKind.f64.format.order (wd s r) 18442240474082181119 == some .lt) = false := by
  have e1 : FloatKind.f64.format.order (wd s r) (wd s r) = some (compare (key s r) (key s r)) := order_key s s r r h h
  have e2 : FloatKind.f64.format.order (wd s r) 9218868437227405311 = some (compare (key s r) (key false 9218868437227405311)) := by
    have := order_key s false r 9218868437227405311 h (by omega)
    rw [wd_false] at this
    exact this
  have e3 : FloatKind.f64.format.order (wd s r) 18442240474082181119 = some (compare (key s r) (key true 9218868437227405311)) := by
    rw [max_wd]
    exact order_key s true r 9218868437227405311 h (by omega)
  have k1 : -(9218868437227405311 : Int) ≤ key s r ∧ key s r ≤ 9218868437227405311 := by
    cases s
    · rw [key_false]; omega
    · rw [key_true]; omega
  refine ⟨by rw [e1, cmp_eq], ?_, ?_⟩
  · rw [e2, key_false]
    rcases Int.lt_or_eq_of_le k1.2 with h1 | h1
    · rw [cmp_lt (by omega)]; rfl
    · rw [h1]
      exact congrArg (· == some Ordering.gt) (congrArg some (cmp_eq _))
  · rw [e3, key_true]
    rcases Int.lt_or_eq_of_le k1.1 with h1 | h1
    · rw [cmp_gt (by omega)]; rfl
    · rw [← h1]
      exact congrArg (· == some Ordering.lt) (congrArg some (cmp_eq _))
/-- **The document's Uint32, of a finite word.** -/
theorem refU_num (s : Bool) (r : Nat) (h : r < 9218868437227405312) (w : World) :
    Calls Tryd.prog 9 #[.float .f64 (wd s r)] w fun e w' => e = .returned (.int .u32 (key s (wholeR r) % 4294967296)) ∧ w' = w := by
  obtain ⟨o1, o2, o3⟩ := num_orders s r h
  have o1' : (FloatKind.f64.format.order (wd s r) (wd s r) != some .eq) = false := by rw [o1]; rfl
  obtain ⟨t, ht, htr⟩ := trunc_whole s r h
  have ct := trunc_any (wd s r) (num_notNaN s r h)
  rw [htr] at ct
  have cm := Mod_any s (wholeR r) t ht w
  generalize wholeR r = V at *
  have hn : V % 4294967296 < 4294967296 := Nat.mod_lt _ (by omega)
  obtain ⟨n, hnv⟩ : ∃ n, n = V % 4294967296 := ⟨_, rfl⟩
  rw [← hnv] at cm hn
  have hw := Wd_small hn
  have o4 := lt_zero s (rungOf n) hw.lt
  generalize rungOf n = q at *
  by_cases h0 : n = 0
  · have hq0 := hw.zero.2 h0
    subst hq0
    rw [show decide ((0 : Nat) ≠ 0) = false from rfl, Bool.and_false] at o4
    have hv : key s V % 4294967296 = 0 := by
      cases s
      · rw [key_false]; omega
      · rw [key_true]; omega
    rw [hv]
    exact refU_pos _ _ _ 0 w o1' o2 o3 ct cm o4 (conv_u32 _ 0 (u32_zero s))
  · have hq0 : q ≠ 0 := fun e => h0 (hw.zero.1 e)
    rw [decide_eq_true hq0, Bool.and_true] at o4
    obtain ⟨M, L, hN, hL, rfl⟩ : ∃ M L, Norm n M L ∧ L ≤ 1023 ∧ q = rungI M L := by
      rcases hw with ⟨e, _⟩ | hw
      · exact absurd e h0
      · exact hw
    have hL32 : L < 32 := by
      rcases Nat.lt_or_ge L 32 with h5 | h5
      · exact h5
      · have : (2 : Nat) ^ 32 ≤ 2 ^ L := Nat.pow_le_pow_right (by omega) h5
        have := hN.2.1
        omega
    cases s
    · have hv : key false V % 4294967296 = (n : Int) := by rw [key_false]; omega
      rw [hv]
      refine refU_pos _ _ _ (n : Int) w o1' o2 o3 ct cm o4 (conv_u32 _ _ ?_)
      rw [wd_false]
      exact u32_word hN hn (by omega)
    · obtain ⟨M', L', hN', hL'⟩ := norm_small (n := 4294967296 - n) (by omega) (by omega)
      have hv : key true V % 4294967296 = ((4294967296 - n : Nat) : Int) := by rw [key_true]; omega
      rw [hv]
      exact refU_neg _ _ _ (rungI M' L') _ w o1' o2 o3 ct cm o4 (fun ty w => run_float_arith w .add ty .f64 _ _ _ (add_y hN hL32 hN' hL')) (conv_u32 _ _ (u32_word hN' (by omega) hL'))
end Go.Proofs.YtgccphecpkllcaaDoor
