/- The law, of every word of 64 bits. -/
import Derived.Test.YtgccphecpkllcaaDoorN1
set_option linter.unusedVariables false
namespace Go.Proofs.YtgccphecpkllcaaDoor
open Go.RowKit Go.Shelf Fl

theorem word_of (B : Nat) (h : B < 18446744073709551616) : ∃ s r, r < 9223372036854775808 ∧ B = wd s r := by
  by_cases h1 : B < 9223372036854775808
  · exact ⟨false, B, h1, by rw [wd_false]⟩
  · exact ⟨true, B - 9223372036854775808, by omega, by rw [wd_true]; omega⟩
theorem tab_drew {g : Nat} {tab : List Nat} {w : World} (h : TabAt g tab w) : TabAt g tab w.drew := h
theorem order_inf (s : Bool) : FloatKind.f64.format.order (wd s 9218868437227405312) (wd s 9218868437227405312) = some .eq := by
  cases s
  · rw [wd_false]; decide
  · rw [wd_true]; decide
theorem notNum_inf (s : Bool) : NotNum (wd s 9218868437227405312) := by
  have h : (FloatKind.f64.format.order (wd s 9218868437227405312) (wd s 9218868437227405312) != some .eq) = false := by rw [order_inf]; rfl
  cases s
  · refine Or.inr (Or.inl ⟨h, ?_⟩)
    rw [wd_false]; decide
  · refine Or.inr (Or.inr ⟨h, ?_, ?_⟩)
    · rw [wd_true]; decide
    · rw [wd_true]; decide
theorem notNum_nan (s : Bool) (r : Nat) (h : 9218868437227405312 < r) (h2 : r < 9223372036854775808) : NotNum (wd s r) := by
  have e : FloatKind.f64.format.order (wd s r) (wd s r) = none := order_nan _ s r h h2
  refine Or.inl ?_
  rw [e]; rfl
theorem below_drew2 (w : World) : Below w.heap.size w w.drew.drew := (Below.refl _ _).drew.drew
/-- **NumBits, of every word.** -/
theorem numBits_any (B : Nat) (hB : B < 18446744073709551616) (w : World) (hT : TabAt 1 Lib.deBruijn64tab w) :
    Calls Tryd.prog 3 #[.int .u64 (B : Int)] w fun e w' => e = .returned (.bool true) ∧ Below w.heap.size w w' := by
  obtain ⟨s, r, hr, rfl⟩ := word_of B hB
  rcases Nat.lt_trichotomy r 9218868437227405312 with h | h | h
  · have hn := num_notNaN s r h
    have ho := (num_orders s r h).1
    refine (numBits_walk _ _ _ w w w (int_num 5 (.inl rfl) _ hn ho w) (int_num 6 (.inr rfl) _ hn ho w) (same_self _ w) (u32_num s r h w hT) (refU_num s r h w) (int32_of _ _ w w (u32_num s r h w hT)) (refInt32_of _ _ w w (refU_num s r h w))).mono ?_
    rintro e w' ⟨rfl, rfl⟩
    exact ⟨rfl, Below.refl _ _⟩
  · subst h
    have hn : (Ieee.double.read (wd s 9218868437227405312)).isNaN = false := by rw [read_inf]; rfl
    have ho := order_inf s
    have hs := sub_inf s
    have hN := notNum_inf s
    refine (numBits_walk _ _ _ w w.drew w.drew.drew (int_num 5 (.inl rfl) _ hn ho w) (int_num 6 (.inr rfl) _ hn ho w) (same_self _ w) (u32_not _ hs w) (refU_not _ hN _) (int32_of _ _ _ _ (u32_not _ hs _)) (refInt32_of _ _ _ _ (refU_not _ hN _))).mono ?_
    rintro e w' ⟨rfl, rfl⟩
    exact ⟨rfl, below_drew2 w⟩
  · have ho : FloatKind.f64.format.order (wd s r) (wd s r) = none := order_nan _ s r h hr
    have hs := sub_nan (wd s r) s r h hr
    have hN := notNum_nan s r h hr
    refine (numBits_walk _ _ _ w w.drew w.drew.drew (int_nan 5 (.inl rfl) _ ho w) (int_nan 6 (.inr rfl) _ ho w) (same_self _ w) (u32_not _ hs w) (refU_not _ hN _) (int32_of _ _ _ _ (u32_not _ hs _)) (refInt32_of _ _ _ _ (refU_not _ hN _))).mono ?_
    rintro e w' ⟨rfl, rfl⟩
    exact ⟨rfl, below_drew2 w⟩
end Go.Proofs.YtgccphecpkllcaaDoor
