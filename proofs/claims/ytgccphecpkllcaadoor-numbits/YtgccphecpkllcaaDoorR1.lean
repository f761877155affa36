/- The walk of the document's Uint32. -/
import Derived.Test.YtgccphecpkllcaaDoorM1
set_option linter.unusedVariables false
namespace Go.Proofs.YtgccphecpkllcaaDoor
open Go.RowKit Go.Shelf Fl

theorem Mod_of (x z : Nat) (P : Nat → Prop) (h : ∀ w, Calls Tryd.prog 23 #[.float .f64 x, .float .f64 4751297606875873280] w fun e w' => (∃ r', P r' ∧ e = .returned (.float .f64 r')) ∧ w' = w) (w : World) :
    Calls Tryd.prog 17 #[.float .f64 x, .float .f64 4751297606875873280] w fun e w' => (∃ r', P r' ∧ e = .returned (.float .f64 r')) ∧ w' = w := by
  go_enter Tryd.func17, Tryd.ntmps17
  go_wp2_with (first | (go_at_call 23; refine (h _).mono ?_; rintro e w' ⟨⟨r', hr', rfl⟩, rfl⟩) | go_in)
  go_ret
  exact ⟨⟨r', hr', rfl⟩, rfl⟩
/-- **mod, of the word of a whole number.** -/
theorem mod_any (s : Bool) (n r : Nat) (h : Wd n r) (w : World) :
    Calls Tryd.prog 23 #[.float .f64 (wd s r), .float .f64 4751297606875873280] w fun e w' => (∃ x', (∃ r', Wd (n % 4294967296) r' ∧ x' = wd s r') ∧ e = .returned (.float .f64 x')) ∧ w' = w := by
  have hlt := h.lt
  have A := ahead s r hlt
  have o5 := lt_zero s r hlt
  by_cases h0 : n = 0
  · have hr0 := h.zero.2 h0
    subst h0
    subst hr0
    rw [show decide ((0 : Nat) ≠ 0) = false from rfl, Bool.and_false] at o5
    have hoy : FloatKind.f64.format.order (wd s 0) 4751297606875873280 = some .lt := by cases s <;> decide
    have o6 : (FloatKind.f64.format.order (wd s 0) 4751297606875873280 == some .gt) = false := by rw [hoy]; rfl
    have o7 : (FloatKind.f64.format.order (wd s 0) 4751297606875873280 == some .eq) = false := by rw [hoy]; rfl
    refine (mod_small _ w A o5 o6 o7).mono ?_
    rintro e w' ⟨rfl, rfl⟩
    exact ⟨⟨_, ⟨0, Or.inl ⟨rfl, rfl⟩, rfl⟩, rfl⟩, rfl⟩
  · have hr0 : r ≠ 0 := fun e => h0 (h.zero.1 e)
    rw [decide_eq_true hr0, Bool.and_true] at o5
    refine (mod_num s n r (wd s r) h w A (fun e => ?_) (fun e => ?_) o5).mono ?_
    · subst e
      have := run_neg true r (by omega)
      rw [Bool.not_true, wd_false r] at this
      exact this
    · subst e
      exact wd_false r
    · rintro e w' ⟨⟨r', hr', rfl⟩, rfl⟩
      exact ⟨⟨_, ⟨r', hr', rfl⟩, rfl⟩, rfl⟩
end Go.Proofs.YtgccphecpkllcaaDoor
