/- Both Uint32s of what is no finite number; both Int32s; the law's walk. -/
import Derived.Test.YtgccphecpkllcaaDoorR3
set_option linter.unusedVariables false
namespace Go.Proofs.YtgccphecpkllcaaDoor
open Go.RowKit Go.Shelf Fl

theorem u32_not (x : Nat) (h : Ieee.double.sub x x = none) (w : World) : Calls Tryd.prog 8 #[.float .f64 x] w fun e w' => e = .returned (.int .u32 0) ∧ w' = w.drew := by
  have cf := finite_not x h w
  clear h
  go_enter Tryd.func8, Tryd.ntmps8
  go_wp2_with (first | (go_at_call 14; refine cf.mono ?_; rintro e w' ⟨rfl, rfl⟩) | go_in)
  go_ret
  exact ⟨rfl, rfl⟩
/-- What the document's Uint32 takes for no finite number. -/
def NotNum (x : Nat) : Prop := (FloatKind.f64.format.order x x != some .eq) = true ∨ ((FloatKind.f64.format.order x x != some .eq) = false ∧ (FloatKind.f64.format.order x 9218868437227405311 == some .gt) = true) ∨ ((FloatKind.f64.format.order x x != some .eq) = false ∧ (FloatKind.f64.format.order x 9218868437227405311 == some .gt) = false ∧ (FloatKind.f64.format.order x 18442240474082181119 == some .lt) = true)
set_option maxRecDepth 100000 in
set_option maxHeartbeats 1000000 in
theorem refU_not (x : Nat) (h : NotNum x) (w : World) : Calls Tryd.prog 9 #[.float .f64 x] w fun e w' => e = .returned (.int .u32 0) ∧ w' = w := by
  rcases h with o1 | ⟨o1, o2⟩ | ⟨o1, o2, o3⟩
  all_goals
    go_enter Tryd.func9, Tryd.ntmps9
    go_wp2
    go_ret
    exact ⟨rfl, rfl⟩
theorem int32_of (x : Nat) (v : Int) (w w1 : World) (c : Calls Tryd.prog 8 #[.float .f64 x] w fun e w' => e = .returned (.int .u32 v) ∧ w' = w1) :
    Calls Tryd.prog 10 #[.float .f64 x] w fun e w' => e = .returned (.int .i32 (wrap32 v)) ∧ w' = w1 := by
  go_enter Tryd.func10, Tryd.ntmps10
  go_wp2_with (first | (go_at_call 8; refine c.mono ?_; rintro e w' ⟨rfl, rfl⟩) | go_in)
  go_ret
  exact ⟨rfl, rfl⟩
theorem refInt32_of (x : Nat) (v : Int) (w w1 : World) (c : Calls Tryd.prog 9 #[.float .f64 x] w fun e w' => e = .returned (.int .u32 v) ∧ w' = w1) :
    Calls Tryd.prog 11 #[.float .f64 x] w fun e w' => e = .returned (.int .i32 (wrap32 v)) ∧ w' = w1 := by
  go_enter Tryd.func11, Tryd.ntmps11
  go_wp2_with (first | (go_at_call 9; refine c.mono ?_; rintro e w' ⟨rfl, rfl⟩) | go_in)
  go_ret
  exact ⟨rfl, rfl⟩
set_option maxRecDepth 100000 in
set_option maxHeartbeats 1000000 in
/-- The law's walk, over what its calls answer. -/
theorem numBits_walk (B a : Nat) (v : Int) (w w1 w2 : World)
    (c5 : Calls Tryd.prog 5 #[.float .f64 B] w fun e w' => e = .returned (.float .f64 a) ∧ w' = w)
    (c6 : Calls Tryd.prog 6 #[.float .f64 B] w fun e w' => e = .returned (.float .f64 a) ∧ w' = w)
    (c7 : Calls Tryd.prog 7 #[.float .f64 a, .float .f64 a] w fun e w' => e = .returned (.bool true) ∧ w' = w)
    (c8 : Calls Tryd.prog 8 #[.float .f64 B] w fun e w' => e = .returned (.int .u32 v) ∧ w' = w1)
    (c9 : Calls Tryd.prog 9 #[.float .f64 B] w1 fun e w' => e = .returned (.int .u32 v) ∧ w' = w1)
    (c10 : Calls Tryd.prog 10 #[.float .f64 B] w1 fun e w' => e = .returned (.int .i32 (wrap32 v)) ∧ w' = w2)
    (c11 : Calls Tryd.prog 11 #[.float .f64 B] w2 fun e w' => e = .returned (.int .i32 (wrap32 v)) ∧ w' = w2) :
    Calls Tryd.prog 3 #[.int .u64 (B : Int)] w fun e w' => e = .returned (.bool true) ∧ w' = w2 := by
  have x1 := Tryd.frombits (B : Int)
  rw [Int.toNat_natCast] at x1
  generalize wrap32 v = z at *
  go_enter Tryd.func3, Tryd.ntmps3
  go_wp2_with (first | (go_at_call 5; refine c5.mono ?_; rintro e w' ⟨rfl, rfl⟩) | (go_at_call 6; refine c6.mono ?_; rintro e w' ⟨rfl, rfl⟩) | (go_at_call 7; refine c7.mono ?_; rintro e w' ⟨rfl, rfl⟩) | (go_at_call 8; refine c8.mono ?_; rintro e w' ⟨rfl, rfl⟩) | (go_at_call 9; refine c9.mono ?_; rintro e w' ⟨rfl, rfl⟩) | (go_at_call 10; refine c10.mono ?_; rintro e w' ⟨rfl, rfl⟩) | (go_at_call 11; refine c11.mono ?_; rintro e w' ⟨rfl, rfl⟩) | go_in)
  go_ret
  exact ⟨rfl, rfl⟩
end Go.Proofs.YtgccphecpkllcaaDoor
