/- The walks of white and of the document's own White. -/
import Derived.Test.YtmjnmnnfpcaogaaDoorRefT
import Derived.Test.YtmjnmnnfpcaogaaDoorShelf2
import Derived.Shelf.Unicode.PredsPay
import Derived.Shelf.Strings.CaseAny
set_option linter.unusedVariables false
namespace Go.Proofs.YtmjnmnnfpcaogaaDoor
open Go.RowKit Go.Shelf Go.Lib

/-- The table of blanks. -/
def zsT : RTab := { r16 := #[(32, 160, 128), (5760, 8192, 2432), (8193, 8202, 1), (8239, 8287, 48), (12288, 12288, 1)], r32 := #[], off := 1 }
theorem zsT_ok : RTabOk zsT := ⟨RgOk_of_B (by kernel_rfl), RgOk_of_B (by kernel_rfl), by decide, by decide, by decide, by decide⟩
/-- Is a unit white space? -/
def whiteU (u : Nat) : Bool := (u == 9 || u == 11 || u == 12 || u == 65279 || u == 10 || u == 13 || u == 8232 || u == 8233) || isGo zsT (u : Int)

set_option maxRecDepth 100000 in
theorem zs_small : ∀ u : Fin 128, isGo zsT ((u.val : Nat) : Int) = decide (u.val = 32) := by decide +kernel
theorem zs_160 : isGo zsT (160 : Int) = true := by decide +kernel

theorem beqI (u n : Nat) (m : Int) (hm : m = (n : Int)) : ((u : Int) == m) = (u == n) := by rw [Bool.eq_iff_iff]; simp; omega

set_option maxRecDepth 100000 in
set_option maxHeartbeats 4000000 in
theorem white_any (u : Nat) (hu : u < 65536) (w : World) (hZ : RVar 0 zsT w) :
    Calls Tryd.prog 27 #[.int .u16 (u : Int)] w fun e w' => e = .returned (.bool (whiteU u)) ∧ Below w.heap.size w w' := by
  obtain ⟨Tb, oT, hp, hA⟩ := hZ
  have cI := Tryd.unicode_Is_any Tb oT zsT (u : Int) w (by omega) (by omega) hA zsT_ok
  have b9 := beqI u 9 9 rfl; have b11 := beqI u 11 11 rfl; have b12 := beqI u 12 12 rfl; have bf := beqI u 65279 65279 rfl
  have b10 := beqI u 10 10 rfl; have b13 := beqI u 13 13 rfl; have b28 := beqI u 8232 8232 rfl; have b29 := beqI u 8233 8233 rfl
  have hW : Hid (whiteU u = ((u == 9 || u == 11 || u == 12 || u == 65279 || u == 10 || u == 13 || u == 8232 || u == 8233) || isGo zsT (u : Int))) := rfl
  generalize whiteU u = W at *
  generalize isGo zsT (u : Int) = G at *
  cases c9 : (u == 9)
  · rw [c9] at b9
    cases c11 : (u == 11)
    · rw [c11] at b11
      cases c12 : (u == 12)
      · rw [c12] at b12
        cases cf : (u == 65279)
        · rw [cf] at bf
          cases c10 : (u == 10)
          · rw [c10] at b10
            cases c13 : (u == 13)
            · rw [c13] at b13
              cases c28 : (u == 8232)
              · rw [c28] at b28
                cases c29 : (u == 8233)
                · rw [c29] at b29
                  have hWG : W = G := by rw [hW.out, c9, c11, c12, cf, c10, c13, c28, c29]; rfl
                  subst hWG
                  clear c9 c11 c12 cf c10 c13 c28 c29 hW
                  go_enter Tryd.func27, Tryd.ntmps27
                  go_wp2_with (first | (go_at_call 36; refine cI.mono ?_; rintro e w' ⟨rfl, hbw⟩) | go_in)
                  go_ret
                  exact ⟨rfl, hbw⟩
                · rw [c29] at b29
                  have hWG : W = true := by rw [hW.out, c29]; simp
                  subst hWG
                  clear c9 c11 c12 cf c10 c13 c28 c29 hW
                  go_enter Tryd.func27, Tryd.ntmps27
                  go_wp2
                  go_ret
                  exact ⟨rfl, Below.refl _ _⟩
              · rw [c28] at b28
                have hWG : W = true := by rw [hW.out, c28]; simp
                subst hWG
                clear c9 c11 c12 cf c10 c13 c28 hW b29
                go_enter Tryd.func27, Tryd.ntmps27
                go_wp2
                go_ret
                exact ⟨rfl, Below.refl _ _⟩
            · rw [c13] at b13
              have hWG : W = true := by rw [hW.out, c13]; simp
              subst hWG
              clear c9 c11 c12 cf c10 c13 hW b29 b28
              go_enter Tryd.func27, Tryd.ntmps27
              go_wp2
              go_ret
              exact ⟨rfl, Below.refl _ _⟩
          · rw [c10] at b10
            have hWG : W = true := by rw [hW.out, c10]; simp
            subst hWG
            clear c9 c11 c12 cf c10 hW b29 b28 b13
            go_enter Tryd.func27, Tryd.ntmps27
            go_wp2
            go_ret
            exact ⟨rfl, Below.refl _ _⟩
        · rw [cf] at bf
          have hWG : W = true := by rw [hW.out, cf]; simp
          subst hWG
          clear c9 c11 c12 cf hW b29 b28 b13 b10
          go_enter Tryd.func27, Tryd.ntmps27
          go_wp2
          go_ret
          exact ⟨rfl, Below.refl _ _⟩
      · rw [c12] at b12
        have hWG : W = true := by rw [hW.out, c12]; simp
        subst hWG
        clear c9 c11 c12 hW b29 b28 b13 b10 bf
        go_enter Tryd.func27, Tryd.ntmps27
        go_wp2
        go_ret
        exact ⟨rfl, Below.refl _ _⟩
    · rw [c11] at b11
      have hWG : W = true := by rw [hW.out, c11]; simp
      subst hWG
      clear c9 c11 hW b29 b28 b13 b10 bf b12
      go_enter Tryd.func27, Tryd.ntmps27
      go_wp2
      go_ret
      exact ⟨rfl, Below.refl _ _⟩
  · rw [c9] at b9
    have hWG : W = true := by rw [hW.out, c9]; simp
    subst hWG
    clear c9 hW b29 b28 b13 b10 bf b12 b11
    go_enter Tryd.func27, Tryd.ntmps27
    go_wp2
    go_ret
    exact ⟨rfl, Below.refl _ _⟩

set_option maxRecDepth 100000 in
set_option maxHeartbeats 4000000 in
theorem refWhite_any (u : Nat) (hu : u < 65536) (w : World) (hZ : RVar 0 zsT w) :
    Calls Tryd.prog 26 #[.int .u16 (u : Int)] w fun e w' => e = .returned (.bool (whiteU u)) ∧ Below w.heap.size w w' := by
  obtain ⟨Tb, oT, hp, hA⟩ := hZ
  have cI := Tryd.unicode_Is_any Tb oT zsT (u : Int) w (by omega) (by omega) hA zsT_ok
  have b10 := beqI u 10 10 rfl
  have b13 := beqI u 13 13 rfl
  have b8232 := beqI u 8232 8232 rfl
  have b8233 := beqI u 8233 8233 rfl
  have b9 := beqI u 9 9 rfl
  have b11 := beqI u 11 11 rfl
  have b12 := beqI u 12 12 rfl
  have b32 := beqI u 32 32 rfl
  have b160 := beqI u 160 160 rfl
  have b65279 := beqI u 65279 65279 rfl
  have g32 : (u == 32) = true → isGo zsT (u : Int) = true := fun h => by
    have e : u = 32 := by simpa using h
    subst e
    exact zs_small ⟨32, by omega⟩
  have g160 : (u == 160) = true → isGo zsT (u : Int) = true := fun h => by
    have e : u = 160 := by simpa using h
    subst e
    exact zs_160
  have gsm : u ≤ 127 → (u == 32) = false → isGo zsT (u : Int) = false := fun h1 h2 => by
    have := zs_small ⟨u, by omega⟩
    rw [this]
    simpa using h2
  have hW : Hid (whiteU u = ((u == 9 || u == 11 || u == 12 || u == 65279 || u == 10 || u == 13 || u == 8232 || u == 8233) || isGo zsT (u : Int))) := rfl
  generalize whiteU u = W at *
  generalize isGo zsT (u : Int) = G at *
  cases c10 : (u == 10)
  · rw [c10] at b10
    cases c13 : (u == 13)
    · rw [c13] at b13
      cases c8232 : (u == 8232)
      · rw [c8232] at b8232
        cases c8233 : (u == 8233)
        · rw [c8233] at b8233
          cases c9 : (u == 9)
          · rw [c9] at b9
            cases c11 : (u == 11)
            · rw [c11] at b11
              cases c12 : (u == 12)
              · rw [c12] at b12
                cases c32 : (u == 32)
                · rw [c32] at b32
                  cases c160 : (u == 160)
                  · rw [c160] at b160
                    cases c65279 : (u == 65279)
                    · rw [c65279] at b65279
                      have hWG : W = G := by rw [hW.out, c9, c11, c12, c65279, c10, c13, c8232, c8233]; rfl
                      by_cases h127 : u ≤ 127
                      · have hG : G = false := gsm h127 c32
                        subst hWG
                        subst hG
                        have h1 : ¬ (127 : Int) < (u : Int) := by omega
                        clear c10 c13 c8232 c8233 c9 c11 c12 c32 c160 c65279 hW g32 g160 gsm
                        go_enter Tryd.func26, Tryd.ntmps26
                        go_wp2
                        go_ret
                        exact ⟨rfl, Below.refl _ _⟩
                      · subst hWG
                        have h1 : (127 : Int) < (u : Int) := by omega
                        clear c10 c13 c8232 c8233 c9 c11 c12 c32 c160 c65279 hW g32 g160 gsm
                        go_enter Tryd.func26, Tryd.ntmps26
                        go_wp2_with (first | (go_at_call 36; refine cI.mono ?_; rintro e w' ⟨rfl, hbw⟩) | go_in)
                        go_ret
                        exact ⟨rfl, hbw⟩
                    · rw [c65279] at b65279
                      have hWG : W = true := by rw [hW.out, c65279]; simp
                      subst hWG
                      clear c10 c13 c8232 c8233 c9 c11 c12 c32 c160 c65279  hW g32 g160 gsm
                      go_enter Tryd.func26, Tryd.ntmps26
                      go_wp2
                      go_ret
                      exact ⟨rfl, Below.refl _ _⟩
                  · rw [c160] at b160
                    have hWG : W = true := by rw [hW.out, g160 c160]; simp
                    subst hWG
                    clear c10 c13 c8232 c8233 c9 c11 c12 c32 c160 b65279 hW g32 g160 gsm
                    go_enter Tryd.func26, Tryd.ntmps26
                    go_wp2
                    go_ret
                    exact ⟨rfl, Below.refl _ _⟩
                · rw [c32] at b32
                  have hWG : W = true := by rw [hW.out, g32 c32]; simp
                  subst hWG
                  clear c10 c13 c8232 c8233 c9 c11 c12 c32 b160 b65279 hW g32 g160 gsm
                  go_enter Tryd.func26, Tryd.ntmps26
                  go_wp2
                  go_ret
                  exact ⟨rfl, Below.refl _ _⟩
              · rw [c12] at b12
                have hWG : W = true := by rw [hW.out, c12]; simp
                subst hWG
                clear c10 c13 c8232 c8233 c9 c11 c12 b32 b160 b65279 hW g32 g160 gsm
                go_enter Tryd.func26, Tryd.ntmps26
                go_wp2
                go_ret
                exact ⟨rfl, Below.refl _ _⟩
            · rw [c11] at b11
              have hWG : W = true := by rw [hW.out, c11]; simp
              subst hWG
              clear c10 c13 c8232 c8233 c9 c11 b12 b32 b160 b65279 hW g32 g160 gsm
              go_enter Tryd.func26, Tryd.ntmps26
              go_wp2
              go_ret
              exact ⟨rfl, Below.refl _ _⟩
          · rw [c9] at b9
            have hWG : W = true := by rw [hW.out, c9]; simp
            subst hWG
            clear c10 c13 c8232 c8233 c9 b11 b12 b32 b160 b65279 hW g32 g160 gsm
            go_enter Tryd.func26, Tryd.ntmps26
            go_wp2
            go_ret
            exact ⟨rfl, Below.refl _ _⟩
        · rw [c8233] at b8233
          have hWG : W = true := by rw [hW.out, c8233]; simp
          subst hWG
          clear c10 c13 c8232 c8233 b9 b11 b12 b32 b160 b65279 hW g32 g160 gsm
          go_enter Tryd.func26, Tryd.ntmps26
          go_wp2
          go_ret
          exact ⟨rfl, Below.refl _ _⟩
      · rw [c8232] at b8232
        have hWG : W = true := by rw [hW.out, c8232]; simp
        subst hWG
        clear c10 c13 c8232 b8233 b9 b11 b12 b32 b160 b65279 hW g32 g160 gsm
        go_enter Tryd.func26, Tryd.ntmps26
        go_wp2
        go_ret
        exact ⟨rfl, Below.refl _ _⟩
    · rw [c13] at b13
      have hWG : W = true := by rw [hW.out, c13]; simp
      subst hWG
      clear c10 c13 b8232 b8233 b9 b11 b12 b32 b160 b65279 hW g32 g160 gsm
      go_enter Tryd.func26, Tryd.ntmps26
      go_wp2
      go_ret
      exact ⟨rfl, Below.refl _ _⟩
  · rw [c10] at b10
    have hWG : W = true := by rw [hW.out, c10]; simp
    subst hWG
    clear c10 b13 b8232 b8233 b9 b11 b12 b32 b160 b65279 hW g32 g160 gsm
    go_enter Tryd.func26, Tryd.ntmps26
    go_wp2
    go_ret
    exact ⟨rfl, Below.refl _ _⟩
end Go.Proofs.YtmjnmnnfpcaogaaDoor
