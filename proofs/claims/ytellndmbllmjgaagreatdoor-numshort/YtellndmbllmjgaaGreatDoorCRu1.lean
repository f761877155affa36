/- The walks of digit, run, cutSign, cutHex. -/
import Derived.Test.YtellndmbllmjgaaGreatDoorCPf3
import Derived.Test.YtellndmbllmjgaaGreatDoorCNb1
set_option linter.unusedVariables false
namespace Go.Proofs.YtellndmbllmjgaaGreatDoor
open Go.RowKit Go.Shelf Go.Sort Fs Fl

set_option maxRecDepth 100000 in
theorem digit_dec (c : Nat) (h1 : 48 ≤ c) (h2 : c < 58) (w : World) : Calls Tryz.prog 95 #[.int .u8 (c : Int)] w fun e w' => e = .returned (.int .i64 ((c : Int) - 48)) ∧ w' = w := by
  go_enter Tryz.func95, Tryz.ntmps95
  go_wp2
  go_ret
  exact ⟨rfl, rfl⟩
/-- Signs that are no digit. -/
def Stop10 (c : Nat) : Prop := c = 46 ∨ c = 101 ∨ c = 43 ∨ c = 45 ∨ c = 73 ∨ c = 78
set_option maxRecDepth 100000 in
theorem digit_stop (c : Nat) (h : Stop10 c) (w : World) : Calls Tryz.prog 95 #[.int .u8 (c : Int)] w fun e w' => (∃ x : Int, 10 ≤ x ∧ x ≤ 36 ∧ e = .returned (.int .i64 x)) ∧ w' = w := by
  rcases h with rfl | rfl | rfl | rfl | rfl | rfl
  all_goals
    go_enter Tryz.func95, Tryz.ntmps95
    go_wp2
    go_ret
    exact ⟨⟨_, by decide, by decide, rfl⟩, rfl⟩
set_option maxRecDepth 100000 in
set_option maxHeartbeats 1000000 in
/-- run, to base ten: digits, then the end or a sign that is none. -/
theorem run_at (S : ByteArray) (A : List Nat) (hl : A.length ≤ S.size) (hs : S.size ≤ 100000) (hA : Dig A) (hat : ∀ k c, A[k]? = some c → ∀ h : k < S.size, (S[k]'h).toNat = c) (hend : ∀ h : A.length < S.size, Stop10 ((S[A.length]'h).toNat)) (w : World) :
    Calls Tryz.prog 54 #[.string S, .int .i64 10] w fun e w' => e = .returned (.int .i64 (A.length : Int)) ∧ w' = w := by
  have HAT := (show Hid _ from hat)
  have HE := (show Hid _ from hend)
  have HA : Hid (Dig A) := hA
  obtain ⟨N, hN⟩ : ∃ N, S.size = N := ⟨_, rfl⟩
  rw [hN] at hl hs
  clear hat hend hA
  go_enter Tryz.func54, Tryz.ntmps54
  go_wp2
  go_loopw [8] (fun vi wr => ∃ k : Nat, k ≤ A.length ∧ vi = .int .i64 (k : Int) ∧ wr = w) (fun vi _ => N - (intOf vi).toNat)
  case atStart => exact ⟨0, Nat.zero_le _, rfl, rfl⟩
  case round =>
    obtain ⟨k, hk, rfl, rfl⟩ := hrel
    rcases Nat.lt_or_eq_of_le hk with hlt | heq
    · obtain ⟨c, hc⟩ : ∃ c, A[k]? = some c := ⟨_, List.getElem?_eq_getElem hlt⟩
      have hg := HA.out c (List.mem_of_getElem? hc)
      have hkS : k < S.size := by omega
      have hac := HAT.out k c hc hkS
      have hkN : k < N := by omega
      have cd := digit_dec c hg.1 hg.2
      have hcl : (c : Int) - 48 < 10 := by omega
      have hcn : ¬ (10 : Int) ≤ (c : Int) - 48 := by omega
      clear hc hg
      go_wp2_with (first | (go_at_call 95; refine (cd _).mono ?_; rintro e w1 ⟨rfl, rfl⟩))
      exact ⟨⟨k + 1, hlt, by simp, trivial⟩, by simp [intOf]; omega⟩
    · rcases Nat.lt_or_eq_of_le hl with hlt | hle
      · have hkS : k < S.size := by omega
        have hkN : k < N := by omega
        have hst : Stop10 ((S[k]'hkS).toNat) := by subst heq; exact HE.out hkS
        obtain ⟨c, hc⟩ : ∃ c, (S[k]'hkS).toNat = c := ⟨_, rfl⟩
        rw [hc] at hst
        have cd := digit_stop c hst
        have HK : Hid (k = A.length) := heq
        clear hst heq hk
        go_wp2_with (first | (go_at_call 95; refine (cd _).mono ?_; rintro e w1 ⟨⟨x, hx1, hx2, rfl⟩, rfl⟩))
        go_ret
        exact ⟨by rw [← HK.out]; rfl, rfl⟩
      · have hkN : ¬ (k : Int) < (N : Int) := by omega
        have HK : Hid (N = A.length) := hle.symm
        have hkn : k = N := by omega
        subst hkn
        clear heq hk hle
        go_wp2
        go_ret
        exact ⟨by rw [← HK.out]; rfl, rfl⟩
end Go.Proofs.YtellndmbllmjgaaGreatDoor
