/- The walks of cutSign, cutHex. -/
import Derived.Test.YtellndmbllmjgaaGreatDoorCPf3
import Derived.Test.YtellndmbllmjgaaGreatDoorCNb1
set_option linter.unusedVariables false
namespace Go.Proofs.YtellndmbllmjgaaGreatDoor
open Go.RowKit Go.Shelf Go.Sort Fs Fl

set_option maxRecDepth 100000 in
set_option maxHeartbeats 1000000 in
theorem cutSign_minus (S : ByteArray) (hs : 0 < S.size) (hs2 : S.size ≤ 100000) (hp : Lib.hasPrefix S.data.toList [45] = true) (w : World) : Calls Tryz.prog 52 #[.string S] w fun e w' => e = .returned (.tuple #[.string (S.extract 1 S.size), .float .f64 13830554455654793216]) ∧ w' = w := by
  have cp := Tryz.strings_HasPrefix S ⟨#[45]⟩
  have hp' : Lib.hasPrefix S.data.toList (ByteArray.mk #[45]).data.toList = true := hp
  rw [hp'] at cp
  go_enter Tryz.func52, Tryz.ntmps52
  go_wp2_with (first | (go_at_call 77; refine (cp _).mono ?_; rintro e w' ⟨rfl, rfl⟩))
  go_ret2
  exact ⟨rfl, rfl⟩
set_option maxRecDepth 100000 in
set_option maxHeartbeats 1000000 in
theorem cutSign_plus (S : ByteArray) (hs : 0 < S.size) (hs2 : S.size ≤ 100000) (hp : Lib.hasPrefix S.data.toList [45] = false) (hq : Lib.hasPrefix S.data.toList [43] = true) (w : World) : Calls Tryz.prog 52 #[.string S] w fun e w' => e = .returned (.tuple #[.string (S.extract 1 S.size), .float .f64 4607182418800017408]) ∧ w' = w := by
  have cp := Tryz.strings_HasPrefix S ⟨#[45]⟩
  have hp' : Lib.hasPrefix S.data.toList (ByteArray.mk #[45]).data.toList = false := hp
  rw [hp'] at cp
  have cq := Tryz.strings_HasPrefix S ⟨#[43]⟩
  have hq' : Lib.hasPrefix S.data.toList (ByteArray.mk #[43]).data.toList = true := hq
  rw [hq'] at cq
  clear hp hq hp' hq'
  go_enter Tryz.func52, Tryz.ntmps52
  go_wp2_with (first | (go_at_call 77; first | (refine (cp _).mono ?_; rintro e w' ⟨rfl, rfl⟩) | (refine (cq _).mono ?_; rintro e w' ⟨rfl, rfl⟩)))
  go_ret2
  exact ⟨rfl, rfl⟩
set_option maxRecDepth 100000 in
set_option maxHeartbeats 1000000 in
theorem cutSign_none (S : ByteArray) (hp : Lib.hasPrefix S.data.toList [45] = false) (hq : Lib.hasPrefix S.data.toList [43] = false) (w : World) : Calls Tryz.prog 52 #[.string S] w fun e w' => e = .returned (.tuple #[.string S, .float .f64 4607182418800017408]) ∧ w' = w := by
  have cp := Tryz.strings_HasPrefix S ⟨#[45]⟩
  have hp' : Lib.hasPrefix S.data.toList (ByteArray.mk #[45]).data.toList = false := hp
  rw [hp'] at cp
  have cq := Tryz.strings_HasPrefix S ⟨#[43]⟩
  have hq' : Lib.hasPrefix S.data.toList (ByteArray.mk #[43]).data.toList = false := hq
  rw [hq'] at cq
  clear hp hq hp' hq'
  go_enter Tryz.func52, Tryz.ntmps52
  go_wp2_with (first | (go_at_call 77; first | (refine (cp _).mono ?_; rintro e w' ⟨rfl, rfl⟩) | (refine (cq _).mono ?_; rintro e w' ⟨rfl, rfl⟩)))
  go_ret2
  exact ⟨rfl, rfl⟩
set_option maxRecDepth 100000 in
set_option maxHeartbeats 1000000 in
/-- cutHex, where the second byte is neither x nor X. -/
theorem cutHex_no (S : ByteArray) (hs2 : S.size ≤ 100000) (h1 : ∀ h : 1 < S.size, (S[1]'h).toNat ≠ 120 ∧ (S[1]'h).toNat ≠ 88) (w : World) : Calls Tryz.prog 40 #[.string S] w fun e w' => e = .returned (.tuple #[.string S, .bool false]) ∧ w' = w := by
  obtain ⟨N, hN⟩ : ∃ N, S.size = N := ⟨_, rfl⟩
  rw [hN] at hs2
  rcases Nat.lt_or_ge N 2 with hlt | hge
  · have k1 : ¬ (2 : Int) ≤ (N : Int) := by omega
    clear h1
    go_enter Tryz.func40, Tryz.ntmps40
    go_wp2
    all_goals (go_ret2; exact ⟨rfl, rfl⟩)
  · have hl0 : 0 < S.size := by omega
    have hl1 : 1 < S.size := by omega
    obtain ⟨c0, hc0⟩ : ∃ c0, (S[0]'hl0).toNat = c0 := ⟨_, rfl⟩
    obtain ⟨c1, hc1⟩ : ∃ c1, (S[1]'hl1).toNat = c1 := ⟨_, rfl⟩
    have hn := h1 hl1
    rw [hc1] at hn
    have k1 : ((c1 : Int) == 120) = false := by rw [beq_eq_false_iff_ne]; omega
    have k2 : ((c1 : Int) == 88) = false := by rw [beq_eq_false_iff_ne]; omega
    clear h1 hn
    go_enter Tryz.func40, Tryz.ntmps40
    go_wp2
    all_goals (go_ret2; exact ⟨rfl, rfl⟩)
end Go.Proofs.YtellndmbllmjgaaGreatDoor
