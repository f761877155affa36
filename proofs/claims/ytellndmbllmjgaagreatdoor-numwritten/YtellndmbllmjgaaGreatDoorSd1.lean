/- The walk of setDigits. -/
import Derived.Test.YtellndmbllmjgaaGreatDoorWkA
import Derived.RegionTactic
set_option linter.unusedVariables false
namespace Go.Proofs.YtellndmbllmjgaaGreatDoor
open Go.RowKit Go.Shelf Go.Sort Go.Lib Fs

abbrev encB : UInt8 → Value := fun (b : UInt8) => Value.int .u8 (b.toNat : Int)
theorem dg_toNat (u j : Nat) : ((Lib.dg u j).toNat : Int) = ((48 + u / 10 ^ j % 10 : Nat) : Int) := by
  unfold Lib.dg
  rw [UInt8.toNat_ofNat']
  have : u / 10 ^ j % 10 < 10 := Nat.mod_lt _ (by omega)
  omega
/-- Which of a number's lowest digits are 0. -/
theorem low_zero (d0 t k : Nat) (h : d0 % 10 ≠ 0) (hk : k ≤ t) : (d0 * 10 ^ t) / 10 ^ k % 10 = 0 ↔ k < t := by
  obtain ⟨j, rfl⟩ : ∃ j, t = k + j := ⟨t - k, by omega⟩
  rw [Nat.pow_add, Nat.mul_left_comm, Nat.mul_div_cancel_left _ (Nat.pow_pos (by omega))]
  cases j with
  | zero => simp; exact h
  | succ j =>
    rw [Nat.pow_succ, ← Nat.mul_assoc]
    simp
set_option maxRecDepth 100000 in
set_option maxHeartbeats 1000000 in
theorem setDigits_any (B u d0 t nd : Nat) (p : Int) (hu0 : 0 < u) (hu : u < 18446744073709551616) (hd : u = d0 * 10 ^ t) (hd0 : d0 % 10 ≠ 0) (hnd : nd = Lib.nDigits u) (htn : t < nd) (hn32 : nd ≤ 32) (hp0 : -100000 ≤ p) (hp1 : p ≤ 100000) (w : World)
    (hH : Holds encB w B 0 (Array.replicate nd (0 : UInt8))) :
    Calls Tryz.prog 218 #[.slice (some ⟨B, 0, none⟩) 32 32, .int .u64 (u : Int), .int .i64 p, .int .i64 (nd : Int)] w fun e w' => e = .returned (.tuple #[.int .i64 ((nd : Int) + p), .int .i64 ((nd - t : Nat) : Int)]) ∧ ∃ n v' dk, w' = (putRow encB w B 0 dk).drewN n ∧ FmtInv nd u 0 v' dk := by
  have hfmt := Tryz.internal_strconv_formatBase10 B 0 32 u (Array.replicate nd 0) w hH (by rw [Array.size_replicate, hnd]; exact Lib.lt_pow_nDigits u) hu (by rw [Array.size_replicate]; omega)
  rw [Array.size_replicate] at hfmt
  have HH := (show Hid _ from hH)
  have HD : Hid (u = d0 * 10 ^ t) := hd
  have HN : Hid (nd = Lib.nDigits u) := hnd
  clear hH hd hnd
  go_enter Tryz.func218, Tryz.ntmps218
  go_wp2_with (first | (go_at_call 230; refine hfmt.mono ?_; rintro e w' ⟨rfl, n, v', dk, rfl, hF⟩))
  obtain ⟨W, hW⟩ : ∃ W, W = (putRow encB w B 0 dk).drewN n := ⟨_, rfl⟩
  have hcell : ∀ j, j < nd → W.cell? ⟨B, j, none⟩ = some (.int .u8 ((48 + u / 10 ^ (nd - 1 - j) % 10 : Nat) : Int)) := by
    intro j hj
    rw [hW, World.cell?_drewN]
    have := cell?_putRow encB w B 0 _ dk HH.out (by rw [hF.size, Array.size_replicate]) j (by rw [hF.size]; exact hj)
    rw [Nat.zero_add] at this
    rw [this, hF.done j (Nat.zero_le _) hj, ← dg_toNat]
  have HF : Hid (FmtInv nd u 0 v' dk) := hF
  have HW : Hid (W = (putRow encB w B 0 dk).drewN n) := hW
  change Code.wp _ _ _ _ ((putRow encB w B 0 dk).drewN n)
  rw [← hW]
  clear hF hW hfmt
  go_loopw [3] (fun v wr => ∃ m : Nat, nd - t ≤ m ∧ m ≤ nd ∧ v = .int .i64 (m : Int) ∧ wr = W) (fun v _ => (RowKit.intOf v).toNat)
  case atStart => exact ⟨nd, by omega, Nat.le_refl _, rfl, rfl⟩
  case round =>
    obtain ⟨m, hm1, hm2, rfl, rfl⟩ := hrel
    obtain ⟨j, rfl⟩ : ∃ j, m = j + 1 := ⟨m - 1, by omega⟩
    have hc := hcell j (by omega)
    have hz := low_zero d0 t (nd - 1 - j) hd0 (by omega)
    rw [← HD.out] at hz
    clear hcell
    generalize hg : u / 10 ^ (nd - 1 - j) % 10 = g at *
    by_cases hlt : nd - 1 - j < t
    · have hg0 : g = 0 := hz.2 hlt
      subst hg0
      clear hz hg
      go_wp2
      go_roundw
      case rel => exact ⟨j, by omega, by omega, by go_num, trivial⟩
      case measure => simp [RowKit.intOf]
    · have hg0 : g ≠ 0 := fun h => hlt (hz.1 h)
      have t1 : (((48 + g : Nat) : Int) == 48) = false := by rw [beq_eq_false_iff_ne]; omega
      clear hz hg
      go_wp2
      go_ret2
      refine ⟨?_, n, v', dk, HW.out, HF.out⟩
      have : j + 1 = nd - t := by omega
      rw [← this]
      rfl
end Go.Proofs.YtellndmbllmjgaaGreatDoor
