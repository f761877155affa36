/- The statement's own walks: hex, pick. -/
import Derived.Test.YtpaaladlddifjaaGreatDoorT1
set_option linter.unusedVariables false
namespace Go.Proofs.YtpaaladlddifjaaGreatDoor
open Go.RowKit Re

theorem pick_any (x : Int) (hx1 : -9223372036854775808 ≤ x) (hx2 : x ≤ 9223372036854775807) (n : Nat) (h0 : 0 < n) (hn : n ≤ 100000) (w : World) : Calls Tryz.prog 6 #[.int .i64 x, .int .i64 (n : Int)] w fun e w' => ∃ k : Nat, k < n ∧ e = .returned (.int .i64 (k : Int)) ∧ w' = w := by
  have hz : ¬ (n : Int) = 0 := by omega
  by_cases h : x < 0
  · go_enter Tryz.func6, Tryz.ntmps6
    go_wp2
    go_ret
    have e : -(x + 1).tmod (n : Int) = (-(x + 1)) % (n : Int) := by
      rw [← Int.neg_tmod, Int.tmod_eq_emod_of_nonneg (by omega)]
    have b1 := Int.emod_nonneg (-(x + 1)) hz
    have b2 := Int.emod_lt_of_pos (-(x + 1)) (show (0 : Int) < n by omega)
    refine ⟨((-(x + 1)) % (n : Int)).toNat, by omega, ?_, rfl⟩
    rw [e, Int.toNat_of_nonneg b1]
    rfl
  · go_enter Tryz.func6, Tryz.ntmps6
    go_wp2
    go_ret
    have b1 := Int.emod_nonneg x hz
    have b2 := Int.emod_lt_of_pos x (show (0 : Int) < n by omega)
    refine ⟨(x % (n : Int)).toNat, by omega, ?_, rfl⟩
    rw [Int.toNat_of_nonneg b1]
    rfl
def hexS : ByteArray := ⟨#[48, 49, 50, 51, 52, 53, 54, 55, 56, 57, 97, 98, 99, 100, 101, 102]⟩
theorem dig_ext : ∀ d : Fin 16, (hexS.extract d.val (d.val + 1)).data.toList = [UInt8.ofNat (hd d.val)] := by decide +kernel
theorem dig_txt (d : Nat) (h : d < 16) : hexS.extract d (d + 1) = txt [hd d] := by
  apply ByteArray.ext
  apply Array.toList_inj.1
  rw [dig_ext ⟨d, h⟩, txt_list]
  rfl
theorem txt_append (a b : List Nat) : txt a ++ txt b = txt (a ++ b) := by
  apply ByteArray.ext
  apply Array.toList_inj.1
  simp [txt]
set_option maxRecDepth 100000 in
theorem hex_any (u : Nat) (hu : u < 65536) (w : World) : Calls Tryz.prog 4 #[.int .u16 (u : Int)] w fun e w' => e = .returned (.string (txt (esc u))) ∧ Kx [] w w' := by
  have b1 : (u : Int) / 4096 < 16 := by omega
  have b2 : (0 : Int) ≤ (u : Int) / 4096 := by omega
  have b3 : (u : Int) / 256 % 16 < 16 := by omega
  have b4 : (0 : Int) ≤ (u : Int) / 256 % 16 := by omega
  have b5 : (u : Int) / 16 % 16 < 16 := by omega
  have b6 : (0 : Int) ≤ (u : Int) / 16 % 16 := by omega
  have b7 : (u : Int) % 16 < 16 := by omega
  have b8 : (0 : Int) ≤ (u : Int) % 16 := by omega
  go_enter Tryz.func4, Tryz.ntmps4
  go_wp2
  go_quiet (fail)
  go_wp2
  go_ret
  refine ⟨?_, Kx.drewN _ _ _⟩
  show Ending.returned (Value.string (⟨#[92, 117]⟩ ++ hexS.extract (u / 4096) (u / 4096 + 1) ++ hexS.extract (u / 256 % 16) (u / 256 % 16 + 1) ++ hexS.extract (u / 16 % 16) (u / 16 % 16 + 1) ++ hexS.extract (u % 16) (u % 16 + 1))) = _
  rw [dig_txt _ (by omega), dig_txt _ (by omega), dig_txt _ (by omega), dig_txt _ (by omega), show (⟨#[92, 117]⟩ : ByteArray) = txt [92, 117] from rfl, txt_append, txt_append, txt_append, txt_append]
  rfl
end Go.Proofs.YtpaaladlddifjaaGreatDoor
