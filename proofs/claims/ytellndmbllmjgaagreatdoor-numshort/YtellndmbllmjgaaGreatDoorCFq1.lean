/- The walk of digitsHere. -/
import Derived.Test.YtellndmbllmjgaaGreatDoorCRu1
import Derived.Test.YtellndmbllmjgaaGreatDoorCCs1
import Derived.Deep.RegionWith
set_option linter.unusedVariables false
namespace Go.Proofs.YtellndmbllmjgaaGreatDoor
open Go.RowKit Go.Shelf Go.Sort Fs Fl
set_option maxRecDepth 100000 in
set_option maxHeartbeats 1000000 in
theorem dh_any (w : World) (a b k L : Nat) (S U : ByteArray) (hS : S.size ≤ 100000) (hkl : k + L ≤ S.size) (hab : a ≠ b) (ha : w.cell? ⟨a, 0, none⟩ = some (.int .i64 (k : Int))) (hb : w.cell? ⟨b, 0, none⟩ = some (.string S)) (hfz : w.frozen? ⟨a, 0, none⟩ = false) (hU : S.extract k S.size = U)
    (cr : ∀ w, Calls Tryz.prog 54 #[.string U, .int .i64 10] w fun e w' => e = .returned (.int .i64 (L : Int)) ∧ w' = w) :
    Calls Tryz.prog 147 #[.pointer (some ⟨a, 0, none⟩), .pointer (some ⟨b, 0, none⟩)] w fun e w' => e = .returned (.string (S.extract k (k + L))) ∧ w' = (w.setCell ⟨a, 0, none⟩ (.int .i64 ((k : Int) + (L : Int)))).drew := by
  have hk2 : (k : Int) ≤ (S.size : Int) := by omega
  go_enter Tryz.func147, Tryz.ntmps147
  go_wp2
  go_region_with (first | (go_at_call 54; refine (cr _).mono ?_; rintro e w1 ⟨rfl, rfl⟩))
  all_goals
    go_wp2
    go_ret
    exact ⟨rfl, rfl⟩
end Go.Proofs.YtellndmbllmjgaaGreatDoor
