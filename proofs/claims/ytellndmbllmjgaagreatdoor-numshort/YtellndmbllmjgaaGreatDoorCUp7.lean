/- What is written is read as the same word; one digit fewer never is. -/
import Derived.Test.YtellndmbllmjgaaGreatDoorCUpB
import Derived.Test.YtellndmbllmjgaaGreatDoorCFw
set_option linter.unusedVariables false
namespace Go.Proofs.YtellndmbllmjgaaGreatDoor
namespace Fs
open Fl

/-- D times 10 to the j (less 400) lies nearest to the word r. -/
def DecNear (D j r : Nat) : Prop := if 400 ≤ j then Near (D * 10 ^ (j - 400)) 1 r else Near D (10 ^ (400 - j)) r
theorem decNear_iff (D j r : Nat) : DecNear D j r ↔ Inn (LL (magR r) (expR r)) (UU (magR r) (expR r)) (magR r % 2) (D * BB j) := by
  unfold DecNear
  split
  · exact near_up r D j (by assumption)
  · exact near_down r D j (by omega)
theorem decNear_one {D j r R : Nat} (h1 : DecNear D j r) (h2 : DecNear D j R) : r = R := by
  unfold DecNear at h1 h2
  split at h1
  · rename_i h
    rw [if_pos h] at h2
    exact near_one (by decide) h1 h2
  · rename_i h
    rw [if_neg h] at h2
    exact near_one (Nat.pow_pos (by decide)) h1 h2
theorem told_near {r d J : Nat} (h : Told (magR r) (expR r) d J) : DecNear d J r := (decNear_iff d J r).2 h.isin
theorem told_fewer {r d J : Nat} (h : Told (magR r) (expR r) d J) (D k : Nat) (hk : J < k) : ¬ DecNear D k r := fun hn => h.none D k hk ((decNear_iff D k r).1 hn)
/-- **Read back.** -/
theorem read_back {r d J R : Nat} (h : Told (magR r) (expR r) d J) (hR : DecNear d J R) : R = r := decNear_one hR (told_near h)
/-- **One digit fewer.** -/
theorem read_fewer {r d J R D k : Nat} (h : Told (magR r) (expR r) d J) (hk : J < k) (hR : DecNear D k R) : R ≠ r := fun e => told_fewer h D k hk (e ▸ hR)
end Fs
end Go.Proofs.YtellndmbllmjgaaGreatDoor
