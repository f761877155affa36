/- The pattern of units alone: plain mathematics. -/
namespace Go.Proofs.YtpaaladlddifjaaGreatDoor
namespace Re

/-- A digit to the base 16. -/
def hd (d : Nat) : Nat := if d < 10 then 48 + d else 87 + d
theorem hd_lt {d : Nat} (h : d < 16) : hd d < 128 := by unfold hd; split <;> omega
/-- A unit as an escape. -/
def esc (u : Nat) : List Nat := [92, 117, hd (u / 4096), hd (u / 256 % 16), hd (u / 16 % 16), hd (u % 16)]
theorem esc_len (u : Nat) : (esc u).length = 6 := rfl
def pat (us : List Nat) : List Nat := us.flatMap esc
theorem pat_nil : pat [] = [] := rfl
theorem pat_append (a b : List Nat) : pat (a ++ b) = pat a ++ pat b := by simp [pat]
theorem pat_len : ∀ (us : List Nat), (pat us).length = 6 * us.length
  | [] => rfl
  | u :: us => by
    have := pat_len us
    simp only [pat, List.flatMap_cons, List.length_append, List.length_cons, esc_len] at *
    omega
theorem esc_lt {u : Nat} (h : u < 65536) : ∀ b ∈ esc u, b < 128 := by
  intro b hb
  simp only [esc, List.mem_cons, List.not_mem_nil, or_false] at hb
  rcases hb with rfl | rfl | rfl | rfl | rfl | rfl
  · omega
  · omega
  all_goals exact hd_lt (by omega)
theorem pat_lt {us : List Nat} (h : ∀ u ∈ us, u < 65536) : ∀ b ∈ pat us, b < 128 := by
  intro b hb
  obtain ⟨u, hu, hb⟩ := List.mem_flatMap.1 hb
  exact esc_lt (h u hu) b hb
/-- The unit at a place of the pattern. -/
theorem pat_at : ∀ (us : List Nat) (i j : Nat), i < us.length → j < 6 → (pat us)[6 * i + j]? = (esc (us[i]?.getD 0))[j]?
  | [], i, j, h, _ => by simp at h
  | u :: us, 0, j, _, hj => by
    have : j < (esc u).length := by rw [esc_len]; exact hj
    simp only [pat, List.flatMap_cons, Nat.mul_zero, Nat.zero_add]
    rw [List.getElem?_append_left this]
    rfl
  | u :: us, i + 1, j, h, hj => by
    simp only [pat, List.flatMap_cons]
    rw [List.getElem?_append_right (by rw [esc_len]; omega), esc_len]
    rw [show 6 * (i + 1) + j - 6 = 6 * i + j by omega]
    have := pat_at us i j (by simpa using h) hj
    rw [pat] at this
    rw [this]
    rfl
/-- Does what stand at a place of the text? -/
def Here (what text : List Nat) (i : Nat) : Prop := i + what.length ≤ text.length ∧ ∀ k, k < what.length → text[i + k]?.getD 0 = what[k]?.getD 0
end Re
end Go.Proofs.YtpaaladlddifjaaGreatDoor
