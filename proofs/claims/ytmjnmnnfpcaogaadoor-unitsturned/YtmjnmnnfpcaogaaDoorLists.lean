/- Plain mathematics: the units of a list of bytes. -/
import Derived.Test.YtmjnmnnfpcaogaaDoorPlain
namespace Go.Proofs.YtmjnmnnfpcaogaaDoor
namespace Un

/-- What stands at the front of bytes: the code point (or half), and how many bytes it takes. -/
def ptL (bs : List Nat) : Nat × Nat := pointN bs.length (bs[0]?.getD 0) (bs[1]?.getD 0) (bs[2]?.getD 0) (bs[3]?.getD 0)

/-- The units of bytes. -/
def unitsL : Nat → List Nat → List Nat
  | 0, _ => []
  | f + 1, bs => if bs = [] then [] else unR (ptL bs).1 ++ unitsL f (bs.drop (ptL bs).2)

theorem decodeN_bounds (n b0 b1 b2 b3 : Nat) (hn : 1 ≤ n) (h0 : b0 < 256) : 1 ≤ (Lib.decodeN n b0 b1 b2 b3).2 ∧ (Lib.decodeN n b0 b1 b2 b3).2 ≤ n ∧ (Lib.decodeN n b0 b1 b2 b3).1 ≤ 1114111 := by
  unfold Lib.decodeN
  repeat' split
  all_goals simp only []
  all_goals omega

theorem pointN_bounds (n b0 b1 b2 b3 : Nat) (hn : 1 ≤ n) (h0 : b0 < 256) : 1 ≤ (pointN n b0 b1 b2 b3).2 ∧ (pointN n b0 b1 b2 b3).2 ≤ n ∧ (pointN n b0 b1 b2 b3).1 ≤ 1114111 := by
  unfold pointN
  split
  · simp only []; omega
  · exact decodeN_bounds n b0 b1 b2 b3 hn h0

theorem getD_byte {bs : List Nat} (hb : ∀ b ∈ bs, b < 256) (k : Nat) : bs[k]?.getD 0 < 256 := by
  by_cases h : k < bs.length
  · rw [List.getElem?_eq_getElem h]; exact hb _ (List.getElem_mem h)
  · rw [List.getElem?_eq_none (by omega)]; simp

theorem ptL_bounds (bs : List Nat) (h : bs ≠ []) (hb : ∀ b ∈ bs, b < 256) : 1 ≤ (ptL bs).2 ∧ (ptL bs).2 ≤ bs.length ∧ (ptL bs).1 ≤ 1114111 := by
  have hl : 1 ≤ bs.length := by
    cases bs with
    | nil => exact absurd rfl h
    | cons _ _ => simp
  exact pointN_bounds _ _ _ _ _ hl (getD_byte hb 0)

theorem unR_len (r : Nat) : 1 ≤ (unR r).length ∧ (unR r).length ≤ 2 := by
  unfold unR; split <;> simp
theorem unR_lt (r : Nat) (h : r ≤ 1114111) : ∀ u ∈ unR r, u < 65536 := by
  unfold unR
  intro u hu
  split at hu <;> simp at hu <;> omega

theorem unitsL_lt : ∀ (f : Nat) (bs : List Nat), (∀ b ∈ bs, b < 256) → ∀ u ∈ unitsL f bs, u < 65536
  | 0, bs, _ => by simp [unitsL]
  | f + 1, bs, hb => by
    unfold unitsL
    split
    · simp
    · rename_i h
      intro u hu
      rcases List.mem_append.1 hu with hu | hu
      · exact unR_lt _ (ptL_bounds bs h hb).2.2 u hu
      · exact unitsL_lt f _ (fun b hb' => hb b (List.mem_of_mem_drop hb')) u hu

theorem unitsL_nil (f : Nat) : unitsL f [] = [] := by cases f <;> simp [unitsL]

/-- More fuel than bytes turns nothing. -/
theorem unitsL_step (f : Nat) (bs : List Nat) (h : bs ≠ []) (hf : bs.length ≤ f) : unitsL f bs = unR (ptL bs).1 ++ unitsL (f - 1) (bs.drop (ptL bs).2) := by
  cases f with
  | zero => cases bs with
    | nil => exact absurd rfl h
    | cons _ _ => simp at hf
  | succ f => simp [unitsL, h]

theorem ptL_encR (r : Nat) (hr : r ≤ 1114111) (rest : List Nat) : ptL (encR r ++ rest) = (r, (encR r).length) := by
  have hl := encR_len r
  have hg : ∀ k, k < (encR r).length → (encR r)[k]?.getD 0 = (encR r ++ rest)[k]?.getD 0 := fun k hk => by rw [List.getElem?_append_left hk]
  exact pointN_encR r _ _ _ _ _ hr (by simp) (hg 0 (by omega)) (hg 1) (hg 2) (hg 3)

/-- The units of the bytes of code points. -/
theorem unitsL_flat : ∀ (rs : List Nat) (f : Nat), (∀ r ∈ rs, r ≤ 1114111) → (rs.flatMap encR).length ≤ f → unitsL f (rs.flatMap encR) = rs.flatMap unR
  | [], f, _, _ => by simp [unitsL_nil]
  | r :: rs, f, hr, hf => by
    have hl := encR_len r
    rw [List.flatMap_cons] at hf
    rw [List.length_append] at hf
    rw [List.flatMap_cons, List.flatMap_cons]
    rw [unitsL_step f (encR r ++ rs.flatMap encR) (by intro e; have := congrArg List.length e; simp at this; have h2 := this.1; rw [h2] at hl; simp at hl) (by rw [List.length_append]; omega)]
    rw [ptL_encR r (hr r (by simp))]
    simp only []
    rw [List.drop_left, unitsL_flat rs (f - 1) (fun x hx => hr x (by simp [hx])) (by omega)]

/-- **The units of the text of units are the units.** -/
theorem unitsL_back (us : List Nat) (hu : ∀ u ∈ us, u < 65536) (f : Nat) (hf : ((pts us).flatMap encR).length ≤ f) : unitsL f ((pts us).flatMap encR) = us := by
  rw [unitsL_flat _ f (pts_lt us hu) hf, pts_unR us hu]

end Un
end Go.Proofs.YtmjnmnnfpcaogaaDoor
