/- Digits as bytes, and what they count. -/
import Derived.Test.YtellndmbllmjgaaGreatDoorCTd
set_option linter.unusedVariables false
namespace Go.Proofs.YtellndmbllmjgaaGreatDoor
namespace Fs

/-- What digits count. -/
def vD (l : List Nat) : Nat := l.foldl (fun a c => a * 10 + (c - 48)) 0
/-- Digits alone. -/
def Dig (l : List Nat) : Prop := ∀ c ∈ l, 48 ≤ c ∧ c < 58
theorem vD_from (l : List Nat) : ∀ a : Nat, l.foldl (fun a c => a * 10 + (c - 48)) a = a * 10 ^ l.length + vD l := by
  induction l with
  | nil => intro a; simp [vD]
  | cons c l ih =>
    intro a
    have h1 := ih (a * 10 + (c - 48))
    have h2 := ih (0 * 10 + (c - 48))
    unfold vD
    rw [List.foldl_cons, List.foldl_cons, h1, h2, List.length_cons, Nat.pow_succ]
    grind
theorem vD_nil : vD [] = 0 := rfl
theorem vD_append (l m : List Nat) : vD (l ++ m) = vD l * 10 ^ m.length + vD m := by
  have : vD (l ++ m) = m.foldl (fun a c => a * 10 + (c - 48)) (vD l) := by unfold vD; rw [List.foldl_append]
  rw [this, vD_from]
theorem vD_one (c : Nat) : vD [c] = c - 48 := by simp [vD]
theorem vD_snoc (l : List Nat) (c : Nat) : vD (l ++ [c]) = vD l * 10 + (c - 48) := by rw [vD_append, vD_one]; simp
theorem vD_cons (c : Nat) (l : List Nat) : vD (c :: l) = (c - 48) * 10 ^ l.length + vD l := by
  have := vD_append [c] l
  rwa [vD_one, List.singleton_append] at this
theorem vD_zeros : ∀ t, vD (List.replicate t 48) = 0
  | 0 => rfl
  | t + 1 => by rw [List.replicate_succ, vD_cons, vD_zeros t]; simp
theorem Dig.append {l m : List Nat} (h1 : Dig l) (h2 : Dig m) : Dig (l ++ m) := fun c hc => (List.mem_append.1 hc).elim (h1 c) (h2 c)
theorem Dig.left {l m : List Nat} (h : Dig (l ++ m)) : Dig l := fun c hc => h c (List.mem_append.2 (Or.inl hc))
theorem Dig.right {l m : List Nat} (h : Dig (l ++ m)) : Dig m := fun c hc => h c (List.mem_append.2 (Or.inr hc))
theorem Dig.take {l : List Nat} (h : Dig l) (k : Nat) : Dig (l.take k) := fun c hc => h c (List.mem_of_mem_take hc)
theorem Dig.drop {l : List Nat} (h : Dig l) (k : Nat) : Dig (l.drop k) := fun c hc => h c (List.mem_of_mem_drop hc)
theorem dig_zeros (t : Nat) : Dig (List.replicate t 48) := fun c hc => by
  have := List.eq_of_mem_replicate hc
  omega
theorem vD_lt : ∀ (l : List Nat), Dig l → vD l < 10 ^ l.length
  | [], _ => by simp [vD]
  | c :: l, h => by
    have h1 := vD_lt l (fun x hx => h x (List.mem_cons_of_mem _ hx))
    have h2 := h c (List.mem_cons_self ..)
    rw [vD_cons, List.length_cons, Nat.pow_succ]
    have h3 : (c - 48) * 10 ^ l.length ≤ 9 * 10 ^ l.length := Nat.mul_le_mul_right _ (by omega)
    omega
theorem vD_ge (c : Nat) (l : List Nat) (h : 48 < c) : 10 ^ l.length ≤ vD (c :: l) := by
  rw [vD_cons]
  have h3 : 1 * 10 ^ l.length ≤ (c - 48) * 10 ^ l.length := Nat.mul_le_mul_right _ (by omega)
  omega
/-- The digits of a number. -/
theorem decN_small {d : Nat} (h : d < 10) : decN d = [48 + d] := by
  unfold decN
  rw [Lib.decDigits, dif_pos h]
  simp only [List.map_cons, List.map_nil, UInt8.toNat_ofNat']
  congr 1
  omega
theorem decN_big {d : Nat} (h : ¬ d < 10) : decN d = decN (d / 10) ++ [48 + d % 10] := by
  unfold decN
  conv => lhs; rw [Lib.decDigits, dif_neg h]
  simp only [List.map_append, List.map_cons, List.map_nil, UInt8.toNat_ofNat']
  congr 2
  omega
theorem vD_decN (d : Nat) : vD (decN d) = d := by
  induction d using Nat.strongRecOn with
  | ind d ih =>
    by_cases h : d < 10
    · rw [decN_small h, vD_one]; omega
    · rw [decN_big h, vD_snoc, ih (d / 10) (by omega)]
      omega
theorem dig_decN (d : Nat) : Dig (decN d) := by
  induction d using Nat.strongRecOn with
  | ind d ih =>
    by_cases h : d < 10
    · rw [decN_small h]
      intro c hc
      have := List.mem_singleton.1 hc
      omega
    · rw [decN_big h]
      refine (ih (d / 10) (by omega)).append ?_
      intro c hc
      have := List.mem_singleton.1 hc
      omega
/-- The first digit is not nought. -/
theorem decN_head (d : Nat) (h0 : 0 < d) : ∃ c l, decN d = c :: l ∧ 48 < c ∧ c < 58 := by
  induction d using Nat.strongRecOn with
  | ind d ih =>
    by_cases h : d < 10
    · exact ⟨48 + d, [], decN_small h, by omega, by omega⟩
    · obtain ⟨c, l, e, h1, h2⟩ := ih (d / 10) (by omega) (by omega)
      exact ⟨c, l ++ [48 + d % 10], by rw [decN_big h, e]; rfl, h1, h2⟩
/-- Digits without noughts ahead are what they count. -/
theorem decN_of (c : Nat) (l : List Nat) (h : Dig (c :: l)) (hc : 48 < c) : decN (vD (c :: l)) = c :: l := by
  obtain ⟨n, hn⟩ : ∃ n, n = l.length := ⟨_, rfl⟩
  induction n using Nat.strongRecOn generalizing l with
  | ind n ih =>
    rcases List.eq_nil_or_concat l with rfl | ⟨m, x, rfl⟩
    · have := h c (by simp)
      rw [vD_one, decN_small (by omega)]
      congr 1
      omega
    · have hx := h x (by simp)
      rw [List.concat_eq_append] at h hn ⊢
      have hm : Dig (c :: m) := fun y hy => h y (by simp at hy ⊢; rcases hy with hy | hy <;> simp [hy])
      have e := ih m.length (by rw [hn]; simp) m hm rfl
      have hg := vD_ge c m hc
      have hp : 0 < 10 ^ m.length := Nat.pow_pos (by decide)
      rw [← List.cons_append, vD_snoc, decN_big (by omega)]
      rw [show (vD (c :: m) * 10 + (x - 48)) / 10 = vD (c :: m) by omega, e]
      congr 2
      omega
end Fs
end Go.Proofs.YtellndmbllmjgaaGreatDoor
