/- Plain mathematics for units: no program in sight. -/
import Derived.Lib.DecodeN
namespace Go.Proofs.YtellndmbllmjgaaGreatDoor.Ut
namespace Un

/-- The bytes of a code point, or of a half that stands alone. -/
def encR (r : Nat) : List Nat :=
  if r < 128 then [r]
  else if r < 2048 then [192 + r / 64, 128 + r % 64]
  else if r < 65536 then [224 + r / 4096, 128 + r / 64 % 64, 128 + r % 64]
  else [240 + r / 262144, 128 + r / 4096 % 64, 128 + r / 64 % 64, 128 + r % 64]

def isF (r : Nat) : Bool := decide (55296 ≤ r) && decide (r < 56320)
def isS (r : Nat) : Bool := decide (56320 ≤ r) && decide (r < 57344)

/-- The code points of units. -/
def pts : List Nat → List Nat
  | [] => []
  | [u] => [u]
  | u :: v :: t => if isF u && isS v then (65536 + (u - 55296) * 1024 + v - 56320) :: pts t else u :: pts (v :: t)

/-- The units of a code point. -/
def unR (r : Nat) : List Nat := if r < 65536 then [r] else [55296 + (r - 65536) / 1024, 56320 + (r - 65536) % 1024]

theorem unR_pair (u v : Nat) (h : (isF u && isS v) = true) : unR (65536 + (u - 55296) * 1024 + v - 56320) = [u, v] := by
  simp only [isF, isS, Bool.and_eq_true, decide_eq_true_eq] at h
  unfold unR
  rw [if_neg (by omega)]
  have e1 : 55296 + (65536 + (u - 55296) * 1024 + v - 56320 - 65536) / 1024 = u := by omega
  have e2 : 56320 + (65536 + (u - 55296) * 1024 + v - 56320 - 65536) % 1024 = v := by omega
  rw [e1, e2]

theorem pts_unR : ∀ (l : List Nat), (∀ u ∈ l, u < 65536) → (pts l).flatMap unR = l
  | [], _ => rfl
  | [u], h => by
    have := h u (by simp)
    simp [pts, unR, this]
  | u :: v :: t, h => by
    unfold pts
    split
    · rename_i hh
      rw [List.flatMap_cons, unR_pair u v hh, pts_unR t (fun x hx => h x (by simp [hx]))]
      rfl
    · have hu : u < 65536 := h u (by simp)
      rw [List.flatMap_cons, pts_unR (v :: t) (fun x hx => h x (by simp at hx ⊢; exact .inr hx))]
      simp [unR, hu]

theorem pts_lt : ∀ (l : List Nat), (∀ u ∈ l, u < 65536) → ∀ r ∈ pts l, r ≤ 1114111
  | [], _ => by simp [pts]
  | [u], h => by
    have := h u (by simp)
    simp [pts]; omega
  | u :: v :: t, h => by
    unfold pts
    split
    · rename_i hh
      simp only [isF, isS, Bool.and_eq_true, decide_eq_true_eq] at hh
      intro r hr
      rcases List.mem_cons.1 hr with hr | hr
      · rw [hr]; omega
      · exact pts_lt t (fun x hx => h x (by simp [hx])) r hr
    · intro r hr
      rcases List.mem_cons.1 hr with rfl | hr
      · have := h r (by simp); omega
      · exact pts_lt (v :: t) (fun x hx => h x (by simp at hx ⊢; exact .inr hx)) r hr

theorem encR_lt (r : Nat) (h : r ≤ 1114111) : ∀ b ∈ encR r, b < 256 := by
  unfold encR
  intro b hb
  repeat' split at hb
  all_goals simp only [List.mem_cons, List.not_mem_nil, or_false] at hb
  all_goals omega

theorem encR_len (r : Nat) : 1 ≤ (encR r).length ∧ (encR r).length ≤ 4 := by
  unfold encR
  repeat' split
  all_goals simp

/-- What stands at the front of four bytes (n: how many bytes there are), with the halves looked for. -/
def pointN (n b0 b1 b2 b3 : Nat) : Nat × Nat :=
  if Lib.decodeN n b0 b1 b2 b3 = (65533, 1) ∧ 3 ≤ n ∧ b0 = 237 ∧ b1 / 32 = 5 ∧ b2 / 64 = 2 then (55296 + b1 % 32 * 64 + b2 % 64, 3) else Lib.decodeN n b0 b1 b2 b3

set_option maxRecDepth 100000 in
theorem pointN_encR (r n b0 b1 b2 b3 : Nat) (h : r ≤ 1114111) (hn : (encR r).length ≤ n) (e0 : (encR r)[0]?.getD 0 = b0) (e1 : 1 < (encR r).length → (encR r)[1]?.getD 0 = b1)
    (e2 : 2 < (encR r).length → (encR r)[2]?.getD 0 = b2) (e3 : 3 < (encR r).length → (encR r)[3]?.getD 0 = b3) : pointN n b0 b1 b2 b3 = (r, (encR r).length) := by
  unfold encR at hn e0 e1 e2 e3 ⊢
  by_cases h1 : r < 128
  · simp only [h1, if_true] at hn e0 ⊢
    simp at e0 hn
    subst e0
    have hd : Lib.decodeN n r b1 b2 b3 = (r, 1) := by
      unfold Lib.decodeN
      rw [if_pos h1]
    unfold pointN
    rw [hd, if_neg (by omega)]
    rfl
  by_cases h2 : r < 2048
  · simp only [h1, h2, if_true, if_false] at hn e0 e1 ⊢
    simp at e0 e1 hn
    subst e0; subst e1
    have g1 : ¬ (192 + r / 64 < 128) := by omega
    have g2 : (192 + r / 64) / 32 = 6 ∧ (1 < n ∧ (128 + r % 64) / 64 = 2) := by omega
    have g3 : (192 + r / 64) % 32 * 64 + (128 + r % 64) % 64 = r := by omega
    have hd : Lib.decodeN n (192 + r / 64) (128 + r % 64) b2 b3 = (r, 2) := by
      unfold Lib.decodeN
      rw [if_neg g1, if_pos g2, g3, if_pos (by omega)]
    unfold pointN
    rw [hd, if_neg (by simp)]
    rfl
  by_cases h3 : r < 65536
  · simp only [h1, h2, h3, if_true, if_false] at hn e0 e1 e2 ⊢
    simp at e0 e1 e2 hn
    subst e0; subst e1; subst e2
    have g1 : ¬ (224 + r / 4096 < 128) := by omega
    have g2 : ¬ ((224 + r / 4096) / 32 = 6 ∧ (1 < n ∧ (128 + r / 64 % 64) / 64 = 2)) := by omega
    have g3 : (224 + r / 4096) / 16 = 14 ∧ (1 < n ∧ (128 + r / 64 % 64) / 64 = 2) ∧ (2 < n ∧ (128 + r % 64) / 64 = 2) := by omega
    have g4 : (224 + r / 4096) % 16 * 4096 + (128 + r / 64 % 64) % 64 * 64 + (128 + r % 64) % 64 = r := by omega
    by_cases hs : 55296 ≤ r ∧ r < 57344
    · have hd : Lib.decodeN n (224 + r / 4096) (128 + r / 64 % 64) (128 + r % 64) b3 = (65533, 1) := by
        unfold Lib.decodeN
        rw [if_neg g1, if_neg g2, if_pos g3, g4, if_neg (by omega)]
      unfold pointN
      rw [hd, if_pos ⟨rfl, by omega, by omega, by omega, by omega⟩]
      refine Prod.ext ?_ rfl
      show 55296 + (128 + r / 64 % 64) % 32 * 64 + (128 + r % 64) % 64 = r
      omega
    · have hd : Lib.decodeN n (224 + r / 4096) (128 + r / 64 % 64) (128 + r % 64) b3 = (r, 3) := by
        unfold Lib.decodeN
        rw [if_neg g1, if_neg g2, if_pos g3, g4, if_pos (by omega)]
      unfold pointN
      rw [hd, if_neg (by simp)]
      rfl
  · simp only [h1, h2, h3, if_false] at hn e0 e1 e2 e3 ⊢
    simp at e0 e1 e2 e3 hn
    subst e0; subst e1; subst e2; subst e3
    have g1 : ¬ (240 + r / 262144 < 128) := by omega
    have g2 : ¬ ((240 + r / 262144) / 32 = 6 ∧ (1 < n ∧ (128 + r / 4096 % 64) / 64 = 2)) := by omega
    have g3 : ¬ ((240 + r / 262144) / 16 = 14 ∧ (1 < n ∧ (128 + r / 4096 % 64) / 64 = 2) ∧ (2 < n ∧ (128 + r / 64 % 64) / 64 = 2)) := by omega
    have g4 : (240 + r / 262144) / 8 = 30 ∧ (1 < n ∧ (128 + r / 4096 % 64) / 64 = 2) ∧ (2 < n ∧ (128 + r / 64 % 64) / 64 = 2) ∧ (3 < n ∧ (128 + r % 64) / 64 = 2) := by omega
    have g5 : (240 + r / 262144) % 8 * 262144 + (128 + r / 4096 % 64) % 64 * 4096 + (128 + r / 64 % 64) % 64 * 64 + (128 + r % 64) % 64 = r := by omega
    have hd : Lib.decodeN n (240 + r / 262144) (128 + r / 4096 % 64) (128 + r / 64 % 64) (128 + r % 64) = (r, 4) := by
      unfold Lib.decodeN
      rw [if_neg g1, if_neg g2, if_neg g3, if_pos g4, g5, if_pos (by omega)]
    unfold pointN
    rw [hd, if_neg (by simp)]
    rfl

end Un
end Go.Proofs.YtellndmbllmjgaaGreatDoor.Ut
/- Plain mathematics: the units of a list of bytes. -/
namespace Go.Proofs.YtellndmbllmjgaaGreatDoor.Ut
namespace Un

/-- What stands at the front of bytes: the code point (or half), and how many bytes it takes. -/
def ptL (bs : List Nat) : Nat × Nat := pointN bs.length (bs[0]?.getD 0) (bs[1]?.getD 0) (bs[2]?.getD 0) (bs[3]?.getD 0)

/-- The units of bytes. -/
def unitsL : Nat → List Nat → List Nat
  | 0, _ => []
  | f + 1, bs => if bs = [] then [] else unR (ptL bs).1 ++ unitsL f (bs.drop (ptL bs).2)

theorem decodeN_bounds (n b0 b1 b2 b3 : Nat) (hn : 1 ≤ n) (h0 : b0 < 256) : 1 ≤ (Lib.decodeN n b0 b1 b2 b3).2 ∧ (Lib.decodeN n b0 b1 b2 b3).2 ≤ n ∧ (Lib.decodeN n b0 b1 b2 b3).1 ≤ 1114111 := by
  unfold Lib.decodeN
  repeat' split
  all_goals simp only []
  all_goals omega

theorem pointN_bounds (n b0 b1 b2 b3 : Nat) (hn : 1 ≤ n) (h0 : b0 < 256) : 1 ≤ (pointN n b0 b1 b2 b3).2 ∧ (pointN n b0 b1 b2 b3).2 ≤ n ∧ (pointN n b0 b1 b2 b3).1 ≤ 1114111 := by
  unfold pointN
  split
  · simp only []; omega
  · exact decodeN_bounds n b0 b1 b2 b3 hn h0

theorem getD_byte {bs : List Nat} (hb : ∀ b ∈ bs, b < 256) (k : Nat) : bs[k]?.getD 0 < 256 := by
  by_cases h : k < bs.length
  · rw [List.getElem?_eq_getElem h]; exact hb _ (List.getElem_mem h)
  · rw [List.getElem?_eq_none (by omega)]; simp

theorem ptL_bounds (bs : List Nat) (h : bs ≠ []) (hb : ∀ b ∈ bs, b < 256) : 1 ≤ (ptL bs).2 ∧ (ptL bs).2 ≤ bs.length ∧ (ptL bs).1 ≤ 1114111 := by
  have hl : 1 ≤ bs.length := by
    cases bs with
    | nil => exact absurd rfl h
    | cons _ _ => simp
  exact pointN_bounds _ _ _ _ _ hl (getD_byte hb 0)

theorem unR_len (r : Nat) : 1 ≤ (unR r).length ∧ (unR r).length ≤ 2 := by
  unfold unR; split <;> simp
theorem unR_lt (r : Nat) (h : r ≤ 1114111) : ∀ u ∈ unR r, u < 65536 := by
  unfold unR
  intro u hu
  split at hu <;> simp at hu <;> omega

theorem unitsL_lt : ∀ (f : Nat) (bs : List Nat), (∀ b ∈ bs, b < 256) → ∀ u ∈ unitsL f bs, u < 65536
  | 0, bs, _ => by simp [unitsL]
  | f + 1, bs, hb => by
    unfold unitsL
    split
    · simp
    · rename_i h
      intro u hu
      rcases List.mem_append.1 hu with hu | hu
      · exact unR_lt _ (ptL_bounds bs h hb).2.2 u hu
      · exact unitsL_lt f _ (fun b hb' => hb b (List.mem_of_mem_drop hb')) u hu

theorem unitsL_nil (f : Nat) : unitsL f [] = [] := by cases f <;> simp [unitsL]

/-- More fuel than bytes turns nothing. -/
theorem unitsL_step (f : Nat) (bs : List Nat) (h : bs ≠ []) (hf : bs.length ≤ f) : unitsL f bs = unR (ptL bs).1 ++ unitsL (f - 1) (bs.drop (ptL bs).2) := by
  cases f with
  | zero => cases bs with
    | nil => exact absurd rfl h
    | cons _ _ => simp at hf
  | succ f => simp [unitsL, h]

theorem ptL_encR (r : Nat) (hr : r ≤ 1114111) (rest : List Nat) : ptL (encR r ++ rest) = (r, (encR r).length) := by
  have hl := encR_len r
  have hg : ∀ k, k < (encR r).length → (encR r)[k]?.getD 0 = (encR r ++ rest)[k]?.getD 0 := fun k hk => by rw [List.getElem?_append_left hk]
  exact pointN_encR r _ _ _ _ _ hr (by simp) (hg 0 (by omega)) (hg 1) (hg 2) (hg 3)

/-- The units of the bytes of code points. -/
theorem unitsL_flat : ∀ (rs : List Nat) (f : Nat), (∀ r ∈ rs, r ≤ 1114111) → (rs.flatMap encR).length ≤ f → unitsL f (rs.flatMap encR) = rs.flatMap unR
  | [], f, _, _ => by simp [unitsL_nil]
  | r :: rs, f, hr, hf => by
    have hl := encR_len r
    rw [List.flatMap_cons] at hf
    rw [List.length_append] at hf
    rw [List.flatMap_cons, List.flatMap_cons]
    rw [unitsL_step f (encR r ++ rs.flatMap encR) (by intro e; have := congrArg List.length e; simp at this; have h2 := this.1; rw [h2] at hl; simp at hl) (by rw [List.length_append]; omega)]
    rw [ptL_encR r (hr r (by simp))]
    simp only []
    rw [List.drop_left, unitsL_flat rs (f - 1) (fun x hx => hr x (by simp [hx])) (by omega)]

/-- **The units of the text of units are the units.** -/
theorem unitsL_back (us : List Nat) (hu : ∀ u ∈ us, u < 65536) (f : Nat) (hf : ((pts us).flatMap encR).length ≤ f) : unitsL f ((pts us).flatMap encR) = us := by
  rw [unitsL_flat _ f (pts_lt us hu) hf, pts_unR us hu]

end Un
end Go.Proofs.YtellndmbllmjgaaGreatDoor.Ut
