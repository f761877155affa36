/- The shape of what num.Text writes. -/
import Derived.Test.YtellndmbllmjgaaGreatDoorCTxA
import Derived.Test.YtellndmbllmjgaaGreatDoorCNb1
set_option linter.unusedVariables false
namespace Go.Proofs.YtellndmbllmjgaaGreatDoor
open Fs

theorem ptd_in (D : List Nat) (m : Nat) (h0 : 0 < m) (h : m < D.length) : ptd D m = D.take (D.length - m) ++ 46 :: D.drop (D.length - m) := by
  unfold ptd padD
  rw [if_neg (by omega), if_neg (by omega)]
theorem ptd_out (D : List Nat) (m : Nat) (h0 : 0 < m) (h : D.length ≤ m) : ptd D m = [48] ++ 46 :: (List.replicate (m - D.length) 48 ++ D) := by
  unfold ptd padD
  rw [if_neg (by omega), if_pos h]
  have e : (List.replicate (m + 1 - D.length) 48 ++ D).length - m = 1 := by simp; omega
  rw [e, show m + 1 - D.length = (m - D.length) + 1 by omega, List.replicate_succ]
  rfl
theorem ptd_zero (D : List Nat) (h : 0 < D.length) : ptd D 0 = D := by
  unfold ptd padD
  rw [if_pos rfl, if_neg (by omega)]
theorem expo_of (x : Int) (h1 : -1500 ≤ x) (h2 : x ≤ 1500) : Expo ([101] ++ [if x < 0 then 45 else 43] ++ decN x.natAbs) x := by
  refine .inr ⟨[if x < 0 then 45 else 43], decN x.natAbs, rfl, dig_decN _, ?_, ?_, ?_⟩
  · rw [decN_length]; exact Lib.nDigits_pos _
  · rw [decN_length]; exact nDigits_le _ 4 (by omega) (by omega)
  · rw [vD_decN]
    by_cases h : x < 0
    · exact .inr (.inr ⟨by rw [if_pos h], by omega⟩)
    · exact .inr (.inl ⟨by rw [if_neg h], by omega⟩)
theorem textD_shape (D : List Nat) (n : Int) (hD : Dig D) (h0 : 0 < D.length) (hn : -500 ≤ n) (hn2 : n ≤ 1000) :
    ∃ A B dot tl e, Shape (textD D n) A B dot tl e ∧ ∃ z t, A ++ B = List.replicate z 48 ++ (D ++ List.replicate t 48) ∧ e - (B.length : Int) + (t : Int) = n - (D.length : Int) ∧ -1500 ≤ e ∧ e ≤ 1500 ∧ (t = 0 ∨ (D.length + t ≤ 21 ∧ e = 0 ∧ B = [])) ∧ z ≤ 500 := by
  unfold textD
  split
  · rename_i h
    refine ⟨D ++ List.replicate (n - (D.length : Int)).toNat 48, [], false, [], 0, ⟨by simp, fun _ => rfl, .inl ⟨rfl, rfl⟩, hD.append (dig_zeros _), fun c hc => by simp at hc, by simp; omega⟩, 0, (n - (D.length : Int)).toNat, by simp, by simp; omega, by omega, by omega, .inr ⟨by omega, rfl, rfl⟩, by omega⟩
  · split
    · rename_i h1 h
      obtain ⟨m, hm⟩ : ∃ m, m = ((D.length : Int) - n).toNat := ⟨_, rfl⟩
      rw [← hm]
      rcases Nat.lt_or_ge m D.length with hlt | hge
      · rw [ptd_in D m (by omega) hlt]
        refine ⟨D.take (D.length - m), D.drop (D.length - m), true, [], 0, ⟨by simp, fun h => by simp at h, .inl ⟨rfl, rfl⟩, hD.take _, hD.drop _, by simp; omega⟩, 0, 0, by simp, by simp; omega, by omega, by omega, .inl rfl, by omega⟩
      · rw [ptd_out D m (by omega) hge]
        refine ⟨[48], List.replicate (m - D.length) 48 ++ D, true, [], 0, ⟨by simp, fun h => by simp at h, .inl ⟨rfl, rfl⟩, fun c hc => by simp at hc; omega, (dig_zeros _).append hD, by simp⟩, m - D.length + 1, 0, ?_, by simp; omega, by omega, by omega, .inl rfl, by omega⟩
        rw [List.replicate_succ]
        simp
    · rename_i h1 h
      unfold pwd
      have he := expo_of (n - 1) (by omega) (by omega)
      rcases Nat.lt_or_ge 1 D.length with hlt | hge
      · rw [ptd_in D (D.length - 1) (by omega) (by omega), show D.length - (D.length - 1) = 1 by omega]
        refine ⟨D.take 1, D.drop 1, true, _, n - 1, ⟨?_, fun h => by simp at h, he, hD.take _, hD.drop _, by simp; omega⟩, 0, 0, by rw [List.take_append_drop]; simp, by simp; omega, by omega, by omega, .inl rfl, by omega⟩
        simp
      · have e1 : D.length - 1 = 0 := by omega
        rw [e1, ptd_zero D h0]
        refine ⟨D, [], false, _, n - 1, ⟨?_, fun _ => rfl, he, hD, fun c hc => by simp at hc, h0⟩, 0, 0, by simp, by simp; omega, by omega, by omega, .inl rfl, by omega⟩
        simp
/-- What the law's reader of digits keeps. -/
structure DS where
  d : List Nat
  point : Int
  seen : Bool
  e : Int
  minus : Bool
  exp : Bool
def dstep (s : DS) (c : Nat) : DS :=
  if c = 101 then { s with exp := true }
  else if c = 45 then { s with minus := s.exp }
  else if c = 46 then { s with seen := true }
  else if (48 ≤ c ∧ c ≤ 57) ∧ s.exp = true then { s with e := s.e * 10 + (c : Int) - 48 }
  else if 48 ≤ c ∧ c ≤ 57 then
    if s.d = [] ∧ c = 48 then (if s.seen then { s with point := s.point - 1 } else s)
    else { s with d := s.d ++ [c], point := if s.seen then s.point else s.point + 1 }
  else s
def ds0 : DS := ⟨[], 0, false, 0, false, false⟩
def dfold (s : DS) (l : List Nat) : DS := l.foldl dstep s
theorem dfold_append (s : DS) (l m : List Nat) : dfold s (l ++ m) = dfold (dfold s l) m := List.foldl_append
theorem dfold_cons (s : DS) (c : Nat) (m : List Nat) : dfold s (c :: m) = dfold (dstep s c) m := rfl
theorem dfold_exp (l : List Nat) (hl : Dig l) : ∀ s : DS, s.exp = true → dfold s l = { s with e := s.e * 10 ^ l.length + (vD l : Int) } := by
  induction l with
  | nil => intro s h; simp [dfold, vD]
  | cons c l ih =>
    intro s h
    have hc := hl c (by simp)
    rw [dfold_cons]
    have e1 : dstep s c = { s with e := s.e * 10 + (c : Int) - 48 } := by
      unfold dstep
      rw [if_neg (by omega), if_neg (by omega), if_neg (by omega), if_pos ⟨by omega, h⟩]
    rw [e1]
    refine (ih (fun x hx => hl x (by simp [hx])) _ (by exact h)).trans ?_
    rw [vD_cons]
    simp only [DS.mk.injEq, true_and, and_true, List.length_cons]
    have e3 : ((c - 48 : Nat) : Int) = (c : Int) - 48 := by omega
    rw [Int.natCast_add, Int.natCast_mul, e3, Int.natCast_pow, Int.pow_succ]
    grind
theorem dfold_dig (l : List Nat) (hl : Dig l) : ∀ s : DS, s.exp = false → s.d ≠ [] → dfold s l = { s with d := s.d ++ l, point := if s.seen then s.point else s.point + (l.length : Int) } := by
  induction l with
  | nil => intro s h h2; cases s; simp [dfold]
  | cons c l ih =>
    intro s h h2
    have hc := hl c (by simp)
    rw [dfold_cons]
    have e1 : dstep s c = { s with d := s.d ++ [c], point := if s.seen then s.point else s.point + 1 } := by
      unfold dstep
      rw [if_neg (by omega), if_neg (by omega), if_neg (by omega), if_neg (by rw [h]; simp), if_pos ⟨by omega, by omega⟩, if_neg (fun hh => h2 hh.1)]
    rw [e1]
    refine (ih (fun x hx => hl x (by simp [hx])) _ (by exact h) (by simp)).trans ?_
    simp only [DS.mk.injEq, and_true, List.length_cons]
    refine ⟨by simp, ?_⟩
    split <;> omega
theorem dfold_zeros : ∀ (t : Nat) (s : DS), s.exp = false → s.d = [] → dfold s (List.replicate t 48) = { s with point := if s.seen then s.point - (t : Int) else s.point }
  | 0, s, h, h2 => by cases s; simp [dfold]
  | t + 1, s, h, h2 => by
    rw [List.replicate_succ, dfold_cons]
    have e1 : dstep s 48 = { s with point := if s.seen then s.point - 1 else s.point } := by
      unfold dstep
      rw [if_neg (by omega), if_neg (by omega), if_neg (by omega), if_neg (by rw [h]; simp), if_pos ⟨by omega, by omega⟩, if_pos ⟨h2, rfl⟩]
      split <;> rfl
    rw [e1]
    refine (dfold_zeros t _ (by exact h) (by exact h2)).trans ?_
    simp only [DS.mk.injEq, true_and, and_true]
    split <;> omega
/-- Digits of which the first is not nought. -/
theorem dfold_first (c : Nat) (l : List Nat) (hl : Dig (c :: l)) (hc : c ≠ 48) (s : DS) (h : s.exp = false) (h2 : s.d = []) : dfold s (c :: l) = { s with d := c :: l, point := if s.seen then s.point else s.point + (l.length : Int) + 1 } := by
  have hc' := hl c (by simp)
  rw [dfold_cons]
  have e1 : dstep s c = { s with d := [c], point := if s.seen then s.point else s.point + 1 } := by
    unfold dstep
    rw [if_neg (by omega), if_neg (by omega), if_neg (by omega), if_neg (by rw [h]; simp), if_pos ⟨by omega, by omega⟩, if_neg (fun hh => hc hh.2), h2]
    rfl
  rw [e1]
  refine (dfold_dig l (fun x hx => hl x (by simp [hx])) _ (by exact h) (by simp)).trans ?_
  simp only [DS.mk.injEq, and_true]
  refine ⟨by simp, ?_⟩
  split <;> omega
end Go.Proofs.YtellndmbllmjgaaGreatDoor
/- What the law's digitsOf and more answer. -/
set_option linter.unusedVariables false
namespace Go.Proofs.YtellndmbllmjgaaGreatDoor
open Fs

theorem dstep_e (s : DS) (c : Nat) (h : 0 ≤ s.e) : s.e ≤ (dstep s c).e := by
  unfold dstep
  repeat' split
  all_goals (try simp only)
  all_goals omega
theorem dfold_e (l : List Nat) : ∀ s : DS, 0 ≤ s.e → s.e ≤ (dfold s l).e := by
  induction l with
  | nil => intro s h; exact Int.le_refl _
  | cons c l ih =>
    intro s h
    have h1 := dstep_e s c h
    have h2 := ih (dstep s c) (by omega)
    rw [dfold_cons]
    omega
theorem dstep_p (s : DS) (c : Nat) : s.point - 1 ≤ (dstep s c).point ∧ (dstep s c).point ≤ s.point + 1 := by
  unfold dstep
  repeat' split
  all_goals (try simp only)
  all_goals omega
theorem dfold_p (l : List Nat) : ∀ s : DS, s.point - (l.length : Int) ≤ (dfold s l).point ∧ (dfold s l).point ≤ s.point + (l.length : Int) := by
  induction l with
  | nil => intro s; simp [dfold]
  | cons c l ih =>
    intro s
    have h1 := dstep_p s c
    have h2 := ih (dstep s c)
    rw [dfold_cons, List.length_cons]
    omega
/-- What is kept at every place on the way. -/
theorem prefix_bounds (T : List Nat) (i : Nat) : 0 ≤ (dfold ds0 (T.take i)).e ∧ (dfold ds0 (T.take i)).e ≤ (dfold ds0 T).e ∧ -(T.length : Int) ≤ (dfold ds0 (T.take i)).point ∧ (dfold ds0 (T.take i)).point ≤ (T.length : Int) := by
  have h1 := dfold_e (T.take i) ds0 (by decide)
  have h2 := dfold_p (T.take i) ds0
  have h3 : (T.take i).length ≤ T.length := by simp; omega
  have h0 : ds0.e = 0 := rfl
  have hp : ds0.point = 0 := rfl
  have h4 := dfold_e (T.drop i) (dfold ds0 (T.take i)) (by omega)
  rw [← dfold_append, List.take_append_drop] at h4
  omega
/-- The exponent is read. -/
theorem dfold_expo (x : Int) (s : DS) (h1 : s.exp = false) (h2 : s.e = 0) (h3 : s.minus = false) : ∃ f : DS, dfold s ([101] ++ [if x < 0 then 45 else 43] ++ decN x.natAbs) = f ∧ f.d = s.d ∧ f.point = s.point ∧ f.e = (x.natAbs : Int) ∧ f.minus = decide (x < 0) := by
  refine ⟨_, rfl, ?_⟩
  rw [List.append_assoc, List.singleton_append, dfold_cons, List.singleton_append, dfold_cons]
  have e1 : dstep s 101 = { s with exp := true } := by unfold dstep; rw [if_pos rfl]
  rw [e1]
  have e2 : dstep { s with exp := true } (if x < 0 then 45 else 43) = { s with exp := true, minus := decide (x < 0) } := by
    by_cases h : x < 0
    · rw [if_pos h, decide_eq_true h]
      unfold dstep
      rw [if_neg (by decide), if_pos rfl]
    · rw [if_neg h, decide_eq_false h]
      unfold dstep
      rw [if_neg (by decide), if_neg (by decide), if_neg (by decide), if_neg (by simp), if_neg (by decide), ← h3]
  rw [e2, dfold_exp (decN x.natAbs) (dig_decN _) _ rfl, vD_decN]
  simp only [h2]
  simp
/-- **digitsOf**, but for the noughts at the end. -/
theorem digits_sum (c : Nat) (l : List Nat) (n : Int) (hD : Dig (c :: l)) (hc : c ≠ 48) (hn : -500 ≤ n) (hn2 : n ≤ 1000) :
    ∃ t, (dfold ds0 (textD (c :: l) n)).d = (c :: l) ++ List.replicate t 48 ∧ (dfold ds0 (textD (c :: l) n)).point + (if (dfold ds0 (textD (c :: l) n)).minus then -(dfold ds0 (textD (c :: l) n)).e else (dfold ds0 (textD (c :: l) n)).e) = n ∧ (dfold ds0 (textD (c :: l) n)).e ≤ 1500 := by
  obtain ⟨D, hDe⟩ : ∃ D, D = c :: l := ⟨_, rfl⟩
  have hlen : D.length = l.length + 1 := by rw [hDe]; rfl
  unfold textD
  rw [← hDe]
  rw [← hDe] at hD
  have first : ∀ (m : List Nat) (s : DS), Dig m → s.exp = false → s.d = [] → dfold s (D ++ m) = { s with d := D ++ m, point := if s.seen then s.point else s.point + ((D ++ m).length : Int) } := by
    intro m s hm h1 h2
    have hd2 := hD.append hm
    rw [hDe, List.cons_append] at hd2 ⊢
    rw [dfold_first c (l ++ m) hd2 hc s h1 h2]
    simp only [DS.mk.injEq, true_and, and_true, List.length_cons]
    split <;> omega
  have ptin : ∀ k, 0 < k → k < D.length → dfold ds0 (D.take k ++ 46 :: D.drop k) = ⟨D, (k : Int), true, 0, false, false⟩ := by
    intro k hk hk2
    obtain ⟨k', rfl⟩ : ∃ k', k = k' + 1 := ⟨k - 1, by omega⟩
    have ht : D.take (k' + 1) = c :: l.take k' := by rw [hDe]; rfl
    have hdt := hD.take (k' + 1)
    rw [dfold_append, dfold_cons]
    have hr : (c :: l.take k') ++ D.drop (k' + 1) = D := by rw [← ht, List.take_append_drop]
    rw [ht] at hdt ⊢
    rw [dfold_first c (l.take k') hdt hc ds0 rfl rfl]
    have e2 : ∀ s : DS, dstep s 46 = { s with seen := true } := fun s => by unfold dstep; rw [if_neg (by decide), if_neg (by decide), if_pos rfl]
    rw [e2]
    refine (dfold_dig (D.drop (k' + 1)) (hD.drop _) _ (by rfl) (by simp)).trans ?_
    simp only [hr]
    have hl : ((l.take k').length : Int) = (k' : Int) := by simp; omega
    simp [ds0]
    omega
  split
  · rename_i h
    rw [first (List.replicate (n - (D.length : Int)).toNat 48) ds0 (dig_zeros _) rfl rfl]
    refine ⟨(n - (D.length : Int)).toNat, rfl, ?_, by simp [ds0]⟩
    simp [ds0]
    omega
  · split
    · rename_i h1 h
      obtain ⟨m, hm⟩ : ∃ m, m = ((D.length : Int) - n).toNat := ⟨_, rfl⟩
      rw [← hm]
      rcases Nat.lt_or_ge m D.length with hlt | hge
      · rw [ptd_in D m (by omega) hlt, ptin (D.length - m) (by omega) (by omega)]
        refine ⟨0, by simp, ?_, by simp⟩
        simp
        omega
      · rw [ptd_out D m (by omega) hge, dfold_append, dfold_cons, dfold_append]
        have e1 : dfold ds0 [48] = ds0 := by
          show dstep ds0 48 = ds0
          rfl
        have e2 : dstep ds0 46 = ⟨[], 0, true, 0, false, false⟩ := rfl
        rw [e1, e2]
        have e3 : dfold ⟨[], 0, true, 0, false, false⟩ (List.replicate (m - D.length) 48) = ⟨[], -((m - D.length : Nat) : Int), true, 0, false, false⟩ := (dfold_zeros (m - D.length) _ rfl rfl).trans (by simp)
        rw [e3]
        have e4 : dfold ⟨[], -((m - D.length : Nat) : Int), true, 0, false, false⟩ D = ⟨D, -((m - D.length : Nat) : Int), true, 0, false, false⟩ := by
          have := first [] ⟨[], -((m - D.length : Nat) : Int), true, 0, false, false⟩ (fun c hc => by simp at hc) rfl rfl
          rw [List.append_nil] at this
          exact this.trans (by simp)
        rw [e4]
        refine ⟨0, by simp, ?_, by simp⟩
        simp
        omega
    · rename_i h1 h
      unfold pwd
      have fin : ∀ s : DS, s.exp = false → s.e = 0 → s.minus = false → s.d = D → s.point = 1 → ∀ f, dfold s ([101] ++ [if n - 1 < 0 then 45 else 43] ++ decN (n - 1).natAbs) = f →
          ∃ t, f.d = D ++ List.replicate t 48 ∧ f.point + (if f.minus then -f.e else f.e) = n ∧ f.e ≤ 1500 := by
        intro s a1 a2 a3 a4 a5 f hf
        obtain ⟨f', b0, b1, b2, b3, b4⟩ := dfold_expo (n - 1) s a1 a2 a3
        rw [hf] at b0
        subst b0
        refine ⟨0, by rw [b1, a4]; simp, ?_, by omega⟩
        rw [b2, b3, b4, a5]
        by_cases hx : n - 1 < 0
        · rw [decide_eq_true hx, if_pos rfl]; omega
        · rw [decide_eq_false hx, if_neg (by simp)]; omega
      rcases Nat.lt_or_ge 1 D.length with hlt | hge
      · rw [ptd_in D (D.length - 1) (by omega) (by omega), show D.length - (D.length - 1) = 1 by omega]
        rw [List.append_assoc, List.append_assoc, dfold_append, ptin 1 (by omega) hlt, ← List.append_assoc]
        exact fin _ rfl rfl rfl rfl rfl _ rfl
      · have e1 : D.length - 1 = 0 := by omega
        rw [e1, ptd_zero D (by omega), List.append_assoc, List.append_assoc, dfold_append, ← List.append_assoc]
        have e2 := first [] ds0 (fun c hc => by simp at hc) rfl rfl
        rw [List.append_nil] at e2
        rw [e2]
        refine fin _ rfl rfl rfl rfl ?_ _ rfl
        simp [ds0]
        omega
end Go.Proofs.YtellndmbllmjgaaGreatDoor
/- How a small whole number is written; one more in the last place; noughts at the end. -/
set_option linter.unusedVariables false
namespace Go.Proofs.YtellndmbllmjgaaGreatDoor
open Fs Fl

theorem decN_shift (d t : Nat) (h0 : 0 < d) : decN (d * 10 ^ t) = decN d ++ List.replicate t 48 := by
  obtain ⟨c, l, e, h1, h2⟩ := decN_head d h0
  have hd := (dig_decN d).append (dig_zeros t)
  have hv : vD (decN d ++ List.replicate t 48) = d * 10 ^ t := by rw [vD_append, vD_decN, vD_zeros, List.length_replicate, Nat.add_zero]
  rw [← hv]
  rw [e, List.cons_append] at hd ⊢
  exact decN_of c _ hd h1
theorem gap_small : ∃ y, y = 1040 ∧ 4 * 2 ^ y < Z76 := ⟨1040, rfl, by decide +kernel⟩
/-- Two whole numbers nearest to one word that is not great are one. -/
theorem one_whole {u v r : Nat} (hr : r < 1041 * 4503599627370496) (hu : Near u 1 r) (hv : Near v 1 r) : u = v := by
  have a1 := near_lo_le hu
  have a2 := near_up_le hu
  have b1 := near_lo_le hv
  have b2 := near_up_le hv
  have hw : upR r ≤ loR r + 4 * 2 ^ expR r := by
    unfold upR loR
    have := Nat.two_pow_pos (expR r)
    split <;> omega
  obtain ⟨y, hy, hg⟩ := gap_small
  have he : expR r ≤ y := by unfold expR; omega
  have hp : 2 ^ expR r ≤ 2 ^ y := Nat.pow_le_pow_right (by decide) he
  have hgap : upR r < loR r + Z76 := Nat.lt_of_le_of_lt hw (Nat.add_lt_add_left (Nat.lt_of_le_of_lt (Nat.mul_le_mul_left 4 hp) hg) _)
  clear hp hg hw
  rw [Nat.mul_one] at a1 a2 b1 b2
  rcases Nat.lt_trichotomy u v with h | h | h
  · exfalso
    have := Nat.mul_le_mul_right Z76 (show u + 1 ≤ v from h)
    rw [Nat.add_mul, Nat.one_mul] at this
    omega
  · exact h
  · exfalso
    have := Nat.mul_le_mul_right Z76 (show v + 1 ≤ u from h)
    rw [Nat.add_mul, Nat.one_mul] at this
    omega
/-- **A small whole number is written by its digits.** -/
theorem small_text {a M L d J : Nat} (ha : 0 < a) (ha2 : a ≤ 2000) (hN : Norm a M L) (hT : Fs.Told (magR (rungI M L)) (expR (rungI M L)) d J) (hd : 0 < d) : textD (decN d) ((Lib.nDigits d : Int) + (J : Int) - 400) = decN a := by
  have hM1 := hN.M_le
  have hM2 := hN.M_lt
  have hL : L ≤ 10 := by
    rcases Nat.lt_or_ge L 11 with h | h
    · omega
    · have h1 : 2 ^ 11 ≤ 2 ^ L := Nat.pow_le_pow_right (by decide) h
      have := hN.2.1
      omega
  obtain ⟨R, hR, hm⟩ := whole_near hN (by omega)
  have hlt := rungI_lt hM2 (show L ≤ 1023 by omega)
  have hRe : R = rungI M L := by omega
  subst hRe
  have hsm : rungI M L < 1041 * 4503599627370496 := by unfold rungI; omega
  have hnr := told_near hT
  obtain ⟨a', t, e1, e2⟩ := strip a a (Nat.le_refl _) ha
  have hna : DecNear a' (400 + t) (rungI M L) := by
    rw [← decNear_shift, ← e1]
    unfold DecNear
    rw [if_pos (by omega), Nat.sub_self, Nat.pow_zero, Nat.mul_one]
    exact hR
  have hJ : 400 + t ≤ J := by
    rcases Nat.lt_or_ge J (400 + t) with h | h
    · exact absurd hna (told_fewer hT a' (400 + t) h)
    · exact h
  obtain ⟨k, hk⟩ : ∃ k, J = 400 + k := ⟨J - 400, by omega⟩
  unfold DecNear at hnr
  rw [if_pos (by omega), show J - 400 = k by omega] at hnr
  have hv := one_whole hsm hnr hR
  have hk10 : 10 ^ k ≤ a := by rw [← hv]; exact Nat.le_mul_of_pos_left _ hd
  have hk4 : k < 4 := pow_mono_lt (Nat.lt_of_le_of_lt hk10 (by omega))
  have hdl : d ≤ a := by rw [← hv]; exact Nat.le_mul_of_pos_right _ (Nat.pow_pos (by decide))
  have hn4 := nDigits_le d 4 (by omega) (by omega)
  have hl := decN_length d
  unfold textD
  rw [hl, if_pos (by omega), ← hv, decN_shift d k hd]
  congr 2
  omega
/-- Without the noughts at the end. -/
def rz (l : List Nat) : List Nat := (l.reverse.dropWhile (fun c => decide (c = 48))).reverse
theorem rz_snoc (l : List Nat) (x : Nat) : rz (l ++ [x]) = if x = 48 then rz l else l ++ [x] := by
  unfold rz
  rw [List.reverse_append]
  simp only [List.reverse_cons, List.reverse_nil, List.nil_append, List.singleton_append, List.dropWhile_cons]
  split
  · rename_i h; rw [if_pos (by simpa using h)]
  · rename_i h; rw [if_neg (by simpa using h)]; simp
theorem rz_zeros (l : List Nat) : ∀ t, rz (l ++ List.replicate t 48) = rz l
  | 0 => by simp
  | t + 1 => by
    rw [List.replicate_succ', ← List.append_assoc, rz_snoc, if_pos rfl, rz_zeros l t]
theorem decN_last (d : Nat) (h : d % 10 ≠ 0) : ∃ l x, decN d = l ++ [x] ∧ x ≠ 48 := by
  by_cases h1 : d < 10
  · exact ⟨[], 48 + d, by rw [decN_small h1]; rfl, by omega⟩
  · exact ⟨decN (d / 10), 48 + d % 10, decN_big h1, by omega⟩
theorem rz_decN (d t : Nat) (h : d % 10 ≠ 0) : rz (decN d ++ List.replicate t 48) = decN d := by
  obtain ⟨l, x, e, hx⟩ := decN_last d h
  rw [rz_zeros, e, rz_snoc, if_neg hx]
/-- One more in the last place. -/
theorem vD_nines (l : List Nat) : ∀ k, vD (l ++ List.replicate k 57) + 1 = (vD l + 1) * 10 ^ k
  | 0 => by simp
  | k + 1 => by
    rw [List.replicate_succ', ← List.append_assoc, vD_snoc]
    have := vD_nines l k
    rw [Nat.pow_succ, ← Nat.mul_assoc, ← this]
    omega
theorem vD_more (l : List Nat) (c k : Nat) (hc : 48 ≤ c) : vD (l ++ [c + 1] ++ List.replicate k 48) = vD (l ++ [c] ++ List.replicate k 57) + 1 := by
  rw [vD_nines, vD_append, vD_zeros, List.length_replicate, vD_snoc, vD_snoc, Nat.add_zero]
  congr 1
  omega
theorem vD_over (k : Nat) : vD (49 :: List.replicate k 48) = vD (List.replicate k 57) + 1 := by
  have := vD_nines [] k
  rw [List.nil_append] at this
  rw [this, vD_cons, vD_zeros, List.length_replicate]
  simp [vD]
end Go.Proofs.YtellndmbllmjgaaGreatDoor
