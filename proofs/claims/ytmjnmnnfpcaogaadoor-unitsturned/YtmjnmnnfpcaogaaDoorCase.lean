/- Plain mathematics: what ToUpper and ToLower make of a code point: a half stays as it is, what is none stays none. -/
import Derived.Test.YtmjnmnnfpcaogaaDoorLists
import Derived.Shelf.Unicode.CaseTo
import Derived.KernelRfl
set_option linter.unusedVariables false
namespace Go.Proofs.YtmjnmnnfpcaogaaDoor
namespace Un
open Go.Lib

def rowOk (c : Nat) (x : CaseRow) : Bool :=
  (decide (x.2.1 < 55296) || decide (57344 ≤ x.1)) &&
  (if x.delta c > 1114111 then (decide (x.2.1 + 1 < 55296) || (decide (57344 ≤ x.1) && decide (x.2.1 + 1 ≤ 1114111)))
   else ((decide (0 ≤ (x.1 : Int) + x.delta c) && decide ((x.2.1 : Int) + x.delta c < 55296)) || (decide (57344 ≤ (x.1 : Int) + x.delta c) && decide ((x.2.1 : Int) + x.delta c ≤ 1114111))))

set_option maxRecDepth 100000 in
theorem rows_ok0 : caseT.all (rowOk 0) = true := by kernel_rfl
set_option maxRecDepth 100000 in
theorem rows_ok1 : caseT.all (rowOk 1) = true := by kernel_rfl

/-- A half. -/
def half (r : Int) : Prop := 55296 ≤ r ∧ r < 57344

theorem row_facts (c : Nat) (hc : c < 2) (x : CaseRow) (h : rowOk c x = true) (r : Int) (h1 : (x.1 : Int) ≤ r) (h2 : r ≤ (x.2.1 : Int)) : 0 ≤ convertR c r x ∧ convertR c r x ≤ 1114111 ∧ ¬ half r ∧ ¬ half (convertR c r x) := by
  unfold rowOk at h
  unfold convertR half
  simp only [Bool.and_eq_true, Bool.or_eq_true, decide_eq_true_eq] at h
  obtain ⟨ha, hb⟩ := h
  split at hb
  · rename_i hd
    rw [if_pos hd]
    simp only [Bool.and_eq_true, Bool.or_eq_true, decide_eq_true_eq] at hb
    have hcc : (c : Int) % 2 = 0 ∨ (c : Int) % 2 = 1 := by omega
    have hcast : ((c % 2 : Nat) : Int) = (c : Int) % 2 := by omega
    rw [hcast]
    refine ⟨?_, ?_, ?_, ?_⟩ <;> omega
  · rename_i hd
    rw [if_neg hd]
    simp only [Bool.and_eq_true, Bool.or_eq_true, decide_eq_true_eq] at hb
    refine ⟨?_, ?_, ?_, ?_⟩ <;> omega

theorem toR_facts (c : Nat) (hc : c < 2) (hrows : caseT.all (rowOk c) = true) (r : Int) (h0 : 0 ≤ r) (h1 : r ≤ 1114111) : 0 ≤ toR caseA c r ∧ toR caseA c r ≤ 1114111 ∧ (half r → toR caseA c r = r) ∧ (¬ half r → ¬ half (toR caseA c r)) := by
  unfold toR lookupGo
  cases hl : lookupIdx caseA r (caseA.size + 1) 0 caseA.size with
  | none =>
    simp only [Option.map_none]
    exact ⟨h0, h1, fun _ => trivial, fun h => h⟩
  | some i =>
    simp only [Option.map_some]
    obtain ⟨hi, g1, g2⟩ := lookupIdx_some caseA r _ _ _ i hl
    have hm : caseA.getD i (0, 0, 0, 0, 0) ∈ caseT := by
      have e : caseA.getD i (0, 0, 0, 0, 0) = caseA[i] := by simp [Array.getD, hi]
      rw [e]
      simp [caseA]
    have hok := List.all_eq_true.1 hrows _ hm
    have := row_facts c hc _ hok r g1 g2
    exact ⟨this.1, this.2.1, fun h => absurd h this.2.2.1, fun _ => this.2.2.2⟩

theorem upper_facts (r : Int) (h0 : 0 ≤ r) (h1 : r ≤ 1114111) : 0 ≤ toUpperU r ∧ toUpperU r ≤ 1114111 ∧ (half r → toUpperU r = r) ∧ (¬ half r → ¬ half (toUpperU r)) := by
  unfold toUpperU
  have h := toR_facts 0 (by omega) rows_ok0 r h0 h1
  split
  · split
    · unfold half
      refine ⟨?_, ?_, ?_, ?_⟩ <;> omega
    · exact ⟨h0, h1, fun _ => rfl, fun h => h⟩
  · exact h
theorem lower_facts (r : Int) (h0 : 0 ≤ r) (h1 : r ≤ 1114111) : 0 ≤ toLowerU r ∧ toLowerU r ≤ 1114111 ∧ (half r → toLowerU r = r) ∧ (¬ half r → ¬ half (toLowerU r)) := by
  unfold toLowerU
  have h := toR_facts 1 (by omega) rows_ok1 r h0 h1
  split
  · split
    · unfold half
      refine ⟨?_, ?_, ?_, ?_⟩ <;> omega
    · exact ⟨h0, h1, fun _ => rfl, fun h => h⟩
  · exact h

/-- A mapping of code points that keeps halves and makes none. -/
structure Maps (f : Int → Int) (g : Nat → Nat) : Prop where
  eq : ∀ r : Nat, r ≤ 1114111 → f (r : Int) = (g r : Int)
  le : ∀ r : Nat, r ≤ 1114111 → g r ≤ 1114111
  keep : ∀ r : Nat, r ≤ 1114111 → (55296 ≤ r ∧ r < 57344) → g r = r
  none : ∀ r : Nat, r ≤ 1114111 → ¬ (55296 ≤ r ∧ r < 57344) → ¬ (55296 ≤ g r ∧ g r < 57344)
def upN (r : Nat) : Nat := (toUpperU (r : Int)).toNat
def loN (r : Nat) : Nat := (toLowerU (r : Int)).toNat
theorem maps_of (f : Int → Int) (h : ∀ r : Int, 0 ≤ r → r ≤ 1114111 → 0 ≤ f r ∧ f r ≤ 1114111 ∧ (half r → f r = r) ∧ (¬ half r → ¬ half (f r))) : Maps f (fun r => (f (r : Int)).toNat) := by
  refine ⟨fun r hr => ?_, fun r hr => ?_, fun r hr hh => ?_, fun r hr hh => ?_⟩
  all_goals
    obtain ⟨a, b, c, d⟩ := h r (by omega) (by omega)
    unfold half at c d
  · omega
  · omega
  · have := c (by omega)
    omega
  · have := d (by omega)
    omega
theorem maps_up : Maps toUpperU upN := maps_of toUpperU upper_facts
theorem maps_lo : Maps toLowerU loN := maps_of toLowerU lower_facts

/-- No first half stands right ahead of a second. -/
def noPair : List Nat → Prop
  | [] => True
  | [_] => True
  | r :: q :: t => (isF r && isS q) = false ∧ noPair (q :: t)
theorem isS_big (r : Nat) (h : 57344 ≤ r) : isS r = false := by unfold isS; simp; omega
theorem isF_big (r : Nat) (h : 57344 ≤ r) : isF r = false := by unfold isF; simp; omega
theorem pts_head (v : Nat) (t : List Nat) : ∃ q rest, pts (v :: t) = q :: rest ∧ (q = v ∨ 65536 ≤ q) := by
  cases t with
  | nil => exact ⟨v, [], rfl, .inl rfl⟩
  | cons b t =>
    unfold pts
    split
    · rename_i hh
      simp only [isF, isS, Bool.and_eq_true, decide_eq_true_eq] at hh
      exact ⟨_, _, rfl, .inr (by omega)⟩
    · exact ⟨_, _, rfl, .inl rfl⟩
theorem noPair_cons_big (r : Nat) (h : 57344 ≤ r) (l : List Nat) (hl : noPair l) : noPair (r :: l) := by
  cases l with
  | nil => trivial
  | cons q t => exact ⟨by rw [isF_big r h]; rfl, hl⟩
theorem pts_noPair : ∀ (l : List Nat), noPair (pts l)
  | [] => trivial
  | [_] => trivial
  | u :: v :: t => by
    unfold pts
    split
    · rename_i hh
      simp only [isF, isS, Bool.and_eq_true, decide_eq_true_eq] at hh
      exact noPair_cons_big _ (by omega) _ (pts_noPair t)
    · rename_i hh
      have ih := pts_noPair (v :: t)
      obtain ⟨q, rest, e, hq⟩ := pts_head v t
      rw [e] at ih ⊢
      refine ⟨?_, ih⟩
      rcases hq with rfl | hq
      · simpa using hh
      · rw [isS_big q (by omega)]; simp
theorem noPair_map (f : Int → Int) (g : Nat → Nat) (hg : Maps f g) : ∀ (l : List Nat), (∀ r ∈ l, r ≤ 1114111) → noPair l → noPair (l.map g)
  | [], _, _ => trivial
  | [_], _, _ => trivial
  | r :: q :: t, hb, h => by
    refine ⟨?_, noPair_map f g hg (q :: t) (fun x hx => hb x (List.mem_cons_of_mem _ hx)) h.2⟩
    have hr := hb r (by simp)
    have hq := hb q (by simp)
    have key : ∀ x, x ≤ 1114111 → isF (g x) = isF x ∧ isS (g x) = isS x := fun x hx => by
      by_cases hh : 55296 ≤ x ∧ x < 57344
      · rw [hg.keep x hx hh]; exact ⟨rfl, rfl⟩
      · have := hg.none x hx hh
        unfold isF isS
        constructor <;> (rw [Bool.eq_iff_iff]; simp; omega)
    rw [(key r hr).1, (key q hq).2]
    exact h.1
/-- **The code points of the units of code points are the code points.** -/
theorem pts_flat : ∀ (l : List Nat), (∀ r ∈ l, r ≤ 1114111) → noPair l → pts (l.flatMap unR) = l
  | [], _, _ => rfl
  | r :: l, hb, h => by
    have hr := hb r (by simp)
    have hl : ∀ x ∈ l, x ≤ 1114111 := fun x hx => hb x (List.mem_cons_of_mem _ hx)
    have hn : noPair l := by
      cases l with
      | nil => trivial
      | cons q t => exact h.2
    have ih := pts_flat l hl hn
    rw [List.flatMap_cons]
    by_cases hlt : r < 65536
    · have e0 : unR r = [r] := by unfold unR; rw [if_pos hlt]
      rw [e0]
      cases l with
      | nil => rfl
      | cons q t =>
        have hq := hl q (by simp)
        rw [List.flatMap_cons] at ih ⊢
        have e : ∃ a rest, unR q ++ t.flatMap unR = a :: rest ∧ isS a = isS q := by
          unfold unR
          split
          · exact ⟨_, _, rfl, rfl⟩
          · exact ⟨_, _, rfl, by rw [isS_big q (by omega)]; unfold isS; simp; omega⟩
        obtain ⟨a, rest, e, ha⟩ := e
        rw [e] at ih ⊢
        show pts (r :: a :: rest) = r :: q :: t
        rw [pts, if_neg (by rw [ha, h.1]; simp), ih]
    · have e0 : unR r = [55296 + (r - 65536) / 1024, 56320 + (r - 65536) % 1024] := by unfold unR; rw [if_neg hlt]
      rw [e0]
      show pts ((55296 + (r - 65536) / 1024) :: (56320 + (r - 65536) % 1024) :: l.flatMap unR) = r :: l
      rw [pts, if_pos (by unfold isF isS; simp; omega), ih]
      have e1 : 65536 + (55296 + (r - 65536) / 1024 - 55296) * 1024 + (56320 + (r - 65536) % 1024) - 56320 = r := by omega
      rw [e1]
end Un
end Go.Proofs.YtmjnmnnfpcaogaaDoor
