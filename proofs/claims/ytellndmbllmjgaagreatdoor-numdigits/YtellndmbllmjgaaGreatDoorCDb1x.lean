/- The walk of parts (as NumBits' texts have it). -/
import Derived.Test.YtellndmbllmjgaaGreatDoorCDa2x
import Derived.Test.YtellndmbllmjgaaGreatDoorCFl2x
import Derived.Shelf.Spec.TrailingZeros
import Derived.WalkKit
import Derived.WalkSpells
import Derived.WalkLawsBesides
import Derived.Laws.Externs
import Derived.Laws.BitsLemmas
import Derived.Laws.Bits64b
import Derived.Deep.DeepMust
import Derived.Test.YtellndmbllmjgaaGreatDoorCPt1x
import Derived.Shelf.RegionOpenPlain
set_option linter.unusedVariables false
namespace Go.Proofs
open Go.Shelf
def Tryz.tz_ren : Go.Shelf.Ren := ⟨fun | 29 => 157 | n => n, fun | 25 => 99 | 54 => 212 | n => n, fun | 1 => 4 | n => n⟩
theorem Tryz.tz : Go.Proofs.Lays7.n29 Tryz.prog Tryz.tz_ren := {
  mixed := by kernel_rfl
  f29 := Tryz.func157.trans (congrArg some (by kernel_rfl))
  t0 := Tryz.underlying0
  a0 := Tryz.isAgg0
  z0 := Tryz.sizeOf0
  v0 := Tryz.zeroValue0
  i0 := by kernel_rfl
  t3 := Tryz.underlying3
  a3 := Tryz.isAgg3
  z3 := Tryz.sizeOf3
  v3 := Tryz.zeroValue3
  i3 := by kernel_rfl
  t4 := Tryz.underlying4
  a4 := Tryz.isAgg4
  z4 := Tryz.sizeOf4
  v4 := Tryz.zeroValue4
  i4 := by kernel_rfl
  t5 := Tryz.underlying5
  a5 := Tryz.isAgg5
  z5 := Tryz.sizeOf5
  v5 := Tryz.zeroValue5
  i5 := by kernel_rfl
  t22 := Tryz.underlying22
  a22 := Tryz.isAgg22
  z22 := Tryz.sizeOf22
  v22 := Tryz.zeroValue22
  i22 := by kernel_rfl
  t25 := Tryz.underlying99
  a25 := Tryz.isAgg99
  z25 := Tryz.sizeOf99
  v25 := Tryz.zeroValue99
  i25 := by kernel_rfl
  t54 := Tryz.underlying212
  a54 := Tryz.isAgg212
  z54 := Tryz.sizeOf212
  g1 := by kernel_rfl }
theorem Tryz.tz64 (x : Nat) (hx : x < 18446744073709551616) (w : World) (hT : x ≠ 0 → TabAt 4 Lib.deBruijn64tab w) :
    Calls Tryz.prog 157 #[.int .u64 x] w fun e w' => e = .returned (.int .i64 (Lib.ctz 64 x)) ∧ w' = w := Any7.bits_TrailingZeros64 Tryz.tz x hx w hT

end Go.Proofs
namespace Go.Proofs.YtellndmbllmjgaaGreatDoor
open Go.RowKit Go.Shelf Fl

theorem tobits_103 (b : Nat) (w : World) : (callFunc 103 #[.float .f64 b]).run Tryz.prog w = .ok (.value (.int .u64 b)) w := by
  rw [run_callFunc_extern (P := Tryz.prog) (f := 103) (e := Extern.MathFloatBits.float64bits) Tryz.func103 (by kernel_rfl) (by kernel_rfl) (by kernel_rfl) (by kernel_rfl)]
  rfl
theorem pa_and_52 (r : Nat) (h : r < 18446744073709551616) : bits .and .u64 (r : Int) 4503599627370495 = ((r % 4503599627370496 : Nat) : Int) := by
  refine (bits_and_u64_nat r 4503599627370495 h (by omega)).trans ?_
  have e : r &&& (2 ^ 52 - 1) = r % 2 ^ 52 := Nat.and_two_pow_sub_one_eq_mod _ _
  exact congrArg Int.ofNat e
theorem pa_and_11 (q : Nat) (h : q < 2048) : bits .and .u64 (q : Int) 2047 = (q : Int) := by
  refine (bits_and_u64_nat q 2047 (by omega) (by omega)).trans ?_
  have e : q &&& (2 ^ 11 - 1) = q % 2 ^ 11 := Nat.and_two_pow_sub_one_eq_mod _ _
  have e2 : q % 2 ^ 11 = q := Nat.mod_eq_of_lt h
  exact congrArg Int.ofNat (e.trans e2)
theorem pa_or_52 (m : Nat) (h : m < 4503599627370496) : bits .or .u64 (m : Int) 4503599627370496 = ((4503599627370496 + m : Nat) : Int) := by
  refine (bits_or_u64_nat m 4503599627370496 (by omega) (by omega)).trans ?_
  have e : 2 ^ 52 * 1 + m = 2 ^ 52 * 1 ||| m := Nat.two_pow_add_eq_or_of_lt h 1
  rw [Nat.or_comm] at e
  exact congrArg Int.ofNat e.symm
theorem pa_ctz_lt (r : Nat) (h0 : r ≠ 0) (h : r < 18446744073709551616) : Lib.ctz 64 r < 64 := (Lib.lowest_bit 64 r h0 h).2
theorem pa_cdiv (r z : Nat) : (r : Int) / 2 ^ z = ((r / 2 ^ z : Nat) : Int) := by
  rw [Int.natCast_ediv, Int.natCast_pow]; rfl
set_option maxRecDepth 100000 in
set_option maxHeartbeats 400000 in
theorem parts_low (r z : Nat) (h0 : r ≠ 0) (h : r < 4503599627370496) (w : World) (hz : z < 64) (ct : Calls Tryz.prog 157 #[.int .u64 r] w fun e w' => e = .returned (.int .i64 z) ∧ w' = w) :
    Calls Tryz.prog 111 #[.float .f64 r] w fun e w' => e = .returned (.tuple #[.int .u64 ((r / 2 ^ z : Nat) : Int), .int .i64 (-1074 + (z : Int))]) ∧ w' = w := by
  have x1 := tobits_103 r
  have b1 : bits .and .u64 (r : Int) 4503599627370495 = (r : Int) := by
    have b1 := pa_and_52 r (by omega)
    rw [Nat.mod_eq_of_lt h] at b1
    exact b1
  have b2 : bits .and .u64 0 2047 = 0 := pa_and_11 0 (by omega)
  have q1 : (r : Int) / 4503599627370496 = 0 := by omega
  go_enter Tryz.func111, Tryz.ntmps111
  go_wp2_with (first | (go_at_call 157; refine ct.mono ?_; rintro e w' ⟨rfl, rfl⟩) | go_in)
  go_ret2
  rw [← pa_cdiv]
  exact ⟨rfl, rfl⟩
set_option maxRecDepth 100000 in
set_option maxHeartbeats 400000 in
theorem parts_high (r f q m z : Nat) (hf : r % 4503599627370496 = f) (hq : r / 4503599627370496 = q) (h0 : q ≠ 0) (h : q < 2047) (hm : m = 4503599627370496 + f) (w : World) (hz : z < 64) (ct : Calls Tryz.prog 157 #[.int .u64 m] w fun e w' => e = .returned (.int .i64 z) ∧ w' = w) :
    Calls Tryz.prog 111 #[.float .f64 r] w fun e w' => e = .returned (.tuple #[.int .u64 ((m / 2 ^ z : Nat) : Int), .int .i64 ((q : Int) - 1075 + (z : Int))]) ∧ w' = w := by
  have x1 := tobits_103 r
  have b1 : bits .and .u64 (r : Int) 4503599627370495 = (f : Int) := by
    have b1 := pa_and_52 r (by omega)
    rw [hf] at b1
    exact b1
  have b2 : bits .and .u64 (q : Int) 2047 = (q : Int) := pa_and_11 q (by omega)
  have b3 : bits .or .u64 (f : Int) 4503599627370496 = (m : Int) := by
    have := pa_or_52 f (by omega)
    rw [hm]
    exact this
  have q1 : (r : Int) / 4503599627370496 = (q : Int) := by omega
  have q0 : ((q : Int) == 0) = false := by simp; omega
  have m0 : ((m : Int) == 0) = false := by simp; omega
  have mm : m < 9007199254740992 := by omega
  clear hf hq hm
  go_enter Tryz.func111, Tryz.ntmps111
  go_wp2_with (first | (go_at_call 157; refine ct.mono ?_; rintro e w' ⟨rfl, rfl⟩) | go_in)
  go_ret2
  rw [← pa_cdiv]
  exact ⟨rfl, rfl⟩
theorem parts_zero (w : World) : Calls Tryz.prog 111 #[.float .f64 0] w fun e w' => e = .returned (.tuple #[.int .u64 0, .int .i64 0]) ∧ w' = w := by
  have x1 := tobits_103 0
  have b1 : bits .and .u64 0 4503599627370495 = 0 := pa_and_52 0 (by omega)
  have b2 : bits .and .u64 0 2047 = 0 := pa_and_11 0 (by omega)
  go_enter Tryz.func111, Tryz.ntmps111
  go_wp2
  go_ret2
  exact ⟨rfl, rfl⟩
/-- **parts, of a finite word.** -/
theorem partsD_any (r : Nat) (h0 : r ≠ 0) (h : r < 9218868437227405312) (w : World) (hT : TabAt 4 Lib.deBruijn64tab w) :
    Calls Tryz.prog 111 #[.float .f64 r] w fun e w' => e = .returned (.tuple #[.int .u64 ((magR r / 2 ^ Lib.ctz 64 (magR r) : Nat) : Int), .int .i64 ((expR r : Int) - 1074 + (Lib.ctz 64 (magR r) : Int))]) ∧ w' = w := by
  have hm0 : magR r ≠ 0 := fun e => h0 (magR_zero.1 e)
  have hml := magR_lt r
  have hz := pa_ctz_lt (magR r) hm0 (by omega)
  have ct := Tryz.tz64 (magR r) (by omega) w (fun _ => hT)
  generalize Lib.ctz 64 (magR r) = z at *
  by_cases hr : r < 4503599627370496
  · have e1 : magR r = r := by unfold magR; rw [if_pos hr]
    have e2 : expR r = 0 := by unfold expR; omega
    rw [e1] at ct ⊢
    rw [e2]
    exact parts_low r z h0 hr w hz ct
  · have e1 : magR r = 4503599627370496 + r % 4503599627370496 := by unfold magR; rw [if_neg hr]
    have e2 : ((expR r : Nat) : Int) - 1074 = ((r / 4503599627370496 : Nat) : Int) - 1075 := by unfold expR; omega
    rw [e2]
    exact parts_high r _ _ (magR r) z rfl rfl (by omega) (by omega) e1 w hz ct
theorem ctz_split (m : Nat) (h0 : m ≠ 0) (h : m < 18446744073709551616) : m = m / 2 ^ Lib.ctz 64 m * 2 ^ Lib.ctz 64 m := by
  have e : Lib.ctz 64 m = Lib.ctzFrom 64 m := by unfold Lib.ctz; rw [if_neg h0]
  obtain ⟨q, hq, _⟩ := Lib.ctzFrom_spec 64 m (by omega) h
  rw [← e] at hq
  have hp := Nat.two_pow_pos (Lib.ctz 64 m)
  generalize Lib.ctz 64 m = z at *
  have : m / 2 ^ z = 2 * q + 1 := by
    rw [hq, Nat.mul_div_cancel_left _ hp]
  rw [this, Nat.mul_comm]
  exact hq
end Go.Proofs.YtellndmbllmjgaaGreatDoor
/- Digits to any base, as the program lays them. -/
set_option linter.unusedVariables false
namespace Go.Proofs.YtellndmbllmjgaaGreatDoor
open Go.RowKit Go.Shelf Go.Sort Fs Fl

/-- The sign of a digit. -/
def dgc (d : Nat) : Nat := if d < 10 then 48 + d else 87 + d
theorem dgc_zero {d : Nat} : dgc d = 48 ↔ d = 0 := by unfold dgc; split <;> omega
theorem dgc_lt {d : Nat} (h : d < 36) : 48 ≤ dgc d ∧ dgc d < 123 := by unfold dgc; split <;> omega
/-- k digits of x, the lowest first. -/
def leB (b : Nat) : Nat → Nat → List Nat
  | 0, _ => []
  | k + 1, x => dgc (x % b) :: leB b k (x / b)
theorem leB_length (b : Nat) : ∀ k x, (leB b k x).length = k
  | 0, _ => rfl
  | k + 1, x => by rw [leB, List.length_cons, leB_length b k]
theorem leB_zero (b : Nat) : ∀ k, leB b k 0 = List.replicate k 48
  | 0 => rfl
  | k + 1 => by rw [leB, Nat.zero_mod, Nat.zero_div, leB_zero b k, List.replicate_succ]; rfl
theorem leB_append (b : Nat) : ∀ k j x, leB b (k + j) x = leB b k x ++ leB b j (x / b ^ k)
  | 0, j, x => by simp [leB]
  | k + 1, j, x => by
    rw [show k + 1 + j = (k + j) + 1 by omega, leB, leB_append b k j, leB, List.cons_append, Nat.pow_succ', Nat.div_div_eq_div_mul]
/-- The digits of x, the highest first. -/
def decB (b : Nat) : Nat → Nat → List Nat
  | 0, x => [dgc x]
  | f + 1, x => if x < b then [dgc x] else decB b f (x / b) ++ [dgc (x % b)]
def toB (b x : Nat) : List Nat := decB b x x
theorem decB_small {b x : Nat} (h : x < b) : ∀ f, decB b f x = [dgc x]
  | 0 => rfl
  | f + 1 => by rw [decB, if_pos h]
theorem decB_fuel {b : Nat} (hb : 2 ≤ b) : ∀ f g x, x ≤ f → x ≤ g → decB b f x = decB b g x
  | 0, g, x, h, _ => by
    obtain rfl : x = 0 := by omega
    rw [decB_small (by omega), decB_small (by omega)]
  | f + 1, 0, x, _, h => by
    obtain rfl : x = 0 := by omega
    rw [decB_small (by omega), decB_small (by omega)]
  | f + 1, g + 1, x, h1, h2 => by
    rw [decB, decB]
    split
    · rfl
    · have h3 : x / b ≤ x / 2 := Nat.div_le_div_left hb (by omega)
      rw [decB_fuel hb f g (x / b) (by omega) (by omega)]
theorem toB_small {b x : Nat} (h : x < b) : toB b x = [dgc x] := decB_small h x
theorem toB_big {b x : Nat} (hb : 2 ≤ b) (h : b ≤ x) : toB b x = toB b (x / b) ++ [dgc (x % b)] := by
  obtain ⟨y, rfl⟩ : ∃ y, x = y + 1 := ⟨x - 1, by omega⟩
  unfold toB
  rw [decB, if_neg (by omega)]
  have h3 : (y + 1) / b ≤ (y + 1) / 2 := Nat.div_le_div_left hb (by omega)
  rw [decB_fuel hb y ((y + 1) / b) _ (by omega) (Nat.le_refl _)]
theorem toB_ten : ∀ f x, x ≤ f → toB 10 x = decN x
  | 0, x, h => by
    obtain rfl : x = 0 := by omega
    rw [toB_small (by omega), decN_small (by omega)]; rfl
  | f + 1, x, h => by
    rcases Nat.lt_or_ge x 10 with h1 | h1
    · rw [toB_small h1, decN_small h1]; unfold dgc; rw [if_pos h1]
    · rw [toB_big (by omega) h1, toB_ten f (x / 10) (by omega), decN_big (d := x) (by omega)]
      have : x % 10 < 10 := Nat.mod_lt _ (by omega)
      unfold dgc
      rw [if_pos this]
/-- The lowest digits first, without the noughts above, turned. -/
theorem le_trim {b : Nat} (hb : 2 ≤ b) : ∀ K x, 0 < x → x < b ^ K → ∃ M k, leB b K x = M ++ List.replicate k 48 ∧ M.reverse = toB b x ∧ M ≠ [] ∧ ∀ z, M.getLast? = some z → z ≠ 48
  | 0, x, h0, h => by simp at h; omega
  | K + 1, x, h0, h => by
    rw [leB]
    rcases Nat.lt_or_ge x b with h1 | h1
    · refine ⟨[dgc x], K, ?_, by rw [toB_small h1]; rfl, by simp, ?_⟩
      · rw [Nat.mod_eq_of_lt h1, Nat.div_eq_of_lt h1, leB_zero]; rfl
      · intro z hz
        simp at hz
        rw [← hz]
        intro h2
        have := dgc_zero.1 h2
        omega
    · have h2 : 0 < x / b := Nat.div_pos h1 (by omega)
      have h3 : x / b < b ^ K := by rw [Nat.div_lt_iff_lt_mul (by omega), ← Nat.pow_succ]; exact h
      obtain ⟨M, k, e1, e2, e3, e4⟩ := le_trim hb K (x / b) h2 h3
      refine ⟨dgc (x % b) :: M, k, by rw [e1]; rfl, by rw [List.reverse_cons, e2, toB_big hb h1], by simp, ?_⟩
      intro z hz
      refine e4 z ?_
      cases M with
      | nil => exact absurd rfl e3
      | cons a l => rw [List.getLast?_cons_cons] at hz; exact hz
/-- What is left when the noughts at the end are gone is one alone. -/
theorem trim_one {M M' : List Nat} {k k' c : Nat} (h : M ++ List.replicate k c = M' ++ List.replicate k' c) (h1 : ∀ z, M.getLast? = some z → z ≠ c) (h2 : ∀ z, M'.getLast? = some z → z ≠ c) : M = M' := by
  induction k generalizing k' with
  | zero =>
    cases k' with
    | zero => simpa using h
    | succ k' =>
      exfalso
      rw [List.replicate_zero, List.append_nil, List.replicate_succ', ← List.append_assoc] at h
      exact h1 c (by rw [h]; simp) rfl
  | succ k ih =>
    cases k' with
    | zero =>
      exfalso
      rw [List.replicate_zero, List.append_nil, List.replicate_succ', ← List.append_assoc] at h
      exact h2 c (by rw [← h]; simp) rfl
    | succ k' =>
      rw [List.replicate_succ', List.replicate_succ', ← List.append_assoc, ← List.append_assoc] at h
      exact ih (List.append_inj' h rfl).1
/-- A row of bytes of the call's own. -/
def OwnB (base : Nat) (w : World) (v : Value) (L : List Nat) : Prop := w.ownsRow base 5 1 v L.length (L.map bv)
theorem OwnB.forms {base : Nat} {w : World} {v : Value} {L : List Nat} (h : OwnB base w v L) : (v = .slice none 0 0 ∧ L = []) ∨ ∃ g cap, v = .slice (some ⟨g, 0, none⟩) L.length cap ∧ base ≤ g ∧ g < w.heap.size ∧ L.length ≤ cap := by
  rcases h.2 with ⟨rfl, h0⟩ | ⟨g, cap, cur, rfl, hbg, hg, hle, hcap, hsz, htk⟩
  · exact .inl ⟨rfl, List.eq_nil_of_length_eq_zero h0⟩
  · exact .inr ⟨g, cap, rfl, hbg, lt_of_get hg, hle⟩
theorem OwnB.cell {base : Nat} {w : World} {g cap : Nat} {L : List Nat} (h : OwnB base w (.slice (some ⟨g, 0, none⟩) L.length cap) L) (j : Nat) (hj : j < L.length) : w.cell? ⟨g, j, none⟩ = some (.int .u8 ((L[j]?.getD 0 : Nat) : Int)) := by
  have := World.ownsRow.cellAt h j (by omega)
  rw [this, List.getElem?_map, List.getElem?_eq_getElem hj]
  rfl
theorem OwnB.frozen {base : Nat} {w : World} {g cap : Nat} {L : List Nat} (h : OwnB base w (.slice (some ⟨g, 0, none⟩) L.length cap) L) (j : Nat) : w.frozen? ⟨g, j, none⟩ = false := World.ownsRow.frozenAt h j
theorem OwnB.set {base : Nat} {w : World} {g cap : Nat} {L : List Nat} (h : OwnB base w (.slice (some ⟨g, 0, none⟩) L.length cap) L) (j d : Nat) : OwnB base (w.setCell ⟨g, j, none⟩ (.int .u8 (d : Int))) (.slice (some ⟨g, 0, none⟩) (L.set j d).length cap) (L.set j d) := by
  have := (World.ownsRow.stored h j (.int .u8 (d : Int))).1
  unfold OwnB
  rw [List.length_set, List.map_set]
  exact this
theorem OwnB.pop {base : Nat} {w : World} {g cap z : Nat} {L : List Nat} (h : OwnB base w (.slice (some ⟨g, 0, none⟩) (L ++ [z]).length cap) (L ++ [z])) : OwnB base w (.slice (some ⟨g, 0, none⟩) L.length cap) L := by
  unfold OwnB at h ⊢
  rw [List.map_append, List.length_append] at h
  exact ownsRow_pop (by simp) h
/-- Reverse's round: i from each end are done. -/
structure RvS (L M : List Nat) (n i : Nat) : Prop where
  len : M.length = n
  at_ : ∀ j, j < n → M[j]? = if j < i ∨ n ≤ j + i then L[n - 1 - j]? else L[j]?
theorem rev_step {L M : List Nat} {n i : Nat} (h : RvS L M n i) (hn : L.length = n) (hi : 2 * i + 1 < n) : RvS L ((M.set i (M[n - 1 - i]?.getD 0)).set (n - 1 - i) (M[i]?.getD 0)) n (i + 1) := by
  refine ⟨by rw [List.length_set, List.length_set]; exact h.len, fun j hj => ?_⟩
  have hl := h.len
  have e1 := h.at_ i (by omega)
  have e2 := h.at_ (n - 1 - i) (by omega)
  rw [if_neg (by omega)] at e1 e2
  obtain ⟨a, ha⟩ : ∃ a, L[i]? = some a := ⟨_, List.getElem?_eq_getElem (by omega)⟩
  obtain ⟨b, hb⟩ : ∃ b, L[n - 1 - i]? = some b := ⟨_, List.getElem?_eq_getElem (by omega)⟩
  rw [e1, e2, ha, hb, List.getElem?_set, List.getElem?_set]
  by_cases h1 : n - 1 - i = j
  · subst h1
    rw [if_pos rfl, if_pos (by rw [List.length_set]; omega), if_pos (by omega), show n - 1 - (n - 1 - i) = i by omega, ha]
    rfl
  · rw [if_neg h1]
    by_cases h2 : i = j
    · subst h2
      rw [if_pos rfl, if_pos (by omega), if_pos (by omega), hb]
      rfl
    · rw [if_neg h2, h.at_ j hj]
      by_cases h3 : j < i ∨ n ≤ j + i
      · rw [if_pos h3, if_pos (by omega)]
      · rw [if_neg h3, if_neg (by omega)]
theorem rev_end {L M : List Nat} {n i : Nat} (h : RvS L M n i) (hn : L.length = n) (hi : n ≤ 2 * i + 1) : M = L.reverse := by
  apply List.ext_getElem?
  intro j
  rcases Nat.lt_or_ge j n with hj | hj
  · rw [h.at_ j hj, List.getElem?_reverse (by omega), hn]
    by_cases h3 : j < i ∨ n ≤ j + i
    · rw [if_pos h3]
    · rw [if_neg h3]
      congr 1
      omega
  · have := h.len
    rw [List.getElem?_eq_none (by omega), List.getElem?_eq_none (by simp; omega)]
theorem mixedZ : Tryz.prog.follows Departure.mixedOrders = true := by kernel_rfl
inductive RvR (base g cap n : Nat) (w : World) (L : List Nat) : Value → Value → World → Prop
  | mk (M : List Nat) (i : Nat) (W : World) (hi : 2 * i ≤ n + 1) (hS : RvS L M n i) (hO : OwnB base W (.slice (some ⟨g, 0, none⟩) M.length cap) M) (hb : Below base w W) : RvR base g cap n w L (.int .i64 (i : Int)) (.int .i64 ((n : Int) - 1 - (i : Int))) W
set_option maxRecDepth 100000 in
set_option maxHeartbeats 1000000 in
theorem reverse_any (base g cap : Nat) (L : List Nat) (hl : L.length ≤ 100000) (w : World) (hv : OwnB base w (.slice (some ⟨g, 0, none⟩) L.length cap) L) (hbg : base ≤ g) :
    Calls Tryz.prog 160 #[.slice (some ⟨g, 0, none⟩) L.length cap] w fun e w' => (∃ u, e = .returned u) ∧ OwnB base w' (.slice (some ⟨g, 0, none⟩) L.length cap) L.reverse ∧ Below base w w' := by
  obtain ⟨n, hn⟩ : ∃ n, L.length = n := ⟨_, rfl⟩
  have HV : Hid (OwnB base w (.slice (some ⟨g, 0, none⟩) L.length cap) L) := hv
  have HN : Hid (L.length = n) := hn
  rw [hn] at hl ⊢
  clear hv hn
  go_enter Tryz.func160, Tryz.ntmps160
  go_wp2
  go_loopw [2, 3] (fun vi vj wr => RvR base g cap n w L vi vj wr) (fun vi _ _ => n - (RowKit.intOf vi).toNat)
  case atStart =>
    have h := RvR.mk (base := base) (g := g) (cap := cap) (n := n) (w := w) (L := L) L 0 w (by omega) ⟨HN.out, fun j hj => by rw [if_neg (by omega)]⟩ HV.out (Below.refl _ _)
    rw [show (n : Int) - 1 - ((0 : Nat) : Int) = (n : Int) - 1 by omega] at h
    exact h
  case round =>
    obtain ⟨M, i, W, hi, hS, hO, hbw⟩ := hrel
    have HS : Hid (RvS L M n i) := hS
    have HO : Hid (OwnB base wr (.slice (some ⟨g, 0, none⟩) M.length cap) M) := hO
    have hlen := hS.len
    rcases Nat.lt_or_ge (2 * i + 1) n with hlt | hge
    · obtain ⟨j, hj⟩ : ∃ j, j = n - 1 - i := ⟨_, rfl⟩
      have c1 := hO.cell i (by omega)
      have c2 := hO.cell j (by omega)
      have f1 := hO.frozen i
      have f2 := hO.frozen j
      have HST := (show Hid _ from rev_step hS HN.out hlt)
      rw [← hj] at HST
      generalize M[i]?.getD 0 = a at *
      generalize M[j]?.getD 0 = b at *
      have ej : (n : Int) - 1 - (i : Int) = (j : Int) := by omega
      have k1 : (i : Int) < (j : Int) := by omega
      have k2 : (j : Int) < (n : Int) := by omega
      have k3 : (i : Int) < (n : Int) := by omega
      have HJ : Hid (j = n - 1 - i) := hj
      rw [ej]
      clear hS hO hj hlen
      have mixed : Tryz.prog.follows Departure.mixedOrders = true := mixedZ
      go_wp2_with fail
      go_region_o
      go_wp2
      have hst := HST.out
      have h1 := (HO.out.set i b).set j a
      have e1 : (i : Int) + 1 = ((i + 1 : Nat) : Int) := rfl
      have e2 : (j : Int) - 1 = (n : Int) - 1 - ((i + 1 : Nat) : Int) := by have := HJ.out; omega
      rw [e1, e2]
      refine ⟨.mk _ (i + 1) _ (by omega) hst h1 ((hbw.setCell hbg _).setCell hbg _).drew, ?_⟩
      simp only [RowKit.intOf, Int.toNat_natCast]
      omega
    · have k1 : ¬ (i : Int) < (n : Int) - 1 - (i : Int) := by omega
      clear hS hO
      go_wp2
      go_end0
      refine ⟨⟨_, rfl⟩, ?_, hbw⟩
      have h2 := rev_end HS.out HN.out hge
      have h3 := HO.out
      rw [HS.out.len, h2] at h3
      unfold OwnB at h3
      rw [List.length_reverse, HN.out] at h3
      unfold OwnB
      rw [List.length_reverse, HN.out]
      exact h3
end Go.Proofs.YtellndmbllmjgaaGreatDoor
