/- Parts, Scaled. -/
import Derived.Test.YtellndmbllmjgaaGreatDoorCBn10x
import Derived.Test.YtellndmbllmjgaaGreatDoorCRtx
import Derived.Test.YtellndmbllmjgaaGreatDoorCRa2
import Derived.Test.YtellndmbllmjgaaGreatDoorCUt6x
import Derived.Test.YtellndmbllmjgaaGreatDoorCAe1x
import Derived.Test.YtellndmbllmjgaaGreatDoorCEx1x
import Derived.WalkKit
import Derived.Below
import Derived.OwnWalk
import Derived.Deep.Draws
import Derived.KernelRfl
set_option linter.unusedVariables false
namespace Go.Proofs.YtellndmbllmjgaaGreatDoor
open Go.RowKit Go.Shelf Go.Sort Fs Fl Fl2

end Go.Proofs.YtellndmbllmjgaaGreatDoor
/- decimal. -/
set_option linter.unusedVariables false
namespace Go.Proofs.YtellndmbllmjgaaGreatDoor
open Go.RowKit Go.Shelf Go.Sort Fs Fl Fl2

end Go.Proofs.YtellndmbllmjgaaGreatDoor
/- The document's decimal at digits of any number. -/
set_option linter.unusedVariables false
namespace Go.Proofs.YtellndmbllmjgaaGreatDoor
open Go.RowKit Go.Shelf Go.Sort Fs Fl Fl2
theorem ten_pwB {k n : Nat} (h : k ≤ 4 * n) : 10 ^ k ≤ pw n := by
  have h1 : 10 ^ k ≤ 16 ^ k := Nat.pow_le_pow_left (by omega) k
  have h2 : (16 : Nat) ^ k ≤ 16 ^ (4 * n) := Nat.pow_le_pow_right (by omega) h
  have h3 : (16 : Nat) ^ (4 * n) = pw n := by unfold pw; rw [Nat.pow_mul]
  omega
theorem six_pw {b k n : Nat} (hb : b ≤ 36) (h : 3 * k ≤ 8 * n) : b ^ k ≤ pw n := by
  have h1 : b ^ k ≤ 64 ^ k := Nat.pow_le_pow_left (by omega) k
  have h2 : (64 : Nat) ^ k = 2 ^ (6 * k) := by rw [Nat.pow_mul]
  have h3 : (2 : Nat) ^ (6 * k) ≤ 2 ^ (16 * n) := Nat.pow_le_pow_right (by omega) (by omega)
  have h4 : (2 : Nat) ^ (16 * n) = pw n := by unfold pw; rw [Nat.pow_mul]
  omega
set_option maxRecDepth 100000 in
set_option maxHeartbeats 1000000 in
theorem dec_big (u : Value) (s : Nat) (w : World) (hu : NatIs w u s) (hs : 0 < s) (hs2 : s < pw 1600) (k : Int) (hk1 : -5000 ≤ k) (hk2 : k ≤ 400) :
    Calls Tryz.prog 88 #[u, .int .i64 k] w fun e w' => ∃ R, Near (s * 10 ^ k.toNat) (10 ^ (-k).toNat) R ∧ e = .returned (.float .f64 (min R 9218868437227405312)) ∧ Below w.heap.size w w' := by
  have CT : Hid (∀ (i : Nat) w, i ≤ 5000 → Calls Tryz.prog 64 #[.int .u64 10, .int .i64 (i : Int)] w fun e w' => ∃ v, e = .returned v ∧ NatIs w' v (10 ^ i) ∧ Below w.heap.size w w') := by
    intro i w hi
    have := power_any 10 (i : Int) (by omega) (by omega) (by omega) (by omega) (by rw [Int.toNat_natCast]; exact Nat.lt_of_le_of_lt (ten_pwB (n := 1250) (by omega)) (pw_strict (by omega))) w
    rw [Int.toNat_natCast] at this
    exact this
  by_cases h4 : 0 ≤ k
  · obtain ⟨i, rfl⟩ : ∃ i : Nat, k = (i : Int) := ⟨k.toNat, by omega⟩
    have hib : i ≤ 400 := by omega
    have ct := CT.out i w (by omega)
    have b1 : s * 10 ^ i < pw 2400 := by
      rw [Nat.mul_comm]
      exact pw_lt_mul (ten_pwB (n := 100) (by omega)) hs2 (by omega)
    have hp : 0 < s * 10 ^ i := Nat.mul_pos hs (Nat.pow_pos (by omega))
    have MU := (show Hid _ from fun (w1 : World) (x : Value) (hx : NatIs w1 x (10 ^ i)) (hb : Below w.heap.size w w1) => mul_any u x s (10 ^ i) w1 (hu.below hb) hx (pw_lt hs2 (by omega)) (Nat.lt_of_le_of_lt (ten_pwB (n := 100) (by omega)) (pw_strict (by omega))))
    have C1 : Hid (∀ w, Calls Tryz.prog 32 #[.int .u64 1] w fun e w' => ∃ v, e = .returned v ∧ NatIs w' v 1 ∧ Below w.heap.size w w') := fun w => nat_any 1 (by omega) w
    have RA := (show Hid _ from fun (w1 : World) (x y : Value) (hx : NatIs w1 x (s * 10 ^ i)) (hy : NatIs w1 y 1) => ratio_pos x y (s * 10 ^ i) 1 w1 hx hy b1 (Nat.lt_of_lt_of_le (by decide : 1 < pw 1) (pw_mono (by omega))) hp (by omega))
    clear b1 hp CT h4 hs2
    go_enter Tryz.func88, Tryz.ntmps88
    go_wp2_with (first | (go_at_call 64; refine ct.mono ?_; rintro e w1 ⟨x1, rfl, hx1, hw1⟩; clear ct; have cm := MU.out w1 x1 hx1 hw1; clear MU) | (go_at_call 65; refine cm.mono ?_; rintro e w2 ⟨x2, rfl, hx2, hw2⟩; clear cm; have hw12 := hw1.trans (hw2.mono hw1.size); have c1 := C1.out w2; clear C1) | (go_at_call 32; refine c1.mono ?_; rintro e w3 ⟨x3, rfl, hx3, hw3⟩; clear c1; have hw13 := hw12.trans (hw3.mono hw12.size); have ra := RA.out w3 x2 x3 (hx2.below hw3) hx3; clear RA) | (go_at_call 102; refine ra.mono ?_; rintro e w4 ⟨R, hR, rfl, hw4⟩; clear ra))
    go_ret
    refine ⟨R, ?_, rfl, hw13.trans (hw4.mono hw13.size)⟩
    rw [Int.toNat_natCast, show (-(i : Int)).toNat = 0 by omega, Nat.pow_zero]
    exact hR
  · obtain ⟨i, hi⟩ : ∃ i : Nat, i = (-k).toNat := ⟨_, rfl⟩
    obtain rfl : k = -(i : Int) := by omega
    have hi0 : 0 < i := by omega
    have hib : i ≤ 5000 := by omega
    have k0 : ¬ (0 : Int) ≤ -(i : Int) := by omega
    have ct := CT.out i w (by omega)
    have b1 : 10 ^ i < pw 2400 := Nat.lt_of_le_of_lt (ten_pwB (n := 1250) (by omega)) (pw_strict (by omega))
    have hp : 0 < 10 ^ i := Nat.pow_pos (by omega)
    have RA := (show Hid _ from fun (w1 : World) (y : Value) (hb : Below w.heap.size w w1) (hy : NatIs w1 y (10 ^ i)) => ratio_pos u y s (10 ^ i) w1 (hu.below hb) hy (pw_lt hs2 (by omega)) b1 hs hp)
    clear b1 hp CT hi h4 hs2
    go_enter Tryz.func88, Tryz.ntmps88
    go_wp2_with (first | (go_at_call 64; refine ct.mono ?_; rintro e w1 ⟨x1, rfl, hx1, hw1⟩; clear ct; have ra := RA.out w1 x1 hw1 hx1; clear RA) | (go_at_call 102; refine ra.mono ?_; rintro e w4 ⟨R, hR, rfl, hw4⟩; clear ra))
    go_ret
    refine ⟨R, ?_, rfl, hw1.trans (hw4.mono hw1.size)⟩
    rw [show (-(i : Int)).toNat = 0 by omega, Nat.pow_zero, Nat.mul_one, show (-(-(i : Int))).toNat = i by omega]
    exact hR
end Go.Proofs.YtellndmbllmjgaaGreatDoor
/- Digits to any base. -/
set_option linter.unusedVariables false
namespace Go.Proofs.YtellndmbllmjgaaGreatDoor
open Go.RowKit Go.Shelf Go.Sort Fs Fl
/-- The number that digits to a base write. -/
def vB (b : Nat) (l : List Nat) : Nat := l.foldl (fun a c => a * b + digV c) 0
def DigB (b : Nat) (l : List Nat) : Prop := ∀ c ∈ l, digV c < b
theorem vB_from (b : Nat) (l : List Nat) : ∀ a : Nat, l.foldl (fun a c => a * b + digV c) a = a * b ^ l.length + vB b l := by
  unfold vB
  induction l with
  | nil => intro a; simp
  | cons c l ih =>
    intro a
    rw [List.foldl_cons, List.foldl_cons, ih, ih (0 * b + digV c), List.length_cons, Nat.pow_succ, Nat.zero_mul, Nat.zero_add, Nat.add_mul]
    rw [show b ^ l.length * b = b * b ^ l.length from Nat.mul_comm _ _, Nat.mul_assoc, Nat.add_assoc]
theorem vB_append (b : Nat) (l m : List Nat) : vB b (l ++ m) = vB b l * b ^ m.length + vB b m := by
  rw [vB, List.foldl_append, vB_from]
  rfl
theorem vB_one (b c : Nat) : vB b [c] = digV c := by simp [vB]
theorem vB_snoc (b : Nat) (l : List Nat) (c : Nat) : vB b (l ++ [c]) = vB b l * b + digV c := by rw [vB_append, vB_one]; simp
theorem digV_zero : digV 48 = 0 := by decide
theorem digV_nought (c : Nat) : digV c = 0 ↔ c = 48 := by
  unfold digV
  repeat' split
  all_goals omega
theorem vB_zeros (b : Nat) : ∀ z, vB b (List.replicate z 48) = 0
  | 0 => rfl
  | z + 1 => by rw [List.replicate_succ', vB_snoc, vB_zeros b z, digV_zero]; omega
theorem vB_lead (b z : Nat) (D : List Nat) : vB b (List.replicate z 48 ++ D) = vB b D := by rw [vB_append, vB_zeros]; omega
theorem vB_lt (b : Nat) : ∀ (l : List Nat), DigB b l → vB b l < b ^ l.length := by
  intro l
  induction l with
  | nil => intro _; simp [vB]
  | cons c l ih =>
    intro h
    have h1 := ih (fun x hx => h x (by simp [hx]))
    have h2 := h c (by simp)
    rw [show c :: l = [c] ++ l from rfl, vB_append, vB_one, List.length_append, List.length_singleton, Nat.pow_add, Nat.pow_one]
    have h3 := Nat.mul_le_mul_right (b ^ l.length) (show digV c + 1 ≤ b by omega)
    rw [Nat.add_mul] at h3
    omega
theorem vB_ge (b c : Nat) (l : List Nat) (h : 0 < digV c) : b ^ l.length ≤ vB b (c :: l) := by
  rw [show c :: l = [c] ++ l from rfl, vB_append, vB_one]
  have := Nat.mul_le_mul_right (b ^ l.length) (show 1 ≤ digV c from h)
  omega
theorem digV_ten (c : Nat) (h : 48 ≤ c ∧ c < 58) : digV c = c - 48 := by unfold digV; rw [if_pos h]
theorem vB_dec (D : List Nat) (h : Dig D) : vB 10 D = vD D := by
  unfold vB vD
  suffices H : ∀ (l : List Nat) (a : Nat), Dig l → l.foldl (fun a c => a * 10 + digV c) a = l.foldl (fun a c => a * 10 + (c - 48)) a from H D 0 h
  intro l
  induction l with
  | nil => intro a _; rfl
  | cons c l ih =>
    intro a h
    rw [List.foldl_cons, List.foldl_cons, digV_ten c (h c (by simp)), ih _ (fun x hx => h x (by simp [hx]))]
theorem vB_pw {b : Nat} {l : List Nat} (hb : b ≤ 36) (hl : l.length ≤ 4000) (h : DigB b l) : vB b l < pw 1500 := Nat.lt_of_lt_of_le (vB_lt b l h) (six_pw hb (by omega))
theorem DigB.take {b : Nat} {l : List Nat} (h : DigB b l) (k : Nat) : DigB b (l.take k) := fun c hc => h c (List.mem_of_mem_take hc)
theorem take_snocB (l : List Nat) (k : Nat) (h : k < l.length) : l.take (k + 1) = l.take k ++ [l[k]?.getD 0] := by
  rw [List.take_succ_eq_append_getElem h, List.getElem?_eq_getElem h]
  rfl
end Go.Proofs.YtellndmbllmjgaaGreatDoor
/- The shape of a written number; what is nearest to it; its bounds. -/
set_option linter.unusedVariables false
namespace Go.Proofs.YtellndmbllmjgaaGreatDoor
namespace Fs
open Fl

end Fs
end Go.Proofs.YtellndmbllmjgaaGreatDoor
/- The walks of cutSign, cutHex. -/
set_option linter.unusedVariables false
namespace Go.Proofs.YtellndmbllmjgaaGreatDoor
open Go.RowKit Go.Shelf Go.Sort Fs Fl

set_option maxRecDepth 100000 in
set_option maxHeartbeats 1000000 in
theorem cutSign_minus (S : ByteArray) (hs : 0 < S.size) (hs2 : S.size ≤ 100000) (hp : Lib.hasPrefix S.data.toList [45] = true) (w : World) : Calls Tryz.prog 52 #[.string S] w fun e w' => e = .returned (.tuple #[.string (S.extract 1 S.size), .float .f64 13830554455654793216]) ∧ w' = w := by
  have cp := Tryz.strings_HasPrefix S ⟨#[45]⟩
  have hp' : Lib.hasPrefix S.data.toList (ByteArray.mk #[45]).data.toList = true := hp
  rw [hp'] at cp
  go_enter Tryz.func52, Tryz.ntmps52
  go_wp2_with (first | (go_at_call 77; refine (cp _).mono ?_; rintro e w' ⟨rfl, rfl⟩))
  go_ret2
  exact ⟨rfl, rfl⟩
set_option maxRecDepth 100000 in
set_option maxHeartbeats 1000000 in
theorem cutSign_plus (S : ByteArray) (hs : 0 < S.size) (hs2 : S.size ≤ 100000) (hp : Lib.hasPrefix S.data.toList [45] = false) (hq : Lib.hasPrefix S.data.toList [43] = true) (w : World) : Calls Tryz.prog 52 #[.string S] w fun e w' => e = .returned (.tuple #[.string (S.extract 1 S.size), .float .f64 4607182418800017408]) ∧ w' = w := by
  have cp := Tryz.strings_HasPrefix S ⟨#[45]⟩
  have hp' : Lib.hasPrefix S.data.toList (ByteArray.mk #[45]).data.toList = false := hp
  rw [hp'] at cp
  have cq := Tryz.strings_HasPrefix S ⟨#[43]⟩
  have hq' : Lib.hasPrefix S.data.toList (ByteArray.mk #[43]).data.toList = true := hq
  rw [hq'] at cq
  clear hp hq hp' hq'
  go_enter Tryz.func52, Tryz.ntmps52
  go_wp2_with (first | (go_at_call 77; first | (refine (cp _).mono ?_; rintro e w' ⟨rfl, rfl⟩) | (refine (cq _).mono ?_; rintro e w' ⟨rfl, rfl⟩)))
  go_ret2
  exact ⟨rfl, rfl⟩
set_option maxRecDepth 100000 in
set_option maxHeartbeats 1000000 in
theorem cutSign_none (S : ByteArray) (hp : Lib.hasPrefix S.data.toList [45] = false) (hq : Lib.hasPrefix S.data.toList [43] = false) (w : World) : Calls Tryz.prog 52 #[.string S] w fun e w' => e = .returned (.tuple #[.string S, .float .f64 4607182418800017408]) ∧ w' = w := by
  have cp := Tryz.strings_HasPrefix S ⟨#[45]⟩
  have hp' : Lib.hasPrefix S.data.toList (ByteArray.mk #[45]).data.toList = false := hp
  rw [hp'] at cp
  have cq := Tryz.strings_HasPrefix S ⟨#[43]⟩
  have hq' : Lib.hasPrefix S.data.toList (ByteArray.mk #[43]).data.toList = false := hq
  rw [hq'] at cq
  clear hp hq hp' hq'
  go_enter Tryz.func52, Tryz.ntmps52
  go_wp2_with (first | (go_at_call 77; first | (refine (cp _).mono ?_; rintro e w' ⟨rfl, rfl⟩) | (refine (cq _).mono ?_; rintro e w' ⟨rfl, rfl⟩)))
  go_ret2
  exact ⟨rfl, rfl⟩
set_option maxRecDepth 100000 in
set_option maxHeartbeats 1000000 in
/-- cutHex, where the second byte is neither x nor X. -/
theorem cutHex_no (S : ByteArray) (hs2 : S.size ≤ 100000) (h1 : ∀ h : 1 < S.size, (S[1]'h).toNat ≠ 120 ∧ (S[1]'h).toNat ≠ 88) (w : World) : Calls Tryz.prog 40 #[.string S] w fun e w' => e = .returned (.tuple #[.string S, .bool false]) ∧ w' = w := by
  obtain ⟨N, hN⟩ : ∃ N, S.size = N := ⟨_, rfl⟩
  rw [hN] at hs2
  rcases Nat.lt_or_ge N 2 with hlt | hge
  · have k1 : ¬ (2 : Int) ≤ (N : Int) := by omega
    clear h1
    go_enter Tryz.func40, Tryz.ntmps40
    go_wp2
    all_goals (go_ret2; exact ⟨rfl, rfl⟩)
  · have hl0 : 0 < S.size := by omega
    have hl1 : 1 < S.size := by omega
    obtain ⟨c0, hc0⟩ : ∃ c0, (S[0]'hl0).toNat = c0 := ⟨_, rfl⟩
    obtain ⟨c1, hc1⟩ : ∃ c1, (S[1]'hl1).toNat = c1 := ⟨_, rfl⟩
    have hn := h1 hl1
    rw [hc1] at hn
    have k1 : ((c1 : Int) == 120) = false := by rw [beq_eq_false_iff_ne]; omega
    have k2 : ((c1 : Int) == 88) = false := by rw [beq_eq_false_iff_ne]; omega
    clear h1 hn
    go_enter Tryz.func40, Tryz.ntmps40
    go_wp2
    all_goals (go_ret2; exact ⟨rfl, rfl⟩)
end Go.Proofs.YtellndmbllmjgaaGreatDoor
/- The walk of cutSign at any text. -/
set_option linter.unusedVariables false
namespace Go.Proofs.YtellndmbllmjgaaGreatDoor
open Go.RowKit Go.Shelf Go.Sort Fs Fl

/-- Is there a minus; how many signs. -/
def signL : List Nat → Bool × Nat
  | c :: _ => if c = 45 then (true, 1) else if c = 43 then (false, 1) else (false, 0)
  | [] => (false, 0)
theorem signL_le (l : List Nat) : (signL l).2 ≤ 1 ∧ (signL l).2 ≤ l.length := by
  cases l with
  | nil => simp [signL]
  | cons c l => simp only [signL, List.length_cons]; split <;> (try split) <;> simp
theorem preB_one (S : ByteArray) (x : UInt8) : Lib.hasPrefix S.data.toList [x] = (match Ut.bytes S with | c :: _ => decide (c = x.toNat) | [] => false) := by
  unfold Ut.bytes
  cases S.data.toList with
  | nil => rfl
  | cons y l =>
    simp only [List.map_cons]
    by_cases h : y = x
    · subst h
      simp [Lib.hasPrefix]
    · have h2 : ¬ y.toNat = x.toNat := fun e => h (UInt8.toNat_inj.1 e)
      rw [decide_eq_false h2]
      have h3 : (x == y) = false := by rw [beq_eq_false_iff_ne]; exact fun e => h e.symm
      simp [Lib.hasPrefix, List.isPrefixOf, h3]
theorem cutSign_any (S : ByteArray) (hs : S.size ≤ 100000) (w : World) : Calls Tryz.prog 52 #[.string S] w fun e w' => e = .returned (.tuple #[.string (S.extract (signL (Ut.bytes S)).2 S.size), .float .f64 (wd (signL (Ut.bytes S)).1 4607182418800017408)]) ∧ w' = w := by
  have p1 := preB_one S 45
  have p2 := preB_one S 43
  have hl := Ut.bytes_len S
  cases hb : Ut.bytes S with
  | nil =>
    rw [hb] at p1 p2 hl
    refine (cutSign_none S p1 p2 w).mono ?_
    rintro e w' ⟨rfl, rfl⟩
    exact ⟨by simp [signL, wd_false], rfl⟩
  | cons c l =>
    rw [hb] at p1 p2 hl
    have hs0 : 0 < S.size := by rw [← hl]; simp
    by_cases h1 : c = 45
    · subst h1
      refine (cutSign_minus S hs0 hs (by rw [p1]; rfl) w).mono ?_
      rintro e w' ⟨rfl, rfl⟩
      exact ⟨by simp [signL, wd_true], rfl⟩
    · by_cases h2 : c = 43
      · subst h2
        refine (cutSign_plus S hs0 hs (by rw [p1]; rfl) (by rw [p2]; rfl) w).mono ?_
        rintro e w' ⟨rfl, rfl⟩
        exact ⟨by simp [signL, wd_false], rfl⟩
      · refine (cutSign_none S (by rw [p1]; simpa using h1) (by rw [p2]; simpa using h2) w).mono ?_
        rintro e w' ⟨rfl, rfl⟩
        exact ⟨by simp [signL, h1, h2, wd_false], rfl⟩
end Go.Proofs.YtellndmbllmjgaaGreatDoor
/- The document's Digit, digitsTo, sign. -/
set_option linter.unusedVariables false
namespace Go.Proofs.YtellndmbllmjgaaGreatDoor
open Go.RowKit Go.Shelf Go.Sort Fs Fl
/-- What a byte counts for the document: 99: no digit. -/
def digD (c : Nat) : Nat := if digV c < 36 then digV c else 99
theorem digD_lt (c b : Nat) (hb : b ≤ 36) : digD c < b ↔ digV c < b := by
  unfold digD
  split <;> omega
theorem digD_le (c : Nat) : digD c ≤ 99 := by unfold digD; split <;> omega
theorem digD_of {c b : Nat} (hb : b ≤ 36) (h : digV c < b) : digD c = digV c := by unfold digD; rw [if_pos (by omega)]
set_option maxRecDepth 100000 in
set_option maxHeartbeats 1000000 in
theorem digitD_any (c : Nat) (h : c < 256) (w : World) : Calls Tryz.prog 100 #[.int .u8 (c : Int)] w fun e w' => e = .returned (.int .i64 (digD c : Int)) ∧ w' = w := by
  by_cases h1 : 48 ≤ c ∧ c < 58
  · have e : digD c = c - 48 := by unfold digD digV; rw [if_pos h1, if_pos (by omega)]
    have E : Hid ((digD c : Int) = (c : Int) - 48) := by show _ = _; omega
    clear e
    obtain ⟨a, b⟩ := h1
    have k1 : (48 : Int) ≤ (c : Int) := by omega
    have k2 : (c : Int) ≤ 57 := by omega
    go_enter Tryz.func100, Tryz.ntmps100
    go_wp2
    go_ret
    exact ⟨by rw [E.out]; rfl, rfl⟩
  by_cases h2 : 97 ≤ c ∧ c < 123
  · have e : digD c = c - 87 := by unfold digD digV; rw [if_neg h1, if_pos h2, if_pos (by omega)]
    have E : Hid ((digD c : Int) = (c : Int) - 97 + 10) := by show _ = _; omega
    clear e
    obtain ⟨a, b⟩ := h2
    have k1 : (48 : Int) ≤ (c : Int) := by omega
    have k2 : ¬ (c : Int) ≤ 57 := by omega
    have k3 : (97 : Int) ≤ (c : Int) := by omega
    have k4 : (c : Int) ≤ 122 := by omega
    clear h1
    go_enter Tryz.func100, Tryz.ntmps100
    go_wp2
    go_ret
    exact ⟨by rw [E.out]; rfl, rfl⟩
  by_cases h3 : 65 ≤ c ∧ c < 91
  · have e : digD c = c - 55 := by unfold digD digV; rw [if_neg h1, if_neg h2, if_pos h3, if_pos (by omega)]
    have E : Hid ((digD c : Int) = (c : Int) - 65 + 10) := by show _ = _; omega
    clear e
    obtain ⟨a, b⟩ := h3
    have k1 : (48 : Int) ≤ (c : Int) := by omega
    have k2 : ¬ (c : Int) ≤ 57 := by omega
    have k3 : ¬ (97 : Int) ≤ (c : Int) := by omega
    have k4 : (65 : Int) ≤ (c : Int) := by omega
    have k5 : (c : Int) ≤ 90 := by omega
    clear h1 h2
    go_enter Tryz.func100, Tryz.ntmps100
    go_wp2
    go_ret
    exact ⟨by rw [E.out]; rfl, rfl⟩
  · have e : digD c = 99 := by unfold digD digV; rw [if_neg h1, if_neg h2, if_neg h3, if_neg (by omega)]
    have E : Hid (digD c = 99) := e
    clear e
    have q1 : c < 48 ∨ (58 ≤ c ∧ c < 65) ∨ (91 ≤ c ∧ c < 97) ∨ 123 ≤ c := by omega
    clear h1 h2 h3
    rcases q1 with q | ⟨qa, qb⟩ | ⟨qa, qb⟩ | q
    · have k1 : ¬ (48 : Int) ≤ (c : Int) := by omega
      have k2 : ¬ (97 : Int) ≤ (c : Int) := by omega
      have k3 : ¬ (65 : Int) ≤ (c : Int) := by omega
      go_enter Tryz.func100, Tryz.ntmps100
      go_wp2
      go_ret
      exact ⟨by rw [E.out]; rfl, rfl⟩
    · have k1 : (48 : Int) ≤ (c : Int) := by omega
      have k1' : ¬ (c : Int) ≤ 57 := by omega
      have k2 : ¬ (97 : Int) ≤ (c : Int) := by omega
      have k3 : ¬ (65 : Int) ≤ (c : Int) := by omega
      go_enter Tryz.func100, Tryz.ntmps100
      go_wp2
      go_ret
      exact ⟨by rw [E.out]; rfl, rfl⟩
    · have k1 : (48 : Int) ≤ (c : Int) := by omega
      have k1' : ¬ (c : Int) ≤ 57 := by omega
      have k2 : ¬ (97 : Int) ≤ (c : Int) := by omega
      have k3 : (65 : Int) ≤ (c : Int) := by omega
      have k4 : ¬ (c : Int) ≤ 90 := by omega
      go_enter Tryz.func100, Tryz.ntmps100
      go_wp2
      go_ret
      exact ⟨by rw [E.out]; rfl, rfl⟩
    · have k1 : (48 : Int) ≤ (c : Int) := by omega
      have k1' : ¬ (c : Int) ≤ 57 := by omega
      have k2 : (97 : Int) ≤ (c : Int) := by omega
      have k2' : ¬ (c : Int) ≤ 122 := by omega
      have k3 : (65 : Int) ≤ (c : Int) := by omega
      have k4 : ¬ (c : Int) ≤ 90 := by omega
      go_enter Tryz.func100, Tryz.ntmps100
      go_wp2
      go_ret
      exact ⟨by rw [E.out]; rfl, rfl⟩
end Go.Proofs.YtellndmbllmjgaaGreatDoor
/- The walk of frontExponent. -/
set_option linter.unusedVariables false
namespace Go.Proofs.YtellndmbllmjgaaGreatDoor
open Go.RowKit Go.Shelf Go.Sort Fs Fl

theorem conv_one : floatToIntVal .f64 4607182418800017408 .i64 = some 1 := by decide +kernel
theorem conv_min : floatToIntVal .f64 13830554455654793216 .i64 = some (-1) := by decide +kernel
theorem conv_f64 (b : Nat) (v : Int) (h : floatToIntVal .f64 b .i64 = some v) (w : World) : (convert 23 2 (.float .f64 b)).run Tryz.prog w = .ok (.int .i64 v) w :=
  run_convert_float_int w 23 2 .f64 .i64 b v (by kernel_rfl) (by kernel_rfl) h
set_option maxRecDepth 100000 in
set_option maxHeartbeats 1000000 in
theorem fe_none (S : ByteArray) (hs : S.toList.isEmpty = true) (w : World) : Calls Tryz.prog 148 #[.string S] w fun e w' => e = .returned (.tuple #[.int .i64 0, .int .i64 0]) ∧ w' = w := by
  go_enter Tryz.func148, Tryz.ntmps148
  go_wp2
  go_ret2
  exact ⟨rfl, rfl⟩
end Go.Proofs.YtellndmbllmjgaaGreatDoor
/- The walks of digit, run, cutSign, cutHex. -/
set_option linter.unusedVariables false
namespace Go.Proofs.YtellndmbllmjgaaGreatDoor
open Go.RowKit Go.Shelf Go.Sort Fs Fl

set_option maxRecDepth 100000 in
theorem digit_dec (c : Nat) (h1 : 48 ≤ c) (h2 : c < 58) (w : World) : Calls Tryz.prog 95 #[.int .u8 (c : Int)] w fun e w' => e = .returned (.int .i64 ((c : Int) - 48)) ∧ w' = w := by
  go_enter Tryz.func95, Tryz.ntmps95
  go_wp2
  go_ret
  exact ⟨rfl, rfl⟩
end Go.Proofs.YtellndmbllmjgaaGreatDoor
/- What a call keeps: every block that was there, but for a few. Blocks of some cells. -/
set_option linter.unusedVariables false
namespace Go.Proofs.YtellndmbllmjgaaGreatDoor
open Go.RowKit

structure Kx (S : List Nat) (w w' : World) : Prop where
  os : w'.os = w.os
  tape : w'.tape = w.tape
  output : w'.output = w.output
  size : w.heap.size ≤ w'.heap.size
  block : ∀ k, k < w.heap.size → k ∉ S → w'.heap[k]? = w.heap[k]?
theorem Kx.refl (S : List Nat) (w : World) : Kx S w w := ⟨rfl, rfl, rfl, Nat.le_refl _, fun _ _ _ => rfl⟩
theorem Kx.trans {S T : List Nat} {a b c : World} (h : Kx S a b) (k : Kx T b c) (hT : ∀ i ∈ T, i ∈ S ∨ a.heap.size ≤ i) : Kx S a c :=
  ⟨k.os.trans h.os, k.tape.trans h.tape, k.output.trans h.output, Nat.le_trans h.size k.size, fun i hi hn =>
    (k.block i (Nat.lt_of_lt_of_le hi h.size) (fun hm => by rcases hT i hm with h1 | h1; (· exact hn h1); (· omega))).trans (h.block i hi hn)⟩
theorem Kx.same {S : List Nat} {a b c : World} (h : Kx S a b) (k : Kx S b c) : Kx S a c := h.trans k (fun i hi => .inl hi)
theorem Kx.setCell {S : List Nat} (w : World) {p : Addr} (hp : p.block ∈ S) (u : Value) : Kx S w (w.setCell p u) :=
  ⟨rfl, rfl, rfl, by simp [World.setCell], fun k hk hn => Below.heap_setCell _ _ _ _ (fun e => hn (e ▸ hp))⟩
theorem Kx.drew (S : List Nat) (w : World) : Kx S w w.drew := ⟨rfl, rfl, rfl, Nat.le_refl _, fun _ _ _ => rfl⟩
theorem Kx.drewN (S : List Nat) (w : World) (n : Nat) : Kx S w (w.drewN n) := ⟨rfl, rfl, rfl, Nat.le_refl _, fun _ _ _ => rfl⟩
theorem Kx.drw {S : List Nat} {a w : World} (h : Kx S a w) (n : Nat) : Kx S a (w.drewN n) := h.same (Kx.drewN _ _ _)
theorem Kx.drw1 {S : List Nat} {a w : World} (h : Kx S a w) : Kx S a w.drew := h.same (Kx.drew _ _)
theorem Kx.set {S : List Nat} {a w : World} (h : Kx S a w) {p : Addr} (hp : p.block ∈ S) (u : Value) : Kx S a (w.setCell p u) := h.same (Kx.setCell _ hp u)
theorem Kx.below {S : List Nat} {B : Nat} {w w' : World} (h : Kx S w w') (hB : B ≤ w.heap.size) (hS : ∀ i ∈ S, B ≤ i) : Below B w w' :=
  ⟨h.os, h.tape, h.output, h.size, fun k hk => h.block k (by omega) (fun hm => by have := hS k hm; omega)⟩
end Go.Proofs.YtellndmbllmjgaaGreatDoor
/- Decimals of at most 800 digits that are doubled and halved: how a number that was cut lies to each half-way point is kept. Whole numbers alone. -/
set_option linter.unusedVariables false
namespace Go.Proofs.YtellndmbllmjgaaGreatDoor
namespace Fs

theorem ten_two5 (k : Nat) : 10 ^ k = 5 ^ k * 2 ^ k := by rw [← Nat.mul_pow]
theorem ten_le_two : ∀ u : Nat, 10 ^ (3 * u) ≤ 2 ^ (10 * u)
  | 0 => by simp
  | u + 1 => by
    have h := ten_le_two u
    rw [show 3 * (u + 1) = 3 * u + 3 by omega, show 10 * (u + 1) = 10 * u + 10 by omega, Nat.pow_add, Nat.pow_add]
    exact Nat.mul_le_mul h (by decide)
theorem two_le_ten : ∀ u : Nat, 2 ^ (3 * u) ≤ 10 ^ u
  | 0 => by simp
  | u + 1 => by
    have h := two_le_ten u
    rw [show 3 * (u + 1) = 3 * u + 3 by omega, Nat.pow_add, Nat.pow_add]
    exact Nat.mul_le_mul h (by decide)
theorem two_mono {a b : Nat} (h : a ≤ b) : 2 ^ a ≤ 2 ^ b := Nat.pow_le_pow_right (by decide) h
theorem ten_mono {a b : Nat} (h : a ≤ b) : 10 ^ a ≤ 10 ^ b := Nat.pow_le_pow_right (by decide) h
theorem two_inv {a b : Nat} (h : 2 ^ a < 2 ^ b) : a < b := by
  rcases Nat.lt_or_ge a b with h1 | h1
  · exact h1
  · have := two_mono h1; omega

/-- No room: how far the powers of ten and two of a great decimal may lie. -/
theorem cut_room {H N E T a B : Nat} (hH : H = 799) (hN : 10 ^ H ≤ N) (ha : a ≤ 2 ^ 54) (h1 : B ≤ T + 1100) (h2 : T ≤ B + 1110)
    (h : N * 10 ^ E * 2 ^ T < a * 10 ^ B * 2 ^ B) : E ≤ B ∧ T + E ≤ 2 * B := by
  have h3 : 10 ^ H * 10 ^ E * 2 ^ T < 2 ^ 54 * 10 ^ B * 2 ^ B := by
    have e1 : 10 ^ H * 10 ^ E * 2 ^ T ≤ N * 10 ^ E * 2 ^ T := Nat.mul_le_mul_right _ (Nat.mul_le_mul_right _ hN)
    have e2 : a * 10 ^ B * 2 ^ B ≤ 2 ^ 54 * 10 ^ B * 2 ^ B := Nat.mul_le_mul_right _ (Nat.mul_le_mul_right _ (by omega))
    omega
  have hE : E ≤ B := by
    rcases Nat.lt_or_ge B E with h4 | h4
    · exfalso
      have e1 : 10 ^ H * 10 ^ E * 2 ^ T ≥ 2 ^ (3 * H) * 10 ^ B * 2 ^ T :=
        Nat.mul_le_mul_right _ (Nat.mul_le_mul (two_le_ten H) (ten_mono (by omega)))
      have e2 : 2 ^ (3 * H) * 10 ^ B * 2 ^ T < 2 ^ 54 * 10 ^ B * 2 ^ B := by omega
      have e3 : 10 ^ B * 2 ^ (3 * H + T) < 10 ^ B * 2 ^ (54 + B) := by
        rw [Nat.pow_add, Nat.pow_add]
        calc _ = 2 ^ (3 * H) * 10 ^ B * 2 ^ T := by ac_rfl
          _ < _ := e2
          _ = _ := by ac_rfl
      have e4 := two_inv (Nat.lt_of_mul_lt_mul_left e3)
      omega
    · exact h4
  refine ⟨hE, ?_⟩
  rcases Nat.lt_or_ge (2 * B) (T + E) with h4 | h4
  · exfalso
    obtain ⟨d, hd⟩ : ∃ d, B = E + d := ⟨B - E, by omega⟩
    have e1 : 10 ^ E * (10 ^ H * 2 ^ T) < 10 ^ E * (2 ^ 54 * 10 ^ d * 2 ^ B) := by
      calc _ = 10 ^ H * 10 ^ E * 2 ^ T := by ac_rfl
        _ < _ := h3
        _ = 10 ^ E * (2 ^ 54 * 10 ^ d * 2 ^ B) := by
          have e : 10 ^ B = 10 ^ E * 10 ^ d := by rw [← Nat.pow_add, ← hd]
          rw [e]; ac_rfl
    have e2 := Nat.lt_of_mul_lt_mul_left e1
    rcases Nat.lt_or_ge H d with h5 | h5
    · obtain ⟨m, hm⟩ : ∃ m, d = H + m := ⟨d - H, by omega⟩
      have e3 : 10 ^ H * 2 ^ T < 10 ^ H * (2 ^ 54 * 10 ^ m * 2 ^ B) := by
        calc _ < _ := e2
          _ = _ := by rw [hm, Nat.pow_add]; ac_rfl
      have e4 := Nat.lt_of_mul_lt_mul_left e3
      have e5 : 10 ^ m ≤ 2 ^ (10 * ((m + 2) / 3)) := Nat.le_trans (ten_mono (by omega)) (ten_le_two _)
      have e6 : 2 ^ 54 * 10 ^ m * 2 ^ B ≤ 2 ^ (54 + 10 * ((m + 2) / 3) + B) := by
        rw [Nat.pow_add, Nat.pow_add]
        exact Nat.mul_le_mul_right _ (Nat.mul_le_mul_left _ e5)
      have e7 := two_inv (Nat.lt_of_lt_of_le e4 e6)
      omega
    · obtain ⟨m, hm⟩ : ∃ m, H = d + m := ⟨H - d, by omega⟩
      have e3 : 10 ^ d * (10 ^ m * 2 ^ T) < 10 ^ d * (2 ^ 54 * 2 ^ B) := by
        calc _ = 10 ^ H * 2 ^ T := by rw [hm, Nat.pow_add]; ac_rfl
          _ < _ := e2
          _ = _ := by ac_rfl
      have e4 := Nat.lt_of_mul_lt_mul_left e3
      have e5 : 2 ^ (3 * m + T) < 2 ^ (54 + B) := by
        rw [Nat.pow_add, Nat.pow_add]
        exact Nat.lt_of_le_of_lt (Nat.mul_le_mul_right _ (two_le_ten m)) e4
      have e6 := two_inv e5
      omega
  · exact h4

/-- A half-way point is a whole number of the last place's units: one more unit doesn't pass it. -/
theorem cut_unit {H N E T a B : Nat} (hH : H = 799) (hN : 10 ^ H ≤ N) (ha : a ≤ 2 ^ 54) (h1 : B ≤ T + 1100) (h2 : T ≤ B + 1110)
    (h : N * 10 ^ E * 2 ^ T < a * 10 ^ B * 2 ^ B) : (N + 1) * 10 ^ E * 2 ^ T ≤ a * 10 ^ B * 2 ^ B := by
  obtain ⟨hE, hT⟩ := cut_room hH hN ha h1 h2 h
  obtain ⟨d, hd⟩ : ∃ d, B = E + d := ⟨B - E, by omega⟩
  obtain ⟨c, hc⟩ : ∃ c, d + B = T + c := ⟨d + B - T, by omega⟩
  have e : a * 10 ^ B * 2 ^ B = a * 5 ^ d * 2 ^ c * (10 ^ E * 2 ^ T) := by
    have e1 : 10 ^ B = 10 ^ E * (5 ^ d * 2 ^ d) := by rw [← ten_two5, ← Nat.pow_add, ← hd]
    have e2 : 2 ^ d * 2 ^ B = 2 ^ T * 2 ^ c := by rw [← Nat.pow_add, ← Nat.pow_add, hc]
    calc _ = a * 5 ^ d * 10 ^ E * (2 ^ d * 2 ^ B) := by rw [e1]; ac_rfl
      _ = _ := by rw [e2]; ac_rfl
  rw [e, Nat.mul_assoc] at h ⊢
  have h3 := Nat.lt_of_mul_lt_mul_right h
  exact Nat.mul_le_mul_right _ h3

/-- What a decimal says of the true number p / q: N times ten to the (E - B), of p / q times two to the (L - R). Each half-way point a by two to the (U - B) that is meant lies from lo to hi. -/
structure Cut (B p q lo hi L R N E : Nat) (tr : Bool) : Prop where
  same : tr = false → N * 10 ^ E * q * 2 ^ R = p * 2 ^ L * 10 ^ B
  more : tr = true → N * 10 ^ E * q * 2 ^ R < p * 2 ^ L * 10 ^ B
  half : ∀ a T U, a ≤ 2 ^ 54 → lo ≤ U → U ≤ hi → T + L = U + R → N * 10 ^ E * 2 ^ T < a * 10 ^ B * 2 ^ B → p * 2 ^ U < a * q * 2 ^ B

theorem Cut.narrow {B p q lo hi lo' hi' L R N E : Nat} {tr : Bool} (h : Cut B p q lo hi L R N E tr) (h1 : lo ≤ lo') (h2 : hi' ≤ hi) :
    Cut B p q lo' hi' L R N E tr :=
  ⟨h.same, h.more, fun a T U ha h3 h4 h5 h6 => h.half a T U ha (by omega) (by omega) h5 h6⟩

/-- Exact at the start. -/
theorem Cut.exact {B p q lo hi N E : Nat} (hq : 0 < q) (h : N * 10 ^ E * q = p * 10 ^ B) : Cut B p q lo hi 0 0 N E false := by
  refine ⟨fun _ => by simpa using h, fun h1 => Bool.noConfusion h1, ?_⟩
  intro a T U ha h1 h2 h3 h4
  have e : T = U := by omega
  subst e
  have hp : 0 < 10 ^ B := Nat.pow_pos (by decide)
  have e1 : 10 ^ B * (p * 2 ^ T) < 10 ^ B * (a * q * 2 ^ B) := by
    calc _ = p * 10 ^ B * 2 ^ T := by ac_rfl
      _ = N * 10 ^ E * 2 ^ T * q := by rw [← h]; ac_rfl
      _ < a * 10 ^ B * 2 ^ B * q := Nat.mul_lt_mul_of_pos_right h4 hq
      _ = _ := by ac_rfl
  exact Nat.lt_of_mul_lt_mul_left e1

/-- One number written otherwise. -/
theorem Cut.as {B p q lo hi L R N E N' E' : Nat} {tr : Bool} (h : Cut B p q lo hi L R N E tr) (e : N' * 10 ^ E' = N * 10 ^ E) :
    Cut B p q lo hi L R N' E' tr := by
  refine ⟨?_, ?_, ?_⟩
  · rw [e]; exact h.same
  · rw [e]; exact h.more
  · rw [e]; exact h.half

/-- Doubled k times. -/
theorem Cut.left {B p q lo hi L R N E : Nat} {tr : Bool} (h : Cut B p q lo hi L R N E tr) (k : Nat) :
    Cut B p q lo hi (L + k) R (N * 2 ^ k) E tr := by
  have e : N * 2 ^ k * 10 ^ E * q * 2 ^ R = (N * 10 ^ E * q * 2 ^ R) * 2 ^ k := by ac_rfl
  have e' : p * 2 ^ (L + k) * 10 ^ B = (p * 2 ^ L * 10 ^ B) * 2 ^ k := by rw [Nat.pow_add]; ac_rfl
  refine ⟨fun h1 => ?_, fun h1 => ?_, ?_⟩
  · rw [e, e', h.same h1]
  · rw [e, e']; exact Nat.mul_lt_mul_of_pos_right (h.more h1) (Nat.pow_pos (by decide))
  · intro a T U ha h1 h2 h3 h4
    refine h.half a (T + k) U ha h1 h2 (by omega) ?_
    rw [Nat.pow_add]
    calc _ = N * 2 ^ k * 10 ^ E * 2 ^ T := by ac_rfl
      _ < _ := h4

/-- Halved k times: five to the k, and k places down. -/
theorem Cut.right {B p q lo hi L R N E k : Nat} {tr : Bool} (h : Cut B p q lo hi L R N (E + k) tr) (hL : L ≤ lo + R) :
    Cut B p q lo hi L (R + k) (N * 5 ^ k) E tr := by
  have e : N * 5 ^ k * 10 ^ E * q * 2 ^ (R + k) = N * 10 ^ (E + k) * q * 2 ^ R := by
    rw [Nat.pow_add, Nat.pow_add, ten_two5 k]; ac_rfl
  refine ⟨fun h1 => ?_, fun h1 => ?_, ?_⟩
  · rw [e, h.same h1]
  · rw [e]; exact h.more h1
  · intro a T U ha h1 h2 h3 h4
    obtain ⟨T', hT'⟩ : ∃ T', T = T' + k := ⟨T - k, by omega⟩
    refine h.half a T' U ha h1 h2 (by omega) ?_
    calc _ = N * 5 ^ k * 10 ^ E * 2 ^ T := by rw [hT', Nat.pow_add, Nat.pow_add, ten_two5 k]; ac_rfl
      _ < _ := h4

/-- Cut behind the 800th digit. -/
theorem Cut.cut {B p q lo hi L R N E j M H : Nat} {tr : Bool} (hH : H = 799) (h : Cut B p q lo hi L R N E tr)
    (hq : 0 < q) (hM : M = N / 10 ^ j) (h8 : 10 ^ H ≤ M) (h1 : B + L ≤ lo + R + 1100) (h2 : hi + R ≤ B + L + 1110) :
    Cut B p q lo hi L R M (E + j) (tr || decide (N % 10 ^ j ≠ 0)) := by
  have hj : 0 < 10 ^ j := Nat.pow_pos (by decide)
  have hN : N = M * 10 ^ j + N % 10 ^ j := by
    have := Nat.div_add_mod N (10 ^ j); rw [Nat.mul_comm] at this; rw [hM]; omega
  have hlt : N % 10 ^ j < 10 ^ j := Nat.mod_lt _ hj
  have e : M * 10 ^ (E + j) = M * 10 ^ j * 10 ^ E := by rw [Nat.pow_add]; ac_rfl
  by_cases hz : N % 10 ^ j = 0
  · have e1 : M * 10 ^ (E + j) = N * 10 ^ E := by rw [e]; congr 1; omega
    have e2 : (tr || decide (N % 10 ^ j ≠ 0)) = tr := by simp [hz]
    rw [e2]; exact h.as e1
  · have e2 : (tr || decide (N % 10 ^ j ≠ 0)) = true := by simp [hz]
    rw [e2]
    have hlow : N * 10 ^ E * q * 2 ^ R ≤ p * 2 ^ L * 10 ^ B := by
      cases tr with
      | false => exact Nat.le_of_eq (h.same rfl)
      | true => exact Nat.le_of_lt (h.more rfl)
    refine ⟨fun h3 => Bool.noConfusion h3, fun _ => ?_, ?_⟩
    · refine Nat.lt_of_lt_of_le ?_ hlow
      rw [e]
      refine Nat.mul_lt_mul_of_pos_right (Nat.mul_lt_mul_of_pos_right (Nat.mul_lt_mul_of_pos_right ?_ (Nat.pow_pos (by decide))) hq) (Nat.pow_pos (by decide))
      omega
    · intro a T U ha h3 h4 h5 h6
      refine h.half a T U ha h3 h4 h5 ?_
      have h7 := cut_unit hH h8 ha (by omega) (by omega) h6
      refine Nat.lt_of_lt_of_le ?_ h7
      have e3 : (M + 1) * 10 ^ (E + j) * 2 ^ T = (M + 1) * 10 ^ j * 10 ^ E * 2 ^ T := by rw [Nat.pow_add]; ac_rfl
      rw [e3]
      refine Nat.mul_lt_mul_of_pos_right (Nat.mul_lt_mul_of_pos_right ?_ (Nat.pow_pos (by decide))) (Nat.pow_pos (by decide))
      rw [Nat.add_mul]; omega

/-- At a half-way point of the last stage. -/
theorem Cut.below {B p q lo hi L R N E U a : Nat} {tr : Bool} (h : Cut B p q lo hi L R N E tr) (ha : a ≤ 2 ^ 54)
    (h1 : lo ≤ U) (h2 : U ≤ hi) (h3 : B + 1 + L = U + R) (h4 : 2 * (N * 10 ^ E) < a * 10 ^ B) : 2 * (p * 2 ^ L) < a * (q * 2 ^ R) := by
  have h5 := h.half a (B + 1) U ha h1 h2 h3 (by
    have hp : 0 < 2 ^ B := Nat.pow_pos (by decide)
    calc _ = 2 * (N * 10 ^ E) * 2 ^ B := by rw [Nat.pow_succ]; ac_rfl
      _ < _ := Nat.mul_lt_mul_of_pos_right h4 hp)
  have hR : 0 < 2 ^ R := Nat.pow_pos (by decide)
  have h6 := Nat.mul_lt_mul_of_pos_right h5 hR
  have e1 : p * 2 ^ U * 2 ^ R = 2 ^ B * (2 * (p * 2 ^ L)) := by
    have : 2 ^ U * 2 ^ R = 2 ^ B * 2 * 2 ^ L := by rw [← Nat.pow_add, ← h3, Nat.pow_add, Nat.pow_succ]
    rw [Nat.mul_assoc, this]; ac_rfl
  have e2 : a * q * 2 ^ B * 2 ^ R = 2 ^ B * (a * (q * 2 ^ R)) := by ac_rfl
  rw [e1, e2] at h6
  exact Nat.lt_of_mul_lt_mul_left h6
theorem Cut.above {B p q lo hi L R N E a : Nat} {tr : Bool} (h : Cut B p q lo hi L R N E tr) (hq : 0 < q)
    (h4 : a * 10 ^ B ≤ 2 * (N * 10 ^ E)) : a * (q * 2 ^ R) ≤ 2 * (p * 2 ^ L) ∧ (a * 10 ^ B < 2 * (N * 10 ^ E) ∨ tr = true → a * (q * 2 ^ R) < 2 * (p * 2 ^ L)) ∧
      (a * 10 ^ B = 2 * (N * 10 ^ E) → tr = false → a * (q * 2 ^ R) = 2 * (p * 2 ^ L)) := by
  have hp : 0 < 10 ^ B := Nat.pow_pos (by decide)
  have hb : 0 < q * 2 ^ R := Nat.mul_pos hq (Nat.pow_pos (by decide))
  have e1 : N * 10 ^ E * q * 2 ^ R = N * 10 ^ E * (q * 2 ^ R) := Nat.mul_assoc ..
  have h5 := Nat.mul_le_mul_right (q * 2 ^ R) h4
  have e2 : a * 10 ^ B * (q * 2 ^ R) = 10 ^ B * (a * (q * 2 ^ R)) := by ac_rfl
  have e3 : 2 * (p * 2 ^ L * 10 ^ B) = 10 ^ B * (2 * (p * 2 ^ L)) := by ac_rfl
  have e4 : 2 * (N * 10 ^ E) * (q * 2 ^ R) = 2 * (N * 10 ^ E * q * 2 ^ R) := by rw [e1]; ac_rfl
  have hs := h.same
  have hm := h.more
  rw [e2, e4] at h5
  have hle : N * 10 ^ E * q * 2 ^ R ≤ p * 2 ^ L * 10 ^ B := by
    cases tr with
    | false => exact Nat.le_of_eq (hs rfl)
    | true => exact Nat.le_of_lt (hm rfl)
  refine ⟨Nat.le_of_mul_le_mul_left (c := 10 ^ B) (by omega) hp, ?_, ?_⟩
  · rintro (h6 | h6)
    · have h7 := Nat.mul_lt_mul_of_pos_right h6 hb
      rw [e2, e4] at h7
      exact Nat.lt_of_mul_lt_mul_left (a := 10 ^ B) (by omega)
    · have h7 := hm h6
      exact Nat.lt_of_mul_lt_mul_left (a := 10 ^ B) (by omega)
  · intro h6 h7
    have h8 := hs h7
    have h9 : 10 ^ B * (a * (q * 2 ^ R)) = 10 ^ B * (2 * (p * 2 ^ L)) := by
      rw [← e2, ← e3, h6, e4, h8]
    exact Nat.eq_of_mul_eq_mul_left hp h9

/-- The decimal's whole part, and whether it is rounded up: the true number's. -/
theorem Cut.round {B p q lo hi L R N E U I : Nat} {tr : Bool} (h : Cut B p q lo hi L R N E tr) (hq : 0 < q)
    (hI : I < 2 ^ 53) (h1 : lo ≤ U) (h2 : U ≤ hi) (h3 : B + 1 + L = U + R) (h4 : I * 10 ^ B ≤ N * 10 ^ E) (h5 : N * 10 ^ E < (I + 1) * 10 ^ B) :
    ∃ left, p * 2 ^ L = I * (q * 2 ^ R) + left ∧ left < q * 2 ^ R ∧
      ((q * 2 ^ R < 2 * left ∨ (2 * left = q * 2 ^ R ∧ I % 2 = 1)) ↔
        ((2 * I + 1) * 10 ^ B < 2 * (N * 10 ^ E) ∨ ((2 * I + 1) * 10 ^ B = 2 * (N * 10 ^ E) ∧ (tr = true ∨ I % 2 = 1)))) := by
  have e1 : 2 * I * 10 ^ B = 2 * (I * 10 ^ B) := Nat.mul_assoc ..
  have e2 : 2 * (I + 1) * 10 ^ B = 2 * ((I + 1) * 10 ^ B) := Nat.mul_assoc ..
  have e3 : 2 * I * (q * 2 ^ R) = 2 * (I * (q * 2 ^ R)) := Nat.mul_assoc ..
  have e4 : 2 * (I + 1) * (q * 2 ^ R) = 2 * (I * (q * 2 ^ R)) + 2 * (q * 2 ^ R) := by rw [Nat.mul_assoc, Nat.add_mul, Nat.one_mul, Nat.mul_add]
  have e5 : (2 * I + 1) * (q * 2 ^ R) = 2 * (I * (q * 2 ^ R)) + q * 2 ^ R := by rw [Nat.add_mul, Nat.one_mul, e3]
  have a1 := (h.above hq (a := 2 * I) (by omega)).1
  have a2 := h.below (a := 2 * (I + 1)) (by omega) h1 h2 h3 (by omega)
  refine ⟨p * 2 ^ L - I * (q * 2 ^ R), by omega, by omega, ?_⟩
  rcases Nat.lt_or_ge (2 * (N * 10 ^ E)) ((2 * I + 1) * 10 ^ B) with h6 | h6
  · have a3 := h.below (a := 2 * I + 1) (by omega) h1 h2 h3 h6
    constructor
    · rintro (h7 | h7)
      · omega
      · omega
    · rintro (h7 | h7)
      · omega
      · omega
  · obtain ⟨a3, a4, a5⟩ := h.above hq (a := 2 * I + 1) h6
    constructor
    · rintro (h7 | ⟨h7, h8⟩)
      · rcases Nat.lt_or_ge ((2 * I + 1) * 10 ^ B) (2 * (N * 10 ^ E)) with h9 | h9
        · exact Or.inl h9
        · have e : (2 * I + 1) * 10 ^ B = 2 * (N * 10 ^ E) := by omega
          refine Or.inr ⟨e, Or.inl ?_⟩
          cases tr with
          | true => rfl
          | false => have := a5 e rfl; omega
      · rcases Nat.lt_or_ge ((2 * I + 1) * 10 ^ B) (2 * (N * 10 ^ E)) with h9 | h9
        · exact Or.inl h9
        · exact Or.inr ⟨by omega, Or.inr h8⟩
    · rintro (h7 | ⟨h7, h8⟩)
      · have := a4 (Or.inl h7); omega
      · cases tr with
        | true => have := a4 (Or.inr rfl); omega
        | false =>
          have := a5 h7 rfl
          rcases h8 with h8 | h8
          · exact Bool.noConfusion h8
          · exact Or.inr ⟨by omega, h8⟩

end Fs
end Go.Proofs.YtellndmbllmjgaaGreatDoor
