/- The walks of uscale and its kin. -/
import Derived.Test.YtellndmbllmjgaaGreatDoorCUs4x
import Derived.Test.YtellndmbllmjgaaGreatDoorCSl
import Derived.Test.YtellndmbllmjgaaGreatDoorChecked
import Derived.WalkKit
import Derived.WalkSpells
import Derived.WalkLawsBesides
import Derived.Laws.BitsLemmas
import Derived.Laws.BitsAllLaws
import Derived.Laws.Shifts
import Derived.Deep.DeepMust
import Derived.Deep.DeepFit
import Derived.Deep.QuietTactic
set_option linter.unusedVariables false
namespace Go.Proofs.YtellndmbllmjgaaGreatDoor
open Go.RowKit Go.Shelf Fs

theorem bool2u (b : Bool) (w : World) : Calls Tryz.prog 279 #[.bool b] w fun e w' => e = .returned (.int .u64 (if b then 1 else 0)) ∧ w' = w := by
  cases b
  · go_enter Tryz.func279, Tryz.ntmps279
    go_wp2
    go_ret
    exact ⟨rfl, rfl⟩
  · go_enter Tryz.func279, Tryz.ntmps279
    go_wp2
    go_ret
    exact ⟨rfl, rfl⟩
theorem and63 (s : Nat) (h : s < 64) : bits .and .i64 (s : Int) 63 = (s : Int) := by
  have := bits_mask .i64 63 (by decide) (fun n h0 h1 => by rw [IntKind.wrap_i64]; omega) 6 (by decide) (s : Int) (by omega) (by omega)
  refine this.trans ?_
  omega
set_option maxRecDepth 100000 in
theorem uscale_core (x hi lo s b H mid mid2 lo2 r : Nat) (hs : s < 64) (hH : H < 18446744073709551616) (hm : mid < 18446744073709551616) (hm2 : mid2 < 18446744073709551616) (hH1 : mid < mid2 → 0 < H) (w : World)
    (c0 : w.cell? ⟨b, 0, none⟩ = some (.int .u64 (hi : Int))) (c1 : w.cell? ⟨b, 1, none⟩ = some (.int .u64 (lo : Int))) (c2 : w.cell? ⟨b, 2, none⟩ = some (.int .i64 (s : Int)))
    (ma : ∀ w, Calls Tryz.prog 125 #[.int .u64 (x : Int), .int .u64 (hi : Int)] w fun e w' => e = .returned (.tuple #[.int .u64 (H : Int), .int .u64 (mid : Int)]) ∧ w' = w)
    (mb : ∀ w, Calls Tryz.prog 125 #[.int .u64 (x : Int), .int .u64 (lo : Int)] w fun e w' => e = .returned (.tuple #[.int .u64 (mid2 : Int), .int .u64 (lo2 : Int)]) ∧ w' = w) :
    Calls Tryz.prog 254 #[.int .u64 (x : Int), .pointer (some ⟨b, 0, none⟩)] w fun e w' => e = .returned (.int .u64 ((if H % 2 ^ s ≠ 0 then H / 2 ^ s ||| 1 else (H - (if mid < mid2 then 1 else 0)) / 2 ^ s ||| (if 1 < (mid + 18446744073709551616 - mid2) % 18446744073709551616 then 1 else 0) : Nat) : Int)) ∧ ∃ n, w' = w.drewN n := by
  have k1 := and63 s hs
  have hp := Nat.two_pow_pos s
  have hdm := Nat.div_add_mod H (2 ^ s)
  have hml := Nat.mod_lt H hp
  have e1 : (H : Int) / 2 ^ s = ((H / 2 ^ s : Nat) : Int) := by rw [Int.natCast_ediv, Int.natCast_pow]; rfl
  have e2 : ((H / 2 ^ s : Nat) : Int) * 2 ^ s = ((H / 2 ^ s * 2 ^ s : Nat) : Int) := by rw [Int.natCast_mul, Int.natCast_pow]; rfl
  have hle : H / 2 ^ s * 2 ^ s ≤ H := Nat.div_mul_le_self ..
  have e3 : IntKind.u64.wrap ((H / 2 ^ s * 2 ^ s : Nat) : Int) = ((H / 2 ^ s * 2 ^ s : Nat) : Int) := by rw [IntKind.wrap_u64]; omega
  have e4 : H / 2 ^ s * 2 ^ s = 2 ^ s * (H / 2 ^ s) := Nat.mul_comm ..
  by_cases hr : H % 2 ^ s ≠ 0
  · rw [if_pos hr]
    have t1 : (IntKind.u64.wrap ((H : Int) / 2 ^ s * 2 ^ s) != (H : Int)) = true := by
      rw [e1, e2, e3, bne_iff_ne]
      omega
    have o1 : bits .or .u64 ((H : Int) / 2 ^ s) 1 = ((H / 2 ^ s ||| 1 : Nat) : Int) := by
      rw [e1]
      exact u64_or_nat _ 1 (Nat.lt_of_le_of_lt (Nat.div_le_self ..) hH) (by omega)
    clear e1 e2 e3 e4 hdm hml hle hr hp
    go_enter Tryz.func254, Tryz.ntmps254
    go_wp2_with (first | (go_at_call 125; refine (ma _).mono ?_; rintro e w' ⟨rfl, rfl⟩))
    go_ret
    exact ⟨rfl, 0, rfl⟩
  · rw [if_neg hr]
    have t1 : (IntKind.u64.wrap ((H : Int) / 2 ^ s * 2 ^ s) != (H : Int)) = false := by
      rw [e1, e2, e3, bne_eq_false_iff_eq]
      omega
    have hb : ∀ a : Nat, a ≤ H → bits .or .u64 ((a : Int) / 2 ^ s) 1 = ((a / 2 ^ s ||| 1 : Nat) : Int) ∧ bits .or .u64 ((a : Int) / 2 ^ s) 0 = ((a / 2 ^ s ||| 0 : Nat) : Int) := by
      intro a ha
      have e : (a : Int) / 2 ^ s = ((a / 2 ^ s : Nat) : Int) := by rw [Int.natCast_ediv, Int.natCast_pow]; rfl
      rw [e]
      exact ⟨u64_or_nat _ 1 (Nat.lt_of_le_of_lt (Nat.div_le_self ..) (by omega)) (by omega), u64_or_nat _ 0 (Nat.lt_of_le_of_lt (Nat.div_le_self ..) (by omega)) (by omega)⟩
    have e5 : IntKind.u64.wrap ((mid : Int) - (mid2 : Int)) = (((mid + 18446744073709551616 - mid2) % 18446744073709551616 : Nat) : Int) := by
      rw [IntKind.wrap_u64]
      omega
    generalize (mid + 18446744073709551616 - mid2) % 18446744073709551616 = md at *
    by_cases h2 : mid < mid2
    · have h2' : (mid : Int) < (mid2 : Int) := by omega
      have h0 := hH1 h2
      obtain ⟨A, hA⟩ : ∃ A, A = H - 1 := ⟨_, rfl⟩
      have e6 : IntKind.u64.wrap ((H : Int) - 1) = (A : Int) := by rw [IntKind.wrap_u64]; omega
      obtain ⟨o1, o2⟩ := hb A (by omega)
      rw [if_pos h2, ← hA]
      by_cases h3 : 1 < md
      · have h3' : (1 : Int) < (md : Int) := by omega
        rw [if_pos h3]
        clear e1 e2 e3 e4 hdm hml hle hr hp hH1 hb o2 h0 hA h2 h3
        go_enter Tryz.func254, Tryz.ntmps254
        go_wp2_with (first | (go_at_call 125; first | (go_fit (ma _); rintro e w' ⟨rfl, rfl⟩) | (go_fit (mb _); rintro e w' ⟨rfl, rfl⟩)) | (go_at_call 279; refine (bool2u _ _).mono ?_; rintro e w' ⟨rfl, rfl⟩))
        go_quiet (first | (go_at_call 279; exact Calls.quiet_of_same (bool2u _ _)))
        go_wp2
        go_ret
        exact ⟨rfl, _, rfl⟩
      · have h3' : decide ((1 : Int) < (md : Int)) = false := decide_eq_false (by omega)
        rw [if_neg h3]
        clear e1 e2 e3 e4 hdm hml hle hr hp hH1 hb o1 h0 hA h2 h3
        go_enter Tryz.func254, Tryz.ntmps254
        go_wp2_with (first | (go_at_call 125; first | (go_fit (ma _); rintro e w' ⟨rfl, rfl⟩) | (go_fit (mb _); rintro e w' ⟨rfl, rfl⟩)) | (go_at_call 279; refine (bool2u _ _).mono ?_; rintro e w' ⟨rfl, rfl⟩))
        go_quiet (first | (go_at_call 279; exact Calls.quiet_of_same (bool2u _ _)))
        go_wp2
        go_ret
        exact ⟨rfl, _, rfl⟩
    · have h2' : ¬ (mid : Int) < (mid2 : Int) := by omega
      have e6 : IntKind.u64.wrap (H : Int) = (H : Int) := by rw [IntKind.wrap_u64]; omega
      obtain ⟨o1, o2⟩ := hb H (by omega)
      rw [if_neg h2, Nat.sub_zero]
      by_cases h3 : 1 < md
      · have h3' : (1 : Int) < (md : Int) := by omega
        rw [if_pos h3]
        clear e1 e2 e3 e4 hdm hml hle hr hp hH1 hb o2 h2 h3
        go_enter Tryz.func254, Tryz.ntmps254
        go_wp2_with (first | (go_at_call 125; first | (go_fit (ma _); rintro e w' ⟨rfl, rfl⟩) | (go_fit (mb _); rintro e w' ⟨rfl, rfl⟩)) | (go_at_call 279; refine (bool2u _ _).mono ?_; rintro e w' ⟨rfl, rfl⟩))
        go_quiet (first | (go_at_call 279; exact Calls.quiet_of_same (bool2u _ _)))
        go_wp2
        go_ret
        exact ⟨rfl, _, rfl⟩
      · have h3' : decide ((1 : Int) < (md : Int)) = false := decide_eq_false (by omega)
        rw [if_neg h3]
        clear e1 e2 e3 e4 hdm hml hle hr hp hH1 hb o1 h2 h3
        go_enter Tryz.func254, Tryz.ntmps254
        go_wp2_with (first | (go_at_call 125; first | (go_fit (ma _); rintro e w' ⟨rfl, rfl⟩) | (go_fit (mb _); rintro e w' ⟨rfl, rfl⟩)) | (go_at_call 279; refine (bool2u _ _).mono ?_; rintro e w' ⟨rfl, rfl⟩))
        go_quiet (first | (go_at_call 279; exact Calls.quiet_of_same (bool2u _ _)))
        go_wp2
        go_ret
        exact ⟨rfl, _, rfl⟩
end Go.Proofs.YtellndmbllmjgaaGreatDoor
/- The walk of shortFloat. -/
set_option linter.unusedVariables false
namespace Go.Proofs.YtellndmbllmjgaaGreatDoor
open Go.RowKit Go.Shelf Fs

theorem uscale_any (x hi lo s b : Nat) (hx : x < 18446744073709551616) (hhi : hi < 18446744073709551616) (hlo : lo < 18446744073709551616) (hpm : lo ≤ hi * 18446744073709551616) (hs : s < 64) (w : World)
    (c0 : w.cell? ⟨b, 0, none⟩ = some (.int .u64 (hi : Int))) (c1 : w.cell? ⟨b, 1, none⟩ = some (.int .u64 (lo : Int))) (c2 : w.cell? ⟨b, 2, none⟩ = some (.int .i64 (s : Int))) :
    Calls Tryz.prog 254 #[.int .u64 (x : Int), .pointer (some ⟨b, 0, none⟩)] w fun e w' => e = .returned (.int .u64 (uscaleN x hi lo s : Nat)) ∧ ∃ n, w' = w.drewN n := by
  have h1 : x * lo ≤ x * hi * 18446744073709551616 := by rw [Nat.mul_assoc]; exact Nat.mul_le_mul_left x hpm
  have h2 : x * hi < 18446744073709551616 * 18446744073709551616 := Nat.mul_lt_mul_of_lt_of_lt hx hhi
  have h3 : x * lo < 18446744073709551616 * 18446744073709551616 := Nat.mul_lt_mul_of_lt_of_lt hx hlo
  refine (uscale_core x hi lo s b (x * hi / 18446744073709551616) (x * hi % 18446744073709551616) (x * lo / 18446744073709551616) (x * lo % 18446744073709551616) 0 hs (by omega) (by omega) (by omega) (fun h => by omega) w c0 c1 c2 (Tryz.bits_Mul64 x hi hx hhi) (Tryz.bits_Mul64 x lo hx hlo)).mono ?_
  rintro e w' ⟨rfl, hw⟩
  refine ⟨?_, hw⟩
  unfold uscaleN
  rfl

/-- The table's rows. -/
def Pow10At (w : World) (i hi lo : Nat) : Prop := w.cell? ⟨11, i * 2, none⟩ = some (.int .u64 (hi : Int)) ∧ w.cell? ⟨11, i * 2 + 1, none⟩ = some (.int .u64 (lo : Int))
theorem Pow10At.alloc {w : World} {i hi lo : Nat} (h : Pow10At w i hi lo) (hw : 11 < w.heap.size) (o : Obj) : Pow10At (w.alloc o) i hi lo := by
  unfold Pow10At
  rw [World.cell?_alloc_lt, World.cell?_alloc_lt]
  exact h
  all_goals exact hw
set_option maxRecDepth 100000 in
theorem prescale_any (hi lo s : Nat) (E p lp : Int) (w : World) (hw : 11 < w.heap.size) (hE0 : -2000 ≤ E) (hE1 : E ≤ 2000) (hl0 : -2000 ≤ lp) (hl1 : lp ≤ 2000) (hp0 : 0 ≤ p + 348) (hp1 : p + 348 < 696) (hs : -(E + lp + 3) = (s : Int)) (hT : Pow10At w (p + 348).toNat hi lo) :
    Calls Tryz.prog 252 #[.pointer (some ⟨w.heap.size, 0, none⟩), .int .i64 E, .int .i64 p, .int .i64 lp] (w.alloc (.cells #[.int .u64 0, .int .u64 0, .int .i64 0] 282)) fun e w' => e = .returned (.tuple #[]) ∧ w' = w.alloc (.cells #[.int .u64 (hi : Int), .int .u64 (lo : Int), .int .i64 (s : Int)] 282) := by
  have c0 : ∀ o, (w.alloc o).cell? ⟨11, (p + 348).toNat * 2, none⟩ = some (.int .u64 (hi : Int)) := fun o => (hT.alloc hw o).1
  have c1 : ∀ o, (w.alloc o).cell? ⟨11, (p + 348).toNat * 2 + 1, none⟩ = some (.int .u64 (lo : Int)) := fun o => (hT.alloc hw o).2
  clear hT
  go_enter Tryz.func252, Tryz.ntmps252
  go_wp2
  refine bodyPost_end (results_none rfl _ _ _) rfl ?_
  exact ⟨rfl, rfl⟩
theorem nudge_up (u o : Nat) (h : u + o < 18446744073709551616) (w : World) : Calls Tryz.prog 255 #[.int .u64 (u : Int), .int .i64 (o : Int)] w fun e w' => e = .returned (.int .u64 ((u + o : Nat) : Int)) ∧ w' = w := by
  have k1 : IntKind.u64.wrap (o : Int) = (o : Int) := by rw [IntKind.wrap_u64]; omega
  have k2 : IntKind.u64.wrap ((u : Int) + (o : Int)) = ((u + o : Nat) : Int) := by rw [IntKind.wrap_u64]; omega
  go_enter Tryz.func255, Tryz.ntmps255
  go_wp2
  go_ret
  exact ⟨rfl, rfl⟩
theorem nudge_down (u o : Nat) (ho : o < 2) (h : o ≤ u) (h2 : u < 18446744073709551616) (w : World) : Calls Tryz.prog 255 #[.int .u64 (u : Int), .int .i64 (-(o : Int))] w fun e w' => e = .returned (.int .u64 ((u - o : Nat) : Int)) ∧ w' = w := by
  rcases Nat.lt_or_ge 0 o with h0 | h0
  · obtain rfl : o = 1 := by omega
    obtain ⟨v, hv⟩ : ∃ v, v = u - 1 := ⟨_, rfl⟩
    have k2 : IntKind.u64.wrap ((u : Int) + 18446744073709551615) = (v : Int) := by rw [IntKind.wrap_u64]; omega
    have k1 : IntKind.u64.wrap (-1) = 18446744073709551615 := by decide
    rw [← hv]
    clear hv
    go_enter Tryz.func255, Tryz.ntmps255
    go_wp2
    go_ret
    exact ⟨rfl, rfl⟩
  · obtain rfl : o = 0 := by omega
    have k2 : IntKind.u64.wrap (u : Int) = (u : Int) := by rw [IntKind.wrap_u64]; omega
    go_enter Tryz.func255, Tryz.ntmps255
    go_wp2
    go_ret
    exact ⟨rfl, rfl⟩
theorem ceil_any (u : Nat) (h : u + 3 < 18446744073709551616) (w : World) : Calls Tryz.prog 256 #[.int .u64 (u : Int)] w fun e w' => e = .returned (.int .u64 (((u + 3) / 4 : Nat) : Int)) ∧ w' = w := by
  have k2 : IntKind.u64.wrap ((u : Int) + 3) = ((u + 3 : Nat) : Int) := by rw [IntKind.wrap_u64]; omega
  go_enter Tryz.func256, Tryz.ntmps256
  go_wp2
  go_ret
  exact ⟨rfl, rfl⟩
theorem floor_any (u : Nat) (h : u < 18446744073709551616) (w : World) : Calls Tryz.prog 257 #[.int .u64 (u : Int)] w fun e w' => e = .returned (.int .u64 ((u / 4 : Nat) : Int)) ∧ w' = w := by
  have k2 : IntKind.u64.wrap (u : Int) = (u : Int) := by rw [IntKind.wrap_u64]; omega
  go_enter Tryz.func257, Tryz.ntmps257
  go_wp2
  go_ret
  exact ⟨rfl, rfl⟩
theorem round_any (u : Nat) (h : u + 2 < 18446744073709551616) (w : World) : Calls Tryz.prog 258 #[.int .u64 (u : Int)] w fun e w' => e = .returned (.int .u64 (rnd u : Nat)) ∧ w' = w := by
  have k0 : bits .and .u64 ((u : Int) / 4) 1 = ((u / 4 % 2 : Nat) : Int) := by
    have := u64_and_nat (u / 4) 1 (by omega) (by omega)
    rw [Nat.and_one_is_mod] at this
    exact this
  have k1 : IntKind.u64.wrap ((u : Int) + 1) = ((u + 1 : Nat) : Int) := by rw [IntKind.wrap_u64]; omega
  have k2 : IntKind.u64.wrap (((u + 1 : Nat) : Int) + ((u / 4 % 2 : Nat) : Int)) = ((u + 1 + u / 4 % 2 : Nat) : Int) := by rw [IntKind.wrap_u64]; omega
  have k3 : ((u + 1 + u / 4 % 2 : Nat) : Int) / 4 = ((rnd u : Nat) : Int) := rfl
  generalize rnd u = R at *
  generalize u + 1 + u / 4 % 2 = b at *
  generalize u / 4 % 2 = a at *
  generalize u + 1 = c at *
  go_enter Tryz.func258, Tryz.ntmps258
  go_wp2
  go_ret
  exact ⟨rfl, rfl⟩
end Go.Proofs.YtellndmbllmjgaaGreatDoor
/- The walk of shortFloat: its three ways in, its three ways out. -/
set_option linter.unusedVariables false
namespace Go.Proofs.YtellndmbllmjgaaGreatDoor
open Go.RowKit Go.Shelf Fs

set_option maxRecDepth 100000 in
set_option maxHeartbeats 2000000 in
theorem short_b (m x1 x2 o hi lo s umin umax um a1 a2 dmin dmax q R : Nat) (E p lp : Int) (w : World) (hp0 : -400 ≤ p) (hp1 : p ≤ 400)
    (hE0 : -1085 ≤ E) (hE1 : E ≤ 1000) (hm0 : 9223372036854775808 ≤ m) (hm1 : m < 18446744073709550592)
    (hm : ((m : Int) == 9223372036854775808) = false)
    (hpe : -((E + 11) * 78913 / 262144) = p) (hlp : p * 108853 / 32768 = lp)
    (hx1 : (m : Int) - 1024 = (x1 : Int)) (hx2 : (m : Int) + 1024 = (x2 : Int)) (ho : bits .and .i64 ((m : Int) / 2048) 1 = (o : Int)) (ho2 : o < 2)
    (cp : Calls Tryz.prog 252 #[.pointer (some ⟨w.heap.size, 0, none⟩), .int .i64 E, .int .i64 p, .int .i64 lp] (w.alloc (.cells #[.int .u64 0, .int .u64 0, .int .i64 0] 282)) fun e w' => e = .returned (.tuple #[]) ∧ w' = (w.alloc (.cells #[.int .u64 (hi : Int), .int .u64 (lo : Int), .int .i64 (s : Int)] 282)))
    (u1 : ∀ n, Calls Tryz.prog 254 #[.int .u64 (x1 : Int), .pointer (some ⟨w.heap.size, 0, none⟩)] ((w.alloc (.cells #[.int .u64 (hi : Int), .int .u64 (lo : Int), .int .i64 (s : Int)] 282)).drewN n) fun e w' => e = .returned (.int .u64 (umin : Int)) ∧ ∃ k, w' = (w.alloc (.cells #[.int .u64 (hi : Int), .int .u64 (lo : Int), .int .i64 (s : Int)] 282)).drewN k)
    (u2 : ∀ n, Calls Tryz.prog 254 #[.int .u64 (x2 : Int), .pointer (some ⟨w.heap.size, 0, none⟩)] ((w.alloc (.cells #[.int .u64 (hi : Int), .int .u64 (lo : Int), .int .i64 (s : Int)] 282)).drewN n) fun e w' => e = .returned (.int .u64 (umax : Int)) ∧ ∃ k, w' = (w.alloc (.cells #[.int .u64 (hi : Int), .int .u64 (lo : Int), .int .i64 (s : Int)] 282)).drewN k)
    (u3 : ∀ n, Calls Tryz.prog 254 #[.int .u64 (m : Int), .pointer (some ⟨w.heap.size, 0, none⟩)] ((w.alloc (.cells #[.int .u64 (hi : Int), .int .u64 (lo : Int), .int .i64 (s : Int)] 282)).drewN n) fun e w' => e = .returned (.int .u64 (um : Int)) ∧ ∃ k, w' = (w.alloc (.cells #[.int .u64 (hi : Int), .int .u64 (lo : Int), .int .i64 (s : Int)] 282)).drewN k)
    (g1 : ∀ w, Calls Tryz.prog 255 #[.int .u64 (umin : Int), .int .i64 (o : Int)] w fun e w' => e = .returned (.int .u64 (a1 : Int)) ∧ w' = w)
    (g2 : ∀ w, Calls Tryz.prog 255 #[.int .u64 (umax : Int), .int .i64 (-(o : Int))] w fun e w' => e = .returned (.int .u64 (a2 : Int)) ∧ w' = w)
    (g3 : ∀ w, Calls Tryz.prog 256 #[.int .u64 (a1 : Int)] w fun e w' => e = .returned (.int .u64 (dmin : Int)) ∧ w' = w)
    (g4 : ∀ w, Calls Tryz.prog 257 #[.int .u64 (a2 : Int)] w fun e w' => e = .returned (.int .u64 (dmax : Int)) ∧ w' = w)
    (g5 : ∀ w, Calls Tryz.prog 258 #[.int .u64 (um : Int)] w fun e w' => e = .returned (.int .u64 (R : Int)) ∧ w' = w)
    (hq : IntKind.u64.wrap ((dmax : Int) / 10) = (q : Int)) (hq2 : IntKind.u64.wrap ((q : Int) * 10) = ((q * 10 : Nat) : Int)) :
    Calls Tryz.prog 225 #[.int .u64 (m : Int), .int .i64 E] w fun e w' => (e = .returned (.tuple #[.int .u64 ((if dmin ≤ q * 10 then q else if dmin < dmax then R else dmin : Nat) : Int), .int .i64 (if dmin ≤ q * 10 then -(p - 1) else -p)])) ∧ ∃ n, w' = (w.alloc (.cells #[.int .u64 (hi : Int), .int .u64 (lo : Int), .int .i64 (s : Int)] 282)).drewN n := by
  by_cases t1 : dmin ≤ q * 10
  · have t1' : (dmin : Int) ≤ ((q * 10 : Nat) : Int) := by omega
    rw [if_pos t1, if_pos t1]
    clear u3 g5 t1
    generalize q * 10 = q10 at *
    go_enter Tryz.func225, Tryz.ntmps225
    go_wp2_with (first | (go_at_call 252; refine cp.mono ?_; rintro e w' ⟨rfl, rfl⟩) | (go_at_call_of 254 x1; go_fit (u1 0); rintro e w' ⟨rfl, n1, rfl⟩) | (go_at_call_of 254 x2; go_fit (u2 _); rintro e w' ⟨rfl, n2, rfl⟩) | (go_at_call_of 254 m; go_fit (u3 _); rintro e w' ⟨rfl, n3, rfl⟩) | (go_at_call_of 255 umin; refine (g1 _).mono ?_; rintro e w' ⟨rfl, rfl⟩) | (go_at_call_of 255 umax; refine (g2 _).mono ?_; rintro e w' ⟨rfl, rfl⟩) | (go_at_call 256; refine (g3 _).mono ?_; rintro e w' ⟨rfl, rfl⟩) | (go_at_call 257; refine (g4 _).mono ?_; rintro e w' ⟨rfl, rfl⟩) | (go_at_call 258; refine (g5 _).mono ?_; rintro e w' ⟨rfl, rfl⟩) | go_in)
    go_ret2
    exact ⟨rfl, _, rfl⟩
  · have t1' : ¬ (dmin : Int) ≤ ((q * 10 : Nat) : Int) := by omega
    rw [if_neg t1, if_neg t1]
    clear t1
    generalize q * 10 = q10 at *
    by_cases t2 : dmin < dmax
    · have t2' : (dmin : Int) < (dmax : Int) := by omega
      rw [if_pos t2]
      clear t2
      go_enter Tryz.func225, Tryz.ntmps225
      go_wp2_with (first | (go_at_call 252; refine cp.mono ?_; rintro e w' ⟨rfl, rfl⟩) | (go_at_call_of 254 x1; go_fit (u1 0); rintro e w' ⟨rfl, n1, rfl⟩) | (go_at_call_of 254 x2; go_fit (u2 _); rintro e w' ⟨rfl, n2, rfl⟩) | (go_at_call_of 254 m; go_fit (u3 _); rintro e w' ⟨rfl, n3, rfl⟩) | (go_at_call_of 255 umin; refine (g1 _).mono ?_; rintro e w' ⟨rfl, rfl⟩) | (go_at_call_of 255 umax; refine (g2 _).mono ?_; rintro e w' ⟨rfl, rfl⟩) | (go_at_call 256; refine (g3 _).mono ?_; rintro e w' ⟨rfl, rfl⟩) | (go_at_call 257; refine (g4 _).mono ?_; rintro e w' ⟨rfl, rfl⟩) | (go_at_call 258; refine (g5 _).mono ?_; rintro e w' ⟨rfl, rfl⟩) | go_in)
      go_ret2
      exact ⟨rfl, _, rfl⟩
    · have t2' : ¬ (dmin : Int) < (dmax : Int) := by omega
      rw [if_neg t2]
      clear t2 u3 g5
      go_enter Tryz.func225, Tryz.ntmps225
      go_wp2_with (first | (go_at_call 252; refine cp.mono ?_; rintro e w' ⟨rfl, rfl⟩) | (go_at_call_of 254 x1; go_fit (u1 0); rintro e w' ⟨rfl, n1, rfl⟩) | (go_at_call_of 254 x2; go_fit (u2 _); rintro e w' ⟨rfl, n2, rfl⟩) | (go_at_call_of 254 m; go_fit (u3 _); rintro e w' ⟨rfl, n3, rfl⟩) | (go_at_call_of 255 umin; refine (g1 _).mono ?_; rintro e w' ⟨rfl, rfl⟩) | (go_at_call_of 255 umax; refine (g2 _).mono ?_; rintro e w' ⟨rfl, rfl⟩) | (go_at_call 256; refine (g3 _).mono ?_; rintro e w' ⟨rfl, rfl⟩) | (go_at_call 257; refine (g4 _).mono ?_; rintro e w' ⟨rfl, rfl⟩) | (go_at_call 258; refine (g5 _).mono ?_; rintro e w' ⟨rfl, rfl⟩) | go_in)
      go_ret2
      exact ⟨rfl, _, rfl⟩
set_option maxRecDepth 100000 in
set_option maxHeartbeats 2000000 in
theorem short_b2 (m x1 x2 o hi lo s umin umax um a1 a2 dmin dmax q R : Nat) (E p lp : Int) (w : World) (hp0 : -400 ≤ p) (hp1 : p ≤ 400)
    (hm : ((m : Int) == 9223372036854775808) = true) (hm0 : 9223372036854775808 ≤ m) (hm1 : m < 18446744073709550592)
    (hx1 : (m : Int) - 1024 = (x1 : Int)) (hx2 : (m : Int) + 1024 = (x2 : Int)) (ho : bits .and .i64 ((m : Int) / 2048) 1 = (o : Int)) (ho2 : o < 2)
    (cp : Calls Tryz.prog 252 #[.pointer (some ⟨w.heap.size, 0, none⟩), .int .i64 (-1085), .int .i64 324, .int .i64 1076] (w.alloc (.cells #[.int .u64 0, .int .u64 0, .int .i64 0] 282)) fun e w' => e = .returned (.tuple #[]) ∧ w' = (w.alloc (.cells #[.int .u64 (hi : Int), .int .u64 (lo : Int), .int .i64 (s : Int)] 282)))
    (u1 : ∀ n, Calls Tryz.prog 254 #[.int .u64 (x1 : Int), .pointer (some ⟨w.heap.size, 0, none⟩)] ((w.alloc (.cells #[.int .u64 (hi : Int), .int .u64 (lo : Int), .int .i64 (s : Int)] 282)).drewN n) fun e w' => e = .returned (.int .u64 (umin : Int)) ∧ ∃ k, w' = (w.alloc (.cells #[.int .u64 (hi : Int), .int .u64 (lo : Int), .int .i64 (s : Int)] 282)).drewN k)
    (u2 : ∀ n, Calls Tryz.prog 254 #[.int .u64 (x2 : Int), .pointer (some ⟨w.heap.size, 0, none⟩)] ((w.alloc (.cells #[.int .u64 (hi : Int), .int .u64 (lo : Int), .int .i64 (s : Int)] 282)).drewN n) fun e w' => e = .returned (.int .u64 (umax : Int)) ∧ ∃ k, w' = (w.alloc (.cells #[.int .u64 (hi : Int), .int .u64 (lo : Int), .int .i64 (s : Int)] 282)).drewN k)
    (u3 : ∀ n, Calls Tryz.prog 254 #[.int .u64 (m : Int), .pointer (some ⟨w.heap.size, 0, none⟩)] ((w.alloc (.cells #[.int .u64 (hi : Int), .int .u64 (lo : Int), .int .i64 (s : Int)] 282)).drewN n) fun e w' => e = .returned (.int .u64 (um : Int)) ∧ ∃ k, w' = (w.alloc (.cells #[.int .u64 (hi : Int), .int .u64 (lo : Int), .int .i64 (s : Int)] 282)).drewN k)
    (g1 : ∀ w, Calls Tryz.prog 255 #[.int .u64 (umin : Int), .int .i64 (o : Int)] w fun e w' => e = .returned (.int .u64 (a1 : Int)) ∧ w' = w)
    (g2 : ∀ w, Calls Tryz.prog 255 #[.int .u64 (umax : Int), .int .i64 (-(o : Int))] w fun e w' => e = .returned (.int .u64 (a2 : Int)) ∧ w' = w)
    (g3 : ∀ w, Calls Tryz.prog 256 #[.int .u64 (a1 : Int)] w fun e w' => e = .returned (.int .u64 (dmin : Int)) ∧ w' = w)
    (g4 : ∀ w, Calls Tryz.prog 257 #[.int .u64 (a2 : Int)] w fun e w' => e = .returned (.int .u64 (dmax : Int)) ∧ w' = w)
    (g5 : ∀ w, Calls Tryz.prog 258 #[.int .u64 (um : Int)] w fun e w' => e = .returned (.int .u64 (R : Int)) ∧ w' = w)
    (hq : IntKind.u64.wrap ((dmax : Int) / 10) = (q : Int)) (hq2 : IntKind.u64.wrap ((q : Int) * 10) = ((q * 10 : Nat) : Int)) :
    Calls Tryz.prog 225 #[.int .u64 (m : Int), .int .i64 (-1085)] w fun e w' => (e = .returned (.tuple #[.int .u64 ((if dmin ≤ q * 10 then q else if dmin < dmax then R else dmin : Nat) : Int), .int .i64 (if dmin ≤ q * 10 then -(324 - 1) else -324)])) ∧ ∃ n, w' = (w.alloc (.cells #[.int .u64 (hi : Int), .int .u64 (lo : Int), .int .i64 (s : Int)] 282)).drewN n := by
  by_cases t1 : dmin ≤ q * 10
  · have t1' : (dmin : Int) ≤ ((q * 10 : Nat) : Int) := by omega
    rw [if_pos t1, if_pos t1]
    clear u3 g5 t1
    generalize q * 10 = q10 at *
    go_enter Tryz.func225, Tryz.ntmps225
    go_wp2_with (first | (go_at_call 252; refine cp.mono ?_; rintro e w' ⟨rfl, rfl⟩) | (go_at_call_of 254 x1; go_fit (u1 0); rintro e w' ⟨rfl, n1, rfl⟩) | (go_at_call_of 254 x2; go_fit (u2 _); rintro e w' ⟨rfl, n2, rfl⟩) | (go_at_call_of 254 m; go_fit (u3 _); rintro e w' ⟨rfl, n3, rfl⟩) | (go_at_call_of 255 umin; refine (g1 _).mono ?_; rintro e w' ⟨rfl, rfl⟩) | (go_at_call_of 255 umax; refine (g2 _).mono ?_; rintro e w' ⟨rfl, rfl⟩) | (go_at_call 256; refine (g3 _).mono ?_; rintro e w' ⟨rfl, rfl⟩) | (go_at_call 257; refine (g4 _).mono ?_; rintro e w' ⟨rfl, rfl⟩) | (go_at_call 258; refine (g5 _).mono ?_; rintro e w' ⟨rfl, rfl⟩) | go_in)
    go_ret2
    exact ⟨rfl, _, rfl⟩
  · have t1' : ¬ (dmin : Int) ≤ ((q * 10 : Nat) : Int) := by omega
    rw [if_neg t1, if_neg t1]
    clear t1
    generalize q * 10 = q10 at *
    by_cases t2 : dmin < dmax
    · have t2' : (dmin : Int) < (dmax : Int) := by omega
      rw [if_pos t2]
      clear t2
      go_enter Tryz.func225, Tryz.ntmps225
      go_wp2_with (first | (go_at_call 252; refine cp.mono ?_; rintro e w' ⟨rfl, rfl⟩) | (go_at_call_of 254 x1; go_fit (u1 0); rintro e w' ⟨rfl, n1, rfl⟩) | (go_at_call_of 254 x2; go_fit (u2 _); rintro e w' ⟨rfl, n2, rfl⟩) | (go_at_call_of 254 m; go_fit (u3 _); rintro e w' ⟨rfl, n3, rfl⟩) | (go_at_call_of 255 umin; refine (g1 _).mono ?_; rintro e w' ⟨rfl, rfl⟩) | (go_at_call_of 255 umax; refine (g2 _).mono ?_; rintro e w' ⟨rfl, rfl⟩) | (go_at_call 256; refine (g3 _).mono ?_; rintro e w' ⟨rfl, rfl⟩) | (go_at_call 257; refine (g4 _).mono ?_; rintro e w' ⟨rfl, rfl⟩) | (go_at_call 258; refine (g5 _).mono ?_; rintro e w' ⟨rfl, rfl⟩) | go_in)
      go_ret2
      exact ⟨rfl, _, rfl⟩
    · have t2' : ¬ (dmin : Int) < (dmax : Int) := by omega
      rw [if_neg t2]
      clear t2 u3 g5
      go_enter Tryz.func225, Tryz.ntmps225
      go_wp2_with (first | (go_at_call 252; refine cp.mono ?_; rintro e w' ⟨rfl, rfl⟩) | (go_at_call_of 254 x1; go_fit (u1 0); rintro e w' ⟨rfl, n1, rfl⟩) | (go_at_call_of 254 x2; go_fit (u2 _); rintro e w' ⟨rfl, n2, rfl⟩) | (go_at_call_of 254 m; go_fit (u3 _); rintro e w' ⟨rfl, n3, rfl⟩) | (go_at_call_of 255 umin; refine (g1 _).mono ?_; rintro e w' ⟨rfl, rfl⟩) | (go_at_call_of 255 umax; refine (g2 _).mono ?_; rintro e w' ⟨rfl, rfl⟩) | (go_at_call 256; refine (g3 _).mono ?_; rintro e w' ⟨rfl, rfl⟩) | (go_at_call 257; refine (g4 _).mono ?_; rintro e w' ⟨rfl, rfl⟩) | (go_at_call 258; refine (g5 _).mono ?_; rintro e w' ⟨rfl, rfl⟩) | go_in)
      go_ret2
      exact ⟨rfl, _, rfl⟩
set_option maxRecDepth 100000 in
set_option maxHeartbeats 2000000 in
theorem short_a (m x1 x2 o hi lo s umin umax um a1 a2 dmin dmax q R : Nat) (E p lp : Int) (w : World) (hp0 : -400 ≤ p) (hp1 : p ≤ 400)
    (hE0 : (-1085 : Int) < E) (hE1 : E ≤ 1000) (hm : ((m : Int) == 9223372036854775808) = true) (hm0 : 9223372036854775808 ≤ m) (hm1 : m < 18446744073709550592)
    (hpe : -(((E + 11) * 631305 - 261663) / 2097152) = p) (hlp : p * 108853 / 32768 = lp)
    (hx1 : (m : Int) - 512 = (x1 : Int)) (hx2 : (m : Int) + 1024 = (x2 : Int)) (ho : bits .and .i64 ((m : Int) / 2048) 1 = (o : Int)) (ho2 : o < 2)
    (cp : Calls Tryz.prog 252 #[.pointer (some ⟨w.heap.size, 0, none⟩), .int .i64 E, .int .i64 p, .int .i64 lp] (w.alloc (.cells #[.int .u64 0, .int .u64 0, .int .i64 0] 282)) fun e w' => e = .returned (.tuple #[]) ∧ w' = (w.alloc (.cells #[.int .u64 (hi : Int), .int .u64 (lo : Int), .int .i64 (s : Int)] 282)))
    (u1 : ∀ n, Calls Tryz.prog 254 #[.int .u64 (x1 : Int), .pointer (some ⟨w.heap.size, 0, none⟩)] ((w.alloc (.cells #[.int .u64 (hi : Int), .int .u64 (lo : Int), .int .i64 (s : Int)] 282)).drewN n) fun e w' => e = .returned (.int .u64 (umin : Int)) ∧ ∃ k, w' = (w.alloc (.cells #[.int .u64 (hi : Int), .int .u64 (lo : Int), .int .i64 (s : Int)] 282)).drewN k)
    (u2 : ∀ n, Calls Tryz.prog 254 #[.int .u64 (x2 : Int), .pointer (some ⟨w.heap.size, 0, none⟩)] ((w.alloc (.cells #[.int .u64 (hi : Int), .int .u64 (lo : Int), .int .i64 (s : Int)] 282)).drewN n) fun e w' => e = .returned (.int .u64 (umax : Int)) ∧ ∃ k, w' = (w.alloc (.cells #[.int .u64 (hi : Int), .int .u64 (lo : Int), .int .i64 (s : Int)] 282)).drewN k)
    (u3 : ∀ n, Calls Tryz.prog 254 #[.int .u64 (m : Int), .pointer (some ⟨w.heap.size, 0, none⟩)] ((w.alloc (.cells #[.int .u64 (hi : Int), .int .u64 (lo : Int), .int .i64 (s : Int)] 282)).drewN n) fun e w' => e = .returned (.int .u64 (um : Int)) ∧ ∃ k, w' = (w.alloc (.cells #[.int .u64 (hi : Int), .int .u64 (lo : Int), .int .i64 (s : Int)] 282)).drewN k)
    (g1 : ∀ w, Calls Tryz.prog 255 #[.int .u64 (umin : Int), .int .i64 (o : Int)] w fun e w' => e = .returned (.int .u64 (a1 : Int)) ∧ w' = w)
    (g2 : ∀ w, Calls Tryz.prog 255 #[.int .u64 (umax : Int), .int .i64 (-(o : Int))] w fun e w' => e = .returned (.int .u64 (a2 : Int)) ∧ w' = w)
    (g3 : ∀ w, Calls Tryz.prog 256 #[.int .u64 (a1 : Int)] w fun e w' => e = .returned (.int .u64 (dmin : Int)) ∧ w' = w)
    (g4 : ∀ w, Calls Tryz.prog 257 #[.int .u64 (a2 : Int)] w fun e w' => e = .returned (.int .u64 (dmax : Int)) ∧ w' = w)
    (g5 : ∀ w, Calls Tryz.prog 258 #[.int .u64 (um : Int)] w fun e w' => e = .returned (.int .u64 (R : Int)) ∧ w' = w)
    (hq : IntKind.u64.wrap ((dmax : Int) / 10) = (q : Int)) (hq2 : IntKind.u64.wrap ((q : Int) * 10) = ((q * 10 : Nat) : Int)) :
    Calls Tryz.prog 225 #[.int .u64 (m : Int), .int .i64 E] w fun e w' => (e = .returned (.tuple #[.int .u64 ((if dmin ≤ q * 10 then q else if dmin < dmax then R else dmin : Nat) : Int), .int .i64 (if dmin ≤ q * 10 then -(p - 1) else -p)])) ∧ ∃ n, w' = (w.alloc (.cells #[.int .u64 (hi : Int), .int .u64 (lo : Int), .int .i64 (s : Int)] 282)).drewN n := by
  by_cases t1 : dmin ≤ q * 10
  · have t1' : (dmin : Int) ≤ ((q * 10 : Nat) : Int) := by omega
    rw [if_pos t1, if_pos t1]
    clear u3 g5 t1
    generalize q * 10 = q10 at *
    go_enter Tryz.func225, Tryz.ntmps225
    go_wp2_with (first | (go_at_call 252; refine cp.mono ?_; rintro e w' ⟨rfl, rfl⟩) | (go_at_call_of 254 x1; go_fit (u1 0); rintro e w' ⟨rfl, n1, rfl⟩) | (go_at_call_of 254 x2; go_fit (u2 _); rintro e w' ⟨rfl, n2, rfl⟩) | (go_at_call_of 254 m; go_fit (u3 _); rintro e w' ⟨rfl, n3, rfl⟩) | (go_at_call_of 255 umin; refine (g1 _).mono ?_; rintro e w' ⟨rfl, rfl⟩) | (go_at_call_of 255 umax; refine (g2 _).mono ?_; rintro e w' ⟨rfl, rfl⟩) | (go_at_call 256; refine (g3 _).mono ?_; rintro e w' ⟨rfl, rfl⟩) | (go_at_call 257; refine (g4 _).mono ?_; rintro e w' ⟨rfl, rfl⟩) | (go_at_call 258; refine (g5 _).mono ?_; rintro e w' ⟨rfl, rfl⟩) | go_in)
    go_ret2
    exact ⟨rfl, _, rfl⟩
  · have t1' : ¬ (dmin : Int) ≤ ((q * 10 : Nat) : Int) := by omega
    rw [if_neg t1, if_neg t1]
    clear t1
    generalize q * 10 = q10 at *
    by_cases t2 : dmin < dmax
    · have t2' : (dmin : Int) < (dmax : Int) := by omega
      rw [if_pos t2]
      clear t2
      go_enter Tryz.func225, Tryz.ntmps225
      go_wp2_with (first | (go_at_call 252; refine cp.mono ?_; rintro e w' ⟨rfl, rfl⟩) | (go_at_call_of 254 x1; go_fit (u1 0); rintro e w' ⟨rfl, n1, rfl⟩) | (go_at_call_of 254 x2; go_fit (u2 _); rintro e w' ⟨rfl, n2, rfl⟩) | (go_at_call_of 254 m; go_fit (u3 _); rintro e w' ⟨rfl, n3, rfl⟩) | (go_at_call_of 255 umin; refine (g1 _).mono ?_; rintro e w' ⟨rfl, rfl⟩) | (go_at_call_of 255 umax; refine (g2 _).mono ?_; rintro e w' ⟨rfl, rfl⟩) | (go_at_call 256; refine (g3 _).mono ?_; rintro e w' ⟨rfl, rfl⟩) | (go_at_call 257; refine (g4 _).mono ?_; rintro e w' ⟨rfl, rfl⟩) | (go_at_call 258; refine (g5 _).mono ?_; rintro e w' ⟨rfl, rfl⟩) | go_in)
      go_ret2
      exact ⟨rfl, _, rfl⟩
    · have t2' : ¬ (dmin : Int) < (dmax : Int) := by omega
      rw [if_neg t2]
      clear t2 u3 g5
      go_enter Tryz.func225, Tryz.ntmps225
      go_wp2_with (first | (go_at_call 252; refine cp.mono ?_; rintro e w' ⟨rfl, rfl⟩) | (go_at_call_of 254 x1; go_fit (u1 0); rintro e w' ⟨rfl, n1, rfl⟩) | (go_at_call_of 254 x2; go_fit (u2 _); rintro e w' ⟨rfl, n2, rfl⟩) | (go_at_call_of 254 m; go_fit (u3 _); rintro e w' ⟨rfl, n3, rfl⟩) | (go_at_call_of 255 umin; refine (g1 _).mono ?_; rintro e w' ⟨rfl, rfl⟩) | (go_at_call_of 255 umax; refine (g2 _).mono ?_; rintro e w' ⟨rfl, rfl⟩) | (go_at_call 256; refine (g3 _).mono ?_; rintro e w' ⟨rfl, rfl⟩) | (go_at_call 257; refine (g4 _).mono ?_; rintro e w' ⟨rfl, rfl⟩) | (go_at_call 258; refine (g5 _).mono ?_; rintro e w' ⟨rfl, rfl⟩) | go_in)
      go_ret2
      exact ⟨rfl, _, rfl⟩
end Go.Proofs.YtellndmbllmjgaaGreatDoor
