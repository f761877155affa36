/- The walk of shortFloat, of the least floats. -/
import Derived.Test.YtellndmbllmjgaaGreatDoorCWk1x
import Derived.Below
import Derived.RegionTactic
set_option linter.unusedVariables false
namespace Go.Proofs.YtellndmbllmjgaaGreatDoor
open Go.RowKit Go.Shelf Fs

set_option maxRecDepth 100000 in
set_option maxHeartbeats 2000000 in
theorem short_c (m x1 x2 o sh half hi lo s umin umax um a1 a2 dmin dmax q R : Nat) (E p lp : Int) (w : World) (hp0 : -400 ≤ p) (hp1 : p ≤ 400)
    (hE0 : E < -1085) (hE1 : -1200 ≤ E) (hm0 : 9223372036854775808 ≤ m) (hm1 : m < 18446744073709550592) (hsh : 11 ≤ sh) (hsh2 : sh ≤ 63)
    (hz : 11 + (-1085 - E) = (sh : Int)) (hze : E + (sh : Int) = -1074) (hh : IntKind.u64.wrap (2 ^ (sh - 1)) = (half : Int))
    (hx1 : IntKind.u64.wrap ((m : Int) - (half : Int)) = (x1 : Int)) (hx2 : IntKind.u64.wrap ((m : Int) + (half : Int)) = (x2 : Int)) (ho : bits .and .i64 (wrap64 ((m : Int) / 2 ^ sh)) 1 = (o : Int)) (ho2 : o < 2)
    (hm : ((m : Int) == 9223372036854775808) = false)
    (cp : Calls Tryz.prog 252 #[.pointer (some ⟨w.heap.size, 0, none⟩), .int .i64 E, .int .i64 324, .int .i64 1076] (w.alloc (.cells #[.int .u64 0, .int .u64 0, .int .i64 0] 282)) fun e w' => e = .returned (.tuple #[]) ∧ w' = (w.alloc (.cells #[.int .u64 (hi : Int), .int .u64 (lo : Int), .int .i64 (s : Int)] 282)))
    (u1 : ∀ n, Calls Tryz.prog 254 #[.int .u64 (x1 : Int), .pointer (some ⟨w.heap.size, 0, none⟩)] ((w.alloc (.cells #[.int .u64 (hi : Int), .int .u64 (lo : Int), .int .i64 (s : Int)] 282)).drewN n) fun e w' => e = .returned (.int .u64 (umin : Int)) ∧ ∃ k, w' = (w.alloc (.cells #[.int .u64 (hi : Int), .int .u64 (lo : Int), .int .i64 (s : Int)] 282)).drewN k)
    (u2 : ∀ n, Calls Tryz.prog 254 #[.int .u64 (x2 : Int), .pointer (some ⟨w.heap.size, 0, none⟩)] ((w.alloc (.cells #[.int .u64 (hi : Int), .int .u64 (lo : Int), .int .i64 (s : Int)] 282)).drewN n) fun e w' => e = .returned (.int .u64 (umax : Int)) ∧ ∃ k, w' = (w.alloc (.cells #[.int .u64 (hi : Int), .int .u64 (lo : Int), .int .i64 (s : Int)] 282)).drewN k)
    (u3 : ∀ n, Calls Tryz.prog 254 #[.int .u64 (m : Int), .pointer (some ⟨w.heap.size, 0, none⟩)] ((w.alloc (.cells #[.int .u64 (hi : Int), .int .u64 (lo : Int), .int .i64 (s : Int)] 282)).drewN n) fun e w' => e = .returned (.int .u64 (um : Int)) ∧ ∃ k, w' = (w.alloc (.cells #[.int .u64 (hi : Int), .int .u64 (lo : Int), .int .i64 (s : Int)] 282)).drewN k)
    (g1 : ∀ w, Calls Tryz.prog 255 #[.int .u64 (umin : Int), .int .i64 (o : Int)] w fun e w' => e = .returned (.int .u64 (a1 : Int)) ∧ w' = w)
    (g2 : ∀ w, Calls Tryz.prog 255 #[.int .u64 (umax : Int), .int .i64 (-(o : Int))] w fun e w' => e = .returned (.int .u64 (a2 : Int)) ∧ w' = w)
    (g3 : ∀ w, Calls Tryz.prog 256 #[.int .u64 (a1 : Int)] w fun e w' => e = .returned (.int .u64 (dmin : Int)) ∧ w' = w)
    (g4 : ∀ w, Calls Tryz.prog 257 #[.int .u64 (a2 : Int)] w fun e w' => e = .returned (.int .u64 (dmax : Int)) ∧ w' = w)
    (g5 : ∀ w, Calls Tryz.prog 258 #[.int .u64 (um : Int)] w fun e w' => e = .returned (.int .u64 (R : Int)) ∧ w' = w)
    (hq : IntKind.u64.wrap ((dmax : Int) / 10) = (q : Int)) (hq2 : IntKind.u64.wrap ((q : Int) * 10) = ((q * 10 : Nat) : Int)) :
    Calls Tryz.prog 225 #[.int .u64 (m : Int), .int .i64 E] w fun e w' => (e = .returned (.tuple #[.int .u64 ((if dmin ≤ q * 10 then q else if dmin < dmax then R else dmin : Nat) : Int), .int .i64 (if dmin ≤ q * 10 then -(324 - 1) else -324)])) ∧ ∃ n, w' = (w.alloc (.cells #[.int .u64 (hi : Int), .int .u64 (lo : Int), .int .i64 (s : Int)] 282)).drewN n := by
  by_cases t1 : dmin ≤ q * 10
  · have t1' : (dmin : Int) ≤ ((q * 10 : Nat) : Int) := by omega
    rw [if_pos t1, if_pos t1]
    clear u3 g5 t1
    generalize q * 10 = q10 at *
    go_enter Tryz.func225, Tryz.ntmps225
    go_wp2_with (first | (go_at_call 252; refine cp.mono ?_; rintro e w' ⟨rfl, rfl⟩) | (go_at_call_of 254 x1; go_fit (u1 0); rintro e w' ⟨rfl, n1, rfl⟩) | (go_at_call_of 254 x2; go_fit (u2 _); rintro e w' ⟨rfl, n2, rfl⟩) | (go_at_call_of 254 m; go_fit (u3 _); rintro e w' ⟨rfl, n3, rfl⟩) | (go_at_call_of 255 umin; refine (g1 _).mono ?_; rintro e w' ⟨rfl, rfl⟩) | (go_at_call_of 255 umax; refine (g2 _).mono ?_; rintro e w' ⟨rfl, rfl⟩) | (go_at_call 256; refine (g3 _).mono ?_; rintro e w' ⟨rfl, rfl⟩) | (go_at_call 257; refine (g4 _).mono ?_; rintro e w' ⟨rfl, rfl⟩) | (go_at_call 258; refine (g5 _).mono ?_; rintro e w' ⟨rfl, rfl⟩) | go_in)
    go_ret2
    exact ⟨rfl, _, rfl⟩
  · have t1' : ¬ (dmin : Int) ≤ ((q * 10 : Nat) : Int) := by omega
    rw [if_neg t1, if_neg t1]
    clear t1
    generalize q * 10 = q10 at *
    by_cases t2 : dmin < dmax
    · have t2' : (dmin : Int) < (dmax : Int) := by omega
      rw [if_pos t2]
      clear t2
      go_enter Tryz.func225, Tryz.ntmps225
      go_wp2_with (first | (go_at_call 252; refine cp.mono ?_; rintro e w' ⟨rfl, rfl⟩) | (go_at_call_of 254 x1; go_fit (u1 0); rintro e w' ⟨rfl, n1, rfl⟩) | (go_at_call_of 254 x2; go_fit (u2 _); rintro e w' ⟨rfl, n2, rfl⟩) | (go_at_call_of 254 m; go_fit (u3 _); rintro e w' ⟨rfl, n3, rfl⟩) | (go_at_call_of 255 umin; refine (g1 _).mono ?_; rintro e w' ⟨rfl, rfl⟩) | (go_at_call_of 255 umax; refine (g2 _).mono ?_; rintro e w' ⟨rfl, rfl⟩) | (go_at_call 256; refine (g3 _).mono ?_; rintro e w' ⟨rfl, rfl⟩) | (go_at_call 257; refine (g4 _).mono ?_; rintro e w' ⟨rfl, rfl⟩) | (go_at_call 258; refine (g5 _).mono ?_; rintro e w' ⟨rfl, rfl⟩) | go_in)
      go_ret2
      exact ⟨rfl, _, rfl⟩
    · have t2' : ¬ (dmin : Int) < (dmax : Int) := by omega
      rw [if_neg t2]
      clear t2 u3 g5
      go_enter Tryz.func225, Tryz.ntmps225
      go_wp2_with (first | (go_at_call 252; refine cp.mono ?_; rintro e w' ⟨rfl, rfl⟩) | (go_at_call_of 254 x1; go_fit (u1 0); rintro e w' ⟨rfl, n1, rfl⟩) | (go_at_call_of 254 x2; go_fit (u2 _); rintro e w' ⟨rfl, n2, rfl⟩) | (go_at_call_of 254 m; go_fit (u3 _); rintro e w' ⟨rfl, n3, rfl⟩) | (go_at_call_of 255 umin; refine (g1 _).mono ?_; rintro e w' ⟨rfl, rfl⟩) | (go_at_call_of 255 umax; refine (g2 _).mono ?_; rintro e w' ⟨rfl, rfl⟩) | (go_at_call 256; refine (g3 _).mono ?_; rintro e w' ⟨rfl, rfl⟩) | (go_at_call 257; refine (g4 _).mono ?_; rintro e w' ⟨rfl, rfl⟩) | (go_at_call 258; refine (g5 _).mono ?_; rintro e w' ⟨rfl, rfl⟩) | go_in)
      go_ret2
      exact ⟨rfl, _, rfl⟩
set_option maxRecDepth 100000 in
set_option maxHeartbeats 2000000 in
theorem short_c2 (m x1 x2 o sh half hi lo s umin umax um a1 a2 dmin dmax q R : Nat) (E p lp : Int) (w : World) (hp0 : -400 ≤ p) (hp1 : p ≤ 400)
    (hE0 : E < -1085) (hE1 : -1200 ≤ E) (hm0 : 9223372036854775808 ≤ m) (hm1 : m < 18446744073709550592) (hsh : 11 ≤ sh) (hsh2 : sh ≤ 63)
    (hz : 11 + (-1085 - E) = (sh : Int)) (hze : E + (sh : Int) = -1074) (hh : IntKind.u64.wrap (2 ^ (sh - 1)) = (half : Int))
    (hx1 : IntKind.u64.wrap ((m : Int) - (half : Int)) = (x1 : Int)) (hx2 : IntKind.u64.wrap ((m : Int) + (half : Int)) = (x2 : Int)) (ho : bits .and .i64 (wrap64 ((m : Int) / 2 ^ sh)) 1 = (o : Int)) (ho2 : o < 2)
    (hm : ((m : Int) == 9223372036854775808) = true)
    (cp : Calls Tryz.prog 252 #[.pointer (some ⟨w.heap.size, 0, none⟩), .int .i64 E, .int .i64 324, .int .i64 1076] (w.alloc (.cells #[.int .u64 0, .int .u64 0, .int .i64 0] 282)) fun e w' => e = .returned (.tuple #[]) ∧ w' = (w.alloc (.cells #[.int .u64 (hi : Int), .int .u64 (lo : Int), .int .i64 (s : Int)] 282)))
    (u1 : ∀ n, Calls Tryz.prog 254 #[.int .u64 (x1 : Int), .pointer (some ⟨w.heap.size, 0, none⟩)] ((w.alloc (.cells #[.int .u64 (hi : Int), .int .u64 (lo : Int), .int .i64 (s : Int)] 282)).drewN n) fun e w' => e = .returned (.int .u64 (umin : Int)) ∧ ∃ k, w' = (w.alloc (.cells #[.int .u64 (hi : Int), .int .u64 (lo : Int), .int .i64 (s : Int)] 282)).drewN k)
    (u2 : ∀ n, Calls Tryz.prog 254 #[.int .u64 (x2 : Int), .pointer (some ⟨w.heap.size, 0, none⟩)] ((w.alloc (.cells #[.int .u64 (hi : Int), .int .u64 (lo : Int), .int .i64 (s : Int)] 282)).drewN n) fun e w' => e = .returned (.int .u64 (umax : Int)) ∧ ∃ k, w' = (w.alloc (.cells #[.int .u64 (hi : Int), .int .u64 (lo : Int), .int .i64 (s : Int)] 282)).drewN k)
    (u3 : ∀ n, Calls Tryz.prog 254 #[.int .u64 (m : Int), .pointer (some ⟨w.heap.size, 0, none⟩)] ((w.alloc (.cells #[.int .u64 (hi : Int), .int .u64 (lo : Int), .int .i64 (s : Int)] 282)).drewN n) fun e w' => e = .returned (.int .u64 (um : Int)) ∧ ∃ k, w' = (w.alloc (.cells #[.int .u64 (hi : Int), .int .u64 (lo : Int), .int .i64 (s : Int)] 282)).drewN k)
    (g1 : ∀ w, Calls Tryz.prog 255 #[.int .u64 (umin : Int), .int .i64 (o : Int)] w fun e w' => e = .returned (.int .u64 (a1 : Int)) ∧ w' = w)
    (g2 : ∀ w, Calls Tryz.prog 255 #[.int .u64 (umax : Int), .int .i64 (-(o : Int))] w fun e w' => e = .returned (.int .u64 (a2 : Int)) ∧ w' = w)
    (g3 : ∀ w, Calls Tryz.prog 256 #[.int .u64 (a1 : Int)] w fun e w' => e = .returned (.int .u64 (dmin : Int)) ∧ w' = w)
    (g4 : ∀ w, Calls Tryz.prog 257 #[.int .u64 (a2 : Int)] w fun e w' => e = .returned (.int .u64 (dmax : Int)) ∧ w' = w)
    (g5 : ∀ w, Calls Tryz.prog 258 #[.int .u64 (um : Int)] w fun e w' => e = .returned (.int .u64 (R : Int)) ∧ w' = w)
    (hq : IntKind.u64.wrap ((dmax : Int) / 10) = (q : Int)) (hq2 : IntKind.u64.wrap ((q : Int) * 10) = ((q * 10 : Nat) : Int)) :
    Calls Tryz.prog 225 #[.int .u64 (m : Int), .int .i64 E] w fun e w' => (e = .returned (.tuple #[.int .u64 ((if dmin ≤ q * 10 then q else if dmin < dmax then R else dmin : Nat) : Int), .int .i64 (if dmin ≤ q * 10 then -(324 - 1) else -324)])) ∧ ∃ n, w' = (w.alloc (.cells #[.int .u64 (hi : Int), .int .u64 (lo : Int), .int .i64 (s : Int)] 282)).drewN n := by
  by_cases t1 : dmin ≤ q * 10
  · have t1' : (dmin : Int) ≤ ((q * 10 : Nat) : Int) := by omega
    rw [if_pos t1, if_pos t1]
    clear u3 g5 t1
    generalize q * 10 = q10 at *
    go_enter Tryz.func225, Tryz.ntmps225
    go_wp2_with (first | (go_at_call 252; refine cp.mono ?_; rintro e w' ⟨rfl, rfl⟩) | (go_at_call_of 254 x1; go_fit (u1 0); rintro e w' ⟨rfl, n1, rfl⟩) | (go_at_call_of 254 x2; go_fit (u2 _); rintro e w' ⟨rfl, n2, rfl⟩) | (go_at_call_of 254 m; go_fit (u3 _); rintro e w' ⟨rfl, n3, rfl⟩) | (go_at_call_of 255 umin; refine (g1 _).mono ?_; rintro e w' ⟨rfl, rfl⟩) | (go_at_call_of 255 umax; refine (g2 _).mono ?_; rintro e w' ⟨rfl, rfl⟩) | (go_at_call 256; refine (g3 _).mono ?_; rintro e w' ⟨rfl, rfl⟩) | (go_at_call 257; refine (g4 _).mono ?_; rintro e w' ⟨rfl, rfl⟩) | (go_at_call 258; refine (g5 _).mono ?_; rintro e w' ⟨rfl, rfl⟩) | go_in)
    go_ret2
    exact ⟨rfl, _, rfl⟩
  · have t1' : ¬ (dmin : Int) ≤ ((q * 10 : Nat) : Int) := by omega
    rw [if_neg t1, if_neg t1]
    clear t1
    generalize q * 10 = q10 at *
    by_cases t2 : dmin < dmax
    · have t2' : (dmin : Int) < (dmax : Int) := by omega
      rw [if_pos t2]
      clear t2
      go_enter Tryz.func225, Tryz.ntmps225
      go_wp2_with (first | (go_at_call 252; refine cp.mono ?_; rintro e w' ⟨rfl, rfl⟩) | (go_at_call_of 254 x1; go_fit (u1 0); rintro e w' ⟨rfl, n1, rfl⟩) | (go_at_call_of 254 x2; go_fit (u2 _); rintro e w' ⟨rfl, n2, rfl⟩) | (go_at_call_of 254 m; go_fit (u3 _); rintro e w' ⟨rfl, n3, rfl⟩) | (go_at_call_of 255 umin; refine (g1 _).mono ?_; rintro e w' ⟨rfl, rfl⟩) | (go_at_call_of 255 umax; refine (g2 _).mono ?_; rintro e w' ⟨rfl, rfl⟩) | (go_at_call 256; refine (g3 _).mono ?_; rintro e w' ⟨rfl, rfl⟩) | (go_at_call 257; refine (g4 _).mono ?_; rintro e w' ⟨rfl, rfl⟩) | (go_at_call 258; refine (g5 _).mono ?_; rintro e w' ⟨rfl, rfl⟩) | go_in)
      go_ret2
      exact ⟨rfl, _, rfl⟩
    · have t2' : ¬ (dmin : Int) < (dmax : Int) := by omega
      rw [if_neg t2]
      clear t2 u3 g5
      go_enter Tryz.func225, Tryz.ntmps225
      go_wp2_with (first | (go_at_call 252; refine cp.mono ?_; rintro e w' ⟨rfl, rfl⟩) | (go_at_call_of 254 x1; go_fit (u1 0); rintro e w' ⟨rfl, n1, rfl⟩) | (go_at_call_of 254 x2; go_fit (u2 _); rintro e w' ⟨rfl, n2, rfl⟩) | (go_at_call_of 254 m; go_fit (u3 _); rintro e w' ⟨rfl, n3, rfl⟩) | (go_at_call_of 255 umin; refine (g1 _).mono ?_; rintro e w' ⟨rfl, rfl⟩) | (go_at_call_of 255 umax; refine (g2 _).mono ?_; rintro e w' ⟨rfl, rfl⟩) | (go_at_call 256; refine (g3 _).mono ?_; rintro e w' ⟨rfl, rfl⟩) | (go_at_call 257; refine (g4 _).mono ?_; rintro e w' ⟨rfl, rfl⟩) | (go_at_call 258; refine (g5 _).mono ?_; rintro e w' ⟨rfl, rfl⟩) | go_in)
      go_ret2
      exact ⟨rfl, _, rfl⟩
end Go.Proofs.YtellndmbllmjgaaGreatDoor
/- **shortFloat answers the fewest digits**, of every float above 0. -/
set_option linter.unusedVariables false
namespace Go.Proofs.YtellndmbllmjgaaGreatDoor
open Go.RowKit Go.Shelf Fs

theorem or_le (a : Nat) : a ||| 1 ≤ a + 1 := by rw [or_one]; omega
theorem uscaleN_lt (x hi lo s : Nat) (hx : x < 18446744073709551616) (hhi : hi < 18446744073709551616) (hs : 5 ≤ s) : uscaleN x hi lo s < 1152921504606846976 := by
  have h2 : x * hi < 18446744073709551616 * 18446744073709551616 := Nat.mul_lt_mul_of_lt_of_lt hx hhi
  have h1 : x * hi / 2 ^ 64 < 18446744073709551616 := by omega
  have hp : 32 ≤ 2 ^ s := by
    have := Nat.pow_le_pow_right (show 0 < 2 by omega) hs
    omega
  have key : ∀ a, a < 18446744073709551616 → a / 2 ^ s < 576460752303423488 := by
    intro a ha
    have : a / 2 ^ s ≤ a / 32 := Nat.div_le_div_left hp (by omega)
    omega
  unfold uscaleN
  split
  · have := key _ h1
    have := or_le (x * hi / 2 ^ 64 / 2 ^ s)
    omega
  · have := key (x * hi / 2 ^ 64 - (if x * hi % 2 ^ 64 < x * lo / 2 ^ 64 then 1 else 0)) (by omega)
    generalize (x * hi / 2 ^ 64 - (if x * hi % 2 ^ 64 < x * lo / 2 ^ 64 then 1 else 0)) / 2 ^ s = a at *
    split
    · have := or_le a
      omega
    · rw [Nat.or_zero]
      omega
theorem wrap64_small (M : Nat) (h : M < 9223372036854775808) : wrap64 (M : Int) = (M : Int) := by
  have e1 : (M : Int) % 18446744073709551616 = (M : Int) := Int.emod_eq_of_lt (by omega) (by omega)
  unfold wrap64
  omega
/-- The table is laid. -/
def PowTab (w : World) : Prop := ∀ i, i < 696 → ∃ hi lo, Pow10At w i hi lo ∧ hi < 18446744073709551616 ∧ lo < 18446744073709551616 ∧ pmOf i + lo = hi * 18446744073709551616
theorem and_one_i64 (M : Nat) (h : M < 9223372036854775808) : bits .and .i64 (M : Int) 1 = ((M % 2 : Nat) : Int) := by
  have := bits_mask .i64 63 (by decide) (fun n h0 h1 => by rw [IntKind.wrap_i64]; omega) 1 (by decide) (M : Int) (by omega) (by omega)
  refine this.trans ?_
  omega
theorem drewN_below (w : World) (o : Obj) (n : Nat) : Below w.heap.size w ((w.alloc o).drewN n) := by
  have h1 : Below w.heap.size w (w.alloc o) := (Below.refl _ _).alloc (Nat.le_refl _) _
  exact ⟨h1.os, h1.tape, h1.output, h1.size, h1.block⟩
theorem pI_0 : pI (-1074) = 324 := by decide
theorem lpI_0 : lpI 324 = 1076 := by decide
set_option maxHeartbeats 2000000 in
/-- What shortFloat answers. -/
theorem shortFloat_any (M e sh : Nat) (hM : 0 < M) (he : e < 2046) (hn : M < 4503599627370496 → e = 0) (hsh : 11 ≤ sh) (hsh2 : sh ≤ 63) (hn2 : 4503599627370496 ≤ M ↔ sh = 11) (hm0 : 9223372036854775808 ≤ M * 2 ^ sh) (hm1 : M * 2 ^ sh + 2 ^ sh ≤ 18446744073709551616)
    (w : World) (hw : 11 < w.heap.size) (hT : PowTab w) :
    Calls Tryz.prog 225 #[.int .u64 ((M * 2 ^ sh : Nat) : Int), .int .i64 ((e : Int) - 1074 - (sh : Int))] w fun r w' => (∃ d i : Nat, Short M e d i ∧ d < 1152921504606846976 ∧ i < 800 ∧ r = .returned (.tuple #[.int .u64 (d : Int), .int .i64 ((i : Int) - 400)])) ∧ Below w.heap.size w w' := by
  have f := pOf_fact (M := M) he
  unfold factB at f
  simp only [Bool.and_eq_true, decide_eq_true_eq, beq_iff_eq] at f
  obtain ⟨⟨⟨⟨f1, f2⟩, f3⟩, f4⟩, -⟩ := f
  obtain ⟨hi, lo, hrow, hhi, hlo, hpm⟩ := hT (pOf M e + 348).toNat (by omega)
  have hsk : (if Skew M e then 2 ^ (sh - 2) else 2 ^ (sh - 1)) ≤ M * 2 ^ sh := by
    have h1 : 1 * 2 ^ sh ≤ M * 2 ^ sh := Nat.mul_le_mul_right _ hM
    have h2 : 2 ^ (sh - 2) ≤ 2 ^ sh := Nat.pow_le_pow_right (by omega) (by omega)
    have h3 : 2 ^ (sh - 1) ≤ 2 ^ sh := Nat.pow_le_pow_right (by omega) (by omega)
    split <;> omega
  have hhalf : 2 ^ sh = 2 * 2 ^ (sh - 1) := by
    obtain ⟨b, rfl⟩ : ∃ b, sh = b + 1 := ⟨sh - 1, by omega⟩
    rw [Nat.pow_succ, Nat.mul_comm]
    rfl
  have hhp := Nat.two_pow_pos (sh - 1)
  obtain ⟨x1, hx1⟩ : ∃ x1, x1 + (if Skew M e then 2 ^ (sh - 2) else 2 ^ (sh - 1)) = M * 2 ^ sh := ⟨M * 2 ^ sh - (if Skew M e then 2 ^ (sh - 2) else 2 ^ (sh - 1)), by omega⟩
  obtain ⟨x2, hx2⟩ : ∃ x2, x2 = M * 2 ^ sh + 2 ^ (sh - 1) := ⟨_, rfl⟩
  have S := shortest (M := M) (e := e) (sh := sh) (hi := hi) (lo := lo) (x1 := x1) (x2 := x2) hM he hsh (by omega) hx1 hx2 hhi hlo hpm
  obtain ⟨s, hs⟩ : ∃ s, s = sh - 11 + (1082 - (e : Int) - lpI (pOf M e)).toNat := ⟨_, rfl⟩
  simp only [← hs] at S
  have hs5 : 5 ≤ s := by omega
  have hs64 : s < 64 := by omega
  have hsI : -(((e : Int) - 1074 - (sh : Int)) + lpI (pOf M e) + 3) = (s : Int) := by omega
  have hx1l : x1 < 18446744073709551616 := by omega
  have hx2l : x2 < 18446744073709551616 := by omega
  have b1 := uscaleN_lt x1 hi lo s hx1l hhi hs5
  have b2 := uscaleN_lt x2 hi lo s hx2l hhi hs5
  have b3 := uscaleN_lt (M * 2 ^ sh) hi lo s (by omega) hhi hs5
  have hPc := fun n => (show ((w.alloc (.cells #[.int .u64 (hi : Int), .int .u64 (lo : Int), .int .i64 (s : Int)] 282)).drewN n).cell? ⟨w.heap.size, 0, none⟩ = some (.int .u64 (hi : Int)) by simp)
  have hPc1 := fun n => (show ((w.alloc (.cells #[.int .u64 (hi : Int), .int .u64 (lo : Int), .int .i64 (s : Int)] 282)).drewN n).cell? ⟨w.heap.size, 1, none⟩ = some (.int .u64 (lo : Int)) by simp)
  have hPc2 := fun n => (show ((w.alloc (.cells #[.int .u64 (hi : Int), .int .u64 (lo : Int), .int .i64 (s : Int)] 282)).drewN n).cell? ⟨w.heap.size, 2, none⟩ = some (.int .i64 (s : Int)) by simp)
  have UX : ∀ x : Nat, x < 18446744073709551616 → ∀ n, Calls Tryz.prog 254 #[.int .u64 (x : Int), .pointer (some ⟨w.heap.size, 0, none⟩)] ((w.alloc (.cells #[.int .u64 (hi : Int), .int .u64 (lo : Int), .int .i64 (s : Int)] 282)).drewN n) fun e w' => e = .returned (.int .u64 ((uscaleN x hi lo s : Nat) : Int)) ∧ ∃ k, w' = (w.alloc (.cells #[.int .u64 (hi : Int), .int .u64 (lo : Int), .int .i64 (s : Int)] 282)).drewN k := by
    intro x hx n
    refine (uscale_any x hi lo s w.heap.size hx hhi hlo (by omega) hs64 _ (hPc n) (hPc1 n) (hPc2 n)).mono ?_
    rintro e w' ⟨he, k, hk⟩
    refine ⟨he, n + k, ?_⟩
    rw [hk, World.drewN_drewN]
  have hum : 0 < uscaleN x2 hi lo s := by
    have e9 : x2 % 2 ^ 9 = 0 := by
      obtain ⟨b, rfl⟩ : ∃ b, sh = b + 10 := ⟨sh - 10, by omega⟩
      rw [hx2, show b + 10 - 1 = b + 9 by omega, Nat.pow_add, Nat.pow_add]
      rw [show M * (2 ^ b * 2 ^ 10) + 2 ^ b * 2 ^ 9 = 2 ^ 9 * (2 * (M * 2 ^ b) + 2 ^ b) by grind]
      exact Nat.mul_mod_right ..
    have U2 := usc_at (M := M) (sh := sh) (x := x2) (L4 := 4 * M * 2 ^ e + 2 * 2 ^ e) he hsh (by omega) hx2l e9 (by rw [hx2, hhalf]; grind) hhi hlo hpm
    rw [← hs] at U2
    have h0 := (U2 0).2
    have hpos : 0 < (4 * M * 2 ^ e + 2 * 2 ^ e) * K400 := Nat.mul_pos (by have := Nat.two_pow_pos e; omega) K400_pos
    rw [Nat.zero_mul] at h0
    omega
  have u1 := UX x1 hx1l
  have u2 := UX x2 hx2l
  have u3 := UX (M * 2 ^ sh) (by omega)
  generalize uscaleN x1 hi lo s = umin at *
  generalize uscaleN x2 hi lo s = umax at *
  generalize uscaleN (M * 2 ^ sh) hi lo s = um at *
  clear UX hPc hPc1 hPc2
  obtain ⟨o, ho⟩ : ∃ o, o = M % 2 := ⟨_, rfl⟩
  have ho2 : o < 2 := by omega
  rw [← ho] at S
  have g1 := nudge_up umin o (by omega)
  have g2 := nudge_down umax o ho2 (by omega) (by omega)
  have g3 := ceil_any (umin + o) (by omega)
  have g4 := floor_any (umax - o) (by omega)
  have g5 := round_any um (by omega)
  obtain ⟨dmin, hdmin⟩ : ∃ d, d = (umin + o + 3) / 4 := ⟨_, rfl⟩
  obtain ⟨dmax, hdmax⟩ : ∃ d, d = (umax - o) / 4 := ⟨_, rfl⟩
  rw [← hdmin] at g3
  rw [← hdmax] at g4
  have hq : IntKind.u64.wrap ((dmax : Int) / 10) = ((dmax / 10 : Nat) : Int) := by rw [IntKind.wrap_u64]; omega
  have hq2 : IntKind.u64.wrap (((dmax / 10 : Nat) : Int) * 10) = ((dmax / 10 * 10 : Nat) : Int) := by rw [IntKind.wrap_u64]; omega
  have hR : rnd um < 1152921504606846976 := by unfold rnd; omega
  -- what the walk's answer says
  have fin : ∀ (r : Ending) (w' : World), (r = .returned (.tuple #[.int .u64 ((if dmin ≤ dmax / 10 * 10 then dmax / 10 else if dmin < dmax then rnd um else dmin : Nat) : Int), .int .i64 (if dmin ≤ dmax / 10 * 10 then -(pOf M e - 1) else -pOf M e)])) ∧ (∃ n, w' = (w.alloc (.cells #[.int .u64 (hi : Int), .int .u64 (lo : Int), .int .i64 (s : Int)] 282)).drewN n) →
      (∃ d i : Nat, Short M e d i ∧ d < 1152921504606846976 ∧ i < 800 ∧ r = .returned (.tuple #[.int .u64 (d : Int), .int .i64 ((i : Int) - 400)])) ∧ Below w.heap.size w w' := by
    rintro r w' ⟨rfl, n, rfl⟩
    refine ⟨?_, drewN_below _ _ _⟩
    unfold shortN at S
    simp only [← hdmin, ← hdmax] at S
    by_cases t1 : dmin ≤ dmax / 10 * 10
    · rw [if_pos t1] at S
      rw [if_pos t1, if_pos t1]
      have e1 : -(pOf M e - 1) = (((400 - pOf M e).toNat + 1 : Nat) : Int) - 400 := by omega
      rw [e1]
      exact ⟨dmax / 10, (400 - pOf M e).toNat + 1, S, by omega, by omega, rfl⟩
    · rw [if_neg t1] at S
      have e1 : -pOf M e = (((400 - pOf M e).toNat + 0 : Nat) : Int) - 400 := by omega
      rw [e1]
      rw [if_neg t1, if_neg t1]
      by_cases t2 : dmin < dmax
      · rw [if_pos t2] at S
        rw [if_pos t2]
        exact ⟨rnd um, (400 - pOf M e).toNat + 0, S, hR, by omega, rfl⟩
      · rw [if_neg t2] at S
        rw [if_neg t2]
        exact ⟨dmin, (400 - pOf M e).toNat + 0, S, by omega, by omega, rfl⟩
  clear S
  have cp := prescale_any hi lo s ((e : Int) - 1074 - (sh : Int)) (pOf M e) (lpI (pOf M e)) w hw (by omega) (by omega) (by omega) (by omega) (by omega) (by omega) hsI hrow
  clear hrow hT
  by_cases h11 : sh = 11
  · subst h11
    have hm : M * 2 ^ 11 = M * 2048 := rfl
    have hoI : bits .and .i64 (((M * 2 ^ 11 : Nat) : Int) / 2048) 1 = (o : Int) := by
      have e1 : ((M * 2 ^ 11 : Nat) : Int) / 2048 = (M : Int) := by omega
      rw [e1, and_one_i64 M (by omega), ho]
    have hEe : ((e : Int) - 1074 - ((11 : Nat) : Int)) + 11 = (e : Int) - 1074 := by omega
    by_cases hsk : Skew M e
    · have hp : pOf M e = skI ((e : Int) - 1074) := if_pos hsk
      rw [if_pos hsk] at hx1
      have hmm : (((M * 2 ^ 11 : Nat) : Int) == 9223372036854775808) = true := by
        have := hsk.1
        rw [beq_iff_eq]
        omega
      have he0 := hsk.2
      refine (short_a (M * 2 ^ 11) x1 x2 o hi lo s umin umax um (umin + o) (umax - o) dmin dmax (dmax / 10) (rnd um) ((e : Int) - 1074 - ((11 : Nat) : Int)) (pOf M e) (lpI (pOf M e)) w (by omega) (by omega) (by omega) (by omega) hmm (by omega) (by omega) (by rw [hEe, hp]; rfl) rfl (by omega) (by omega) hoI ho2 cp u1 u2 u3 g1 g2 g3 g4 g5 hq hq2).mono ?_
      exact fin
    · have hp : pOf M e = pI ((e : Int) - 1074) := if_neg hsk
      rw [if_neg hsk] at hx1
      by_cases hM2 : M = 4503599627370496
      · have he0 : e = 0 := by
          rcases Nat.eq_zero_or_pos e with h | h
          · exact h
          · exact absurd ⟨hM2, h⟩ hsk
        have hmm : (((M * 2 ^ 11 : Nat) : Int) == 9223372036854775808) = true := by
          rw [beq_iff_eq]
          omega
        have hp3 : pOf M e = 324 := by rw [hp, he0]; exact pI_0
        rw [hp3] at cp fin
        rw [lpI_0] at cp
        have hE : ((e : Int) - 1074 - ((11 : Nat) : Int)) = -1085 := by omega
        rw [hE] at cp ⊢
        refine (short_b2 (M * 2 ^ 11) x1 x2 o hi lo s umin umax um (umin + o) (umax - o) dmin dmax (dmax / 10) (rnd um) 0 0 0 w (by omega) (by omega) hmm (by omega) (by omega) (by omega) (by omega) hoI ho2 cp u1 u2 u3 g1 g2 g3 g4 g5 hq hq2).mono ?_
        exact fin
      · have hmm : (((M * 2 ^ 11 : Nat) : Int) == 9223372036854775808) = false := by
          rw [beq_eq_false_iff_ne]
          omega
        refine (short_b (M * 2 ^ 11) x1 x2 o hi lo s umin umax um (umin + o) (umax - o) dmin dmax (dmax / 10) (rnd um) ((e : Int) - 1074 - ((11 : Nat) : Int)) (pOf M e) (lpI (pOf M e)) w (by omega) (by omega) (by omega) (by omega) (by omega) (by omega) hmm (by rw [hEe, hp]; rfl) rfl (by omega) (by omega) hoI ho2 cp u1 u2 u3 g1 g2 g3 g4 g5 hq hq2).mono ?_
        exact fin
  · have hMs : M < 4503599627370496 := by
      rcases Nat.lt_or_ge M 4503599627370496 with h | h
      · exact h
      · exact absurd (hn2.1 h) h11
    have he0 := hn hMs
    have hMl : M < 9223372036854775808 := Nat.lt_trans hMs (by decide)
    have h2sh : 2 ^ 11 ≤ 2 ^ sh := Nat.pow_le_pow_right (by omega) (by omega)
    have hsk : ¬ Skew M e := fun h => by have := h.1; omega
    rw [if_neg hsk] at hx1
    have hp : pOf M e = pI ((e : Int) - 1074) := if_neg hsk
    have hp3 : pOf M e = 324 := by rw [hp, he0]; exact pI_0
    rw [hp3] at cp fin
    rw [lpI_0] at cp
    have hoI : bits .and .i64 (wrap64 (((M * 2 ^ sh : Nat) : Int) / 2 ^ sh)) 1 = (o : Int) := by
      have e1 : ((M * 2 ^ sh : Nat) : Int) / 2 ^ sh = (M : Int) := by
        have : ((M * 2 ^ sh : Nat) : Int) / ((2 ^ sh : Nat) : Int) = (M : Int) := by
          rw [← Int.natCast_ediv, Nat.mul_div_cancel _ (Nat.two_pow_pos sh)]
        rw [Int.natCast_pow] at this
        exact this
      rw [e1, wrap64_small M hMl, and_one_i64 M hMl, ho]
    have hhI : IntKind.u64.wrap (2 ^ (sh - 1)) = ((2 ^ (sh - 1) : Nat) : Int) := by
      have : (2 : Int) ^ (sh - 1) = ((2 ^ (sh - 1) : Nat) : Int) := by rw [Int.natCast_pow]; rfl
      rw [this, IntKind.wrap_u64]
      omega
    have hx1I : IntKind.u64.wrap (((M * 2 ^ sh : Nat) : Int) - ((2 ^ (sh - 1) : Nat) : Int)) = (x1 : Int) := by
      rw [IntKind.wrap_u64]
      omega
    have hx2I : IntKind.u64.wrap (((M * 2 ^ sh : Nat) : Int) + ((2 ^ (sh - 1) : Nat) : Int)) = (x2 : Int) := by
      rw [IntKind.wrap_u64]
      omega
    by_cases hmm : (((M * 2 ^ sh : Nat) : Int) == 9223372036854775808) = true
    · refine (short_c2 (M * 2 ^ sh) x1 x2 o sh (2 ^ (sh - 1)) hi lo s umin umax um (umin + o) (umax - o) dmin dmax (dmax / 10) (rnd um) ((e : Int) - 1074 - (sh : Int)) 0 0 w (by omega) (by omega) (by omega) (by omega) (by omega) (by omega) hsh hsh2 (by omega) (by omega) hhI hx1I hx2I hoI ho2 hmm cp u1 u2 u3 g1 g2 g3 g4 g5 hq hq2).mono ?_
      exact fin
    · have hmm' : (((M * 2 ^ sh : Nat) : Int) == 9223372036854775808) = false := by simpa using hmm
      refine (short_c (M * 2 ^ sh) x1 x2 o sh (2 ^ (sh - 1)) hi lo s umin umax um (umin + o) (umax - o) dmin dmax (dmax / 10) (rnd um) ((e : Int) - 1074 - (sh : Int)) 0 0 w (by omega) (by omega) (by omega) (by omega) (by omega) (by omega) hsh hsh2 (by omega) (by omega) hhI hx1I hx2I hoI ho2 hmm' cp u1 u2 u3 g1 g2 g3 g4 g5 hq hq2).mono ?_
      exact fin
end Go.Proofs.YtellndmbllmjgaaGreatDoor
/- The walk of setDigits. -/
set_option linter.unusedVariables false
namespace Go.Proofs.YtellndmbllmjgaaGreatDoor
open Go.RowKit Go.Shelf Go.Sort Go.Lib Fs

abbrev encB : UInt8 → Value := fun (b : UInt8) => Value.int .u8 (b.toNat : Int)
theorem dg_toNat (u j : Nat) : ((Lib.dg u j).toNat : Int) = ((48 + u / 10 ^ j % 10 : Nat) : Int) := by
  unfold Lib.dg
  rw [UInt8.toNat_ofNat']
  have : u / 10 ^ j % 10 < 10 := Nat.mod_lt _ (by omega)
  omega
/-- Which of a number's lowest digits are 0. -/
theorem low_zero (d0 t k : Nat) (h : d0 % 10 ≠ 0) (hk : k ≤ t) : (d0 * 10 ^ t) / 10 ^ k % 10 = 0 ↔ k < t := by
  obtain ⟨j, rfl⟩ : ∃ j, t = k + j := ⟨t - k, by omega⟩
  rw [Nat.pow_add, Nat.mul_left_comm, Nat.mul_div_cancel_left _ (Nat.pow_pos (by omega))]
  cases j with
  | zero => simp; exact h
  | succ j =>
    rw [Nat.pow_succ, ← Nat.mul_assoc]
    simp
set_option maxRecDepth 100000 in
set_option maxHeartbeats 1000000 in
theorem setDigits_any (B u d0 t nd : Nat) (p : Int) (hu0 : 0 < u) (hu : u < 18446744073709551616) (hd : u = d0 * 10 ^ t) (hd0 : d0 % 10 ≠ 0) (hnd : nd = Lib.nDigits u) (htn : t < nd) (hn32 : nd ≤ 32) (hp0 : -100000 ≤ p) (hp1 : p ≤ 100000) (w : World)
    (hH : Holds encB w B 0 (Array.replicate nd (0 : UInt8))) :
    Calls Tryz.prog 218 #[.slice (some ⟨B, 0, none⟩) 32 32, .int .u64 (u : Int), .int .i64 p, .int .i64 (nd : Int)] w fun e w' => e = .returned (.tuple #[.int .i64 ((nd : Int) + p), .int .i64 ((nd - t : Nat) : Int)]) ∧ ∃ n v' dk, w' = (putRow encB w B 0 dk).drewN n ∧ FmtInv nd u 0 v' dk := by
  have hfmt := Tryz.internal_strconv_formatBase10 B 0 32 u (Array.replicate nd 0) w hH (by rw [Array.size_replicate, hnd]; exact Lib.lt_pow_nDigits u) hu (by rw [Array.size_replicate]; omega)
  rw [Array.size_replicate] at hfmt
  have HH := (show Hid _ from hH)
  have HD : Hid (u = d0 * 10 ^ t) := hd
  have HN : Hid (nd = Lib.nDigits u) := hnd
  clear hH hd hnd
  go_enter Tryz.func218, Tryz.ntmps218
  go_wp2_with (first | (go_at_call 230; refine hfmt.mono ?_; rintro e w' ⟨rfl, n, v', dk, rfl, hF⟩))
  obtain ⟨W, hW⟩ : ∃ W, W = (putRow encB w B 0 dk).drewN n := ⟨_, rfl⟩
  have hcell : ∀ j, j < nd → W.cell? ⟨B, j, none⟩ = some (.int .u8 ((48 + u / 10 ^ (nd - 1 - j) % 10 : Nat) : Int)) := by
    intro j hj
    rw [hW, World.cell?_drewN]
    have := cell?_putRow encB w B 0 _ dk HH.out (by rw [hF.size, Array.size_replicate]) j (by rw [hF.size]; exact hj)
    rw [Nat.zero_add] at this
    rw [this, hF.done j (Nat.zero_le _) hj, ← dg_toNat]
  have HF : Hid (FmtInv nd u 0 v' dk) := hF
  have HW : Hid (W = (putRow encB w B 0 dk).drewN n) := hW
  change Code.wp _ _ _ _ ((putRow encB w B 0 dk).drewN n)
  rw [← hW]
  clear hF hW hfmt
  go_loopw [3] (fun v wr => ∃ m : Nat, nd - t ≤ m ∧ m ≤ nd ∧ v = .int .i64 (m : Int) ∧ wr = W) (fun v _ => (RowKit.intOf v).toNat)
  case atStart => exact ⟨nd, by omega, Nat.le_refl _, rfl, rfl⟩
  case round =>
    obtain ⟨m, hm1, hm2, rfl, rfl⟩ := hrel
    obtain ⟨j, rfl⟩ : ∃ j, m = j + 1 := ⟨m - 1, by omega⟩
    have hc := hcell j (by omega)
    have hz := low_zero d0 t (nd - 1 - j) hd0 (by omega)
    rw [← HD.out] at hz
    clear hcell
    generalize hg : u / 10 ^ (nd - 1 - j) % 10 = g at *
    by_cases hlt : nd - 1 - j < t
    · have hg0 : g = 0 := hz.2 hlt
      subst hg0
      clear hz hg
      go_wp2
      go_roundw
      case rel => exact ⟨j, by omega, by omega, by go_num, trivial⟩
      case measure => simp [RowKit.intOf]
    · have hg0 : g ≠ 0 := fun h => hlt (hz.1 h)
      have t1 : (((48 + g : Nat) : Int) == 48) = false := by rw [beq_eq_false_iff_ne]; omega
      clear hz hg
      go_wp2
      go_ret2
      refine ⟨?_, n, v', dk, HW.out, HF.out⟩
      have : j + 1 = nd - t := by omega
      rw [← this]
      rfl
end Go.Proofs.YtellndmbllmjgaaGreatDoor
