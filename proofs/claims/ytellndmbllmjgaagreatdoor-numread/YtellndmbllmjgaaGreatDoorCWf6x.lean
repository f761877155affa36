/- The walk of nat.float at three words or more. -/
import Derived.Test.YtellndmbllmjgaaGreatDoorCDa2x
import Derived.BigQuiet
import Derived.Deep.QuietTactic
import Derived.Test.YtellndmbllmjgaaGreatDoorCRa2
import Derived.Test.YtellndmbllmjgaaGreatDoorCBn10x
import Derived.Test.YtellndmbllmjgaaGreatDoorCWk2x
import Derived.Test.YtellndmbllmjgaaGreatDoorCSc1x
import Derived.Test.YtellndmbllmjgaaGreatDoorCUtAx
import Derived.Test.YtellndmbllmjgaaGreatDoorCEx1x
import Derived.Test.YtellndmbllmjgaaGreatDoorCAe1x
set_option linter.unusedVariables false
namespace Go.Proofs.YtellndmbllmjgaaGreatDoor
open Go.RowKit Go.Shelf Go.Sort Fs Fl
theorem take_snocW (l : List Nat) (k : Nat) (h : k < l.length) : l.take (k + 1) = l.take k ++ [l[k]?.getD 0] := by
  rw [List.take_succ_eq_append_getElem h, List.getElem?_eq_getElem h]
  rfl
theorem near_float (T : Nat) (h1 : 9223372036854775808 ≤ T) (h2 : T ≤ 18446744073709551616) : ∃ R0, Near T 1 R0 ∧ floatOfInt .f64 (T : Int) = min R0 9218868437227405312 := by
  obtain ⟨R0, hR, he⟩ := nearest_near false T 0 0 T 1 (by omega) (by omega) (by omega)
  refine ⟨R0, hR, ?_⟩
  rw [float_of, wd_false] at *
  exact he
theorem own_take3 {base : Nat} {w : World} {g cap k : Nat} {L : List Nat} (hk : L.length = k + 3) (h : Own base w (.slice (some ⟨g, 0, none⟩) (k + 3) cap) L) : Own base w (.slice (some ⟨g, 0, none⟩) k cap) (L.take k) := by
  have t1 := take_snocW L (k + 2) (by omega)
  have t2 := take_snocW L (k + 1) (by omega)
  have t3 := take_snocW L k (by omega)
  rw [List.take_of_length_le (by omega)] at t1
  rw [t1, t2, t3] at h
  have e : ∀ x y z : Nat, k + 3 = (L.take k ++ [x] ++ [y] ++ [z]).length := by intro x y z; simp; omega
  rw [e (L[k]?.getD 0) (L[k + 1]?.getD 0) (L[k + 2]?.getD 0)] at h
  have h1 := h.pop.pop.pop
  have e2 : (L.take k).length = k := by simp; omega
  rw [e2] at h1
  exact h1
set_option maxRecDepth 100000 in
set_option maxHeartbeats 2000000 in
theorem float_walk1 (base g cap k h m l3 ld ly x y d T t R : Nat) (hd : 0 < d) (hk : k ≤ 1000) (hh : h < 4294967296) (hm : m < 4294967296) (hl : l3 < 4294967296) (hld : ld ≤ 31) (hly : (32 : Int) - (ld : Int) = (ly : Int)) (hly2 : ly ≤ 32) (w : World)
    (c1 : w.cell? ⟨g, k + 2, none⟩ = some (.int .u32 (h : Int))) (c2 : w.cell? ⟨g, k + 1, none⟩ = some (.int .u32 (m : Int))) (c3 : w.cell? ⟨g, k, none⟩ = some (.int .u32 (l3 : Int)))
    (cl : ∀ w, Calls Tryz.prog 144 #[.int .u32 (h : Int)] w fun e w' => e = .returned (.int .i64 (ld : Int)) ∧ w' = w)
    (b1 : bits .or .u64 ((h : Int) * 4294967296) (m : Int) = (h : Int) * 4294967296 + (m : Int))
    (b2 : IntKind.u64.wrap (((h : Int) * 4294967296 + (m : Int)) * 2 ^ ld) = (x : Int))
    (b3 : (l3 : Int) / 2 ^ ly = (y : Int))
    (b4 : bits .or .u64 (x : Int) (y : Int) = (t : Int))
    (b5 : IntKind.u32.wrap ((l3 : Int) * 2 ^ ld) = (d : Int))
    (b6 : bits .or .u64 (t : Int) 1 = (T : Int))
    (hcap : k + 3 ≤ cap) (hcap2 : cap ≤ 9223372036854775807)
    (cx : ∀ w, Calls Tryz.prog 146 #[.float .f64 (floatOfInt .f64 (T : Int)), .int .i64 (32 * ((k : Int) + 3 - 2) - (ld : Int))] w fun e w' => e = .returned (.float .f64 R) ∧ w' = w) :
    Calls Tryz.prog 96 #[.slice (some ⟨g, 0, none⟩) (k + 3) cap] w fun e w' => e = .returned (.float .f64 R) ∧ Below w.heap.size w w' := by
  have b7 : ((d : Int) == 0) = false := by rw [beq_eq_false_iff_ne]; omega
  have b8 : ((d : Int) != 0) = true := by rw [bne_iff_ne]; omega
  go_enter Tryz.func96, Tryz.ntmps96
  go_wp2_with (first | (go_at_call 144; refine (cl _).mono ?_; rintro e w1 ⟨rfl, rfl⟩) | (go_at_call 145; fail) | (go_at_call 146; fail))
  go_quiet (fail)
  obtain ⟨W, hW⟩ : ∃ W, W = w1.drewN nq := ⟨_, rfl⟩
  have c3' : W.cell? ⟨g, k, none⟩ = some (.int .u32 (l3 : Int)) := by rw [hW]; exact c3
  have HB : Hid (Below w1.heap.size w1 W) := by rw [hW]; exact below_drewN (Below.refl _ _)
  rw [← hW]
  clear hW
  go_wp2_with (first | (go_at_call 146; refine (cx _).mono ?_; rintro e w2 ⟨rfl, rfl⟩))
  go_ret
  exact ⟨rfl, HB.out⟩
set_option maxRecDepth 100000 in
set_option maxHeartbeats 2000000 in
theorem float_walk2 (base g cap k h m l3 ld ly x y d T t R : Nat) (hk : k ≤ 1000) (hh : h < 4294967296) (hm : m < 4294967296) (hl : l3 < 4294967296) (hld : ld ≤ 31) (hly : (32 : Int) - (ld : Int) = (ly : Int)) (hly2 : ly ≤ 32) (w : World)
    (c1 : w.cell? ⟨g, k + 2, none⟩ = some (.int .u32 (h : Int))) (c2 : w.cell? ⟨g, k + 1, none⟩ = some (.int .u32 (m : Int))) (c3 : w.cell? ⟨g, k, none⟩ = some (.int .u32 (l3 : Int)))
    (cl : ∀ w, Calls Tryz.prog 144 #[.int .u32 (h : Int)] w fun e w' => e = .returned (.int .i64 (ld : Int)) ∧ w' = w)
    (b1 : bits .or .u64 ((h : Int) * 4294967296) (m : Int) = (h : Int) * 4294967296 + (m : Int))
    (b2 : IntKind.u64.wrap (((h : Int) * 4294967296 + (m : Int)) * 2 ^ ld) = (x : Int))
    (b3 : (l3 : Int) / 2 ^ ly = (y : Int))
    (b4 : bits .or .u64 (x : Int) (y : Int) = (t : Int))
    (b5 : IntKind.u32.wrap ((l3 : Int) * 2 ^ ld) = (d : Int))
    (hd : d = 0) (z2 : Bool) (cz : ∀ nq, Calls Tryz.prog 145 #[.slice (some ⟨g, 0, none⟩) k cap] (w.drewN nq) fun e w' => e = .returned (.bool z2) ∧ w' = w.drewN nq)
    (b6 : z2 = false → bits .or .u64 (t : Int) 1 = (T : Int)) (b6' : z2 = true → t = T)
    (hcap : k + 3 ≤ cap) (hcap2 : cap ≤ 9223372036854775807)
    (cx : ∀ w, Calls Tryz.prog 146 #[.float .f64 (floatOfInt .f64 (T : Int)), .int .i64 (32 * ((k : Int) + 3 - 2) - (ld : Int))] w fun e w' => e = .returned (.float .f64 R) ∧ w' = w) :
    Calls Tryz.prog 96 #[.slice (some ⟨g, 0, none⟩) (k + 3) cap] w fun e w' => e = .returned (.float .f64 R) ∧ Below w.heap.size w w' := by
  subst hd
  go_enter Tryz.func96, Tryz.ntmps96
  go_wp2_with (first | (go_at_call 144; refine (cl _).mono ?_; rintro e w1 ⟨rfl, rfl⟩) | (go_at_call 145; fail) | (go_at_call 146; fail))
  go_quiet (fail)
  obtain ⟨W, hW⟩ : ∃ W, W = w1.drewN nq := ⟨_, rfl⟩
  have c3' : W.cell? ⟨g, k, none⟩ = some (.int .u32 (l3 : Int)) := by rw [hW]; exact c3
  have HB : Hid (Below w1.heap.size w1 W) := by rw [hW]; exact below_drewN (Below.refl _ _)
  have cz' := cz nq
  rw [← hW] at cz' ⊢
  clear hW cz
  cases z2
  · have b7 := b6 rfl
    clear b6 b6'
    go_wp2_with (first | (go_at_call 145; refine cz'.mono ?_; rintro e w2 ⟨rfl, rfl⟩) | (go_at_call 146; refine (cx _).mono ?_; rintro e w2 ⟨rfl, rfl⟩))
    go_ret
    exact ⟨rfl, HB.out⟩
  · obtain rfl := b6' rfl
    clear b6 b6'
    go_wp2_with (first | (go_at_call 145; refine cz'.mono ?_; rintro e w2 ⟨rfl, rfl⟩) | (go_at_call 146; refine (cx _).mono ?_; rintro e w2 ⟨rfl, rfl⟩))
    go_ret
    exact ⟨rfl, HB.out⟩
theorem or_one (t : Nat) (ht : t < 18446744073709551616) : bits .or .u64 (t : Int) 1 = (((t / 2) * 2 + 1 : Nat) : Int) := by
  have h1 := bits_or_u64_nat t 1 (by omega) (by omega)
  have h2 := orU ((t / 2) * 2) 1 1 (Nat.mul_mod_left _ _) (by omega) (by omega) (by omega)
  have h3 := bits_or_u64_nat ((t / 2) * 2) 1 (by omega) (by omega)
  have e : t ||| 1 = ((t / 2) * 2) ||| 1 := by
    apply Nat.eq_of_testBit_eq
    intro i
    rw [Nat.testBit_or, Nat.testBit_or]
    cases i with
    | zero => simp
    | succ i => rw [Nat.testBit_succ, Nat.testBit_succ (t / 2 * 2), show t / 2 * 2 / 2 = t / 2 by omega]
  rw [e, ← h3] at h1
  exact h1.trans h2
/-- **float at three words or more: the nearest word.** -/
theorem float_big (base g cap : Nat) (L : List Nat) (k : Nat) (hk : L.length = k + 3) (hkb : k ≤ 1000) (hW : W32 L) (htop : L[k + 2]?.getD 0 ≠ 0) (hcap : k + 3 ≤ cap) (hcap2 : cap ≤ 9223372036854775807) (w : World) (hv : Own base w (.slice (some ⟨g, 0, none⟩) (k + 3) cap) L) :
    Calls Tryz.prog 96 #[.slice (some ⟨g, 0, none⟩) (k + 3) cap] w fun e w' => ∃ R, Near (val32 L) 1 R ∧ e = .returned (.float .f64 (min R 9218868437227405312)) ∧ Below w.heap.size w w' := by
  have hv' : Own base w (.slice (some ⟨g, 0, none⟩) L.length cap) L := by rw [hk]; exact hv
  have c1 := hv'.cell (k + 2) (by omega)
  have c2 := hv'.cell (k + 1) (by omega)
  have c3 := hv'.cell k (by omega)
  have hval := val32_top L k hk
  have hh := w32_get hW (k + 2)
  have hm := w32_get hW (k + 1)
  have hl := w32_get hW k
  have hpre := own_take3 hk hv
  have hrest := val32_lt (L.take k) (fun d hd => hW d (List.mem_of_mem_take hd))
  rw [show (L.take k).length = k by simp; omega] at hrest
  have htk : (L.take k).length ≤ 100000 := by simp; omega
  have hpre' : ∀ nq, Own base (w.drewN nq) (.slice (some ⟨g, 0, none⟩) k cap) (L.take k) := fun nq => hpre.drewN nq
  have cz : ∀ nq, Calls Tryz.prog 145 #[.slice (some ⟨g, 0, none⟩) k cap] (w.drewN nq) fun e w' => e = .returned (.bool (decide (val32 (L.take k) = 0))) ∧ w' = w.drewN nq := fun nq => isZero_any base _ (L.take k) htk (w.drewN nq) (hpre' nq)
  generalize L[k + 2]?.getD 0 = h at *
  generalize L[k + 1]?.getD 0 = m at *
  generalize L[k]?.getD 0 = l3 at *
  clear hpre hv' hv hpre' htk
  generalize val32 (L.take k) = rest at *
  obtain ⟨q1, q2, q3⟩ := bitLen_bounds h htop (by omega)
  have q32 : Lib.bitLen h ≤ 32 := by
    rcases Nat.lt_or_ge 32 (Lib.bitLen h) with hb | hb
    · have : 2 ^ 32 ≤ 2 ^ (Lib.bitLen h - 1) := Nat.pow_le_pow_right (by omega) (by omega)
      omega
    · exact hb
  obtain ⟨ld, hld⟩ : ∃ ld, ld = 32 - Lib.bitLen h := ⟨_, rfl⟩
  obtain ⟨ly, hly⟩ : ∃ ly, ly = Lib.bitLen h := ⟨_, rfl⟩
  rw [← hly] at q1 q2 q3 q32 hld
  have cl : ∀ w, Calls Tryz.prog 144 #[.int .u32 (h : Int)] w fun e w' => e = .returned (.int .i64 (ld : Int)) ∧ w' = w := by
    intro w
    have := Tryz.bits_LeadingZeros32 (h : Int) w (by omega) (by omega)
    rw [Int.toNat_natCast, ← hly, show (32 : Int) - (ly : Int) = (ld : Int) by omega] at this
    exact this
  have hYZ : 2 ^ ly * 2 ^ ld = 4294967296 := by rw [← Nat.pow_add, show ly + ld = 32 by omega]
  have hlo : 2147483648 ≤ h * 2 ^ ld := by
    have := Nat.mul_le_mul_right (2 ^ ld) q2
    rw [← Nat.pow_add, show ly - 1 + ld = 31 by omega] at this
    omega
  have hhi : h * 2 ^ ld < 4294967296 := by
    rw [← hYZ]
    exact (Nat.mul_lt_mul_right (Nat.two_pow_pos ld)).2 q3
  obtain ⟨t, ht⟩ : ∃ t, t = (h * 4294967296 + m) * 2 ^ ld + l3 / 2 ^ ly := ⟨_, rfl⟩
  obtain ⟨r, hr⟩ : ∃ r, r = l3 % 2 ^ ly * 4294967296 ^ k + rest := ⟨_, rfl⟩
  obtain ⟨e1, e2, e3, e4, e5⟩ := top_split (B := 4294967296 ^ k) (Nat.two_pow_pos ly) hYZ hlo hhi hm hl hrest hval ht hr
  have hP : 4294967296 ^ k * 2 ^ ly = 2 ^ (32 * k + ly) := by rw [show (4294967296 : Nat) = 2 ^ 32 from rfl, ← Nat.pow_mul, ← Nat.pow_add]
  rw [hP] at e1 e2
  obtain ⟨x, hx⟩ : ∃ x, x = (h * 4294967296 + m) * 2 ^ ld := ⟨_, rfl⟩
  obtain ⟨y, hy⟩ : ∃ y, y = l3 / 2 ^ ly := ⟨_, rfl⟩
  obtain ⟨d, hd⟩ : ∃ d, d = l3 * 2 ^ ld % 4294967296 := ⟨_, rfl⟩
  have hyl : y < 2 ^ ld := by
    rw [hy]
    apply Nat.div_lt_of_lt_mul
    rw [hYZ]
    exact hl
  have hxt : t = x + y := by omega
  have hdz : d = 0 ↔ l3 % 2 ^ ly = 0 := by
    have e : l3 * 2 ^ ld % 4294967296 = l3 % 2 ^ ly * 2 ^ ld := by rw [← hYZ, Nat.mul_mod_mul_right]
    rw [hd, e]
    constructor
    · intro h0
      rcases Nat.mul_eq_zero.1 h0 with h1 | h1
      · exact h1
      · exact absurd h1 (Nat.ne_of_gt (Nat.two_pow_pos ld))
    · intro h0; rw [h0, Nat.zero_mul]
  have b1 : bits .or .u64 ((h : Int) * 4294967296) (m : Int) = (h : Int) * 4294967296 + (m : Int) := by
    have := orU (h * 4294967296) m 32 (Nat.mul_mod_left _ _) hm (by omega) (by omega)
    rw [show ((h * 4294967296 : Nat) : Int) = (h : Int) * 4294967296 by omega, show ((h * 4294967296 + m : Nat) : Int) = (h : Int) * 4294967296 + (m : Int) by omega] at this
    exact this
  have b2 : IntKind.u64.wrap (((h : Int) * 4294967296 + (m : Int)) * 2 ^ ld) = (x : Int) := by
    have := shlU (h * 4294967296 + m) ld (by omega) (by omega)
    rw [Nat.min_eq_left (by omega)] at this
    rw [hx, ← this, show ((h * 4294967296 + m : Nat) : Int) = (h : Int) * 4294967296 + (m : Int) by omega]
  have b3 : (l3 : Int) / 2 ^ ly = (y : Int) := by
    have := shrU l3 ly (by omega)
    rw [Nat.min_eq_left (by omega)] at this
    rw [hy, ← this]
  have b4 : bits .or .u64 (x : Int) (y : Int) = (t : Int) := by
    rw [hxt]
    exact orU x y ld (by rw [hx]; exact Nat.mul_mod_left _ _) hyl (by omega) (by omega)
  have b5 : IntKind.u32.wrap ((l3 : Int) * 2 ^ ld) = (d : Int) := by
    have := shl32 l3 ld (by omega)
    rw [Nat.min_eq_left (by omega)] at this
    rw [hd, ← this]
  have or1 := or_one t e4
  obtain ⟨T, hS, hTn⟩ : ∃ T, Sticky t r T ∧ ((r = 0 ∧ T = t) ∨ (0 < r ∧ T = (t / 2) * 2 + 1)) := by
    rcases Nat.eq_zero_or_pos r with h0 | h0
    · exact ⟨t, .inl ⟨h0, rfl⟩, .inl ⟨h0, rfl⟩⟩
    · rcases Nat.mod_two_eq_zero_or_one t with h2 | h2
      · exact ⟨t + 1, .inr (.inr ⟨h0, h2, rfl⟩), .inr ⟨h0, by omega⟩⟩
      · exact ⟨t, .inr (.inl ⟨h0, h2, rfl⟩), .inr ⟨h0, by omega⟩⟩
  have hT1 : 9223372036854775808 ≤ T ∧ T ≤ 18446744073709551616 := by
    rcases hS with ⟨_, h⟩ | ⟨_, _, h⟩ | ⟨_, _, h⟩ <;> omega
  obtain ⟨R0, hR0, hfl⟩ := near_float T hT1.1 hT1.2
  obtain ⟨n, n1, n2, hRn, hN⟩ := sticky_near rfl e1 e2 e3 e4 hS hR0
  have cx : ∀ w, Calls Tryz.prog 146 #[.float .f64 (floatOfInt .f64 (T : Int)), .int .i64 (32 * ((k : Int) + 3 - 2) - (ld : Int))] w fun e w' => e = .returned (.float .f64 (min ((1085 + (32 * k + ly)) * 4503599627370496 + n) 9218868437227405312)) ∧ w' = w := by
    intro w
    have := Ldexp_top n (32 * k + ly) n1 n2 (by omega) w
    have ef : floatOfInt .f64 (T : Int) = 1085 * 4503599627370496 + n := by
      rw [hfl, hRn]
      exact Nat.min_eq_left (by omega)
    rw [ef, show (32 : Int) * ((k : Int) + 3 - 2) - (ld : Int) = ((32 * k + ly : Nat) : Int) by omega]
    exact this
  rcases Nat.eq_zero_or_pos d with h0 | h0
  · refine (float_walk2 base g cap k h m l3 ld ly x y d T t _ hkb hh hm hl (by omega) (by omega) (by omega) w c1 c2 c3 cl b1 b2 b3 b4 b5 h0 _ cz ?_ ?_ hcap hcap2 cx).mono ?_
    · intro hz
      have : 0 < r := by
        rcases Nat.eq_zero_or_pos r with h2 | h2
        · have := (e5.1 h2).2
          simp [this] at hz
        · exact h2
      rcases hTn with ⟨hr0, _⟩ | ⟨_, hT⟩
      · omega
      · rw [or1, hT]
    · intro hz
      have hr0 : r = 0 := e5.2 ⟨hdz.1 h0, by simpa using hz⟩
      rcases hTn with ⟨_, hT⟩ | ⟨hr1, _⟩
      · exact hT.symm
      · omega
    · rintro e w' ⟨rfl, hb⟩
      exact ⟨_, hN, rfl, hb⟩
  · refine (float_walk1 base g cap k h m l3 ld ly x y d T t _ h0 hkb hh hm hl (by omega) (by omega) (by omega) w c1 c2 c3 cl b1 b2 b3 b4 b5 ?_ hcap hcap2 cx).mono ?_
    · have : 0 < r := by
        rcases Nat.eq_zero_or_pos r with h2 | h2
        · have := hdz.2 (e5.1 h2).1
          omega
        · exact h2
      rcases hTn with ⟨hr0, _⟩ | ⟨_, hT⟩
      · omega
      · rw [or1, hT]
    · rintro e w' ⟨rfl, hb⟩
      exact ⟨_, hN, rfl, hb⟩
end Go.Proofs.YtellndmbllmjgaaGreatDoor
/- Digits. -/
set_option linter.unusedVariables false
namespace Go.Proofs.YtellndmbllmjgaaGreatDoor
open Go.RowKit Go.Shelf Go.Sort Fs Fl

theorem NatIs.form {w : World} {v : Value} {x : Nat} (h : NatIs w v x) (bx : x < pw 5000) : ∃ sa sl sc, v = .slice sa sl sc ∧ (sl = 0 ↔ x = 0) ∧ sl ≤ 5000 := by
  obtain ⟨l, h1, h2, h3⟩ := h
  obtain ⟨a, c, e⟩ := h1.slice
  refine ⟨a, l.length, c, e, ?_, len_le h2 (by rw [h3]; exact bx)⟩
  constructor
  · intro h0
    rw [← h3, List.eq_nil_of_length_eq_zero h0]
    rfl
  · intro h0
    rcases Nat.eq_zero_or_pos l.length with h4 | h4
    · exact h4
    · have := val_ge l h2 h4
      rw [h3, h0] at this
      have := Nat.pow_pos (n := l.length - 1) (show 0 < 65536 by omega)
      omega
end Go.Proofs.YtellndmbllmjgaaGreatDoor
/- The document's Whole and wholeTo. -/
set_option linter.unusedVariables false
namespace Go.Proofs.YtellndmbllmjgaaGreatDoor
open Go.RowKit Go.Shelf Go.Sort Fs Fl
/-- So far. -/
inductive WhR (w : World) (b : Nat) (l : List Nat) : Value → Value → World → Prop
  | mk (k : Nat) (out : Value) (wr : World) (hk : k ≤ l.length) (ho : NatIs wr out (vB b (l.take k))) (hb : Below w.heap.size w wr) : WhR w b l out (.int .i64 (k : Int)) wr
theorem nat_nil (w : World) : NatIs w (.slice none 0 0) 0 := ⟨[], .inl ⟨⟨none, 0, rfl, by omega⟩, rfl⟩, ⟨by simp, by simp⟩, rfl⟩
set_option maxRecDepth 100000 in
set_option maxHeartbeats 1000000 in
theorem whole_any (S : ByteArray) (b : Nat) (l : List Nat) (hl : Ut.bytes S = l) (hb0 : 2 ≤ b) (hb : b ≤ 36) (hs : l.length ≤ 4000) (hd : DigB b l) (w : World) :
    Calls Tryz.prog 101 #[.string S, .int .i64 (b : Int)] w fun e w' => ∃ v, e = .returned v ∧ NatIs w' v (vB b l) ∧ Below w.heap.size w w' := by
  obtain ⟨N, hN⟩ : ∃ N, S.size = N := ⟨_, rfl⟩
  have hlN : l.length = N := by rw [← hl, Ut.bytes_len, hN]
  have hpw : ∀ k, vB b (l.take k) < pw 1500 := fun k => vB_pw hb (by rw [List.length_take]; omega) (hd.take k)
  have HPW := (show Hid _ from hpw)
  have HD := (show Hid (DigB b l) from hd)
  have HL := (show Hid (Ut.bytes S = l) from hl)
  have HLN := (show Hid (l.length = N) from hlN)
  have hNb : N ≤ 4000 := by omega
  have c1 := nat_any b (by omega)
  have C2 : Hid (∀ x : Nat, x < 100 → ∀ w, Calls Tryz.prog 32 #[.int .u64 (x : Int)] w fun e w' => ∃ v, e = .returned v ∧ NatIs w' v x ∧ Below w.heap.size w w') := fun x hx w => nat_any x (by omega) w
  clear hpw hd hl hlN hs
  go_enter Tryz.func101, Tryz.ntmps101
  go_wp2_with (first | (go_at_call 32; refine (c1 _).mono ?_; rintro e w1 ⟨v1, rfl, hv1, hw1⟩; clear c1))
  go_loopw [5, 7] (fun vo vi wr => WhR w1 b l vo vi wr) (fun _ vi _ => N - (intOf vi).toNat)
  case atStart => exact .mk 0 _ _ (Nat.zero_le _) (nat_nil _) (Below.refl _ _)
  case round =>
    obtain ⟨k, out, wr, hk, ho, hbw⟩ := hrel
    rw [HLN.out] at hk
    rcases Nat.lt_or_ge k N with hkN | hkN
    · have hkS : k < S.size := by omega
      obtain ⟨c, hc⟩ : ∃ c, (S[k]'hkS).toNat = c := ⟨_, rfl⟩
      have hcb : c < 256 := by rw [← hc]; exact UInt8.toNat_lt _
      have hget : l[k]?.getD 0 = c := by rw [← HL.out, ← Ut.bytes_at S k hkS, hc]
      have hsn := take_snocB l k (by rw [HLN.out]; exact hkN)
      rw [hget] at hsn
      have hdc : digV c < b := HD.out c (by
        have h2 : k < l.length := by rw [HLN.out]; exact hkN
        rw [← hget, List.getElem?_eq_getElem h2]
        exact List.getElem_mem h2)
      have hvs : vB b (l.take (k + 1)) = vB b (l.take k) * b + digV c := by rw [hsn, vB_snoc]
      have cd := digitD_any c hcb
      rw [digD_of hb hdc] at cd
      have hp0 := HPW.out k
      obtain ⟨x, hx⟩ : ∃ x, x = digV c := ⟨_, rfl⟩
      obtain ⟨V, hV⟩ : ∃ V, V = vB b (l.take k) := ⟨_, rfl⟩
      rw [← hx] at cd hvs hdc
      rw [← hV] at ho hp0 hvs
      have HVS : Hid (vB b (l.take (k + 1)) = V * b + x) := hvs
      have hx100 : x < 100 := by omega
      have hb5 : b < pw 5000 := Nat.lt_of_le_of_lt (show b ≤ pw 1 by show b ≤ 65536; omega) (pw_strict (by omega))
      have hx5 : x < pw 5000 := Nat.lt_of_le_of_lt (show x ≤ pw 1 by show x ≤ 65536; omega) (pw_strict (by omega))
      have hv5 : V < pw 5000 := pw_lt hp0 (by omega)
      have hvb5 : V * b < pw 5000 := by rw [Nat.mul_comm]; exact pw_lt_mul (show b ≤ pw 1 by show b ≤ 65536; omega) hp0 (by omega)
      have c2 := C2.out x hx100
      have MU := (show Hid _ from fun (w' : World) (h' : Below wr.heap.size wr w') => mul_any u5 v1 V b w' (ho.below h') ((hv1.below hbw).below h') hv5 hb5)
      have AD := (show Hid _ from fun (w' : World) (o y : Value) (h1 : NatIs w' o (V * b)) (h2 : NatIs w' y x) => add_any o y (V * b) x w' h1 h2 hvb5 hx5)
      clear hvs hx hV hp0 hb5 hx5 hv5 hvb5 hget hsn hdc ho C2
      go_wp2_with (first | (go_at_call 100; refine (cd _).mono ?_; rintro e w2 ⟨rfl, rfl⟩) | (go_at_call 32; refine (c2 _).mono ?_; rintro e w3 ⟨v3, rfl, hv3, hw3⟩; clear c2; have mu := MU.out w3 hw3; clear MU) | (go_at_call 65; refine mu.mono ?_; rintro e w4 ⟨v4, rfl, hv4, hw4⟩; clear mu; have ad := AD.out w4 v4 v3 hv4 (hv3.below hw4); clear AD) | (go_at_call 69; refine ad.mono ?_; rintro e w5 ⟨v5, rfl, hv5, hw5⟩; clear ad))
      have hb3 := hbw.trans (hw3.mono hbw.size)
      have hb4 := hb3.trans (hw4.mono hb3.size)
      have hb5 := hb4.trans (hw5.mono hb4.size)
      go_roundw
      case rel =>
        rw [show ((k : Int) + 1) = ((k + 1 : Nat) : Int) by omega]
        exact .mk (k + 1) _ _ (by rw [HLN.out]; omega) (by rw [HVS.out]; exact hv5) hb5
      case measure => simp [intOf]; omega
    · have hkn : k = N := by omega
      subst hkn
      have HT : Hid (NatIs wr u5 (vB b l)) := by
        show NatIs _ _ _
        rw [List.take_of_length_le (by rw [HLN.out]; omega)] at ho
        exact ho
      clear ho
      go_wp2
      go_ret
      exact ⟨_, rfl, HT.out, hw1.trans (hbw.mono hw1.size)⟩
set_option maxRecDepth 100000 in
set_option maxHeartbeats 1000000 in
theorem ratio_nought (v u : Value) (q : Nat) (w : World) (hv : NatIs w v 0) : Calls Tryz.prog 102 #[v, u] w fun e w' => e = .returned (.float .f64 0) ∧ w' = w := by
  obtain ⟨sa, sl, sc, rfl, h, _⟩ := NatIs.form hv (pw_pos 5000)
  obtain rfl : sl = 0 := h.2 rfl
  go_enter Tryz.func102, Tryz.ntmps102
  go_wp2
  go_ret
  exact ⟨rfl, rfl⟩
set_option maxRecDepth 100000 in
set_option maxHeartbeats 1000000 in
/-- **wholeTo: the nearest word.** -/
theorem wholeTo_any (S : ByteArray) (b : Nat) (l : List Nat) (hl : Ut.bytes S = l) (hb0 : 2 ≤ b) (hb : b ≤ 36) (hs : l.length ≤ 4000) (hd : DigB b l) (w : World) :
    Calls Tryz.prog 46 #[.string S, .int .i64 (b : Int)] w fun e w' => ∃ R, Near (vB b l) 1 R ∧ e = .returned (.float .f64 (min R 9218868437227405312)) ∧ Below w.heap.size w w' := by
  have cw := whole_any S b l hl hb0 hb hs hd w
  have hpw := vB_pw hb hs hd
  have C1 : Hid (∀ w, Calls Tryz.prog 32 #[.int .u64 1] w fun e w' => ∃ v, e = .returned v ∧ NatIs w' v 1 ∧ Below w.heap.size w w') := fun w => nat_any 1 (by omega) w
  obtain ⟨V, hV⟩ : ∃ V, V = vB b l := ⟨_, rfl⟩
  rw [← hV] at cw hpw ⊢
  clear hl hs hd hV
  have RA : Hid (∀ (w1 : World) (x y : Value), NatIs w1 x V → NatIs w1 y 1 → Calls Tryz.prog 102 #[x, y] w1 fun e w' => ∃ R, Near V 1 R ∧ e = .returned (.float .f64 (min R 9218868437227405312)) ∧ Below w1.heap.size w1 w') := by
    intro w1 x y hx hy
    rcases Nat.eq_zero_or_pos V with h0 | h0
    · subst h0
      refine (ratio_nought x y 1 w1 hx).mono ?_
      rintro e w' ⟨rfl, rfl⟩
      refine ⟨0, ?_, rfl, Below.refl _ _⟩
      unfold Near Inn
      rw [up_zero, lo_zero, if_pos rfl]
      simp
    · exact ratio_pos x y V 1 w1 hx hy (pw_lt hpw (by omega)) (Nat.lt_of_lt_of_le (by decide : 1 < pw 1) (pw_mono (by omega))) h0 (by omega)
  clear hpw
  go_enter Tryz.func46, Tryz.ntmps46
  go_wp2_with (first | (go_at_call 101; refine cw.mono ?_; rintro e w1 ⟨v1, rfl, hv1, hw1⟩; clear cw; have c1 := C1.out w1; clear C1) | (go_at_call 32; refine c1.mono ?_; rintro e w2 ⟨v2, rfl, hv2, hw2⟩; clear c1; have ra := RA.out w2 v1 v2 (hv1.below hw2) hv2; clear RA) | (go_at_call 102; refine ra.mono ?_; rintro e w3 ⟨R, hR, rfl, hw3⟩; clear ra))
  have hw12 := hw1.trans (hw2.mono hw1.size)
  go_ret
  exact ⟨R, hR, rfl, hw12.trans (hw3.mono hw12.size)⟩
end Go.Proofs.YtellndmbllmjgaaGreatDoor
/- nat.float: the nearest word. -/
set_option linter.unusedVariables false
namespace Go.Proofs.YtellndmbllmjgaaGreatDoor
open Go.RowKit Go.Shelf Go.Sort Fs Fl
theorem near_nought : Near 0 1 0 := by
  unfold Near Inn
  rw [up_zero, lo_zero, if_pos rfl]
  simp
theorem near_int (T : Nat) : ∃ R0, Near T 1 R0 ∧ floatOfInt .f64 (T : Int) = min R0 9218868437227405312 := by
  rcases Nat.eq_zero_or_pos T with h | h
  · subst h
    refine ⟨0, near_nought, ?_⟩
    decide +kernel
  · obtain ⟨R0, hR, he⟩ := nearest_near false T 0 0 T 1 (by omega) (by omega) (by omega)
    refine ⟨R0, hR, ?_⟩
    rw [float_of, wd_false] at *
    exact he
theorem last_get (L : List Nat) (k : Nat) (hk : L.length = k + 1) (hT : Top L) : L[k]?.getD 0 ≠ 0 := by
  have h1 : L.getLast? = some (L[k]'(by omega)) := by
    rw [List.getLast?_eq_getElem?, show L.length - 1 = k by omega, List.getElem?_eq_getElem (by omega)]
  rw [List.getElem?_eq_getElem (by omega)]
  exact hT _ h1
theorem float_any (base : Nat) (v : Value) (x : Nat) (w : World) (hv : NatP base w v x) (B : Nat) (hB : B ≤ 500) (hx : x < 4294967296 ^ B) :
    Calls Tryz.prog 96 #[v] w fun e w' => ∃ R, Near x 1 R ∧ e = .returned (.float .f64 (min R 9218868437227405312)) ∧ Below w.heap.size w w' := by
  obtain ⟨L, hO, hW, hT, hval⟩ := hv
  have hlen : L.length ≤ 500 := Nat.le_trans (top_len hT hW (by rw [hval]; exact hx)) hB
  clear hx
  rcases hO.2 with ⟨rfl, h0⟩ | ⟨g, cap, cur, rfl, _, hgb, hcap, hm, _⟩
  · have e : L = [] := List.eq_nil_of_length_eq_zero h0
    subst e
    refine (float_none none 0 w).mono ?_
    rintro e w' ⟨rfl, rfl⟩
    obtain rfl : x = 0 := hval.symm
    obtain ⟨R, h1, h2⟩ := near_int 0
    exact ⟨R, h1, by rw [← h2]; rfl, Below.refl _ _⟩
  · unfold maxLen at hm
    match L, hO, hW, hT, hval, hlen, hcap with
    | [], hO, hW, hT, hval, hlen, hcap =>
      refine (float_none _ cap w).mono ?_
      rintro e w' ⟨rfl, rfl⟩
      obtain rfl : x = 0 := hval.symm
      obtain ⟨R, h1, h2⟩ := near_int 0
      exact ⟨R, h1, by rw [← h2]; rfl, Below.refl _ _⟩
    | [a], hO, hW, hT, hval, hlen, hcap =>
      refine (float_one base g cap a (hW a (by simp)) w hO).mono ?_
      rintro e w' ⟨rfl, rfl⟩
      obtain rfl : x = a := by rw [← hval]; simp [val32]
      obtain ⟨R, h1, h2⟩ := near_int x
      exact ⟨R, h1, by rw [← h2], Below.refl _ _⟩
    | [a, b], hO, hW, hT, hval, hlen, hcap =>
      refine (float_two base g cap a b (hW a (by simp)) (hW b (by simp)) w hO).mono ?_
      rintro e w' ⟨rfl, rfl⟩
      obtain rfl : x = a + 4294967296 * b := by rw [← hval]; simp [val32]
      obtain ⟨R, h1, h2⟩ := near_int (a + 4294967296 * b)
      exact ⟨R, h1, by rw [← h2], Below.refl _ _⟩
    | a :: b :: c :: t, hO, hW, hT, hval, hlen, hcap =>
      have hk : (a :: b :: c :: t).length = t.length + 3 := rfl
      rw [← hval]
      exact float_big base g cap (a :: b :: c :: t) t.length hk (by omega) hW (last_get _ (t.length + 2) (by omega) hT) hcap hm w hO
end Go.Proofs.YtellndmbllmjgaaGreatDoor
/- Whole numbers of few digits as floats: times ten, and a digit more. -/
set_option linter.unusedVariables false
namespace Go.Proofs.YtellndmbllmjgaaGreatDoor
open Go.RowKit Go.Shelf Go.Sort Fs Fl Ieee
theorem near_same {n R R' : Nat} (h : Near n 1 R) (h' : Near n 1 R') : R = R' := near_one (by omega) h h'
theorem fl_zero : floatOfInt .f64 0 = 0 := by decide +kernel
theorem fl_word (n : Nat) (h : n < 9007199254740992) : ∃ r K, K = 1074 ∧ floatOfInt .f64 (n : Int) = r ∧ r < 9218868437227405312 ∧ valR r = n * 2 ^ K := by
  obtain ⟨K, hK⟩ : ∃ K, K = 1074 := ⟨_, rfl⟩
  rcases Nat.eq_zero_or_pos n with h0 | h0
  · subst h0
    exact ⟨0, K, hK, fl_zero, by omega, by rw [Nat.zero_mul]; exact valR_zero.2 rfl⟩
  · obtain ⟨M, L, hN, hL⟩ := norm_small (by omega) h
    have e := foi n M L hN (by omega)
    have h1 := read_word false n M L hN (by omega)
    have hM := hN.M_le
    have hM2 := hN.M_lt
    have hlt : rungI M L < 9218868437227405312 := by unfold rungI; omega
    have h2 := read_wd false (rungI M L) hlt
    rw [h1] at h2
    injection h2 with _ e1 e2
    refine ⟨rungI M L, K, hK, e, hlt, ?_⟩
    unfold valR
    rw [← e1, show expR (rungI M L) = L + (K - 52) by omega, Nat.pow_add, ← Nat.mul_assoc, hN.1, Nat.mul_assoc, ← Nat.pow_add]
    congr 2
    omega
theorem fl_mul (a : Nat) (h : a < 9007199254740992) : double.mul (floatOfInt .f64 (a : Int)) 4621819117588971520 = some (floatOfInt .f64 ((a * 10 : Nat) : Int)) := by
  rcases Nat.eq_zero_or_pos a with h0 | h0
  · subst h0
    decide +kernel
  · obtain ⟨M, L, hN, hL⟩ := norm_small (by omega) h
    have e := foi a M L hN (by omega)
    obtain ⟨M', L', hN', hL', e'⟩ := p10_at 1 (by omega)
    have e2 : (4621819117588971520 : Nat) = rungI M' L' := by rw [← e']; rfl
    obtain ⟨R, hR, hm⟩ := mul_near hN hN' (by omega) hL'
    obtain ⟨R', hR', hf⟩ := near_int (a * 10)
    rw [Nat.pow_one] at hR
    rw [e, e2, hm, hf, near_same hR hR']
theorem fl_add (a b : Nat) (ha : a < 9007199254740992) (hb : b < 9007199254740992) (h0 : 0 < a + b) : double.add (floatOfInt .f64 (a : Int)) (floatOfInt .f64 (b : Int)) = some (floatOfInt .f64 ((a + b : Nat) : Int)) := by
  obtain ⟨ra, K, hK, ea, la, va⟩ := fl_word a ha
  obtain ⟨rb, K', hK', eb, lb, vb⟩ := fl_word b hb
  obtain rfl : K = K' := by omega
  obtain ⟨n, mag, k, h1, h2, h3⟩ := sum_of false false ra rb
  rw [key_false, key_false, va, vb] at h2 h3
  have hp : 0 < 2 ^ K := Nat.two_pow_pos K
  have hs : ((a * 2 ^ K : Nat) : Int) + ((b * 2 ^ K : Nat) : Int) = (((a + b) * 2 ^ K : Nat) : Int) := by rw [Nat.add_mul]; exact (Int.natCast_add _ _).symm
  have hpos : 0 < (a + b) * 2 ^ K := Nat.mul_pos h0 hp
  rw [hs] at h2 h3
  rw [Int.natAbs_natCast] at h2
  have hn : n = false := by
    rw [h3 (by omega)]
    exact decide_eq_false (by omega)
  have hm0 : mag ≠ 0 := fun e => by rw [e, Nat.zero_mul] at h2; omega
  obtain ⟨R, hR, hw⟩ := nearest_near n mag k K (a + b) 1 hm0 (by omega) (by rw [Nat.mul_one]; exact h2)
  obtain ⟨R', hR', hf⟩ := near_int (a + b)
  unfold Format.add
  have r1 := read_wd false ra la
  have r2 := read_wd false rb lb
  rw [wd_false] at r1 r2
  rw [ea, eb, r1, r2, h1]
  simp only [Option.map_some, Format.write]
  rw [show ((1074 : Nat) : Int) = (K : Int) by omega, hw, hn, wd_false, hf, near_same hR hR']
end Go.Proofs.YtellndmbllmjgaaGreatDoor
