/- Small; bits. -/
import Derived.Test.YtellndmbllmjgaaGreatDoorCBn5x
import Derived.Test.YtellndmbllmjgaaGreatDoorCWk2x
import Derived.Test.YtellndmbllmjgaaGreatDoorCRtx
import Derived.Laws.BitsAllLaws
import Derived.Laws.Bits64b
set_option linter.unusedVariables false
namespace Go.Proofs.YtellndmbllmjgaaGreatDoor
open Go.RowKit Go.Shelf Go.Sort Fs Fl

/-- How many bits a number has. -/
def BitsIs (x t : Nat) : Prop := (x = 0 ∧ t = 0) ∨ (1 ≤ t ∧ 2 ^ (t - 1) ≤ x ∧ x < 2 ^ t)
theorem pow16 (n : Nat) : 65536 ^ n = 2 ^ (16 * n) := by rw [Nat.pow_mul]
set_option maxRecDepth 100000 in
set_option maxHeartbeats 1000000 in
theorem bits_1 (l : List Nat) (b1 o1 c1 : Nat) (hl : Ok l) (h0 : 0 < l.length) (hll : l.length ≤ 5000) (w : World)
    (hb1 : b1 < w.heap.size) (hc1 : ∀ j, j < l.length → w.cell? ⟨b1, o1 + j, none⟩ = some (.int .u32 ((l[j]?.getD 0 : Nat) : Int))) :
    Calls Tryz.prog 66 #[.slice (some ⟨b1, o1, none⟩) l.length c1] w fun e w' => ∃ t : Nat, e = .returned (.int .i64 (t : Int)) ∧ BitsIs (val l) t ∧ t ≤ 80000 ∧ Below w.heap.size w w' := by
  obtain ⟨n, hn⟩ : ∃ n, l.length = n + 1 := ⟨l.length - 1, by omega⟩
  have x1 := hc1 n (by omega)
  have htop := hl.2 h0
  have hv := val_split l n (by omega)
  have hlow := val_lt (l.take n) (fun d hd => hl.1 d (List.mem_of_mem_take hd))
  have htl := getD_lt hl.1 n
  rw [hn, Nat.add_sub_cancel] at htop
  rw [List.length_take, Nat.min_eq_left (by omega)] at hlow
  rw [List.drop_of_length_le (by omega)] at hv
  simp only [val, Nat.mul_zero, Nat.add_zero] at hv
  rw [hn] at hll ⊢
  generalize l[n]?.getD 0 = top at *
  have fin : ∀ c, top / 2 ^ c = 0 → (0 < c → top / 2 ^ (c - 1) ≠ 0) → BitsIs (val l) (16 * n + c) := by
    intro c hc1 hc2
    have hp := Nat.two_pow_pos c
    have a1 : top < 2 ^ c := by
      rcases Nat.lt_or_ge top (2 ^ c) with h | h
      · exact h
      · have := Nat.div_pos h hp; omega
    have hc0 : 0 < c := by
      rcases Nat.eq_zero_or_pos c with h | h
      · rw [h] at a1; simp at a1; omega
      · exact h
    have a2 : 2 ^ (c - 1) ≤ top := by
      have := hc2 hc0
      rcases Nat.lt_or_ge top (2 ^ (c - 1)) with h | h
      · rw [Nat.div_eq_of_lt h] at this; omega
      · exact h
    refine Or.inr ⟨by omega, ?_, ?_⟩
    · rw [show 16 * n + c - 1 = 16 * n + (c - 1) by omega, Nat.pow_add, ← pow16]
      have : 65536 ^ n * 2 ^ (c - 1) ≤ 65536 ^ n * top := Nat.mul_le_mul_left _ a2
      omega
    · rw [Nat.pow_add, ← pow16]
      have : 65536 ^ n * (top + 1) ≤ 65536 ^ n * 2 ^ c := Nat.mul_le_mul_left _ a1
      rw [Nat.mul_add] at this
      omega
  have FIN := (show Hid _ from fin)
  clear fin hv hlow hc1 hl h0
  have t0 : ((n : Int) + 1 == 0) = false := by rw [beq_eq_false_iff_ne]; omega
  go_enter Tryz.func66, Tryz.ntmps66
  go_wp2
  go_loopw [3, 4] (fun vn vx wr => ∃ c : Nat, vn = .int .i64 ((16 * n + c : Nat) : Int) ∧ vx = .int .u32 ((top / 2 ^ c : Nat) : Int) ∧ c ≤ 16 ∧ (0 < c → top / 2 ^ (c - 1) ≠ 0) ∧ Below w.heap.size w wr) (fun _ vx _ => (RowKit.intOf vx).toNat)
  case atStart => exact ⟨0, by simp, by simp, by omega, by omega, Below.refl _ _⟩
  case round =>
    obtain ⟨c, rfl, rfl, hc, hne, hbw⟩ := hrel
    obtain ⟨y, hy⟩ : ∃ y, y = top / 2 ^ c := ⟨_, rfl⟩
    have HY : Hid (y = top / 2 ^ c ∧ (0 < c → top / 2 ^ (c - 1) ≠ 0)) := ⟨hy, hne⟩
    obtain ⟨s, hs⟩ : ∃ s, s = 16 * n + c := ⟨_, rfl⟩
    have HS : Hid (s = 16 * n + c) := hs
    have hs2 : s ≤ 80000 := by omega
    have hy2 : y < 65536 := by
      have : top / 2 ^ c ≤ top := Nat.div_le_self _ _
      omega
    rw [← hy, ← hs]
    clear hne hs hy
    rcases Nat.eq_zero_or_pos y with h0 | h0
    · have HB : Hid (BitsIs (val l) s) := by
        have h1 := HY.out
        have h2 := FIN.out c (by omega) h1.2
        rw [HS.out]
        exact h2
      subst h0
      go_wp2
      go_ret
      exact ⟨s, rfl, HB.out, hs2, hbw⟩
    · go_wp2
      have h1 := HY.out.1
      have hc16 : c < 16 := by
        rcases Nat.lt_or_ge c 16 with h | h
        · exact h
        · have h2 : 2 ^ 16 ≤ 2 ^ c := Nat.pow_le_pow_right (by omega) h
          have h3 : top / 2 ^ c = 0 := Nat.div_eq_of_lt (by omega)
          omega
      have h4 : top / 2 ^ (c + 1) = y / 2 := by rw [Nat.pow_succ, ← Nat.div_div_eq_div_mul, ← h1]
      refine ⟨⟨c + 1, ?_, ?_, by omega, fun _ => by rw [Nat.add_sub_cancel, ← h1]; omega, hbw⟩, ?_⟩
      · rw [HS.out]; simp; omega
      · rw [h4]; rfl
      · simp only [RowKit.intOf]
        omega
/-- **bits.** -/
theorem bits_any (u : Value) (x : Nat) (w : World) (hx : NatIs w u x) (bx : x < pw 5000) :
    Calls Tryz.prog 66 #[u] w fun e w' => ∃ t : Nat, e = .returned (.int .i64 (t : Int)) ∧ BitsIs x t ∧ t ≤ 80000 ∧ Below w.heap.size w w' := by
  obtain ⟨l, hl1, hl2, rfl⟩ := hx
  have l1 := len_le hl2 bx
  rcases Nat.eq_zero_or_pos l.length with h0 | h0
  · have e1 : l = [] := List.eq_nil_of_length_eq_zero h0
    subst e1
    obtain ⟨a, c, rfl⟩ := hl1.slice
    clear hl1 hl2 bx l1
    go_enter Tryz.func66, Tryz.ntmps66
    go_wp2
    go_ret
    exact ⟨0, rfl, Or.inl ⟨rfl, rfl⟩, by omega, Below.refl _ _⟩
  · obtain ⟨b1, o1, c1, rfl, hc1⟩ := cell_of hl1 h0
    have hb1 : b1 < w.heap.size := by
      rcases hl1 with ⟨_, e⟩ | ⟨b, off, cap, e, _, hb, _⟩
      · rw [e] at h0; simp at h0
      · cases e; exact hb
    exact bits_1 l b1 o1 c1 hl2 h0 l1 w hb1 hc1
end Go.Proofs.YtellndmbllmjgaaGreatDoor
/- Quo. -/
set_option linter.unusedVariables false
namespace Go.Proofs.YtellndmbllmjgaaGreatDoor
open Go.RowKit Go.Shelf Go.Sort Fs Fl

/-- What holds ahead of each round of Quo. -/
def QuoR (w : World) (P q : Nat) (vp vn vi : Value) (wr : World) : Prop :=
  ∃ (k n cur : Nat), vi = .int .i64 ((k : Int) - 1) ∧ vn = .int .u64 (n : Int) ∧ NatIs wr vp cur ∧ k ≤ 61 ∧ P = n * q + cur ∧ cur < 2 ^ k * q ∧ n + 2 ^ k ≤ 2 ^ 61 ∧ Below w.heap.size w wr
theorem two_pw (i : Nat) (h : i ≤ 64) : 2 ^ i ≤ pw 4 := by
  have h1 : 2 ^ i ≤ 2 ^ 64 := Nat.pow_le_pow_right (by omega) h
  exact Nat.le_trans h1 (Nat.le_of_eq (by decide))
theorem pw_lt_mul {a b m n k : Nat} (h1 : a ≤ pw m) (h2 : b < pw n) (h : m + n ≤ k) : a * b < pw k := by
  have h3 : a * b ≤ pw m * b := Nat.mul_le_mul_right _ h1
  have h4 : pw m * b < pw m * pw n := (Nat.mul_lt_mul_left (pw_pos m)).2 h2
  rw [← pw_add] at h4
  exact Nat.lt_of_le_of_lt h3 (Nat.lt_of_lt_of_le h4 (pw_mono h))
theorem pw_strict {m n : Nat} (h : m < n) : pw m < pw n := Nat.pow_lt_pow_right (by omega) h
theorem pw_lt {a m n : Nat} (h1 : a < pw m) (h : m ≤ n) : a < pw n := Nat.lt_of_lt_of_le h1 (pw_mono h)
theorem cmp_ge {c : Int} {x y : Nat} (h : CmpIs c x y) (hle : y ≤ x) : 0 ≤ c := by
  have := h.2
  omega
theorem cmp_neg {c : Int} {x y : Nat} (h : CmpIs c x y) (hle : x < y) : c < 0 := h.2.2 hle
theorem NatIs.drewN {w : World} {v : Value} {x n : Nat} (h : NatIs w v x) : NatIs (w.drewN n) v x := h
set_option maxRecDepth 100000 in
set_option maxHeartbeats 2000000 in
/-- **Quo.** -/
theorem quo_any (u v : Value) (P q : Nat) (w : World) (hu : NatIs w u P) (hv : NatIs w v q) (bP : P < pw 4900) (bq : q < pw 4900) (hq : 0 < q) (hlt : P < 2 ^ 61 * q) :
    Calls Tryz.prog 70 #[u, v] w fun e w' => ∃ r, e = .returned (.tuple #[.int .u64 ((P / q : Nat) : Int), r]) ∧ NatIs w' r (P % q) ∧ Below w.heap.size w w' := by
  have HB : Hid (P < pw 4900 ∧ q < pw 4900 ∧ P < 2 ^ 61 * q) := ⟨bP, bq, hlt⟩
  clear bP bq hlt
  go_enter Tryz.func70, Tryz.ntmps70
  go_wp2
  go_loopw [0, 6, 7] (fun vp vn vi wr => QuoR w P q vp vn vi wr) (fun _ _ vi _ => (RowKit.intOf vi + 1).toNat)
  case atStart => exact ⟨61, 0, P, by simp, rfl, hu, by omega, by omega, HB.out.2.2, by omega, Below.refl _ _⟩
  case round =>
    obtain ⟨k, n, cur, rfl, rfl, hcur, hk, hP, hc, hn, hbw⟩ := hrel
    have HC : Hid (P = n * q + cur ∧ cur < 2 ^ k * q ∧ n + 2 ^ k ≤ 2 ^ 61) := ⟨hP, hc, hn⟩
    have hn64 : n < 18446744073709551616 := by have := Nat.two_pow_pos k; omega
    clear hP hc hn hu
    rcases Nat.eq_zero_or_pos k with h0 | h0
    · subst h0
      have HF : Hid (n = P / q ∧ cur = P % q) := by
        show n = P / q ∧ cur = P % q
        obtain ⟨a1, a2, _⟩ := HC.out
        rw [Nat.pow_zero, Nat.one_mul] at a2
        rw [a1, Nat.mul_comm n, Nat.mul_add_div hq, Nat.div_eq_of_lt a2, Nat.mul_add_mod, Nat.mod_eq_of_lt a2]
        exact ⟨rfl, rfl⟩
      go_wp2
      go_ret2
      rw [← HF.out.1, ← HF.out.2]
      exact ⟨_, rfl, hcur, hbw⟩
    · obtain ⟨i, rfl⟩ : ∃ i, k = i + 1 := ⟨k - 1, by omega⟩
      have ej : ((i + 1 : Nat) : Int) - 1 = (i : Int) := by omega
      have hi60 : i ≤ 60 := by omega
      have cp : Calls Tryz.prog 64 #[.int .u64 2, .int .i64 (i : Int)] wr fun e w' => ∃ v, e = .returned v ∧ NatIs w' v (2 ^ i) ∧ Below wr.heap.size wr w' := by
        have := power_any 2 (i : Int) (by omega) (by omega) (by omega) (by omega) (Nat.lt_of_le_of_lt (two_pw _ (by rw [Int.toNat_natCast]; omega)) (pw_strict (by omega))) wr
        rw [Int.toNat_natCast] at this
        exact this
      have hvr := hv.below hbw
      have bcur : cur < pw 4900 := by
        have := HC.out.1
        have h9 := HB.out.1
        have : cur ≤ P := by rw [HC.out.1]; exact Nat.le_add_left _ _
        exact Nat.lt_of_le_of_lt this h9
      have cm := fun (w1 : World) (x : Value) (hx : NatIs w1 x (2 ^ i)) (hb : Below wr.heap.size wr w1) => mul_any x v (2 ^ i) q w1 hx (hvr.below hb) (pw_lt (Nat.lt_of_le_of_lt (two_pw i (by omega)) (pw_strict (show 4 < 5 by omega))) (by omega)) (pw_lt HB.out.2.1 (by omega))
      have cc := fun (w1 : World) (x : Value) (hx : NatIs w1 x (2 ^ i * q)) (hb : Below wr.heap.size wr w1) => cmp_any u0 x cur (2 ^ i * q) w1 (hcur.below hb) hx (pw_lt bcur (by omega)) (pw_lt_mul (two_pw i (by omega)) HB.out.2.1 (by omega))
      have cs := fun (w1 : World) (x : Value) (hx : NatIs w1 x (2 ^ i * q)) (hb : Below wr.heap.size wr w1) (hle : 2 ^ i * q ≤ cur) => sub_any u0 x cur (2 ^ i * q) w1 (hcur.below hb) hx (pw_lt bcur (by omega)) hle
      have CM := (show Hid _ from cm)
      have CC := (show Hid _ from cc)
      have CS := (show Hid _ from cs)
      rw [ej]
      clear cm cc cs bcur hvr
      obtain ⟨S, hS⟩ : ∃ S, S = 2 ^ i := ⟨_, rfl⟩
      have hS2 : S ≤ 1152921504606846976 := by
        rw [hS]
        exact Nat.le_trans (Nat.pow_le_pow_right (by omega) hi60) (Nat.le_of_eq (by decide))
      by_cases hge : S * q ≤ cur
      · have HN : Hid (n + S + S ≤ 2 ^ 61 ∧ cur - S * q < 2 ^ i * q ∧ P = (n + S) * q + (cur - S * q)) := by
          obtain ⟨a1, a2, a3⟩ := HC.out
          rw [Nat.pow_succ, ← hS] at a2 a3
          refine ⟨by omega, ?_, ?_⟩
          · rw [← hS]
            have : S * 2 * q = S * q + S * q := by grind
            omega
          · rw [Nat.add_mul]
            omega
        have HS : Hid (S = 2 ^ i) := hS
        have hadd : n + S < 18446744073709551616 := by have := HN.out.1; omega
        have HGE : Hid (S * q ≤ cur) := hge
        clear hge hS
        go_wp2_with (first | (go_at_call 64; refine cp.mono ?_; rintro e w1 ⟨x1, rfl, hx1, hw1⟩; have cm1 := CM.out w1 x1 hx1 hw1; clear cp) | (go_at_call 65; refine cm1.mono ?_; rintro e w2 ⟨x2, rfl, hx2, hw2⟩; have cc1 := CC.out w2 x2 hx2 (hw1.trans (hw2.mono hw1.size)); clear cm1) | (go_at_call 67; refine cc1.mono ?_; rintro e w3 ⟨c, rfl, hcmp, nn, rfl⟩; have kc : (0 : Int) ≤ c := cmp_ge hcmp (HS.out ▸ HGE.out); have cs1 := CS.out (w2.drewN nn) x2 hx2.drewN (below_drewN (hw1.trans (hw2.mono hw1.size))) (HS.out ▸ HGE.out); clear cc1 hcmp) | (go_at_call 68; refine cs1.mono ?_; rintro e w4 ⟨x4, rfl, hx4, hw4⟩; clear cs1))
        have hw2' := hw1.trans (hw2.mono hw1.size)
        have hw3' : Below wr.heap.size wr (w2.drewN nn) := below_drewN hw2'
        have hw5 := hw3'.trans (hw4.mono hw3'.size)
        have e1 : IntKind.u64.wrap ((n : Int) + IntKind.u64.wrap (2 ^ i)) = ((n + S : Nat) : Int) := by
          have e0 : (2 : Int) ^ i = (S : Int) := by rw [HS.out, Int.natCast_pow]; rfl
          rw [e0, IntKind.wrap_u64, IntKind.wrap_u64]
          omega
        rw [e1]
        obtain ⟨b1, b2, b3⟩ := HN.out
        rw [← HS.out] at hx4 b2
        refine ⟨⟨i, n + S, cur - S * q, rfl, rfl, hx4, by omega, b3, by rw [← HS.out]; exact b2, by rw [← HS.out]; omega, hbw.trans (hw5.mono hbw.size)⟩, ?_⟩
        simp only [RowKit.intOf]
        omega
      · have HS : Hid (S = 2 ^ i) := hS
        have HGE : Hid (cur < S * q) := Nat.lt_of_not_le hge
        clear hge hS
        go_wp2_with (first | (go_at_call 64; refine cp.mono ?_; rintro e w1 ⟨x1, rfl, hx1, hw1⟩; have cm1 := CM.out w1 x1 hx1 hw1; clear cp) | (go_at_call 65; refine cm1.mono ?_; rintro e w2 ⟨x2, rfl, hx2, hw2⟩; have cc1 := CC.out w2 x2 hx2 (hw1.trans (hw2.mono hw1.size)); clear cm1) | (go_at_call 67; refine cc1.mono ?_; rintro e w3 ⟨c, rfl, hcmp, nn, rfl⟩; have kc : ¬ (0 : Int) ≤ c := Int.not_le.2 (cmp_neg hcmp (HS.out ▸ HGE.out)); clear cc1 hcmp))
        have hw2' := hw1.trans (hw2.mono hw1.size)
        have hw3' : Below wr.heap.size wr (w2.drewN nn) := below_drewN hw2'
        obtain ⟨a1, a2, a3⟩ := HC.out
        have hge := HGE.out
        rw [Nat.pow_succ, ← HS.out] at a3
        refine ⟨⟨i, n, cur, rfl, rfl, (hcur.below hw2').drewN, by omega, a1, by rw [← HS.out]; exact hge, by rw [← HS.out]; omega, hbw.trans (hw3'.mono hbw.size)⟩, ?_⟩
        simp only [RowKit.intOf]
        omega
end Go.Proofs.YtellndmbllmjgaaGreatDoor
/- The walks of Abs, IsInf, IsNaN, normalize, Ldexp. -/
set_option linter.unusedVariables false
namespace Go.Proofs.YtellndmbllmjgaaGreatDoor
open Go.RowKit Go.Shelf Go.Sort Fs Fl

theorem Tryz.frombits7 (x : Int) (w : World) : (callFunc 7 #[.int .u64 x]).run Tryz.prog w = .ok (.value (.float .f64 x.toNat)) w := by
  rw [run_callFunc_extern (P := Tryz.prog) (f := 7) (e := Extern.MathFloatBits.float64frombits) Tryz.func7 (by kernel_rfl) (by kernel_rfl) (by kernel_rfl) (by kernel_rfl)]
  rfl
theorem Tryz.tobits103 (b : Nat) (w : World) : (callFunc 103 #[.float .f64 b]).run Tryz.prog w = .ok (.value (.int .u64 b)) w := by
  rw [run_callFunc_extern (P := Tryz.prog) (f := 103) (e := Extern.MathFloatBits.float64bits) Tryz.func103 (by kernel_rfl) (by kernel_rfl) (by kernel_rfl) (by kernel_rfl)]
  rfl
theorem ord_lt {a b : Nat} (ha : a < 9218868437227405312) (hb : b < 9218868437227405312) (h : a < b) : FloatKind.f64.format.order a b = some .lt := by
  have h1 : FloatKind.f64.format.order a b = some (compare (a : Int) (b : Int)) := order_pos a b ha hb
  rw [h1, cmp_lt (by omega)]
theorem ord_gt {a b : Nat} (ha : a < 9218868437227405312) (hb : b < 9218868437227405312) (h : b < a) : FloatKind.f64.format.order a b = some .gt := by
  have h1 : FloatKind.f64.format.order a b = some (compare (a : Int) (b : Int)) := order_pos a b ha hb
  rw [h1, cmp_gt (by omega)]
theorem ord_eq {a : Nat} (ha : a < 9218868437227405312) : FloatKind.f64.format.order a a = some .eq := by
  have h1 : FloatKind.f64.format.order a a = some (compare (a : Int) (a : Int)) := order_pos a a ha ha
  rw [h1, cmp_eq]
theorem not_gt {a b : Nat} (ha : a < 9218868437227405312) (hb : b < 9218868437227405312) (h : a ≤ b) : (FloatKind.f64.format.order a b == some .gt) = false := by
  rcases Nat.lt_or_eq_of_le h with h1 | h1
  · rw [ord_lt ha hb h1]; rfl
  · rw [h1, ord_eq hb]; rfl
theorem not_lt {a b : Nat} (ha : a < 9218868437227405312) (hb : b < 9218868437227405312) (h : b ≤ a) : (FloatKind.f64.format.order a b == some .lt) = false := by
  rcases Nat.lt_or_eq_of_le h with h1 | h1
  · rw [ord_gt ha hb h1]; rfl
  · rw [h1, ord_eq ha]; rfl
theorem abs_bits (r : Nat) (h : r < 9223372036854775808) : bits .andNot .u64 (r : Int) 9223372036854775808 = (r : Int) := by
  refine (u64_andNot_nat r 9223372036854775808 (by omega) (by omega)).trans ?_
  have e : r &&& (2 ^ 63 - 1) = r % 2 ^ 63 := Nat.and_two_pow_sub_one_eq_mod _ _
  have e2 : r % 2 ^ 63 = r := Nat.mod_eq_of_lt h
  rw [e2] at e
  exact congrArg Int.ofNat e
/-- Abs, of what is not below 0. -/
theorem abs_pos (r : Nat) (h : r < 9223372036854775808) (w : World) : Calls Tryz.prog 71 #[.float .f64 r] w fun e w' => e = .returned (.float .f64 r) ∧ w' = w := by
  have h1 := abs_bits r h
  have x1 := Tryz.tobits103 r
  have x2 := Tryz.frombits7 (r : Int)
  rw [Int.toNat_natCast] at x2
  clear h
  go_enter Tryz.func71, Tryz.ntmps71
  go_wp2
  go_ret
  exact ⟨rfl, rfl⟩
theorem isNaN_any (x : Nat) (w : World) : Calls Tryz.prog 232 #[.float .f64 x] w fun e w' => e = .returned (.bool (FloatKind.f64.format.order x x != some .eq)) ∧ w' = w := by
  go_enter Tryz.func232, Tryz.ntmps232
  go_wp2
  go_ret
  exact ⟨rfl, rfl⟩
theorem isInf_pos (r : Nat) (h : r < 9223372036854775808) (w : World) : Calls Tryz.prog 25 #[.float .f64 r, .int .i64 0] w fun e w' => e = .returned (.bool (FloatKind.f64.format.order r 9218868437227405311 == some .gt)) ∧ w' = w := by
  have ca := abs_pos r h
  clear h
  go_enter Tryz.func25, Tryz.ntmps25
  go_wp2_with (first | (go_at_call 71; refine (ca _).mono ?_; rintro e w' ⟨rfl, rfl⟩) | go_in)
  go_ret
  exact ⟨rfl, rfl⟩
set_option maxRecDepth 100000 in
theorem normalize_any (r : Nat) (h1 : 4503599627370496 ≤ r) (h2 : r < 9218868437227405312) (w : World) : Calls Tryz.prog 237 #[.float .f64 r] w fun e w' => e = .returned (.tuple #[.float .f64 r, .int .i64 0]) ∧ w' = w := by
  have ca := abs_pos r (by omega)
  have ho := not_lt h2 (b := 4503599627370496) (by omega) h1
  clear h1 h2
  go_enter Tryz.func237, Tryz.ntmps237
  go_wp2_with (first | (go_at_call 71; refine (ca _).mono ?_; rintro e w' ⟨rfl, rfl⟩) | go_in)
  go_ret2
  exact ⟨rfl, rfl⟩
theorem strip_exp (f q : Nat) (hf : f < 4503599627370496) (hq : q < 2048) : bits .andNot .u64 ((q * 4503599627370496 + f : Nat) : Int) 9218868437227405312 = (f : Int) := by
  have hx : q * 4503599627370496 + f < 9223372036854775808 := by omega
  refine (u64_andNot_nat (q * 4503599627370496 + f) 9218868437227405312 (by omega) (by omega)).trans ?_
  generalize hX : q * 4503599627370496 + f = x at *
  have e1 : x &&& (2 ^ 63 - 1) = x % 2 ^ 63 := Nat.and_two_pow_sub_one_eq_mod _ _
  have e2 : x % 2 ^ 63 = x := Nat.mod_eq_of_lt hx
  have e3 : x &&& (2 ^ 52 - 1) = x % 2 ^ 52 := Nat.and_two_pow_sub_one_eq_mod _ _
  have e4 : x % 2 ^ 52 = f := by omega
  have e5 : (9223372036854775807 : Nat) &&& (18446744073709551615 - 9218868437227405312) = 4503599627370495 := by decide
  have e6 : x &&& (18446744073709551615 - 9218868437227405312) = f := by
    have : x = x &&& 9223372036854775807 := (e1.trans e2).symm
    rw [this, Nat.and_assoc, e5]
    exact e3.trans e4
  exact congrArg Int.ofNat e6
theorem put_exp (f q : Nat) (hf : f < 4503599627370496) (hq : q < 2048) : bits .or .u64 (f : Int) ((q * 4503599627370496 : Nat) : Int) = ((q * 4503599627370496 + f : Nat) : Int) := by
  refine (bits_or_u64_nat f (q * 4503599627370496) (by omega) (by omega)).trans ?_
  have e : 2 ^ 52 * q + f = 2 ^ 52 * q ||| f := Nat.two_pow_add_eq_or_of_lt hf q
  rw [Nat.or_comm] at e
  have e2 : 2 ^ 52 * q = q * 4503599627370496 := Nat.mul_comm _ _
  rw [e2] at e
  exact congrArg Int.ofNat e.symm
theorem and_all : (List.range 2048).all (fun q => bits .and .i64 (q : Int) 2047 == (q : Int)) = true := by decide +kernel
theorem and_11 (q : Nat) (h : q < 2048) : bits .and .i64 (q : Int) 2047 = (q : Int) := by
  have := and_all
  rw [List.all_eq_true] at this
  exact beq_iff_eq.1 (this q (List.mem_range.2 h))
namespace Fl2
open Ieee
/-- **The word nearest to what is a word's own number is that word.** -/
theorem nearest_exact (s : Bool) (mag e d r : Nat) (hr : r < 9218868437227405312) (h : mag * e2 e = valR r * e2 d) : double.nearest s mag ((e : Int) - (d + 1074 : Nat)) = wd s r := by
  unfold e2 at h
  by_cases h0 : mag = 0
  · have hv : valR r = 0 := by
      rw [h0, Nat.zero_mul] at h
      rcases Nat.mul_eq_zero.1 h.symm with h1 | h1
      · exact h1
      · have := Nat.two_pow_pos d; omega
    rw [h0, nearest_zero, word_wd, valR_zero.1 hv]
  · have hm0 : magR r ≠ 0 := by
      intro hm
      unfold valR at h
      rw [hm, Nat.zero_mul, Nat.zero_mul] at h
      rcases Nat.mul_eq_zero.1 h with h1 | h1
      · exact h0 h1
      · have := Nat.two_pow_pos e; omega
    unfold valR at h
    rw [Nat.mul_assoc, ← Nat.pow_add] at h
    have hlog : mag.log2 + e = (magR r).log2 + (expR r + d) := by
      have l1 : (mag * 2 ^ e).log2 = mag.log2 + e := log2_of (by rw [Nat.pow_add]; exact Nat.mul_le_mul_right _ (Nat.log2_self_le h0)) (by rw [show mag.log2 + e + 1 = (mag.log2 + 1) + e by omega, Nat.pow_add]; exact (Nat.mul_lt_mul_right (Nat.two_pow_pos e)).2 Nat.lt_log2_self)
      have l2 : ∀ D, (magR r * 2 ^ D).log2 = (magR r).log2 + D := fun D => log2_of (by rw [Nat.pow_add]; exact Nat.mul_le_mul_right _ (Nat.log2_self_le hm0)) (by rw [show (magR r).log2 + D + 1 = ((magR r).log2 + 1) + D by omega, Nat.pow_add]; exact (Nat.mul_lt_mul_right (Nat.two_pow_pos _)).2 Nat.lt_log2_self)
      rw [h, l2] at l1
      omega
    have hlr : (magR r).log2 ≤ 52 ∧ (expR r ≠ 0 → (magR r).log2 = 52) := by
      have hl := magR_lt r
      refine ⟨?_, fun hne => ?_⟩
      · have : (magR r).log2 < 53 := (Nat.log2_lt hm0).2 (by have : (2:Nat)^53 = 9007199254740992 := by decide
                                                             omega)
        omega
      · exact log2_of (by have := magR_ge hne; have h52 : (2:Nat)^52 = 4503599627370496 := by decide
                          omega) (by have h53 : (2:Nat)^(52+1) = 9007199254740992 := by decide
                                     omega)
    have hlast : max ((e : Int) - (d + 1074 : Nat) + (mag.log2 : Int) - 52) (-1074) = (expR r : Int) - 1074 := by
      by_cases hne : expR r = 0
      · have := hlr.1; omega
      · have := hlr.2 hne; omega
    have hkept : Toward.even.cut s (mag <<< ((e : Int) - (d + 1074 : Nat) - ((expR r : Int) - 1074)).toNat) ((expR r : Int) - 1074 - ((e : Int) - (d + 1074 : Nat))).toNat = magR r := by
      rcases Nat.le_total (expR r + d) e with hle | hle
      · obtain ⟨t, ht⟩ : ∃ t, e = t + (expR r + d) := ⟨e - (expR r + d), by omega⟩
        have e1 : ((e : Int) - (d + 1074 : Nat) - ((expR r : Int) - 1074)).toNat = t := by omega
        have e2 : ((expR r : Int) - 1074 - ((e : Int) - (d + 1074 : Nat))).toNat = 0 := by omega
        rw [e1, e2, cut_zero_drop, Nat.shiftLeft_eq]
        rw [ht, Nat.pow_add, ← Nat.mul_assoc] at h
        exact pow_cancel h
      · obtain ⟨t, ht⟩ : ∃ t, expR r + d = t + e := ⟨expR r + d - e, by omega⟩
        have e1 : ((e : Int) - (d + 1074 : Nat) - ((expR r : Int) - 1074)).toNat = 0 := by omega
        have e2 : ((expR r : Int) - 1074 - ((e : Int) - (d + 1074 : Nat))).toNat = t := by omega
        rw [ht, Nat.pow_add, ← Nat.mul_assoc] at h
        have hm := pow_cancel h
        rw [e1, e2, Nat.shiftLeft_eq, Nat.pow_zero, Nat.mul_one, hm]
        exact cut_exact s (magR r) t (by omega)
    rw [nearest_at s mag _ _ _ h0 hlast hkept, word_wd]
    have e3 : ((expR r : Int) - 1074 - -1074).toNat = expR r := by omega
    have e4 : expR r * 4503599627370496 + magR r = r := by
      obtain ⟨a, n, rfl, h1, h2⟩ := r_split r
      rw [magR_at h1 h2, expR_at h1 h2]
    rw [e3, e4, Nat.min_eq_left (Nat.le_of_lt hr)]
theorem mul_pow (k r r' : Nat) (hk : 1 ≤ k) (hk2 : k < 2047) (hr : r < 9218868437227405312) (hr' : r' < 9218868437227405312) (h : valR r * e2 (k + 51) = valR r' * e2 1074) : double.mul (k * 4503599627370496) r = some r' := by
  have hm : magR (k * 4503599627370496) = 4503599627370496 := by unfold magR; rw [if_neg (by omega)]; omega
  have he : expR (k * 4503599627370496) = k - 1 := by unfold expR; omega
  have hv : magR r * 2 ^ expR r = valR r := rfl
  have e0 : 4503599627370496 * magR r * e2 (k - 1 + expR r) = valR r' * e2 1074 := by
    rw [← h, e2_add, show k + 51 = 52 + (k - 1) by omega, e2_add 52, ← hv]
    have : e2 52 = 4503599627370496 := by decide
    rw [this]
    generalize e2 (k - 1) = x
    change 4503599627370496 * magR r * (x * 2 ^ expR r) = _
    grind
  have hn := nearest_exact (false ^^ false) (4503599627370496 * magR r) (k - 1 + expR r) 1074 r' hr' e0
  unfold Format.mul
  have r1 : double.read (k * 4503599627370496) = double.read (wd false (k * 4503599627370496)) := by rw [wd_false]
  have r2 : double.read r = double.read (wd false r) := by rw [wd_false]
  rw [r1, r2, read_wd false _ (by omega), read_wd false _ hr, hm, he]
  simp only [Datum.product, Option.map_some, Format.write]
  rw [show (((k - 1 : Nat) : Int) - 1074 + ((expR r : Int) - 1074)) = ((k - 1 + expR r : Nat) : Int) - ((1074 + 1074 : Nat) : Int) by omega, hn, Bool.xor_false, wd_false]
end Fl2
end Go.Proofs.YtellndmbllmjgaaGreatDoor
/- The walk of Ldexp. -/
set_option linter.unusedVariables false
namespace Go.Proofs.YtellndmbllmjgaaGreatDoor
open Go.RowKit Go.Shelf Go.Sort Fs Fl Fl2

theorem inf_any (w : World) : Calls Tryz.prog 48 #[.int .i64 1] w fun e w' => e = .returned (.float .f64 9218868437227405312) ∧ w' = w := by
  have x2 := Tryz.frombits7 9218868437227405312
  rw [show ((9218868437227405312 : Int)).toNat = 9218868437227405312 from rfl] at x2
  go_enter Tryz.func48, Tryz.ntmps48
  go_wp2
  go_ret
  exact ⟨rfl, rfl⟩
/-- What Ldexp asks of a float ahead. -/
structure Asks (r : Nat) : Prop where
  cn : ∀ w, Calls Tryz.prog 237 #[.float .f64 r] w fun e w' => e = .returned (.tuple #[.float .f64 r, .int .i64 0]) ∧ w' = w
  ci : ∀ w, Calls Tryz.prog 25 #[.float .f64 r, .int .i64 0] w fun e w' => e = .returned (.bool false) ∧ w' = w
  cq : ∀ w, Calls Tryz.prog 232 #[.float .f64 r] w fun e w' => e = .returned (.bool false) ∧ w' = w
  o1 : (FloatKind.f64.format.order r 0 == some .eq) = false
  o2 : (FloatKind.f64.format.order r 0 == some .lt) = false
theorem asks (r : Nat) (h1 : 4503599627370496 ≤ r) (h2 : r < 9218868437227405312) : Asks r := by
  have ci := isInf_pos r (by omega)
  have cq := isNaN_any r
  have o2 : (FloatKind.f64.format.order r 9218868437227405311 == some .gt) = false := not_gt h2 (by omega) (by omega)
  have o3 : (FloatKind.f64.format.order r r != some .eq) = false := by rw [ord_eq h2]; rfl
  rw [o2] at ci
  rw [o3] at cq
  exact ⟨normalize_any r h1 h2, ci, cq, by rw [ord_gt h2 (by omega) (by omega)]; rfl, not_lt h2 (by omega) (by omega)⟩
set_option maxRecDepth 100000 in
set_option maxHeartbeats 400000 in
theorem ldexp_norm (r q f t : Nat) (e : Int) (hr : r = q * 4503599627370496 + f) (hf : f < 4503599627370496) (hq1 : 0 < q) (hq2 : q < 2047) (he1 : 1 ≤ e + q) (he2 : e + q ≤ 2046) (ht : t = (e + q).toNat * 4503599627370496 + f) (w : World) :
    Calls Tryz.prog 192 #[.float .f64 r, .int .i64 e] w fun ee w' => ee = .returned (.float .f64 t) ∧ w' = w := by
  obtain ⟨cn, ci, cq, o1, o2⟩ := asks r (by omega) (by omega)
  have x1 := Tryz.tobits103 r
  have b1 : bits .andNot .u64 (r : Int) 9218868437227405312 = (f : Int) := by rw [hr]; exact strip_exp f q hf (by omega)
  have q1 : (r : Int) / 4503599627370496 = (q : Int) := by omega
  have b3 : bits .and .i64 (q : Int) 2047 = (q : Int) := and_11 q (by omega)
  obtain ⟨p, hp⟩ : ∃ p : Nat, e + q = (p : Int) := ⟨(e + q).toNat, by omega⟩
  have b2 : bits .or .u64 (f : Int) ((p : Int) * 4503599627370496) = (t : Int) := by
    have := put_exp f p hf (by omega)
    rw [show p * 4503599627370496 + f = t by omega] at this
    rw [← this]
    congr 1
  have hm : ∀ ty w, (binOp .mul ty (.float .f64 4607182418800017408) (.float .f64 t)).run Tryz.prog w = .ok (.float .f64 t) w := by
    intro ty w
    exact run_float_arith w .mul ty .f64 _ _ t (mul_pow 1023 t t (by omega) (by omega) (by omega) (by omega) rfl)
  have x2 := Tryz.frombits7 (t : Int)
  rw [Int.toNat_natCast] at x2
  have e1 : e + ((q : Int) - 1023) + 1023 = (p : Int) := by omega
  have k1 : ¬ e + ((q : Int) - 1023) < -1075 := by omega
  have k2 : ¬ 1023 < e + ((q : Int) - 1023) := by omega
  have k3 : ¬ e + ((q : Int) - 1023) < -1022 := by omega
  clear ht hr hp
  go_enter Tryz.func192, Tryz.ntmps192
  go_wp2_with (first | (go_at_call 237; refine (cn _).mono ?_; rintro e w' ⟨rfl, rfl⟩) | (go_at_call 25; refine (ci _).mono ?_; rintro e w' ⟨rfl, rfl⟩) | (go_at_call 232; refine (cq _).mono ?_; rintro e w' ⟨rfl, rfl⟩) | go_in)
  go_ret
  exact ⟨rfl, rfl⟩
set_option maxRecDepth 100000 in
set_option maxHeartbeats 400000 in
theorem ldexp_over (r q f : Nat) (e : Int) (hr : r = q * 4503599627370496 + f) (hf : f < 4503599627370496) (hq1 : 0 < q) (hq2 : q < 2047) (he1 : 2046 < e + q) (he2 : e ≤ 5000) (w : World) :
    Calls Tryz.prog 192 #[.float .f64 r, .int .i64 e] w fun ee w' => ee = .returned (.float .f64 9218868437227405312) ∧ w' = w := by
  obtain ⟨cn, ci, cq, o1, o2⟩ := asks r (by omega) (by omega)
  have x1 := Tryz.tobits103 r
  have q1 : (r : Int) / 4503599627370496 = (q : Int) := by omega
  have b3 : bits .and .i64 (q : Int) 2047 = (q : Int) := and_11 q (by omega)
  have c48 := inf_any
  have k1 : ¬ e + ((q : Int) - 1023) < -1075 := by omega
  have k2 : 1023 < e + ((q : Int) - 1023) := by omega
  clear hr
  go_enter Tryz.func192, Tryz.ntmps192
  go_wp2_with (first | (go_at_call 237; refine (cn _).mono ?_; rintro e w' ⟨rfl, rfl⟩) | (go_at_call 25; refine (ci _).mono ?_; rintro e w' ⟨rfl, rfl⟩) | (go_at_call 232; refine (cq _).mono ?_; rintro e w' ⟨rfl, rfl⟩) | (go_at_call 48; refine (c48 _).mono ?_; rintro e w' ⟨rfl, rfl⟩) | go_in)
  go_ret
  exact ⟨rfl, rfl⟩
set_option maxRecDepth 100000 in
set_option maxHeartbeats 400000 in
theorem ldexp_low (r q f t z : Nat) (e : Int) (hr : r = q * 4503599627370496 + f) (hf : f < 4503599627370496) (hq1 : 0 < q) (hq2 : q < 2047) (he1 : -52 ≤ e + q) (he2 : e + q < 1) (ht : t = (e + q + 53).toNat * 4503599627370496 + f)
    (hz : Ieee.double.mul 4368491638549381120 t = some z) (w : World) :
    Calls Tryz.prog 192 #[.float .f64 r, .int .i64 e] w fun ee w' => ee = .returned (.float .f64 z) ∧ w' = w := by
  obtain ⟨cn, ci, cq, o1, o2⟩ := asks r (by omega) (by omega)
  have x1 := Tryz.tobits103 r
  have b1 : bits .andNot .u64 (r : Int) 9218868437227405312 = (f : Int) := by rw [hr]; exact strip_exp f q hf (by omega)
  have q1 : (r : Int) / 4503599627370496 = (q : Int) := by omega
  have b3 : bits .and .i64 (q : Int) 2047 = (q : Int) := and_11 q (by omega)
  obtain ⟨p, hp⟩ : ∃ p : Nat, e + q + 53 = (p : Int) := ⟨(e + q + 53).toNat, by omega⟩
  have b2 : bits .or .u64 (f : Int) ((p : Int) * 4503599627370496) = (t : Int) := by
    have := put_exp f p hf (by omega)
    rw [show p * 4503599627370496 + f = t by omega] at this
    rw [← this]
    congr 1
  have hm : ∀ ty w, (binOp .mul ty (.float .f64 4368491638549381120) (.float .f64 t)).run Tryz.prog w = .ok (.float .f64 z) w := by
    intro ty w
    exact run_float_arith w .mul ty .f64 _ _ z hz
  have x2 := Tryz.frombits7 (t : Int)
  rw [Int.toNat_natCast] at x2
  have e1 : e + ((q : Int) - 1023) + 53 + 1023 = (p : Int) := by omega
  have k1 : ¬ e + ((q : Int) - 1023) < -1075 := by omega
  have k2 : ¬ 1023 < e + ((q : Int) - 1023) := by omega
  have k3 : e + ((q : Int) - 1023) < -1022 := by omega
  clear ht hr hp hz
  go_enter Tryz.func192, Tryz.ntmps192
  go_wp2_with (first | (go_at_call 237; refine (cn _).mono ?_; rintro e w' ⟨rfl, rfl⟩) | (go_at_call 25; refine (ci _).mono ?_; rintro e w' ⟨rfl, rfl⟩) | (go_at_call 232; refine (cq _).mono ?_; rintro e w' ⟨rfl, rfl⟩) | go_in)
  go_ret
  exact ⟨rfl, rfl⟩
theorem ldexp_zero (e : Int) (w : World) : Calls Tryz.prog 192 #[.float .f64 0, .int .i64 e] w fun ee w' => ee = .returned (.float .f64 0) ∧ w' = w := by
  have o1 : (FloatKind.f64.format.order 0 0 == some .eq) = true := by decide
  go_enter Tryz.func192, Tryz.ntmps192
  go_wp2
  go_ret
  exact ⟨rfl, rfl⟩
/-- **Ldexp, of a whole number of few digits.** -/
theorem ldexp_whole (n a : Nat) (hn : n ≤ 9007199254740992) (hna : 4503599627370496 ≤ n ∨ a = 0) (ha : a ≤ 2045) (w : World) :
    Calls Tryz.prog 192 #[.float .f64 (Ieee.double.nearest false n 0), .int .i64 ((a : Int) - 1074)] w fun ee w' => ee = .returned (.float .f64 (a * 4503599627370496 + n)) ∧ w' = w := by
  rcases Nat.eq_zero_or_pos n with h0 | h0
  · subst h0
    have : a = 0 := by omega
    subst this
    rw [nearest_zero, word_wd, wd_false]
    exact ldexp_zero _ w
  · obtain ⟨M, L, hN, hL⟩ : ∃ M L, Norm n M L ∧ L ≤ 53 := by
      rcases Nat.lt_or_eq_of_le hn with h | h
      · obtain ⟨M, L, h1, h2⟩ := norm_small (by omega) h
        exact ⟨M, L, h1, by omega⟩
      · rw [h]
        exact ⟨4503599627370496, 53, norm_pow 53, by omega⟩
    have hM1 := hN.M_le
    have hM2 := hN.M_lt
    rw [nearest_whole hN (by omega), wd_false]
    have hq : rungI M L = (L + 1023) * 4503599627370496 + (M - 4503599627370496) := by unfold rungI; omega
    by_cases hbig : 4503599627370496 ≤ n
    · have hval : (L = 52 ∧ M = n) ∨ (L = 53 ∧ M = 4503599627370496 ∧ n = 9007199254740992) := by
        have h52 : (2 : Nat) ^ 52 = 4503599627370496 := by decide
        have h53 : (2 : Nat) ^ 53 = 9007199254740992 := by decide
        have h54 : (2 : Nat) ^ 54 = 18014398509481984 := by decide
        have hL52 : 52 ≤ L := by
          rcases Nat.lt_or_ge L 52 with h | h
          · have h1 : 2 ^ (L + 1) ≤ 2 ^ 52 := Nat.pow_le_pow_right (by omega) (by omega)
            have := hN.2.2
            omega
          · exact h
        rcases Nat.lt_or_ge 52 L with h | h
        · have : L = 53 := by omega
          subst this
          have h1 := hN.2.1
          have h2 := hN.1
          have : n = 9007199254740992 := by omega
          exact Or.inr ⟨rfl, by omega, this⟩
        · have : L = 52 := by omega
          subst this
          have h2 := hN.1
          exact Or.inl ⟨rfl, by omega⟩
      by_cases hov : a + L = 2098
      · have h1 := ldexp_over (rungI M L) (L + 1023) (M - 4503599627370496) ((a : Int) - 1074) hq (by omega) (by omega) (by omega) (by omega) (by omega) w
        rw [show a * 4503599627370496 + n = 9218868437227405312 by omega]
        exact h1
      · exact ldexp_norm (rungI M L) (L + 1023) (M - 4503599627370496) (a * 4503599627370496 + n) ((a : Int) - 1074) hq (by omega) (by omega) (by omega) (by omega) (by omega) (by omega) w
    · have ha0 : a = 0 := by omega
      subst ha0
      have hL52 : L < 52 := by
        rcases Nat.lt_or_ge L 52 with h | h
        · exact h
        · have h52 : (2 : Nat) ^ 52 = 4503599627370496 := by decide
          have h1 : 2 ^ 52 ≤ 2 ^ L := Nat.pow_le_pow_right (by omega) h
          have := hN.2.1
          omega
      rw [Nat.zero_mul, Nat.zero_add]
      have ht : magR ((L + 2) * 4503599627370496 + (M - 4503599627370496)) = M ∧ expR ((L + 2) * 4503599627370496 + (M - 4503599627370496)) = L + 1 := by
        rw [show (L + 2) * 4503599627370496 + (M - 4503599627370496) = (L + 1) * 4503599627370496 + M by omega]
        exact ⟨magR_at hM2 (Or.inl hM1), expR_at hM2 (Or.inl hM1)⟩
      have hz : Ieee.double.mul 4368491638549381120 ((L + 2) * 4503599627370496 + (M - 4503599627370496)) = some n := by
        refine mul_pow 970 _ n (by omega) (by omega) (by omega) (by omega) ?_
        have v1 : valR ((L + 2) * 4503599627370496 + (M - 4503599627370496)) = n * e2 53 := by
          unfold valR
          rw [ht.1, ht.2, Nat.pow_succ, ← Nat.mul_assoc, hN.1, show e2 53 = 2 ^ 52 * 2 from rfl, Nat.mul_assoc]
        have v2 : valR n = n := by
          unfold valR magR expR
          rw [if_pos (by omega), Nat.div_eq_of_lt (by omega)]
          simp
        rw [v1, v2, Nat.mul_assoc, ← e2_add]
      exact ldexp_low (rungI M L) (L + 1023) (M - 4503599627370496) ((L + 2) * 4503599627370496 + (M - 4503599627370496)) n (((0 : Nat) : Int) - 1074) hq (by omega) (by omega) (by omega) (by omega) (by omega) (by rw [show (((0 : Nat) : Int) - 1074 + ((L + 1023 : Nat) : Int) + 53).toNat = L + 2 by omega]) hz w
theorem Ldexp_whole (n a : Nat) (hn : n ≤ 9007199254740992) (hna : 4503599627370496 ≤ n ∨ a = 0) (ha : a ≤ 2045) (w : World) :
    Calls Tryz.prog 146 #[.float .f64 (Ieee.double.nearest false n 0), .int .i64 ((a : Int) - 1074)] w fun ee w' => ee = .returned (.float .f64 (a * 4503599627370496 + n)) ∧ w' = w := by
  have cf := ldexp_whole n a hn hna ha
  generalize a * 4503599627370496 + n = t at *
  generalize Ieee.double.nearest false n 0 = x at *
  generalize (a : Int) - 1074 = e at *
  clear hn hna ha
  go_enter Tryz.func146, Tryz.ntmps146
  go_wp2_with (first | (go_at_call 192; refine (cf _).mono ?_; rintro e w' ⟨rfl, rfl⟩) | go_in)
  go_ret
  exact ⟨rfl, rfl⟩
end Go.Proofs.YtellndmbllmjgaaGreatDoor
