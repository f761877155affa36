/- The document's ReadInt, given what it calls. -/
import Derived.Test.YtellndmbllmjgaaGreatDoorCBqKx
import Derived.Test.YtellndmbllmjgaaGreatDoorCFrAx
import Derived.Test.YtellndmbllmjgaaGreatDoorCFs1x
set_option linter.unusedVariables false
namespace Go.Proofs.YtellndmbllmjgaaGreatDoor
open Go.RowKit Go.Shelf Go.Sort Fs Fl
set_option maxRecDepth 100000 in
set_option maxHeartbeats 1000000 in
theorem rd_hex0 (sv : Value) (sa : Option Addr) (sn sp : Nat) (hsv : sv = .slice sa sn sp) (T U0 U V : ByteArray) (X n N : Nat) (B : Nat) (t : List Nat) (sg : Bool) (w : World) (hN : U.size = N) (hNb : N ≤ 25000) (hn : n ≤ N) (hrn : n = runL B t) (hV : U.extract 0 n = V) (M c : Nat) (hM : U0.size = M) (hM2 : 2 ≤ M) (hMb : M ≤ 25000) (h48 : ∀ h : 0 < U0.size, (U0[0]'h).toNat = 48) (hc : ∀ h : 1 < U0.size, (U0[1]'h).toNat = c) (k120 : ((c : Int) == 120) = true ∨ (((c : Int) == 120) = false ∧ ((c : Int) == 88) = true)) (hU : U0.extract 2 M = U) (hB : B = 16)
    (cb : Calls Tryz.prog 44 #[sv] w fun e w' => e = .returned (.string T) ∧ Below w.heap.size w w')
    (cs : ∀ w, Calls Tryz.prog 47 #[.string T] w fun e w' => e = .returned (.tuple #[.float .f64 (wd sg 4607182418800017408), .string U0]) ∧ Below w.heap.size w w')
    (ci : ∀ w, Calls Tryz.prog 55 #[.float .f64 X] w fun e w' => e = .returned (.int .i32 0) ∧ Below w.heap.size w w')
    (cr : ∀ w, Calls Tryz.prog 45 #[.string U, .int .i64 16] w fun e w' => e = .returned (.int .i64 (n : Int)) ∧ w' = w)
    (cw : ∀ W, 0 < n → Calls Tryz.prog 46 #[.string V, .int .i64 16] W fun e w' => ∃ R, Near (vB B (t.take (runL B t))) 1 R ∧ e = .returned (.float .f64 (min R 9218868437227405312)) ∧ Below W.heap.size W w') :
    Calls Tryz.prog 17 #[sv, .float .f64 X] w fun e w' => ∃ x, IntEnd sg B t x ∧ e = .returned (.float .f64 x) ∧ Below w.heap.size w w' := by
  subst hsv
  have hm2 : ∀ F, F ≤ 9218868437227405312 → ∀ ty w, (binOp .mul ty (.float .f64 (wd sg 4607182418800017408)) (.float .f64 F)).run Tryz.prog w = .ok (.float .f64 (wd sg F)) w := fun F hF ty w => run_float_arith w .mul ty .f64 _ _ _ (mul_unit sg F hF)
  have HM2 := (show Hid _ from hm2)
  have HRN := (show Hid (n = runL B t) from hrn)
  have CW := (show Hid _ from cw)
  have cnn := nan_any
  obtain ⟨us, hus⟩ : ∃ us, us = wd sg 4607182418800017408 := ⟨_, rfl⟩
  rw [← hus] at cs HM2
  clear hm2 hus hrn cw
  have hl0 : 0 < U0.size := by omega
  have hl1 : 1 < U0.size := by omega
  have a0 := h48 hl0
  have a1 := hc hl1
  clear h48 hc
  go_enter Tryz.func17, Tryz.ntmps17
  go_upto_region 6 with (first | (go_at_call 44; refine cb.mono ?_; rintro e w1 ⟨rfl, hw1⟩; clear cb) | (go_at_call 47; refine (cs _).mono ?_; rintro e w2 ⟨rfl, hw2⟩; clear cs) | (go_at_call 55; refine (ci _).mono ?_; rintro e w3 ⟨rfl, hw3⟩; clear ci))
  go_cut [57] (fun v wx => v = .bool true ∧ wx = w3)
  case first =>
    have k1 : (1 : Int) < (M : Int) := by omega
    rcases k120 with k120 | ⟨k120, k88⟩
    · go_wp2
      go_meet
      exact ⟨rfl, rfl⟩
    · go_wp2
      go_meet
      exact ⟨rfl, rfl⟩
  case rest =>
  obtain ⟨rfl, hwc⟩ := hcut
  obtain rfl := hwc.symm
  rcases Nat.eq_zero_or_pos n with h0 | h0
  · have HE := (show Hid (IntEnd sg B t 9221120237041090561) from .none _ (by rw [← HRN.out]; exact h0) nan_nan)
    subst h0
    clear CW HM2
    go_wp2_with (first | (go_at_call 45; refine (cr _).mono ?_; rintro e w4 ⟨rfl, hw4⟩; obtain rfl := hw4.symm; clear cr) | (go_at_call 43; refine (cnn _).mono ?_; rintro e w4 ⟨rfl, hw4⟩; obtain rfl := hw4.symm))
    have hw12 := hw1.trans (hw2.mono hw1.size)
    go_ret
    exact ⟨_, HE.out, rfl, hw12.trans (hw3.mono hw12.size)⟩
  · have k0 : ((n : Int) == 0) = false := by rw [beq_eq_false_iff_ne]; omega
    have cw := fun W => CW.out W h0
    have CW2 := (show Hid _ from cw)
    clear CW cw
    go_wp2_with (first | (go_at_call 45; refine (cr _).mono ?_; rintro e w4 ⟨rfl, hw4⟩; obtain rfl := hw4.symm; clear cr) | (go_at_call 46; fail))
    refine (CW2.out _).mono ?_
    rintro e w5 ⟨R, hR, rfl, hw5⟩
    have hw12 := hw1.trans (hw2.mono hw1.size)
    have hw13 := hw12.trans (hw3.mono hw12.size)
    have hw15 := hw13.trans (hw5.mono hw13.size)
    have hm := HM2.out _ (Nat.min_le_right R 9218868437227405312)
    have HE := (show Hid (∀ y, y = wd sg (min R 9218868437227405312) → IntEnd sg B t y) from fun y hy => by rw [hy]; exact .num R (by rw [← HRN.out]; exact h0) hR)
    obtain ⟨F, hF⟩ : ∃ F, F = min R 9218868437227405312 := ⟨_, rfl⟩
    rw [← hF] at hm HE ⊢
    clear hR hF HM2 CW2
    obtain ⟨z, hz⟩ : ∃ z, z = wd sg F := ⟨_, rfl⟩
    rw [← hz] at hm
    have HZ := (show Hid (z = wd sg F) from hz)
    clear hz
    go_wp2
    go_ret
    exact ⟨_, HE.out _ HZ.out, rfl, hw15⟩
set_option maxRecDepth 100000 in
set_option maxHeartbeats 1000000 in
theorem rd_hex16 (sv : Value) (sa : Option Addr) (sn sp : Nat) (hsv : sv = .slice sa sn sp) (T U0 U V : ByteArray) (X n N : Nat) (B : Nat) (t : List Nat) (sg : Bool) (w : World) (hN : U.size = N) (hNb : N ≤ 25000) (hn : n ≤ N) (hrn : n = runL B t) (hV : U.extract 0 n = V) (M c : Nat) (hM : U0.size = M) (hM2 : 2 ≤ M) (hMb : M ≤ 25000) (h48 : ∀ h : 0 < U0.size, (U0[0]'h).toNat = 48) (hc : ∀ h : 1 < U0.size, (U0[1]'h).toNat = c) (k120 : ((c : Int) == 120) = true ∨ (((c : Int) == 120) = false ∧ ((c : Int) == 88) = true)) (hU : U0.extract 2 M = U) (hB : B = 16)
    (cb : Calls Tryz.prog 44 #[sv] w fun e w' => e = .returned (.string T) ∧ Below w.heap.size w w')
    (cs : ∀ w, Calls Tryz.prog 47 #[.string T] w fun e w' => e = .returned (.tuple #[.float .f64 (wd sg 4607182418800017408), .string U0]) ∧ Below w.heap.size w w')
    (ci : ∀ w, Calls Tryz.prog 55 #[.float .f64 X] w fun e w' => e = .returned (.int .i32 16) ∧ Below w.heap.size w w')
    (cr : ∀ w, Calls Tryz.prog 45 #[.string U, .int .i64 16] w fun e w' => e = .returned (.int .i64 (n : Int)) ∧ w' = w)
    (cw : ∀ W, 0 < n → Calls Tryz.prog 46 #[.string V, .int .i64 16] W fun e w' => ∃ R, Near (vB B (t.take (runL B t))) 1 R ∧ e = .returned (.float .f64 (min R 9218868437227405312)) ∧ Below W.heap.size W w') :
    Calls Tryz.prog 17 #[sv, .float .f64 X] w fun e w' => ∃ x, IntEnd sg B t x ∧ e = .returned (.float .f64 x) ∧ Below w.heap.size w w' := by
  subst hsv
  have hm2 : ∀ F, F ≤ 9218868437227405312 → ∀ ty w, (binOp .mul ty (.float .f64 (wd sg 4607182418800017408)) (.float .f64 F)).run Tryz.prog w = .ok (.float .f64 (wd sg F)) w := fun F hF ty w => run_float_arith w .mul ty .f64 _ _ _ (mul_unit sg F hF)
  have HM2 := (show Hid _ from hm2)
  have HRN := (show Hid (n = runL B t) from hrn)
  have CW := (show Hid _ from cw)
  have cnn := nan_any
  obtain ⟨us, hus⟩ : ∃ us, us = wd sg 4607182418800017408 := ⟨_, rfl⟩
  rw [← hus] at cs HM2
  clear hm2 hus hrn cw
  have hl0 : 0 < U0.size := by omega
  have hl1 : 1 < U0.size := by omega
  have a0 := h48 hl0
  have a1 := hc hl1
  clear h48 hc
  go_enter Tryz.func17, Tryz.ntmps17
  go_upto_region 6 with (first | (go_at_call 44; refine cb.mono ?_; rintro e w1 ⟨rfl, hw1⟩; clear cb) | (go_at_call 47; refine (cs _).mono ?_; rintro e w2 ⟨rfl, hw2⟩; clear cs) | (go_at_call 55; refine (ci _).mono ?_; rintro e w3 ⟨rfl, hw3⟩; clear ci))
  go_cut [57] (fun v wx => v = .bool true ∧ wx = w3)
  case first =>
    have k1 : (1 : Int) < (M : Int) := by omega
    rcases k120 with k120 | ⟨k120, k88⟩
    · go_wp2
      go_meet
      exact ⟨rfl, rfl⟩
    · go_wp2
      go_meet
      exact ⟨rfl, rfl⟩
  case rest =>
  obtain ⟨rfl, hwc⟩ := hcut
  obtain rfl := hwc.symm
  rcases Nat.eq_zero_or_pos n with h0 | h0
  · have HE := (show Hid (IntEnd sg B t 9221120237041090561) from .none _ (by rw [← HRN.out]; exact h0) nan_nan)
    subst h0
    clear CW HM2
    go_wp2_with (first | (go_at_call 45; refine (cr _).mono ?_; rintro e w4 ⟨rfl, hw4⟩; obtain rfl := hw4.symm; clear cr) | (go_at_call 43; refine (cnn _).mono ?_; rintro e w4 ⟨rfl, hw4⟩; obtain rfl := hw4.symm))
    have hw12 := hw1.trans (hw2.mono hw1.size)
    go_ret
    exact ⟨_, HE.out, rfl, hw12.trans (hw3.mono hw12.size)⟩
  · have k0 : ((n : Int) == 0) = false := by rw [beq_eq_false_iff_ne]; omega
    have cw := fun W => CW.out W h0
    have CW2 := (show Hid _ from cw)
    clear CW cw
    go_wp2_with (first | (go_at_call 45; refine (cr _).mono ?_; rintro e w4 ⟨rfl, hw4⟩; obtain rfl := hw4.symm; clear cr) | (go_at_call 46; fail))
    refine (CW2.out _).mono ?_
    rintro e w5 ⟨R, hR, rfl, hw5⟩
    have hw12 := hw1.trans (hw2.mono hw1.size)
    have hw13 := hw12.trans (hw3.mono hw12.size)
    have hw15 := hw13.trans (hw5.mono hw13.size)
    have hm := HM2.out _ (Nat.min_le_right R 9218868437227405312)
    have HE := (show Hid (∀ y, y = wd sg (min R 9218868437227405312) → IntEnd sg B t y) from fun y hy => by rw [hy]; exact .num R (by rw [← HRN.out]; exact h0) hR)
    obtain ⟨F, hF⟩ : ∃ F, F = min R 9218868437227405312 := ⟨_, rfl⟩
    rw [← hF] at hm HE ⊢
    clear hR hF HM2 CW2
    obtain ⟨z, hz⟩ : ∃ z, z = wd sg F := ⟨_, rfl⟩
    rw [← hz] at hm
    have HZ := (show Hid (z = wd sg F) from hz)
    clear hz
    go_wp2
    go_ret
    exact ⟨_, HE.out _ HZ.out, rfl, hw15⟩
set_option maxRecDepth 100000 in
set_option maxHeartbeats 1000000 in
theorem rd_dec0 (sv : Value) (sa : Option Addr) (sn sp : Nat) (hsv : sv = .slice sa sn sp) (T U0 U V : ByteArray) (X n N : Nat) (B : Nat) (t : List Nat) (sg : Bool) (w : World) (hN : U.size = N) (hNb : N ≤ 25000) (hn : n ≤ N) (hrn : n = runL B t) (hV : U.extract 0 n = V) (hU : U0 = U) (hx : hexQ (Ut.bytes U) = false) (hB : B = 10)
    (cb : Calls Tryz.prog 44 #[sv] w fun e w' => e = .returned (.string T) ∧ Below w.heap.size w w')
    (cs : ∀ w, Calls Tryz.prog 47 #[.string T] w fun e w' => e = .returned (.tuple #[.float .f64 (wd sg 4607182418800017408), .string U0]) ∧ Below w.heap.size w w')
    (ci : ∀ w, Calls Tryz.prog 55 #[.float .f64 X] w fun e w' => e = .returned (.int .i32 0) ∧ Below w.heap.size w w')
    (cr : ∀ w, Calls Tryz.prog 45 #[.string U, .int .i64 10] w fun e w' => e = .returned (.int .i64 (n : Int)) ∧ w' = w)
    (cw : ∀ W, 0 < n → Calls Tryz.prog 46 #[.string V, .int .i64 10] W fun e w' => ∃ R, Near (vB B (t.take (runL B t))) 1 R ∧ e = .returned (.float .f64 (min R 9218868437227405312)) ∧ Below W.heap.size W w') :
    Calls Tryz.prog 17 #[sv, .float .f64 X] w fun e w' => ∃ x, IntEnd sg B t x ∧ e = .returned (.float .f64 x) ∧ Below w.heap.size w w' := by
  subst hsv
  have hm2 : ∀ F, F ≤ 9218868437227405312 → ∀ ty w, (binOp .mul ty (.float .f64 (wd sg 4607182418800017408)) (.float .f64 F)).run Tryz.prog w = .ok (.float .f64 (wd sg F)) w := fun F hF ty w => run_float_arith w .mul ty .f64 _ _ _ (mul_unit sg F hF)
  have HM2 := (show Hid _ from hm2)
  have HRN := (show Hid (n = runL B t) from hrn)
  have CW := (show Hid _ from cw)
  have cnn := nan_any
  obtain ⟨us, hus⟩ : ∃ us, us = wd sg 4607182418800017408 := ⟨_, rfl⟩
  rw [← hus] at cs HM2
  clear hm2 hus hrn cw
  have HX := (show Hid (hexQ (Ut.bytes U) = false) from hx)
  clear hx
  obtain rfl := hU.symm
  go_enter Tryz.func17, Tryz.ntmps17
  go_upto_region 6 with (first | (go_at_call 44; refine cb.mono ?_; rintro e w1 ⟨rfl, hw1⟩; clear cb) | (go_at_call 47; refine (cs _).mono ?_; rintro e w2 ⟨rfl, hw2⟩; clear cs) | (go_at_call 55; refine (ci _).mono ?_; rintro e w3 ⟨rfl, hw3⟩; clear ci))
  go_cut [57] (fun v wx => v = .bool false ∧ wx = w3)
  case first =>
    rcases Nat.lt_or_ge 1 N with h2 | h2
    · have hl0 : 0 < U.size := by omega
      have hl1 : 1 < U.size := by omega
      obtain ⟨c0, hc0⟩ : ∃ c0, (U[0]'hl0).toNat = c0 := ⟨_, rfl⟩
      obtain ⟨c1, hc1⟩ : ∃ c1, (U[1]'hl1).toNat = c1 := ⟨_, rfl⟩
      have hg0 := byte_of U _ rfl 0 hl0
      have hg1 := byte_of U _ rfl 1 hl1
      rw [hc0] at hg0
      rw [hc1] at hg1
      have hq := HX.out
      unfold hexQ at hq
      rw [hg0, hg1] at hq
      have hq2 := of_decide_eq_false hq
      by_cases e0 : c0 = 48
      · have e1 : c1 ≠ 120 ∧ c1 ≠ 88 := by
          constructor
          · intro h; exact hq2 ⟨by rw [e0], .inl (by rw [h])⟩
          · intro h; exact hq2 ⟨by rw [e0], .inr (by rw [h])⟩
        have k0 : ((c0 : Int) == 48) = true := by rw [beq_iff_eq]; omega
        have k1 : ((c1 : Int) == 120) = false := by rw [beq_eq_false_iff_ne]; omega
        have k2 : ((c1 : Int) == 88) = false := by rw [beq_eq_false_iff_ne]; omega
        have k3 : (1 : Int) < (N : Int) := by omega
        clear hg0 hg1 hq hq2 e0 e1
        go_wp2
        go_meet
        exact ⟨rfl, rfl⟩
      · have k0 : ((c0 : Int) == 48) = false := by rw [beq_eq_false_iff_ne]; omega
        have k3 : (1 : Int) < (N : Int) := by omega
        clear hg0 hg1 hq hq2 e0
        go_wp2
        go_meet
        exact ⟨rfl, rfl⟩
    · have k0 : ¬ (1 : Int) < (N : Int) := by omega
      clear h2
      go_wp2
      go_meet
      exact ⟨rfl, rfl⟩
  case rest =>
  obtain ⟨rfl, hwc⟩ := hcut
  obtain rfl := hwc.symm
  rcases Nat.eq_zero_or_pos n with h0 | h0
  · have HE := (show Hid (IntEnd sg B t 9221120237041090561) from .none _ (by rw [← HRN.out]; exact h0) nan_nan)
    subst h0
    clear CW HM2
    go_wp2_with (first | (go_at_call 45; refine (cr _).mono ?_; rintro e w4 ⟨rfl, hw4⟩; obtain rfl := hw4.symm; clear cr) | (go_at_call 43; refine (cnn _).mono ?_; rintro e w4 ⟨rfl, hw4⟩; obtain rfl := hw4.symm))
    have hw12 := hw1.trans (hw2.mono hw1.size)
    go_ret
    exact ⟨_, HE.out, rfl, hw12.trans (hw3.mono hw12.size)⟩
  · have k0 : ((n : Int) == 0) = false := by rw [beq_eq_false_iff_ne]; omega
    have cw := fun W => CW.out W h0
    have CW2 := (show Hid _ from cw)
    clear CW cw
    go_wp2_with (first | (go_at_call 45; refine (cr _).mono ?_; rintro e w4 ⟨rfl, hw4⟩; obtain rfl := hw4.symm; clear cr) | (go_at_call 46; fail))
    refine (CW2.out _).mono ?_
    rintro e w5 ⟨R, hR, rfl, hw5⟩
    have hw12 := hw1.trans (hw2.mono hw1.size)
    have hw13 := hw12.trans (hw3.mono hw12.size)
    have hw15 := hw13.trans (hw5.mono hw13.size)
    have hm := HM2.out _ (Nat.min_le_right R 9218868437227405312)
    have HE := (show Hid (∀ y, y = wd sg (min R 9218868437227405312) → IntEnd sg B t y) from fun y hy => by rw [hy]; exact .num R (by rw [← HRN.out]; exact h0) hR)
    obtain ⟨F, hF⟩ : ∃ F, F = min R 9218868437227405312 := ⟨_, rfl⟩
    rw [← hF] at hm HE ⊢
    clear hR hF HM2 CW2
    obtain ⟨z, hz⟩ : ∃ z, z = wd sg F := ⟨_, rfl⟩
    rw [← hz] at hm
    have HZ := (show Hid (z = wd sg F) from hz)
    clear hz
    go_wp2
    go_ret
    exact ⟨_, HE.out _ HZ.out, rfl, hw15⟩
set_option maxRecDepth 100000 in
set_option maxHeartbeats 1000000 in
theorem rd_dec16 (sv : Value) (sa : Option Addr) (sn sp : Nat) (hsv : sv = .slice sa sn sp) (T U0 U V : ByteArray) (X n N : Nat) (B : Nat) (t : List Nat) (sg : Bool) (w : World) (hN : U.size = N) (hNb : N ≤ 25000) (hn : n ≤ N) (hrn : n = runL B t) (hV : U.extract 0 n = V) (hU : U0 = U) (hx : hexQ (Ut.bytes U) = false) (hB : B = 16)
    (cb : Calls Tryz.prog 44 #[sv] w fun e w' => e = .returned (.string T) ∧ Below w.heap.size w w')
    (cs : ∀ w, Calls Tryz.prog 47 #[.string T] w fun e w' => e = .returned (.tuple #[.float .f64 (wd sg 4607182418800017408), .string U0]) ∧ Below w.heap.size w w')
    (ci : ∀ w, Calls Tryz.prog 55 #[.float .f64 X] w fun e w' => e = .returned (.int .i32 16) ∧ Below w.heap.size w w')
    (cr : ∀ w, Calls Tryz.prog 45 #[.string U, .int .i64 16] w fun e w' => e = .returned (.int .i64 (n : Int)) ∧ w' = w)
    (cw : ∀ W, 0 < n → Calls Tryz.prog 46 #[.string V, .int .i64 16] W fun e w' => ∃ R, Near (vB B (t.take (runL B t))) 1 R ∧ e = .returned (.float .f64 (min R 9218868437227405312)) ∧ Below W.heap.size W w') :
    Calls Tryz.prog 17 #[sv, .float .f64 X] w fun e w' => ∃ x, IntEnd sg B t x ∧ e = .returned (.float .f64 x) ∧ Below w.heap.size w w' := by
  subst hsv
  have hm2 : ∀ F, F ≤ 9218868437227405312 → ∀ ty w, (binOp .mul ty (.float .f64 (wd sg 4607182418800017408)) (.float .f64 F)).run Tryz.prog w = .ok (.float .f64 (wd sg F)) w := fun F hF ty w => run_float_arith w .mul ty .f64 _ _ _ (mul_unit sg F hF)
  have HM2 := (show Hid _ from hm2)
  have HRN := (show Hid (n = runL B t) from hrn)
  have CW := (show Hid _ from cw)
  have cnn := nan_any
  obtain ⟨us, hus⟩ : ∃ us, us = wd sg 4607182418800017408 := ⟨_, rfl⟩
  rw [← hus] at cs HM2
  clear hm2 hus hrn cw
  have HX := (show Hid (hexQ (Ut.bytes U) = false) from hx)
  clear hx
  obtain rfl := hU.symm
  go_enter Tryz.func17, Tryz.ntmps17
  go_upto_region 6 with (first | (go_at_call 44; refine cb.mono ?_; rintro e w1 ⟨rfl, hw1⟩; clear cb) | (go_at_call 47; refine (cs _).mono ?_; rintro e w2 ⟨rfl, hw2⟩; clear cs) | (go_at_call 55; refine (ci _).mono ?_; rintro e w3 ⟨rfl, hw3⟩; clear ci))
  go_cut [57] (fun v wx => v = .bool false ∧ wx = w3)
  case first =>
    rcases Nat.lt_or_ge 1 N with h2 | h2
    · have hl0 : 0 < U.size := by omega
      have hl1 : 1 < U.size := by omega
      obtain ⟨c0, hc0⟩ : ∃ c0, (U[0]'hl0).toNat = c0 := ⟨_, rfl⟩
      obtain ⟨c1, hc1⟩ : ∃ c1, (U[1]'hl1).toNat = c1 := ⟨_, rfl⟩
      have hg0 := byte_of U _ rfl 0 hl0
      have hg1 := byte_of U _ rfl 1 hl1
      rw [hc0] at hg0
      rw [hc1] at hg1
      have hq := HX.out
      unfold hexQ at hq
      rw [hg0, hg1] at hq
      have hq2 := of_decide_eq_false hq
      by_cases e0 : c0 = 48
      · have e1 : c1 ≠ 120 ∧ c1 ≠ 88 := by
          constructor
          · intro h; exact hq2 ⟨by rw [e0], .inl (by rw [h])⟩
          · intro h; exact hq2 ⟨by rw [e0], .inr (by rw [h])⟩
        have k0 : ((c0 : Int) == 48) = true := by rw [beq_iff_eq]; omega
        have k1 : ((c1 : Int) == 120) = false := by rw [beq_eq_false_iff_ne]; omega
        have k2 : ((c1 : Int) == 88) = false := by rw [beq_eq_false_iff_ne]; omega
        have k3 : (1 : Int) < (N : Int) := by omega
        clear hg0 hg1 hq hq2 e0 e1
        go_wp2
        go_meet
        exact ⟨rfl, rfl⟩
      · have k0 : ((c0 : Int) == 48) = false := by rw [beq_eq_false_iff_ne]; omega
        have k3 : (1 : Int) < (N : Int) := by omega
        clear hg0 hg1 hq hq2 e0
        go_wp2
        go_meet
        exact ⟨rfl, rfl⟩
    · have k0 : ¬ (1 : Int) < (N : Int) := by omega
      clear h2
      go_wp2
      go_meet
      exact ⟨rfl, rfl⟩
  case rest =>
  obtain ⟨rfl, hwc⟩ := hcut
  obtain rfl := hwc.symm
  rcases Nat.eq_zero_or_pos n with h0 | h0
  · have HE := (show Hid (IntEnd sg B t 9221120237041090561) from .none _ (by rw [← HRN.out]; exact h0) nan_nan)
    subst h0
    clear CW HM2
    go_wp2_with (first | (go_at_call 45; refine (cr _).mono ?_; rintro e w4 ⟨rfl, hw4⟩; obtain rfl := hw4.symm; clear cr) | (go_at_call 43; refine (cnn _).mono ?_; rintro e w4 ⟨rfl, hw4⟩; obtain rfl := hw4.symm))
    have hw12 := hw1.trans (hw2.mono hw1.size)
    go_ret
    exact ⟨_, HE.out, rfl, hw12.trans (hw3.mono hw12.size)⟩
  · have k0 : ((n : Int) == 0) = false := by rw [beq_eq_false_iff_ne]; omega
    have cw := fun W => CW.out W h0
    have CW2 := (show Hid _ from cw)
    clear CW cw
    go_wp2_with (first | (go_at_call 45; refine (cr _).mono ?_; rintro e w4 ⟨rfl, hw4⟩; obtain rfl := hw4.symm; clear cr) | (go_at_call 46; fail))
    refine (CW2.out _).mono ?_
    rintro e w5 ⟨R, hR, rfl, hw5⟩
    have hw12 := hw1.trans (hw2.mono hw1.size)
    have hw13 := hw12.trans (hw3.mono hw12.size)
    have hw15 := hw13.trans (hw5.mono hw13.size)
    have hm := HM2.out _ (Nat.min_le_right R 9218868437227405312)
    have HE := (show Hid (∀ y, y = wd sg (min R 9218868437227405312) → IntEnd sg B t y) from fun y hy => by rw [hy]; exact .num R (by rw [← HRN.out]; exact h0) hR)
    obtain ⟨F, hF⟩ : ∃ F, F = min R 9218868437227405312 := ⟨_, rfl⟩
    rw [← hF] at hm HE ⊢
    clear hR hF HM2 CW2
    obtain ⟨z, hz⟩ : ∃ z, z = wd sg F := ⟨_, rfl⟩
    rw [← hz] at hm
    have HZ := (show Hid (z = wd sg F) from hz)
    clear hz
    go_wp2
    go_ret
    exact ⟨_, HE.out _ HZ.out, rfl, hw15⟩
set_option maxRecDepth 100000 in
set_option maxHeartbeats 1000000 in
theorem rd_base (sv : Value) (sa : Option Addr) (sn sp : Nat) (hsv : sv = .slice sa sn sp) (T U0 U V : ByteArray) (X n N : Nat) (B : Nat) (t : List Nat) (sg : Bool) (w : World) (hN : U.size = N) (hNb : N ≤ 25000) (hn : n ≤ N) (hrn : n = runL B t) (hV : U.extract 0 n = V) (hU : U0 = U) (h0 : ((B : Int) == 0) = false) (h16 : ((B : Int) == 16) = false) (hB1 : 2 ≤ B) (hB2 : B ≤ 36)
    (cb : Calls Tryz.prog 44 #[sv] w fun e w' => e = .returned (.string T) ∧ Below w.heap.size w w')
    (cs : ∀ w, Calls Tryz.prog 47 #[.string T] w fun e w' => e = .returned (.tuple #[.float .f64 (wd sg 4607182418800017408), .string U0]) ∧ Below w.heap.size w w')
    (ci : ∀ w, Calls Tryz.prog 55 #[.float .f64 X] w fun e w' => e = .returned (.int .i32 (B : Int)) ∧ Below w.heap.size w w')
    (cr : ∀ w, Calls Tryz.prog 45 #[.string U, .int .i64 (B : Int)] w fun e w' => e = .returned (.int .i64 (n : Int)) ∧ w' = w)
    (cw : ∀ W, 0 < n → Calls Tryz.prog 46 #[.string V, .int .i64 (B : Int)] W fun e w' => ∃ R, Near (vB B (t.take (runL B t))) 1 R ∧ e = .returned (.float .f64 (min R 9218868437227405312)) ∧ Below W.heap.size W w') :
    Calls Tryz.prog 17 #[sv, .float .f64 X] w fun e w' => ∃ x, IntEnd sg B t x ∧ e = .returned (.float .f64 x) ∧ Below w.heap.size w w' := by
  subst hsv
  have hm2 : ∀ F, F ≤ 9218868437227405312 → ∀ ty w, (binOp .mul ty (.float .f64 (wd sg 4607182418800017408)) (.float .f64 F)).run Tryz.prog w = .ok (.float .f64 (wd sg F)) w := fun F hF ty w => run_float_arith w .mul ty .f64 _ _ _ (mul_unit sg F hF)
  have HM2 := (show Hid _ from hm2)
  have HRN := (show Hid (n = runL B t) from hrn)
  have CW := (show Hid _ from cw)
  have cnn := nan_any
  obtain ⟨us, hus⟩ : ∃ us, us = wd sg 4607182418800017408 := ⟨_, rfl⟩
  rw [← hus] at cs HM2
  clear hm2 hus hrn cw
  subst hU
  go_enter Tryz.func17, Tryz.ntmps17
  rcases Nat.eq_zero_or_pos n with h0 | h0
  · have HE := (show Hid (IntEnd sg B t 9221120237041090561) from .none _ (by rw [← HRN.out]; exact h0) nan_nan)
    subst h0
    clear CW HM2
    go_wp2_with (first | (go_at_call 44; refine cb.mono ?_; rintro e w1 ⟨rfl, hw1⟩; clear cb) | (go_at_call 47; refine (cs _).mono ?_; rintro e w2 ⟨rfl, hw2⟩; clear cs) | (go_at_call 55; refine (ci _).mono ?_; rintro e w3 ⟨rfl, hw3⟩; clear ci) | (go_at_call 45; refine (cr _).mono ?_; rintro e w4 ⟨rfl, hw4⟩; obtain rfl := hw4.symm; clear cr) | (go_at_call 43; refine (cnn _).mono ?_; rintro e w4 ⟨rfl, hw4⟩; obtain rfl := hw4.symm))
    have hw12 := hw1.trans (hw2.mono hw1.size)
    go_ret
    exact ⟨_, HE.out, rfl, hw12.trans (hw3.mono hw12.size)⟩
  · have k0 : ((n : Int) == 0) = false := by rw [beq_eq_false_iff_ne]; omega
    have cw := fun W => CW.out W h0
    have CW2 := (show Hid _ from cw)
    clear CW cw
    go_wp2_with (first | (go_at_call 44; refine cb.mono ?_; rintro e w1 ⟨rfl, hw1⟩; clear cb) | (go_at_call 47; refine (cs _).mono ?_; rintro e w2 ⟨rfl, hw2⟩; clear cs) | (go_at_call 55; refine (ci _).mono ?_; rintro e w3 ⟨rfl, hw3⟩; clear ci) | (go_at_call 45; refine (cr _).mono ?_; rintro e w4 ⟨rfl, hw4⟩; obtain rfl := hw4.symm; clear cr) | (go_at_call 46; fail))
    refine (CW2.out _).mono ?_
    rintro e w5 ⟨R, hR, rfl, hw5⟩
    have hw12 := hw1.trans (hw2.mono hw1.size)
    have hw13 := hw12.trans (hw3.mono hw12.size)
    have hw15 := hw13.trans (hw5.mono hw13.size)
    have hm := HM2.out _ (Nat.min_le_right R 9218868437227405312)
    have HE := (show Hid (∀ y, y = wd sg (min R 9218868437227405312) → IntEnd sg B t y) from fun y hy => by rw [hy]; exact .num R (by rw [← HRN.out]; exact h0) hR)
    obtain ⟨F, hF⟩ : ∃ F, F = min R 9218868437227405312 := ⟨_, rfl⟩
    rw [← hF] at hm HE ⊢
    clear hR hF HM2 CW2
    obtain ⟨z, hz⟩ : ∃ z, z = wd sg F := ⟨_, rfl⟩
    rw [← hz] at hm
    have HZ := (show Hid (z = wd sg F) from hz)
    clear hz
    go_wp2
    go_ret
    exact ⟨_, HE.out _ HZ.out, rfl, hw15⟩
set_option maxRecDepth 100000 in
set_option maxHeartbeats 1000000 in
theorem rd_bad (sv : Value) (sa : Option Addr) (sn sp : Nat) (hsv : sv = .slice sa sn sp) (T U : ByteArray) (X : Nat) (v : Int) (sg : Bool) (w : World) (h0 : (v == 0) = false) (hb1 : -2147483648 ≤ v) (hb2 : v ≤ 2147483647) (hv : v < 2 ∨ 36 < v)
    (cb : Calls Tryz.prog 44 #[sv] w fun e w' => e = .returned (.string T) ∧ Below w.heap.size w w')
    (cs : ∀ w, Calls Tryz.prog 47 #[.string T] w fun e w' => e = .returned (.tuple #[.float .f64 (wd sg 4607182418800017408), .string U]) ∧ Below w.heap.size w w')
    (ci : ∀ w, Calls Tryz.prog 55 #[.float .f64 X] w fun e w' => e = .returned (.int .i32 v) ∧ Below w.heap.size w w') :
    Calls Tryz.prog 17 #[sv, .float .f64 X] w fun e w' => e = .returned (.float .f64 9221120237041090561) ∧ Below w.heap.size w w' := by
  subst hsv
  have cnn := nan_any
  have k9 : (v != 0) = true := by rw [bne]; rw [h0]; rfl
  generalize wd sg 4607182418800017408 = us at *
  rcases hv with hv | hv
  · go_enter Tryz.func17, Tryz.ntmps17
    go_wp2_with (first | (go_at_call 44; refine cb.mono ?_; rintro e w1 ⟨rfl, hw1⟩; clear cb) | (go_at_call 47; refine (cs _).mono ?_; rintro e w2 ⟨rfl, hw2⟩; clear cs) | (go_at_call 55; refine (ci _).mono ?_; rintro e w3 ⟨rfl, hw3⟩; clear ci) | (go_at_call 43; refine (cnn _).mono ?_; rintro e w4 ⟨rfl, hw4⟩; obtain rfl := hw4.symm))
    have hw12 := hw1.trans (hw2.mono hw1.size)
    go_ret
    exact ⟨rfl, hw12.trans (hw3.mono hw12.size)⟩
  · have k1 : ¬ v < 2 := by omega
    go_enter Tryz.func17, Tryz.ntmps17
    go_wp2_with (first | (go_at_call 44; refine cb.mono ?_; rintro e w1 ⟨rfl, hw1⟩; clear cb) | (go_at_call 47; refine (cs _).mono ?_; rintro e w2 ⟨rfl, hw2⟩; clear cs) | (go_at_call 55; refine (ci _).mono ?_; rintro e w3 ⟨rfl, hw3⟩; clear ci) | (go_at_call 43; refine (cnn _).mono ?_; rintro e w4 ⟨rfl, hw4⟩; obtain rfl := hw4.symm))
    have hw12 := hw1.trans (hw2.mono hw1.size)
    go_ret
    exact ⟨rfl, hw12.trans (hw3.mono hw12.size)⟩
end Go.Proofs.YtellndmbllmjgaaGreatDoor
/- ReadFloat at any text. -/
set_option linter.unusedVariables false
namespace Go.Proofs.YtellndmbllmjgaaGreatDoor
open Go.RowKit Go.Shelf Go.Sort Fs Fl
set_option maxRecDepth 100000 in
set_option maxHeartbeats 1000000 in
theorem readFloat_of (S T : ByteArray) (P : Nat → Prop) (w : World)
    (ct : Calls Tryz.prog 39 #[.string S] w fun e w' => e = .returned (.string T) ∧ Below w.heap.size w w')
    (cf : ∀ W, Below w.heap.size w W → Calls Tryz.prog 42 #[.string T] W fun e w' => ∃ x c, P x ∧ e = .returned (.tuple #[.float .f64 x, .int .i64 c]) ∧ Below W.heap.size W w') :
    Calls Tryz.prog 14 #[.string S] w fun e w' => ∃ x, P x ∧ e = .returned (.float .f64 x) ∧ Below w.heap.size w w' := by
  have CF := (show Hid _ from cf)
  clear cf
  go_enter Tryz.func14, Tryz.ntmps14
  go_wp2_with (first | (go_at_call 39; refine ct.mono ?_; rintro e w1 ⟨rfl, hb1⟩; have cf := CF.out _ hb1) | (go_at_call 42; fail))
  refine cf.mono ?_
  rintro e w3 ⟨x, c, hx, rfl, hb3⟩
  have HX : Hid (P x) := hx
  clear hx cf ct CF
  go_wp2
  go_ret
  exact ⟨x, HX.out, rfl, hb1.trans (hb3.mono hb1.size)⟩
end Go.Proofs.YtellndmbllmjgaaGreatDoor
/- Read and cutHex at any text, given what they call. -/
set_option linter.unusedVariables false
namespace Go.Proofs.YtellndmbllmjgaaGreatDoor
open Go.RowKit Go.Shelf Go.Sort Fs Fl
set_option maxRecDepth 100000 in
set_option maxHeartbeats 1000000 in
theorem read_empty (S T : ByteArray) (hT : T.toList.isEmpty = true) (w : World)
    (ct : Calls Tryz.prog 39 #[.string S] w fun e w' => e = .returned (.string T) ∧ Below w.heap.size w w') :
    Calls Tryz.prog 11 #[.string S] w fun e w' => e = .returned (.float .f64 0) ∧ Below w.heap.size w w' := by
  go_enter Tryz.func11, Tryz.ntmps11
  go_wp2_with (first | (go_at_call 39; refine ct.mono ?_; rintro e w1 ⟨rfl, hb1⟩))
  go_ret
  exact ⟨rfl, hb1⟩
set_option maxRecDepth 100000 in
set_option maxHeartbeats 1000000 in
theorem read_hex (S T U : ByteArray) (P : Nat → Prop) (hT : T.toList.isEmpty = false) (w : World)
    (ct : Calls Tryz.prog 39 #[.string S] w fun e w' => e = .returned (.string T) ∧ Below w.heap.size w w')
    (ch : ∀ w, Calls Tryz.prog 40 #[.string T] w fun e w' => e = .returned (.tuple #[.string U, .bool true]) ∧ w' = w)
    (cw : ∀ W, Below w.heap.size w W → Calls Tryz.prog 41 #[.string U, .int .i64 16] W fun e w' => ∃ x, P x ∧ e = .returned (.float .f64 x) ∧ Below W.heap.size W w') :
    Calls Tryz.prog 11 #[.string S] w fun e w' => ∃ x, P x ∧ e = .returned (.float .f64 x) ∧ Below w.heap.size w w' := by
  have CW := (show Hid _ from cw)
  clear cw
  go_enter Tryz.func11, Tryz.ntmps11
  go_wp2_with (first | (go_at_call 39; refine ct.mono ?_; rintro e w1 ⟨rfl, hb1⟩; have cw := CW.out _ hb1) | (go_at_call 40; refine (ch _).mono ?_; rintro e w2 ⟨rfl, rfl⟩) | (go_at_call 41; fail))
  refine cw.mono ?_
  rintro e w3 ⟨x, hx, rfl, hb3⟩
  have HX : Hid (P x) := hx
  clear hx cw ct ch CW
  go_wp2
  go_ret
  exact ⟨x, HX.out, rfl, hb1.trans (hb3.mono hb1.size)⟩
set_option maxRecDepth 100000 in
set_option maxHeartbeats 1000000 in
theorem read_front (S T : ByteArray) (P : Nat → Nat → Prop) (hT : T.toList.isEmpty = false) (hTs : T.size ≤ 100000) (w : World)
    (ct : Calls Tryz.prog 39 #[.string S] w fun e w' => e = .returned (.string T) ∧ Below w.heap.size w w')
    (ch : ∀ w, Calls Tryz.prog 40 #[.string T] w fun e w' => e = .returned (.tuple #[.string T, .bool false]) ∧ w' = w)
    (cf : ∀ W, Below w.heap.size w W → Calls Tryz.prog 42 #[.string T] W fun e w' => ∃ x c, P x c ∧ e = .returned (.tuple #[.float .f64 x, .int .i64 ((c : Nat) : Int)]) ∧ c ≤ T.size ∧ Below W.heap.size W w') :
    Calls Tryz.prog 11 #[.string S] w fun e w' => ∃ x c y, P x c ∧ c ≤ T.size ∧ y = (if c < T.size then 9221120237041090561 else x) ∧ e = .returned (.float .f64 y) ∧ Below w.heap.size w w' := by
  have CF := (show Hid _ from cf)
  have cn := nan_any
  obtain ⟨N, hN⟩ : ∃ N, T.size = N := ⟨_, rfl⟩
  have hNb : N ≤ 100000 := by omega
  clear cf hTs
  go_enter Tryz.func11, Tryz.ntmps11
  go_wp2_with (first | (go_at_call 39; refine ct.mono ?_; rintro e w1 ⟨rfl, hb1⟩; have cf := CF.out _ hb1) | (go_at_call 40; refine (ch _).mono ?_; rintro e w2 ⟨rfl, rfl⟩) | (go_at_call 42; fail))
  refine cf.mono ?_
  rintro e w3 ⟨x, c, hx, rfl, hc, hb3⟩
  have HX : Hid (P x c) := hx
  have HB : Hid (Below w.heap.size w w3) := hb1.trans (hb3.mono hb1.size)
  clear hx cf ct ch CF hb1 hb3
  rw [hN] at hc
  by_cases hlt : c < N
  · have k1 : (c : Int) < (N : Int) := by omega
    go_wp2_with (first | (go_at_call 43; refine (cn _).mono ?_; rintro e w4 ⟨rfl, rfl⟩))
    go_ret
    exact ⟨x, c, _, HX.out, by omega, rfl, by rw [if_pos (by omega)]; rfl, HB.out⟩
  · have k1 : ¬ (c : Int) < (N : Int) := by omega
    go_wp2_with (first | (go_at_call 43; refine (cn _).mono ?_; rintro e w4 ⟨rfl, rfl⟩))
    go_ret
    exact ⟨x, c, _, HX.out, by omega, rfl, by rw [if_neg (by omega)]; rfl, HB.out⟩
set_option maxRecDepth 100000 in
set_option maxHeartbeats 1000000 in
theorem cutHex_yes (S : ByteArray) (hs2 : S.size ≤ 100000) (h2 : 2 ≤ S.size) (c : Nat) (h0 : ∀ h : 0 < S.size, (S[0]'h).toNat = 48) (h1 : ∀ h : 1 < S.size, (S[1]'h).toNat = c) (hc : c = 120 ∨ c = 88) (w : World) : Calls Tryz.prog 40 #[.string S] w fun e w' => e = .returned (.tuple #[.string (S.extract 2 S.size), .bool true]) ∧ w' = w := by
  have hl0 : 0 < S.size := by omega
  have hl1 : 1 < S.size := by omega
  have a0 := h0 hl0
  have a1 := h1 hl1
  clear h0 h1
  rcases hc with rfl | rfl
  all_goals
    go_enter Tryz.func40, Tryz.ntmps40
    go_wp2
    all_goals (go_ret2; exact ⟨rfl, rfl⟩)
set_option maxRecDepth 100000 in
set_option maxHeartbeats 1000000 in
theorem cutHex_no0 (S : ByteArray) (hs2 : S.size ≤ 100000) (h0 : ∀ h : 0 < S.size, (S[0]'h).toNat ≠ 48) (w : World) : Calls Tryz.prog 40 #[.string S] w fun e w' => e = .returned (.tuple #[.string S, .bool false]) ∧ w' = w := by
  obtain ⟨N, hN⟩ : ∃ N, S.size = N := ⟨_, rfl⟩
  rw [hN] at hs2
  rcases Nat.lt_or_ge N 2 with hlt | hge
  · have k1 : ¬ (2 : Int) ≤ (N : Int) := by omega
    clear h0
    go_enter Tryz.func40, Tryz.ntmps40
    go_wp2
    all_goals (go_ret2; exact ⟨rfl, rfl⟩)
  · have hl0 : 0 < S.size := by omega
    obtain ⟨c0, hc0⟩ : ∃ c0, (S[0]'hl0).toNat = c0 := ⟨_, rfl⟩
    have hn := h0 hl0
    rw [hc0] at hn
    have k1 : ((c0 : Int) == 48) = false := by rw [beq_eq_false_iff_ne]; omega
    clear h0 hn
    go_enter Tryz.func40, Tryz.ntmps40
    go_wp2
    all_goals (go_ret2; exact ⟨rfl, rfl⟩)
end Go.Proofs.YtellndmbllmjgaaGreatDoor
