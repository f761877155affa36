/- The walk of atof64exact. -/
import Derived.Test.YtellndmbllmjgaaGreatDoorCPf0
import Derived.Test.YtellndmbllmjgaaGreatDoorCTxA
import Derived.Test.YtellndmbllmjgaaGreatDoorCLg2
set_option linter.unusedVariables false
namespace Go.Proofs.YtellndmbllmjgaaGreatDoor
open Go.RowKit Go.Shelf Go.Sort Fs Fl

theorem foi (d M L : Nat) (hN : Norm d M L) (hL : L ≤ 1023) : floatOfInt .f64 (d : Int) = rungI M L := by
  have e : floatOfInt .f64 (d : Int) = Ieee.double.nearest false d 0 := by
    unfold floatOfInt
    first | rfl | (simp [FloatKind.nearest]; rfl)
  rw [e, nearest_whole hN hL, wd_false]
/-- The table of powers is laid. -/
def P10s (w : World) : Prop := w.cell? ⟨15, 0, none⟩ = some (.int .u64 52) ∧ ∃ b off cap, w.cell? ⟨18, 0, none⟩ = some (.slice (some ⟨b, off, none⟩) 23 cap) ∧ ∀ k, k ≤ 22 → w.cell? ⟨b, off + k, none⟩ = some (.float .f64 (p10w k))
set_option maxRecDepth 100000 in
set_option maxHeartbeats 1000000 in
theorem exact_big (d : Nat) (p : Int) (w : World) (hi : w.cell? ⟨15, 0, none⟩ = some (.int .u64 52)) (hd : 4503599627370496 ≤ d) (hd2 : d < 18446744073709551616) :
    Calls Tryz.prog 296 #[.int .u64 (d : Int), .int .i64 p, .bool false] w fun r w' => r = .returned (.tuple #[.float .f64 0, .bool false]) ∧ w' = w := by
  have hz : ((d : Int) / 4503599627370496 != 0) = true := by rw [bne_iff_ne]; omega
  go_enter Tryz.func296, Tryz.ntmps296
  go_wp2
  go_ret2
  exact ⟨rfl, rfl⟩
set_option maxRecDepth 100000 in
set_option maxHeartbeats 1000000 in
theorem exact_w0 (d F : Nat) (w : World) (hi : w.cell? ⟨15, 0, none⟩ = some (.int .u64 52)) (hd : d < 4503599627370496) (hF : floatOfInt .f64 (d : Int) = F) :
    Calls Tryz.prog 296 #[.int .u64 (d : Int), .int .i64 0, .bool false] w fun r w' => r = .returned (.tuple #[.float .f64 F, .bool true]) ∧ w' = w := by
  have hz : ((d : Int) / 4503599627370496 != 0) = false := by rw [bne_eq_false_iff_eq]; omega
  go_enter Tryz.func296, Tryz.ntmps296
  go_wp2
  go_ret2
  exact ⟨rfl, rfl⟩
set_option maxRecDepth 100000 in
set_option maxHeartbeats 1000000 in
theorem exact_wup (d F k b off cap t : Nat) (R : Nat) (w : World) (hi : w.cell? ⟨15, 0, none⟩ = some (.int .u64 52)) (hd : d < 4503599627370496) (hF : floatOfInt .f64 (d : Int) = F) (hp0 : 0 < k) (hp1 : k ≤ 22)
    (hv : w.cell? ⟨18, 0, none⟩ = some (.slice (some ⟨b, off, none⟩) 23 cap)) (hc : w.cell? ⟨b, off + k, none⟩ = some (.float .f64 t)) (hm : Ieee.double.mul F t = some R)
    (g1 : (FloatKind.f64.format.order F 4831355200913801216 == some .gt) = false) (g2 : (FloatKind.f64.format.order F 14054727237768577024 == some .lt) = false) :
    Calls Tryz.prog 296 #[.int .u64 (d : Int), .int .i64 (k : Int), .bool false] w fun r w' => r = .returned (.tuple #[.float .f64 R, .bool true]) ∧ w' = w := by
  have hz : ((d : Int) / 4503599627370496 != 0) = false := by rw [bne_eq_false_iff_eq]; omega
  have hmm : ∀ ty w, (binOp .mul ty (.float .f64 F) (.float .f64 t)).run Tryz.prog w = .ok (.float .f64 R) w := fun ty w => run_float_arith w .mul ty .f64 _ _ R hm
  clear hm
  go_enter Tryz.func296, Tryz.ntmps296
  go_wp2
  go_ret2
  exact ⟨rfl, rfl⟩
set_option maxRecDepth 100000 in
set_option maxHeartbeats 1000000 in
theorem exact_wno (d F k b off cap : Nat) (w : World) (hi : w.cell? ⟨15, 0, none⟩ = some (.int .u64 52)) (hd : d < 4503599627370496) (hF : floatOfInt .f64 (d : Int) = F) (hp0 : 0 < k) (hp1 : k ≤ 22)
    (g1 : (FloatKind.f64.format.order F 4831355200913801216 == some .gt) = true) :
    Calls Tryz.prog 296 #[.int .u64 (d : Int), .int .i64 (k : Int), .bool false] w fun r w' => r = .returned (.tuple #[.float .f64 F, .bool false]) ∧ w' = w := by
  have hz : ((d : Int) / 4503599627370496 != 0) = false := by rw [bne_eq_false_iff_eq]; omega
  go_enter Tryz.func296, Tryz.ntmps296
  go_wp2
  go_ret2
  exact ⟨rfl, rfl⟩
set_option maxRecDepth 100000 in
set_option maxHeartbeats 1000000 in
theorem exact_wdn (d F k b off cap t : Nat) (R : Nat) (w : World) (hi : w.cell? ⟨15, 0, none⟩ = some (.int .u64 52)) (hd : d < 4503599627370496) (hF : floatOfInt .f64 (d : Int) = F) (hp0 : 0 < k) (hp1 : k ≤ 22)
    (hv : w.cell? ⟨18, 0, none⟩ = some (.slice (some ⟨b, off, none⟩) 23 cap)) (hc : w.cell? ⟨b, off + k, none⟩ = some (.float .f64 t)) (hm : Ieee.double.div F t = some R) :
    Calls Tryz.prog 296 #[.int .u64 (d : Int), .int .i64 (-(k : Int)), .bool false] w fun r w' => r = .returned (.tuple #[.float .f64 R, .bool true]) ∧ w' = w := by
  have hz : ((d : Int) / 4503599627370496 != 0) = false := by rw [bne_eq_false_iff_eq]; omega
  have hmm : ∀ ty w, (binOp .quo ty (.float .f64 F) (.float .f64 t)).run Tryz.prog w = .ok (.float .f64 R) w := fun ty w => run_float_arith w .quo ty .f64 _ _ R hm
  clear hm
  go_enter Tryz.func296, Tryz.ntmps296
  go_wp2
  go_ret2
  exact ⟨rfl, rfl⟩
set_option maxRecDepth 100000 in
set_option maxHeartbeats 1000000 in
theorem exact_wfar (d F : Nat) (p : Int) (w : World) (hi : w.cell? ⟨15, 0, none⟩ = some (.int .u64 52)) (hd : d < 4503599627370496) (hF : floatOfInt .f64 (d : Int) = F) (hp : 37 < p ∨ p < -22) :
    Calls Tryz.prog 296 #[.int .u64 (d : Int), .int .i64 p, .bool false] w fun r w' => r = .returned (.tuple #[.float .f64 F, .bool false]) ∧ w' = w := by
  have hz : ((d : Int) / 4503599627370496 != 0) = false := by rw [bne_eq_false_iff_eq]; omega
  have hp3 : (p == 0) = false := by rw [beq_eq_false_iff_ne]; omega
  rcases hp with h | h
  all_goals
    go_enter Tryz.func296, Tryz.ntmps296
    go_wp2
    go_ret2
    exact ⟨rfl, rfl⟩
set_option maxRecDepth 100000 in
set_option maxHeartbeats 1000000 in
theorem exact_wtwo (d F k b off cap t t2 f : Nat) (R : Nat) (w : World) (hi : w.cell? ⟨15, 0, none⟩ = some (.int .u64 52)) (hd : d < 4503599627370496) (hF : floatOfInt .f64 (d : Int) = F) (hp0 : 0 < k) (hp1 : k ≤ 15)
    (hv : w.cell? ⟨18, 0, none⟩ = some (.slice (some ⟨b, off, none⟩) 23 cap)) (hc : w.cell? ⟨b, off + k, none⟩ = some (.float .f64 t)) (hc2 : w.cell? ⟨b, off + 22, none⟩ = some (.float .f64 t2)) (hm : Ieee.double.mul F t = some f) (hm2 : Ieee.double.mul f t2 = some R)
    (g1 : (FloatKind.f64.format.order f 4831355200913801216 == some .gt) = false) (g2 : (FloatKind.f64.format.order f 14054727237768577024 == some .lt) = false) :
    Calls Tryz.prog 296 #[.int .u64 (d : Int), .int .i64 (k + 22 : Nat), .bool false] w fun r w' => r = .returned (.tuple #[.float .f64 R, .bool true]) ∧ w' = w := by
  have hz : ((d : Int) / 4503599627370496 != 0) = false := by rw [bne_eq_false_iff_eq]; omega
  have hmm : ∀ ty w, (binOp .mul ty (.float .f64 F) (.float .f64 t)).run Tryz.prog w = .ok (.float .f64 f) w := fun ty w => run_float_arith w .mul ty .f64 _ _ f hm
  have hmm2 : ∀ ty w, (binOp .mul ty (.float .f64 f) (.float .f64 t2)).run Tryz.prog w = .ok (.float .f64 R) w := fun ty w => run_float_arith w .mul ty .f64 _ _ R hm2
  clear hm hm2
  go_enter Tryz.func296, Tryz.ntmps296
  go_wp2
  go_ret2
  exact ⟨rfl, rfl⟩
set_option maxRecDepth 100000 in
set_option maxHeartbeats 1000000 in
theorem exact_wtwo_no (d F k b off cap t f : Nat) (w : World) (hi : w.cell? ⟨15, 0, none⟩ = some (.int .u64 52)) (hd : d < 4503599627370496) (hF : floatOfInt .f64 (d : Int) = F) (hp0 : 0 < k) (hp1 : k ≤ 15)
    (hv : w.cell? ⟨18, 0, none⟩ = some (.slice (some ⟨b, off, none⟩) 23 cap)) (hc : w.cell? ⟨b, off + k, none⟩ = some (.float .f64 t)) (hm : Ieee.double.mul F t = some f)
    (g1 : (FloatKind.f64.format.order f 4831355200913801216 == some .gt) = true) :
    Calls Tryz.prog 296 #[.int .u64 (d : Int), .int .i64 (k + 22 : Nat), .bool false] w fun r w' => r = .returned (.tuple #[.float .f64 f, .bool false]) ∧ w' = w := by
  have hz : ((d : Int) / 4503599627370496 != 0) = false := by rw [bne_eq_false_iff_eq]; omega
  have hmm : ∀ ty w, (binOp .mul ty (.float .f64 F) (.float .f64 t)).run Tryz.prog w = .ok (.float .f64 f) w := fun ty w => run_float_arith w .mul ty .f64 _ _ f hm
  clear hm
  go_enter Tryz.func296, Tryz.ntmps296
  go_wp2
  go_ret2
  exact ⟨rfl, rfl⟩
theorem ord_neg (f : Nat) (h : f ≤ 9218868437227405312) : (FloatKind.f64.format.order f 14054727237768577024 == some .lt) = false := by
  rcases Nat.lt_or_eq_of_le h with h1 | h1
  · have e : FloatKind.f64.format.order f 14054727237768577024 = some (compare (f : Int) (-(4831355200913801216 : Int))) := by
      have := order_key false true f 4831355200913801216 h1 (by decide)
      rw [wd_false, wd_true, key_false, key_true] at this
      exact this
    rw [e, cmp_gt (by omega)]
    rfl
  · subst h1; decide +kernel
theorem ord_15 (f : Nat) (h : f ≤ 9218868437227405312) : (FloatKind.f64.format.order f 4831355200913801216 == some .gt) = decide (4831355200913801216 < f) := by
  rcases Nat.lt_or_eq_of_le h with h1 | h1
  · have e : FloatKind.f64.format.order f 4831355200913801216 = some (compare (f : Int) ((4831355200913801216 : Nat) : Int)) := order_pos f 4831355200913801216 h1 (by decide)
    rw [e]
    rcases Nat.lt_trichotomy f 4831355200913801216 with h2 | h2 | h2
    · rw [cmp_lt (by omega), decide_eq_false (by omega)]; rfl
    · subst h2; rw [cmp_eq, decide_eq_false (by omega)]; rfl
    · rw [cmp_gt (by omega), decide_eq_true h2]; rfl
  · subst h1; decide +kernel
set_option maxHeartbeats 1000000 in
/-- **atof64exact: where it answers, it answers the nearest word.** -/
theorem exact_any (d j : Nat) (hd0 : 0 < d) (hd : d < 18446744073709551616) (w : World) (hT : P10s w) :
    Calls Tryz.prog 296 #[.int .u64 (d : Int), .int .i64 ((j : Int) - 400), .bool false] w fun r w' => ∃ f ok, r = .returned (.tuple #[.float .f64 f, .bool ok]) ∧ (ok = true → ∃ R, DecNear d j R ∧ f = min R 9218868437227405312) ∧ w' = w := by
  obtain ⟨hi, b, off, cap, hv, hc⟩ := hT
  rcases Nat.lt_or_ge d 4503599627370496 with hlt | hge
  · obtain ⟨M, L, hN, hL⟩ := norm_small (n := d) (by omega) (by omega)
    have hF := foi d M L hN (by omega)
    have hMl := hN.M_lt
    have hFle : rungI M L ≤ 9218868437227405312 := Nat.le_of_lt (rungI_lt hMl (by omega))
    rcases Nat.lt_trichotomy j 400 with h | h | h
    · obtain ⟨k, hk⟩ : ∃ k, k = 400 - j := ⟨_, rfl⟩
      rcases Nat.lt_or_ge 22 k with h22 | h22
      · refine (exact_wfar d _ ((j : Int) - 400) w hi hlt hF (by omega)).mono ?_
        rintro r w' ⟨rfl, rfl⟩
        exact ⟨_, false, rfl, (fun h => nomatch h), rfl⟩
      · obtain ⟨R, hR, hm⟩ := exact_down hN (show L ≤ 1023 by omega) h22 (by omega)
        rw [show (j : Int) - 400 = -(k : Int) by omega]
        refine (exact_wdn d _ k b off cap _ _ w hi hlt hF (by omega) h22 hv (hc k h22) hm).mono ?_
        rintro r w' ⟨rfl, rfl⟩
        refine ⟨_, true, rfl, fun _ => ⟨R, ?_, rfl⟩, rfl⟩
        rw [show j = 400 - k by omega]
        exact hR
    · subst h
      obtain ⟨R, hR, hm⟩ := exact_zero hN (show L ≤ 1023 by omega)
      refine (exact_w0 d _ w hi hlt hF).mono ?_
      rintro r w' ⟨rfl, rfl⟩
      exact ⟨_, true, rfl, fun _ => ⟨R, hR, hm⟩, rfl⟩
    · obtain ⟨k, hk⟩ : ∃ k, k = j - 400 := ⟨_, rfl⟩
      rcases Nat.lt_or_ge 22 k with h22 | h22
      · rcases Nat.lt_or_ge 37 k with h37 | h37
        · refine (exact_wfar d _ ((j : Int) - 400) w hi hlt hF (by omega)).mono ?_
          rintro r w' ⟨rfl, rfl⟩
          exact ⟨_, false, rfl, (fun h => nomatch h), rfl⟩
        · obtain ⟨k', hk'⟩ : ∃ k', k = k' + 22 := ⟨k - 22, by omega⟩
          obtain ⟨f, hm, hf, hrest⟩ := exact_two hN (show L ≤ 1023 by omega) (show k' ≤ 22 by omega)
          rw [show (j : Int) - 400 = ((k' + 22 : Nat) : Int) by omega]
          rcases Nat.lt_or_ge 4831355200913801216 f with hgt | hle
          · refine (exact_wtwo_no d _ k' b off cap _ f w hi hlt hF (by omega) (by omega) hv (hc k' (by omega)) hm (by rw [ord_15 f hf]; exact decide_eq_true hgt)).mono ?_
            rintro r w' ⟨rfl, rfl⟩
            exact ⟨_, false, rfl, (fun h => nomatch h), rfl⟩
          · obtain ⟨R, hR, hm2⟩ := hrest hle
            refine (exact_wtwo d _ k' b off cap _ _ f _ w hi hlt hF (by omega) (by omega) hv (hc k' (by omega)) (hc 22 (by omega)) hm hm2 (by rw [ord_15 f hf]; exact decide_eq_false (by omega)) (ord_neg f hf)).mono ?_
            rintro r w' ⟨rfl, rfl⟩
            refine ⟨_, true, rfl, fun _ => ⟨R, ?_, rfl⟩, rfl⟩
            rw [show j = 400 + (k' + 22) by omega]
            exact hR
      · rw [show (j : Int) - 400 = (k : Int) by omega]
        rcases Nat.lt_or_ge 4831355200913801216 (rungI M L) with hgt | hle
        · refine (exact_wno d _ k b off cap w hi hlt hF (by omega) h22 (by rw [ord_15 _ hFle]; exact decide_eq_true hgt)).mono ?_
          rintro r w' ⟨rfl, rfl⟩
          exact ⟨_, false, rfl, (fun h => nomatch h), rfl⟩
        · obtain ⟨R, hR, hm⟩ := exact_up hN (show L ≤ 1023 by omega) h22
          refine (exact_wup d _ k b off cap _ _ w hi hlt hF (by omega) h22 hv (hc k h22) hm (by rw [ord_15 _ hFle]; exact decide_eq_false (by omega)) (ord_neg _ hFle)).mono ?_
          rintro r w' ⟨rfl, rfl⟩
          refine ⟨_, true, rfl, fun _ => ⟨R, ?_, rfl⟩, rfl⟩
          rw [show j = 400 + k by omega]
          exact hR
  · refine (exact_big d _ w hi hge hd).mono ?_
    rintro r w' ⟨rfl, rfl⟩
    exact ⟨_, false, rfl, (fun h => nomatch h), rfl⟩
end Go.Proofs.YtellndmbllmjgaaGreatDoor
