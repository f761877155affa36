/- The walk of atof64exact. -/
import Derived.Test.YtellndmbllmjgaaGreatDoorCEx1x
import Derived.Test.YtellndmbllmjgaaGreatDoorCWk2x
import Derived.Test.YtellndmbllmjgaaGreatDoorCUp2x
import Derived.WalkMore
import Derived.Lib.DecodeN
import Derived.Test.YtellndmbllmjgaaGreatDoorChecked
import Derived.WalkKit
import Derived.WalkSpells
import Derived.WalkLawsBesides
import Derived.Maps.AppendAt
import Derived.Laws.AppendOwn
import Derived.Laws.BitsLemmas
import Derived.Deep.DeepMust
set_option linter.unusedVariables false
namespace Go.Proofs.YtellndmbllmjgaaGreatDoor
open Go.RowKit Go.Shelf Go.Sort Fs Fl

theorem foi (d M L : Nat) (hN : Norm d M L) (hL : L ≤ 1023) : floatOfInt .f64 (d : Int) = rungI M L := by
  have e : floatOfInt .f64 (d : Int) = Ieee.double.nearest false d 0 := by
    unfold floatOfInt
    first | rfl | (simp [FloatKind.nearest]; rfl)
  rw [e, nearest_whole hN hL, wd_false]
/-- The table of powers is laid. -/
def P10s (w : World) : Prop := w.cell? ⟨15, 0, none⟩ = some (.int .u64 52) ∧ ∃ b off cap, w.cell? ⟨18, 0, none⟩ = some (.slice (some ⟨b, off, none⟩) 23 cap) ∧ ∀ k, k ≤ 22 → w.cell? ⟨b, off + k, none⟩ = some (.float .f64 (p10w k))
set_option maxRecDepth 100000 in
set_option maxHeartbeats 1000000 in
theorem exact_big (d : Nat) (p : Int) (w : World) (hi : w.cell? ⟨15, 0, none⟩ = some (.int .u64 52)) (hd : 4503599627370496 ≤ d) (hd2 : d < 18446744073709551616) :
    Calls Tryz.prog 296 #[.int .u64 (d : Int), .int .i64 p, .bool false] w fun r w' => r = .returned (.tuple #[.float .f64 0, .bool false]) ∧ w' = w := by
  have hz : ((d : Int) / 4503599627370496 != 0) = true := by rw [bne_iff_ne]; omega
  go_enter Tryz.func296, Tryz.ntmps296
  go_wp2
  go_ret2
  exact ⟨rfl, rfl⟩
set_option maxRecDepth 100000 in
set_option maxHeartbeats 1000000 in
theorem exact_w0 (d F : Nat) (w : World) (hi : w.cell? ⟨15, 0, none⟩ = some (.int .u64 52)) (hd : d < 4503599627370496) (hF : floatOfInt .f64 (d : Int) = F) :
    Calls Tryz.prog 296 #[.int .u64 (d : Int), .int .i64 0, .bool false] w fun r w' => r = .returned (.tuple #[.float .f64 F, .bool true]) ∧ w' = w := by
  have hz : ((d : Int) / 4503599627370496 != 0) = false := by rw [bne_eq_false_iff_eq]; omega
  go_enter Tryz.func296, Tryz.ntmps296
  go_wp2
  go_ret2
  exact ⟨rfl, rfl⟩
set_option maxRecDepth 100000 in
set_option maxHeartbeats 1000000 in
theorem exact_wup (d F k b off cap t : Nat) (R : Nat) (w : World) (hi : w.cell? ⟨15, 0, none⟩ = some (.int .u64 52)) (hd : d < 4503599627370496) (hF : floatOfInt .f64 (d : Int) = F) (hp0 : 0 < k) (hp1 : k ≤ 22)
    (hv : w.cell? ⟨18, 0, none⟩ = some (.slice (some ⟨b, off, none⟩) 23 cap)) (hc : w.cell? ⟨b, off + k, none⟩ = some (.float .f64 t)) (hm : Ieee.double.mul F t = some R)
    (g1 : (FloatKind.f64.format.order F 4831355200913801216 == some .gt) = false) (g2 : (FloatKind.f64.format.order F 14054727237768577024 == some .lt) = false) :
    Calls Tryz.prog 296 #[.int .u64 (d : Int), .int .i64 (k : Int), .bool false] w fun r w' => r = .returned (.tuple #[.float .f64 R, .bool true]) ∧ w' = w := by
  have hz : ((d : Int) / 4503599627370496 != 0) = false := by rw [bne_eq_false_iff_eq]; omega
  have hmm : ∀ ty w, (binOp .mul ty (.float .f64 F) (.float .f64 t)).run Tryz.prog w = .ok (.float .f64 R) w := fun ty w => run_float_arith w .mul ty .f64 _ _ R hm
  clear hm
  go_enter Tryz.func296, Tryz.ntmps296
  go_wp2
  go_ret2
  exact ⟨rfl, rfl⟩
set_option maxRecDepth 100000 in
set_option maxHeartbeats 1000000 in
theorem exact_wno (d F k b off cap : Nat) (w : World) (hi : w.cell? ⟨15, 0, none⟩ = some (.int .u64 52)) (hd : d < 4503599627370496) (hF : floatOfInt .f64 (d : Int) = F) (hp0 : 0 < k) (hp1 : k ≤ 22)
    (g1 : (FloatKind.f64.format.order F 4831355200913801216 == some .gt) = true) :
    Calls Tryz.prog 296 #[.int .u64 (d : Int), .int .i64 (k : Int), .bool false] w fun r w' => r = .returned (.tuple #[.float .f64 F, .bool false]) ∧ w' = w := by
  have hz : ((d : Int) / 4503599627370496 != 0) = false := by rw [bne_eq_false_iff_eq]; omega
  go_enter Tryz.func296, Tryz.ntmps296
  go_wp2
  go_ret2
  exact ⟨rfl, rfl⟩
set_option maxRecDepth 100000 in
set_option maxHeartbeats 1000000 in
theorem exact_wdn (d F k b off cap t : Nat) (R : Nat) (w : World) (hi : w.cell? ⟨15, 0, none⟩ = some (.int .u64 52)) (hd : d < 4503599627370496) (hF : floatOfInt .f64 (d : Int) = F) (hp0 : 0 < k) (hp1 : k ≤ 22)
    (hv : w.cell? ⟨18, 0, none⟩ = some (.slice (some ⟨b, off, none⟩) 23 cap)) (hc : w.cell? ⟨b, off + k, none⟩ = some (.float .f64 t)) (hm : Ieee.double.div F t = some R) :
    Calls Tryz.prog 296 #[.int .u64 (d : Int), .int .i64 (-(k : Int)), .bool false] w fun r w' => r = .returned (.tuple #[.float .f64 R, .bool true]) ∧ w' = w := by
  have hz : ((d : Int) / 4503599627370496 != 0) = false := by rw [bne_eq_false_iff_eq]; omega
  have hmm : ∀ ty w, (binOp .quo ty (.float .f64 F) (.float .f64 t)).run Tryz.prog w = .ok (.float .f64 R) w := fun ty w => run_float_arith w .quo ty .f64 _ _ R hm
  clear hm
  go_enter Tryz.func296, Tryz.ntmps296
  go_wp2
  go_ret2
  exact ⟨rfl, rfl⟩
set_option maxRecDepth 100000 in
set_option maxHeartbeats 1000000 in
theorem exact_wfar (d F : Nat) (p : Int) (w : World) (hi : w.cell? ⟨15, 0, none⟩ = some (.int .u64 52)) (hd : d < 4503599627370496) (hF : floatOfInt .f64 (d : Int) = F) (hp : 37 < p ∨ p < -22) :
    Calls Tryz.prog 296 #[.int .u64 (d : Int), .int .i64 p, .bool false] w fun r w' => r = .returned (.tuple #[.float .f64 F, .bool false]) ∧ w' = w := by
  have hz : ((d : Int) / 4503599627370496 != 0) = false := by rw [bne_eq_false_iff_eq]; omega
  have hp3 : (p == 0) = false := by rw [beq_eq_false_iff_ne]; omega
  rcases hp with h | h
  all_goals
    go_enter Tryz.func296, Tryz.ntmps296
    go_wp2
    go_ret2
    exact ⟨rfl, rfl⟩
set_option maxRecDepth 100000 in
set_option maxHeartbeats 1000000 in
theorem exact_wtwo (d F k b off cap t t2 f : Nat) (R : Nat) (w : World) (hi : w.cell? ⟨15, 0, none⟩ = some (.int .u64 52)) (hd : d < 4503599627370496) (hF : floatOfInt .f64 (d : Int) = F) (hp0 : 0 < k) (hp1 : k ≤ 15)
    (hv : w.cell? ⟨18, 0, none⟩ = some (.slice (some ⟨b, off, none⟩) 23 cap)) (hc : w.cell? ⟨b, off + k, none⟩ = some (.float .f64 t)) (hc2 : w.cell? ⟨b, off + 22, none⟩ = some (.float .f64 t2)) (hm : Ieee.double.mul F t = some f) (hm2 : Ieee.double.mul f t2 = some R)
    (g1 : (FloatKind.f64.format.order f 4831355200913801216 == some .gt) = false) (g2 : (FloatKind.f64.format.order f 14054727237768577024 == some .lt) = false) :
    Calls Tryz.prog 296 #[.int .u64 (d : Int), .int .i64 (k + 22 : Nat), .bool false] w fun r w' => r = .returned (.tuple #[.float .f64 R, .bool true]) ∧ w' = w := by
  have hz : ((d : Int) / 4503599627370496 != 0) = false := by rw [bne_eq_false_iff_eq]; omega
  have hmm : ∀ ty w, (binOp .mul ty (.float .f64 F) (.float .f64 t)).run Tryz.prog w = .ok (.float .f64 f) w := fun ty w => run_float_arith w .mul ty .f64 _ _ f hm
  have hmm2 : ∀ ty w, (binOp .mul ty (.float .f64 f) (.float .f64 t2)).run Tryz.prog w = .ok (.float .f64 R) w := fun ty w => run_float_arith w .mul ty .f64 _ _ R hm2
  clear hm hm2
  go_enter Tryz.func296, Tryz.ntmps296
  go_wp2
  go_ret2
  exact ⟨rfl, rfl⟩
set_option maxRecDepth 100000 in
set_option maxHeartbeats 1000000 in
theorem exact_wtwo_no (d F k b off cap t f : Nat) (w : World) (hi : w.cell? ⟨15, 0, none⟩ = some (.int .u64 52)) (hd : d < 4503599627370496) (hF : floatOfInt .f64 (d : Int) = F) (hp0 : 0 < k) (hp1 : k ≤ 15)
    (hv : w.cell? ⟨18, 0, none⟩ = some (.slice (some ⟨b, off, none⟩) 23 cap)) (hc : w.cell? ⟨b, off + k, none⟩ = some (.float .f64 t)) (hm : Ieee.double.mul F t = some f)
    (g1 : (FloatKind.f64.format.order f 4831355200913801216 == some .gt) = true) :
    Calls Tryz.prog 296 #[.int .u64 (d : Int), .int .i64 (k + 22 : Nat), .bool false] w fun r w' => r = .returned (.tuple #[.float .f64 f, .bool false]) ∧ w' = w := by
  have hz : ((d : Int) / 4503599627370496 != 0) = false := by rw [bne_eq_false_iff_eq]; omega
  have hmm : ∀ ty w, (binOp .mul ty (.float .f64 F) (.float .f64 t)).run Tryz.prog w = .ok (.float .f64 f) w := fun ty w => run_float_arith w .mul ty .f64 _ _ f hm
  clear hm
  go_enter Tryz.func296, Tryz.ntmps296
  go_wp2
  go_ret2
  exact ⟨rfl, rfl⟩
theorem ord_neg (f : Nat) (h : f ≤ 9218868437227405312) : (FloatKind.f64.format.order f 14054727237768577024 == some .lt) = false := by
  rcases Nat.lt_or_eq_of_le h with h1 | h1
  · have e : FloatKind.f64.format.order f 14054727237768577024 = some (compare (f : Int) (-(4831355200913801216 : Int))) := by
      have := order_key false true f 4831355200913801216 h1 (by decide)
      rw [wd_false, wd_true, key_false, key_true] at this
      exact this
    rw [e, cmp_gt (by omega)]
    rfl
  · subst h1; decide +kernel
theorem ord_15 (f : Nat) (h : f ≤ 9218868437227405312) : (FloatKind.f64.format.order f 4831355200913801216 == some .gt) = decide (4831355200913801216 < f) := by
  rcases Nat.lt_or_eq_of_le h with h1 | h1
  · have e : FloatKind.f64.format.order f 4831355200913801216 = some (compare (f : Int) ((4831355200913801216 : Nat) : Int)) := order_pos f 4831355200913801216 h1 (by decide)
    rw [e]
    rcases Nat.lt_trichotomy f 4831355200913801216 with h2 | h2 | h2
    · rw [cmp_lt (by omega), decide_eq_false (by omega)]; rfl
    · subst h2; rw [cmp_eq, decide_eq_false (by omega)]; rfl
    · rw [cmp_gt (by omega), decide_eq_true h2]; rfl
  · subst h1; decide +kernel
set_option maxHeartbeats 1000000 in
/-- **atof64exact: where it answers, it answers the nearest word.** -/
theorem exact_any (d j : Nat) (hd0 : 0 < d) (hd : d < 18446744073709551616) (w : World) (hT : P10s w) :
    Calls Tryz.prog 296 #[.int .u64 (d : Int), .int .i64 ((j : Int) - 400), .bool false] w fun r w' => ∃ f ok, r = .returned (.tuple #[.float .f64 f, .bool ok]) ∧ (ok = true → ∃ R, DecNear d j R ∧ f = min R 9218868437227405312) ∧ w' = w := by
  obtain ⟨hi, b, off, cap, hv, hc⟩ := hT
  rcases Nat.lt_or_ge d 4503599627370496 with hlt | hge
  · obtain ⟨M, L, hN, hL⟩ := norm_small (n := d) (by omega) (by omega)
    have hF := foi d M L hN (by omega)
    have hMl := hN.M_lt
    have hFle : rungI M L ≤ 9218868437227405312 := Nat.le_of_lt (rungI_lt hMl (by omega))
    rcases Nat.lt_trichotomy j 400 with h | h | h
    · obtain ⟨k, hk⟩ : ∃ k, k = 400 - j := ⟨_, rfl⟩
      rcases Nat.lt_or_ge 22 k with h22 | h22
      · refine (exact_wfar d _ ((j : Int) - 400) w hi hlt hF (by omega)).mono ?_
        rintro r w' ⟨rfl, rfl⟩
        exact ⟨_, false, rfl, (fun h => nomatch h), rfl⟩
      · obtain ⟨R, hR, hm⟩ := exact_down hN (show L ≤ 1023 by omega) h22 (by omega)
        rw [show (j : Int) - 400 = -(k : Int) by omega]
        refine (exact_wdn d _ k b off cap _ _ w hi hlt hF (by omega) h22 hv (hc k h22) hm).mono ?_
        rintro r w' ⟨rfl, rfl⟩
        refine ⟨_, true, rfl, fun _ => ⟨R, ?_, rfl⟩, rfl⟩
        rw [show j = 400 - k by omega]
        exact hR
    · subst h
      obtain ⟨R, hR, hm⟩ := exact_zero hN (show L ≤ 1023 by omega)
      refine (exact_w0 d _ w hi hlt hF).mono ?_
      rintro r w' ⟨rfl, rfl⟩
      exact ⟨_, true, rfl, fun _ => ⟨R, hR, hm⟩, rfl⟩
    · obtain ⟨k, hk⟩ : ∃ k, k = j - 400 := ⟨_, rfl⟩
      rcases Nat.lt_or_ge 22 k with h22 | h22
      · rcases Nat.lt_or_ge 37 k with h37 | h37
        · refine (exact_wfar d _ ((j : Int) - 400) w hi hlt hF (by omega)).mono ?_
          rintro r w' ⟨rfl, rfl⟩
          exact ⟨_, false, rfl, (fun h => nomatch h), rfl⟩
        · obtain ⟨k', hk'⟩ : ∃ k', k = k' + 22 := ⟨k - 22, by omega⟩
          obtain ⟨f, hm, hf, hrest⟩ := exact_two hN (show L ≤ 1023 by omega) (show k' ≤ 22 by omega)
          rw [show (j : Int) - 400 = ((k' + 22 : Nat) : Int) by omega]
          rcases Nat.lt_or_ge 4831355200913801216 f with hgt | hle
          · refine (exact_wtwo_no d _ k' b off cap _ f w hi hlt hF (by omega) (by omega) hv (hc k' (by omega)) hm (by rw [ord_15 f hf]; exact decide_eq_true hgt)).mono ?_
            rintro r w' ⟨rfl, rfl⟩
            exact ⟨_, false, rfl, (fun h => nomatch h), rfl⟩
          · obtain ⟨R, hR, hm2⟩ := hrest hle
            refine (exact_wtwo d _ k' b off cap _ _ f _ w hi hlt hF (by omega) (by omega) hv (hc k' (by omega)) (hc 22 (by omega)) hm hm2 (by rw [ord_15 f hf]; exact decide_eq_false (by omega)) (ord_neg f hf)).mono ?_
            rintro r w' ⟨rfl, rfl⟩
            refine ⟨_, true, rfl, fun _ => ⟨R, ?_, rfl⟩, rfl⟩
            rw [show j = 400 + (k' + 22) by omega]
            exact hR
      · rw [show (j : Int) - 400 = (k : Int) by omega]
        rcases Nat.lt_or_ge 4831355200913801216 (rungI M L) with hgt | hle
        · refine (exact_wno d _ k b off cap w hi hlt hF (by omega) h22 (by rw [ord_15 _ hFle]; exact decide_eq_true hgt)).mono ?_
          rintro r w' ⟨rfl, rfl⟩
          exact ⟨_, false, rfl, (fun h => nomatch h), rfl⟩
        · obtain ⟨R, hR, hm⟩ := exact_up hN (show L ≤ 1023 by omega) h22
          refine (exact_wup d _ k b off cap _ _ w hi hlt hF (by omega) h22 hv (hc k h22) hm (by rw [ord_15 _ hFle]; exact decide_eq_false (by omega)) (ord_neg _ hFle)).mono ?_
          rintro r w' ⟨rfl, rfl⟩
          refine ⟨_, true, rfl, fun _ => ⟨R, ?_, rfl⟩, rfl⟩
          rw [show j = 400 + k by omega]
          exact hR
  · refine (exact_big d _ w hi hge hd).mono ?_
    rintro r w' ⟨rfl, rfl⟩
    exact ⟨_, false, rfl, (fun h => nomatch h), rfl⟩
end Go.Proofs.YtellndmbllmjgaaGreatDoor
/- Digits as bytes, and what they count. -/
set_option linter.unusedVariables false
namespace Go.Proofs.YtellndmbllmjgaaGreatDoor
namespace Fs

/-- What digits count. -/
def vD (l : List Nat) : Nat := l.foldl (fun a c => a * 10 + (c - 48)) 0
/-- Digits alone. -/
def Dig (l : List Nat) : Prop := ∀ c ∈ l, 48 ≤ c ∧ c < 58
theorem vD_from (l : List Nat) : ∀ a : Nat, l.foldl (fun a c => a * 10 + (c - 48)) a = a * 10 ^ l.length + vD l := by
  induction l with
  | nil => intro a; simp [vD]
  | cons c l ih =>
    intro a
    have h1 := ih (a * 10 + (c - 48))
    have h2 := ih (0 * 10 + (c - 48))
    unfold vD
    rw [List.foldl_cons, List.foldl_cons, h1, h2, List.length_cons, Nat.pow_succ]
    grind
theorem vD_nil : vD [] = 0 := rfl
theorem vD_append (l m : List Nat) : vD (l ++ m) = vD l * 10 ^ m.length + vD m := by
  have : vD (l ++ m) = m.foldl (fun a c => a * 10 + (c - 48)) (vD l) := by unfold vD; rw [List.foldl_append]
  rw [this, vD_from]
theorem vD_one (c : Nat) : vD [c] = c - 48 := by simp [vD]
theorem vD_snoc (l : List Nat) (c : Nat) : vD (l ++ [c]) = vD l * 10 + (c - 48) := by rw [vD_append, vD_one]; simp
theorem vD_cons (c : Nat) (l : List Nat) : vD (c :: l) = (c - 48) * 10 ^ l.length + vD l := by
  have := vD_append [c] l
  rwa [vD_one, List.singleton_append] at this
theorem Dig.append {l m : List Nat} (h1 : Dig l) (h2 : Dig m) : Dig (l ++ m) := fun c hc => (List.mem_append.1 hc).elim (h1 c) (h2 c)
theorem Dig.right {l m : List Nat} (h : Dig (l ++ m)) : Dig m := fun c hc => h c (List.mem_append.2 (Or.inr hc))
theorem Dig.take {l : List Nat} (h : Dig l) (k : Nat) : Dig (l.take k) := fun c hc => h c (List.mem_of_mem_take hc)
theorem Dig.drop {l : List Nat} (h : Dig l) (k : Nat) : Dig (l.drop k) := fun c hc => h c (List.mem_of_mem_drop hc)
theorem vD_lt : ∀ (l : List Nat), Dig l → vD l < 10 ^ l.length
  | [], _ => by simp [vD]
  | c :: l, h => by
    have h1 := vD_lt l (fun x hx => h x (List.mem_cons_of_mem _ hx))
    have h2 := h c (List.mem_cons_self ..)
    rw [vD_cons, List.length_cons, Nat.pow_succ]
    have h3 : (c - 48) * 10 ^ l.length ≤ 9 * 10 ^ l.length := Nat.mul_le_mul_right _ (by omega)
    omega
theorem vD_ge (c : Nat) (l : List Nat) (h : 48 < c) : 10 ^ l.length ≤ vD (c :: l) := by
  rw [vD_cons]
  have h3 : 1 * 10 ^ l.length ≤ (c - 48) * 10 ^ l.length := Nat.mul_le_mul_right _ (by omega)
  omega
/-- The digits of a number. -/
theorem decN_small {d : Nat} (h : d < 10) : decN d = [48 + d] := by
  unfold decN
  rw [Lib.decDigits, dif_pos h]
  simp only [List.map_cons, List.map_nil, UInt8.toNat_ofNat']
  congr 1
  omega
theorem decN_big {d : Nat} (h : ¬ d < 10) : decN d = decN (d / 10) ++ [48 + d % 10] := by
  unfold decN
  conv => lhs; rw [Lib.decDigits, dif_neg h]
  simp only [List.map_append, List.map_cons, List.map_nil, UInt8.toNat_ofNat']
  congr 2
  omega
theorem vD_decN (d : Nat) : vD (decN d) = d := by
  induction d using Nat.strongRecOn with
  | ind d ih =>
    by_cases h : d < 10
    · rw [decN_small h, vD_one]; omega
    · rw [decN_big h, vD_snoc, ih (d / 10) (by omega)]
      omega
theorem dig_decN (d : Nat) : Dig (decN d) := by
  induction d using Nat.strongRecOn with
  | ind d ih =>
    by_cases h : d < 10
    · rw [decN_small h]
      intro c hc
      have := List.mem_singleton.1 hc
      omega
    · rw [decN_big h]
      refine (ih (d / 10) (by omega)).append ?_
      intro c hc
      have := List.mem_singleton.1 hc
      omega
end Fs
end Go.Proofs.YtellndmbllmjgaaGreatDoor
/- Texts of a list: pieces and signs; noughts behind a number. -/
set_option linter.unusedVariables false
namespace Go.Proofs.YtellndmbllmjgaaGreatDoor
open Go.RowKit Go.Shelf Go.Sort Fs Fl

theorem txt_get (l : List Nat) (k c : Nat) (hl : l[k]? = some c) (hc : c < 256) : ∀ h : k < (txt l).size, ((txt l)[k]'h).toNat = c := by
  intro h
  have h2 : k < l.length := by rw [txt_size] at h; exact h
  have e1 : (txt l)[k]'h = UInt8.ofNat (l[k]) := by
    show (txt l).data[k] = _
    simp [txt]
  rw [e1]
  rw [List.getElem?_eq_getElem h2] at hl
  rw [Option.some.inj hl, UInt8.toNat_ofNat', Nat.mod_eq_of_lt hc]
end Go.Proofs.YtellndmbllmjgaaGreatDoor
/- The walks of special and readFloat. -/
set_option linter.unusedVariables false
namespace Go.Proofs.YtellndmbllmjgaaGreatDoor
open Go.RowKit Go.Shelf Go.Sort Fs Fl

set_option maxRecDepth 100000 in
set_option maxHeartbeats 1000000 in
theorem special_no (S : ByteArray) (hs : 0 < S.size) (h0 : ∀ h : 0 < S.size, (S[0]'h).toNat = 48) (w : World) :
    Calls Tryz.prog 286 #[.string S] w fun r w' => r = .returned (.tuple #[.float .f64 0, .int .i64 0, .bool false]) ∧ w' = w := by
  have h1 := h0 hs
  have hs1 : (0 : Int) < (S.size : Int) := by omega
  have hs2 : ((S.size : Int) == 0) = false := by rw [beq_eq_false_iff_ne]; omega
  clear h0
  go_enter Tryz.func286, Tryz.ntmps286
  go_wp2
  go_ret3
  exact ⟨rfl, rfl⟩
inductive Rf2 (X : List Nat) (p0 : Nat) : Value → Value → Prop
  | mk (t q v : Nat) (ht : t ≤ X.length) (hq : q = p0 + t) (hv : v = vD (X.take t)) (hv2 : v < 1000) : Rf2 X p0 (.int .i64 (q : Int)) (.int .i64 (v : Int))
theorem vD_first (D : List Nat) (hD : Dig D) (h0 : 0 < D.length) (hf : D[0]? ≠ some 48) (j : Nat) (hj : 0 < j) : 0 < vD (D.take j) := by
  cases D with
  | nil => simp at h0
  | cons c l =>
    obtain ⟨j', rfl⟩ : ∃ j', j = j' + 1 := ⟨j - 1, by omega⟩
    have hc := hD c (by simp)
    have hn : c ≠ 48 := fun h => hf (by simp [h])
    have := vD_ge c (l.take j') (by omega)
    have hp : 0 < 10 ^ (l.take j').length := Nat.pow_pos (by decide)
    rw [List.take_succ_cons]
    omega
theorem results_tmp7 {fn : Func} {a b c d e f g : Tmp} (h : fn.results = #[.tmp a, .tmp b, .tmp c, .tmp d, .tmp e, .tmp f, .tmp g]) (tmps : Array Value) (P : Program) (w : World) :
    (results fn tmps).run P w = .ok (.tuple #[tmps.getD a undef, tmps.getD b undef, tmps.getD c undef, tmps.getD d undef, tmps.getD e undef, tmps.getD f undef, tmps.getD g undef]) w := by
  simp [results, h]
end Go.Proofs.YtellndmbllmjgaaGreatDoor
/- The walks of atof64 and both ParseFloats. -/
set_option linter.unusedVariables false
namespace Go.Proofs.YtellndmbllmjgaaGreatDoor
open Go.RowKit Go.Shelf Go.Sort Fs Fl

/-- What reading needs of the world. -/
structure RLaid (w : World) : Prop where
  laid : Laid w
  p10s : P10s w
  opt : w.cell? ⟨7, 0, none⟩ = some (.bool true)
  err : ∃ te pe, w.cell? ⟨9, 0, none⟩ = some (.iface te pe)
theorem below_cell {w w' : World} (hb : Below w.heap.size w w') {b j : Nat} {v : Value} (h : w.cell? ⟨b, j, none⟩ = some v) : w'.cell? ⟨b, j, none⟩ = some v := (hb.cell (p := ⟨b, j, none⟩) (cell_block h)).trans h
theorem RLaid.below {w w' : World} (h : RLaid w) (hb : Below w.heap.size w w') : RLaid w' := by
  obtain ⟨h1, b, off, cap, h2, h3⟩ := h.p10s
  obtain ⟨te, pe, h4⟩ := h.err
  exact ⟨h.laid.below hb, ⟨below_cell hb h1, b, off, cap, below_cell hb h2, fun k hk => below_cell hb (h3 k hk)⟩, below_cell hb h.opt, te, pe, below_cell hb h4⟩
set_option maxRecDepth 100000 in
set_option maxHeartbeats 1000000 in
theorem prefix_of (S : ByteArray) (P : Nat → Value → Prop) (w : World) (h : Calls Tryz.prog 284 #[.string S] w fun r w' => ∃ F err, P F err ∧ r = .returned (.tuple #[.float .f64 F, .int .i64 (S.size : Int), err]) ∧ Below w.heap.size w w') :
    Calls Tryz.prog 275 #[.string S, .int .i64 64] w fun r w' => ∃ F err, P F err ∧ r = .returned (.tuple #[.float .f64 F, .int .i64 (S.size : Int), err]) ∧ Below w.heap.size w w' := by
  generalize (S.size : Int) = NN at *
  go_enter Tryz.func275, Tryz.ntmps275
  go_wp2_with (first | (go_at_call 284; refine h.mono ?_; rintro e w1 ⟨F, err, hP, rfl, hb⟩; have HP : Hid (P F err) := hP; clear hP))
  go_ret3
  exact ⟨F, err, HP.out, rfl, hb⟩
set_option maxRecDepth 100000 in
set_option maxHeartbeats 1000000 in
theorem parse_of (S : ByteArray) (hs : S.size ≤ 100000) (P : Nat → Value → Prop) (w : World) (h : Calls Tryz.prog 275 #[.string S, .int .i64 64] w fun r w' => ∃ F err, P F err ∧ r = .returned (.tuple #[.float .f64 F, .int .i64 (S.size : Int), err]) ∧ Below w.heap.size w w') :
    Calls Tryz.prog 238 #[.string S, .int .i64 64] w fun r w' => ∃ F err, P F err ∧ r = .returned (.tuple #[.float .f64 F, err]) ∧ Below w.heap.size w w' := by
  go_enter Tryz.func238, Tryz.ntmps238
  go_wp2_with (first | (go_at_call 275; refine h.mono ?_; rintro e w1 ⟨F, err, hP, rfl, hb⟩; have HP : Hid (P F err) := hP; clear hP))
  go_ret2
  exact ⟨F, err, HP.out, rfl, hb⟩
set_option maxRecDepth 100000 in
set_option maxHeartbeats 1000000 in
theorem public_of (S : ByteArray) (hs : S.size ≤ 100000) (P : Nat → Prop) (w : World) (hL : RLaid w) (h : Calls Tryz.prog 238 #[.string S, .int .i64 64] w fun r w' => ∃ F err, (P F ∧ (err = .nilIface ∨ err = .iface 182 (.int .i64 1))) ∧ r = .returned (.tuple #[.float .f64 F, err]) ∧ Below w.heap.size w w') :
    Calls Tryz.prog 193 #[.string S, .int .i64 64] w fun r w' => ∃ F err, P F ∧ r = .returned (.tuple #[.float .f64 F, err]) ∧ Below w.heap.size w w' := by
  have HL : Hid (RLaid w) := hL
  clear hL
  go_enter Tryz.func193, Tryz.ntmps193
  go_wp2_with (first | (go_at_call 238; fail))
  refine h.mono ?_
  rintro e w1 ⟨F, err, ⟨hP, herr⟩, rfl, hb⟩
  have HP : Hid (P F) := hP
  clear hP h
  rcases herr with rfl | rfl
  · go_wp2
    go_ret2
    exact ⟨F, _, HP.out, rfl, hb⟩
  · obtain ⟨te, pe, hev⟩ := (HL.out.below hb).err
    have ct := Tryz.strconv_toError_range ⟨#[80, 97, 114, 115, 101, 70, 108, 111, 97, 116]⟩ S 0 64 _ w1 (by omega) hev (.inr ⟨te, pe, rfl⟩)
    clear hev
    go_wp2_with (first | (go_at_call 121; refine ct.mono ?_; rintro e w2 ⟨Nn, rfl, hN1, hN2, hb2⟩; clear hN1 hN2))
    go_ret2
    exact ⟨F, _, HP.out, rfl, hb.trans (hb2.mono hb.size)⟩
end Go.Proofs.YtellndmbllmjgaaGreatDoor
/- Plain mathematics for units: no program in sight. -/
namespace Go.Proofs.YtellndmbllmjgaaGreatDoor.Ut
namespace Un

/-- The bytes of a code point, or of a half that stands alone. -/
def encR (r : Nat) : List Nat :=
  if r < 128 then [r]
  else if r < 2048 then [192 + r / 64, 128 + r % 64]
  else if r < 65536 then [224 + r / 4096, 128 + r / 64 % 64, 128 + r % 64]
  else [240 + r / 262144, 128 + r / 4096 % 64, 128 + r / 64 % 64, 128 + r % 64]

def isF (r : Nat) : Bool := decide (55296 ≤ r) && decide (r < 56320)
def isS (r : Nat) : Bool := decide (56320 ≤ r) && decide (r < 57344)

/-- The code points of units. -/
def pts : List Nat → List Nat
  | [] => []
  | [u] => [u]
  | u :: v :: t => if isF u && isS v then (65536 + (u - 55296) * 1024 + v - 56320) :: pts t else u :: pts (v :: t)

/-- The units of a code point. -/
def unR (r : Nat) : List Nat := if r < 65536 then [r] else [55296 + (r - 65536) / 1024, 56320 + (r - 65536) % 1024]

theorem pts_lt : ∀ (l : List Nat), (∀ u ∈ l, u < 65536) → ∀ r ∈ pts l, r ≤ 1114111
  | [], _ => by simp [pts]
  | [u], h => by
    have := h u (by simp)
    simp [pts]; omega
  | u :: v :: t, h => by
    unfold pts
    split
    · rename_i hh
      simp only [isF, isS, Bool.and_eq_true, decide_eq_true_eq] at hh
      intro r hr
      rcases List.mem_cons.1 hr with hr | hr
      · rw [hr]; omega
      · exact pts_lt t (fun x hx => h x (by simp [hx])) r hr
    · intro r hr
      rcases List.mem_cons.1 hr with rfl | hr
      · have := h r (by simp); omega
      · exact pts_lt (v :: t) (fun x hx => h x (by simp at hx ⊢; exact .inr hx)) r hr

theorem encR_lt (r : Nat) (h : r ≤ 1114111) : ∀ b ∈ encR r, b < 256 := by
  unfold encR
  intro b hb
  repeat' split at hb
  all_goals simp only [List.mem_cons, List.not_mem_nil, or_false] at hb
  all_goals omega

theorem encR_len (r : Nat) : 1 ≤ (encR r).length ∧ (encR r).length ≤ 4 := by
  unfold encR
  repeat' split
  all_goals simp

/-- What stands at the front of four bytes (n: how many bytes there are), with the halves looked for. -/
def pointN (n b0 b1 b2 b3 : Nat) : Nat × Nat :=
  if Lib.decodeN n b0 b1 b2 b3 = (65533, 1) ∧ 3 ≤ n ∧ b0 = 237 ∧ b1 / 32 = 5 ∧ b2 / 64 = 2 then (55296 + b1 % 32 * 64 + b2 % 64, 3) else Lib.decodeN n b0 b1 b2 b3

end Un
end Go.Proofs.YtellndmbllmjgaaGreatDoor.Ut
/- The walk of appendText: a code point, or a half that stands alone, goes in behind the bytes that a row owns. -/
set_option linter.unusedVariables false
namespace Go.Proofs.YtellndmbllmjgaaGreatDoor.Ut
open Go.RowKit
theorem info5 : (Tryz.prog.info? 5).map (fun i => (i.zero, i.size, i.bytes)) = some (some (.int .u8 0), 1, 1) := by kernel_rfl
theorem info24 : (Tryz.prog.info? 58).map (fun i => (i.zero, i.size, i.bytes)) = some (some (.int .u16 0), 1, 2) := by kernel_rfl

theorem i32_and63 (x : Int) (h0 : 0 ≤ x) (h1 : x < 2147483648) : bits .and .i32 x 63 = x % 64 := bits_mask .i32 31 (by decide) wraps_i32 6 (by decide) x h0 h1
theorem or224 (q : Int) (h0 : 0 ≤ q) (h1 : q < 16) : bits .or .i32 224 q % 256 = 224 + q := by
  rw [bits_join .i32 31 (by decide) wraps_i32 5 224 q (by decide) (by decide) (by decide) h0 (by omega) (by omega)]
  omega
theorem or128 (x : Int) (h0 : 0 ≤ x) (h1 : x < 2147483648) : bits .or .i32 128 (bits .and .i32 x 63) % 256 = 128 + x % 64 := by
  rw [i32_and63 x h0 h1, bits_join .i32 31 (by decide) wraps_i32 6 128 (x % 64) (by decide) (by decide) (by decide) (by omega) (by omega) (by omega)]
  omega

/-- New cells, as a list. -/
theorem cells_new (w : World) (l : List Value) (t : TypeId) : ∀ j u, l[j]? = some u → (w.alloc (.cells l.toArray t)).cell? ((⟨w.heap.size, 0, none⟩ : Addr).add j) = some u := by
  intro j u hj
  have e : ((⟨w.heap.size, 0, none⟩ : Addr).add j) = ⟨w.heap.size, j, none⟩ := by
    unfold Addr.add
    split <;> simp_all
  rw [e]
  have h := heap_alloc_new w (Obj.cells l.toArray t)
  simp only [World.cell?, h]
  simpa using hj
theorem one_ints (k : IntKind) (l : List Int) : ∀ u ∈ l.map (Value.int k), u.oneCell' = true := by
  intro u hu
  obtain ⟨x, _, rfl⟩ := List.mem_map.1 hu
  rfl

set_option maxHeartbeats 1000000 in
set_option maxRecDepth 100000 in
theorem app_half (B : Nat) (v : Value) (n : Nat) (xs : List Value) (r : Int) (h0 : 55296 ≤ r) (h1 : r < 57344) (w : World) (hown : w.ownsRow B 5 1 v n xs) (hlen : n + 4 ≤ 140737488355328) (hBw : B ≤ w.heap.size) :
    Calls Tryz.prog 138 #[v, .int .i32 r] w fun e w' => ∃ v', e = .returned v' ∧ w'.ownsRow B 5 1 v' (n + 3) (xs ++ [.int .u8 (224 + r / 4096), .int .u8 (128 + r / 64 % 64), .int .u8 (128 + r % 64)]) ∧ ∃ o, (w.alloc o).grownBy w' v.ownBlock := by
  obtain ⟨i0, hi, hz0, hz1, hz2⟩ := info_parts info5
  have b1 := or224 (r / 4096) (by omega) (by omega)
  have b2 := or128 (r / 64) (by omega) (by omega)
  have b3 := or128 r (by omega) (by omega)
  have q3 : n + 3 ≤ maxLen := by unfold maxLen; omega
  by_cases hf : r < 56320
  all_goals
    go_enter Tryz.func138, Tryz.ntmps138
    go_wp2_with (first | (at_builtin; refine wpList_append_own _ rfl _ _ 92 rfl B 5 i0 (.int .u8 0) 1 1 Tryz.underlying92 hi hz0 hz1 hz2 rfl (by decide) _ _ _ rfl (hown.alloc _) ⟨w.heap.size, 0, none⟩ 3 3 [.int .u8 (224 + r / 4096), .int .u8 (128 + r / 64 % 64), .int .u8 (128 + r % 64)] rfl rfl (cells_new w [.int .u8 (224 + r / 4096), .int .u8 (128 + r / 64 % 64), .int .u8 (128 + r % 64)] 5) (one_ints .u8 [224 + r / 4096, 128 + r / 64 % 64, 128 + r % 64]) q3 (by omega) (by simp; omega) ?_; intro v' w2 hown' hgrow _) | go_in)
    go_ret
    exact ⟨_, rfl, hown', _, hgrow⟩

set_option maxHeartbeats 1000000 in
set_option maxRecDepth 100000 in
theorem app_one (B : Nat) (v : Value) (n : Nat) (xs : List Value) (r : Int) (h0 : 0 ≤ r) (h1 : r < 128) (w : World) (hown : w.ownsRow B 5 1 v n xs) (hlen : n + 4 ≤ 140737488355328) (hBw : B ≤ w.heap.size) :
    Calls Tryz.prog 138 #[v, .int .i32 r] w fun e w' => ∃ v', e = .returned v' ∧ w'.ownsRow B 5 1 v' (n + 1) (xs ++ [.int .u8 r]) ∧ ∃ o, (w.alloc o).grownBy w' v.ownBlock := by
  obtain ⟨i0, hi, hz0, hz1, hz2⟩ := info_parts info5
  have q3 : n + 1 ≤ maxLen := by unfold maxLen; omega
  go_enter Tryz.func138, Tryz.ntmps138
  go_wp2_with (first | (at_builtin; refine wpList_append_own _ rfl _ _ 92 rfl B 5 i0 (.int .u8 0) 1 1 Tryz.underlying92 hi hz0 hz1 hz2 rfl (by decide) _ _ _ rfl (hown.alloc _) ⟨w.heap.size, 0, none⟩ 1 1 [.int .u8 r] rfl rfl (cells_new w [.int .u8 r] 5) (one_ints .u8 [r]) q3 (by omega) (by simp; omega) ?_; intro v' w2 hown' hgrow _) | go_in)
  go_ret
  exact ⟨_, rfl, hown', _, hgrow⟩

set_option maxHeartbeats 1000000 in
set_option maxRecDepth 100000 in
theorem app_two (B : Nat) (v : Value) (n : Nat) (xs : List Value) (r : Int) (h0 : 128 ≤ r) (h1 : r < 2048) (w : World) (hown : w.ownsRow B 5 1 v n xs) (hlen : n + 4 ≤ 140737488355328) (hBw : B ≤ w.heap.size) :
    Calls Tryz.prog 138 #[v, .int .i32 r] w fun e w' => ∃ v', e = .returned v' ∧ w'.ownsRow B 5 1 v' (n + 2) (xs ++ [.int .u8 (192 + r / 64), .int .u8 (128 + r % 64)]) ∧ ∃ o, (w.alloc o).grownBy w' v.ownBlock := by
  obtain ⟨i0, hi, hz0, hz1, hz2⟩ := info_parts info5
  have q3 : n + 2 ≤ maxLen := by unfold maxLen; omega
  go_enter Tryz.func138, Tryz.ntmps138
  go_wp2_with (first | (at_builtin; refine wpList_append_own _ rfl _ _ 92 rfl B 5 i0 (.int .u8 0) 1 1 Tryz.underlying92 hi hz0 hz1 hz2 rfl (by decide) _ _ _ rfl (hown.alloc _) ⟨w.heap.size, 0, none⟩ 2 2 [.int .u8 (192 + r / 64), .int .u8 (128 + r % 64)] rfl rfl (cells_new w [.int .u8 (192 + r / 64), .int .u8 (128 + r % 64)] 5) (one_ints .u8 [192 + r / 64, 128 + r % 64]) q3 (by omega) (by simp; omega) ?_; intro v' w2 hown' hgrow _) | go_in)
  go_ret
  exact ⟨_, rfl, hown', _, hgrow⟩

set_option maxHeartbeats 1000000 in
set_option maxRecDepth 100000 in
theorem app_three (B : Nat) (v : Value) (n : Nat) (xs : List Value) (r : Int) (hr : (2048 ≤ r ∧ r < 55296) ∨ (57343 < r ∧ r ≤ 65535)) (w : World) (hown : w.ownsRow B 5 1 v n xs) (hlen : n + 4 ≤ 140737488355328) (hBw : B ≤ w.heap.size) :
    Calls Tryz.prog 138 #[v, .int .i32 r] w fun e w' => ∃ v', e = .returned v' ∧ w'.ownsRow B 5 1 v' (n + 3) (xs ++ [.int .u8 (224 + r / 4096), .int .u8 (128 + r / 64 % 64), .int .u8 (128 + r % 64)]) ∧ ∃ o, (w.alloc o).grownBy w' v.ownBlock := by
  obtain ⟨i0, hi, hz0, hz1, hz2⟩ := info_parts info5
  have q3 : n + 3 ≤ maxLen := by unfold maxLen; omega
  rcases hr with ⟨h0, h1⟩ | ⟨h0, h1⟩
  all_goals
    go_enter Tryz.func138, Tryz.ntmps138
    go_wp2_with (first | (at_builtin; refine wpList_append_own _ rfl _ _ 92 rfl B 5 i0 (.int .u8 0) 1 1 Tryz.underlying92 hi hz0 hz1 hz2 rfl (by decide) _ _ _ rfl (hown.alloc _) ⟨w.heap.size, 0, none⟩ 3 3 [.int .u8 (224 + r / 4096), .int .u8 (128 + r / 64 % 64), .int .u8 (128 + r % 64)] rfl rfl (cells_new w [.int .u8 (224 + r / 4096), .int .u8 (128 + r / 64 % 64), .int .u8 (128 + r % 64)] 5) (one_ints .u8 [224 + r / 4096, 128 + r / 64 % 64, 128 + r % 64]) q3 (by omega) (by simp; omega) ?_; intro v' w2 hown' hgrow _) | go_in)
    go_ret
    exact ⟨_, rfl, hown', _, hgrow⟩

set_option maxHeartbeats 1000000 in
set_option maxRecDepth 100000 in
theorem app_four (B : Nat) (v : Value) (n : Nat) (xs : List Value) (r : Int) (h0 : 65535 < r) (h1 : r ≤ 1114111) (w : World) (hown : w.ownsRow B 5 1 v n xs) (hlen : n + 4 ≤ 140737488355328) (hBw : B ≤ w.heap.size) :
    Calls Tryz.prog 138 #[v, .int .i32 r] w fun e w' => ∃ v', e = .returned v' ∧ w'.ownsRow B 5 1 v' (n + 4) (xs ++ [.int .u8 (240 + r / 262144), .int .u8 (128 + r / 4096 % 64), .int .u8 (128 + r / 64 % 64), .int .u8 (128 + r % 64)]) ∧ ∃ o, (w.alloc o).grownBy w' v.ownBlock := by
  obtain ⟨i0, hi, hz0, hz1, hz2⟩ := info_parts info5
  have q3 : n + 4 ≤ maxLen := by unfold maxLen; omega
  go_enter Tryz.func138, Tryz.ntmps138
  go_wp2_with (first | (at_builtin; refine wpList_append_own _ rfl _ _ 92 rfl B 5 i0 (.int .u8 0) 1 1 Tryz.underlying92 hi hz0 hz1 hz2 rfl (by decide) _ _ _ rfl (hown.alloc _) ⟨w.heap.size, 0, none⟩ 4 4 [.int .u8 (240 + r / 262144), .int .u8 (128 + r / 4096 % 64), .int .u8 (128 + r / 64 % 64), .int .u8 (128 + r % 64)] rfl rfl (cells_new w [.int .u8 (240 + r / 262144), .int .u8 (128 + r / 4096 % 64), .int .u8 (128 + r / 64 % 64), .int .u8 (128 + r % 64)] 5) (one_ints .u8 [240 + r / 262144, 128 + r / 4096 % 64, 128 + r / 64 % 64, 128 + r % 64]) q3 (by omega) (by simp; omega) ?_; intro v' w2 hown' hgrow _) | go_in)
  go_ret
  exact ⟨_, rfl, hown', _, hgrow⟩

/-- A byte as a cell. -/
def bv (b : Nat) : Value := .int .u8 (b : Int)
/-- **appendText, at every code point and every half that stands alone.** -/
theorem appendText_any (B : Nat) (v : Value) (n : Nat) (xs : List Value) (r : Nat) (hr : r ≤ 1114111) (w : World) (hown : w.ownsRow B 5 1 v n xs) (hlen : n + 4 ≤ 140737488355328) (hBw : B ≤ w.heap.size) :
    Calls Tryz.prog 138 #[v, .int .i32 (r : Int)] w fun e w' => ∃ v', e = .returned v' ∧ w'.ownsRow B 5 1 v' (n + (Un.encR r).length) (xs ++ (Un.encR r).map bv) ∧ ∃ o, (w.alloc o).grownBy w' v.ownBlock := by
  unfold Un.encR
  by_cases h1 : r < 128
  · rw [if_pos h1]
    exact app_one B v n xs r (by omega) (by omega) w hown hlen hBw
  rw [if_neg h1]
  by_cases h2 : r < 2048
  · rw [if_pos h2]
    exact app_two B v n xs r (by omega) (by omega) w hown hlen hBw
  rw [if_neg h2]
  by_cases h3 : r < 65536
  · rw [if_pos h3]
    by_cases hh : 55296 ≤ r ∧ r < 57344
    · exact app_half B v n xs r (by omega) (by omega) w hown hlen hBw
    · exact app_three B v n xs r (by omega) w hown hlen hBw
  rw [if_neg h3]
  exact app_four B v n xs r (by omega) (by omega) w hown hlen hBw
end Go.Proofs.YtellndmbllmjgaaGreatDoor.Ut
