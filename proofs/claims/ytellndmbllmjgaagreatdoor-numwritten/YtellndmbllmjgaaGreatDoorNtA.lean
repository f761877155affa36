/- zeros, small, dotted, Odd. -/
import Derived.Test.YtellndmbllmjgaaGreatDoorDg1
import Derived.Test.YtellndmbllmjgaaGreatDoorTxA
import Derived.Deep.RegionWith
import Derived.Test.YtellndmbllmjgaaGreatDoorFm2
set_option linter.unusedVariables false
namespace Go.Proofs.YtellndmbllmjgaaGreatDoor
open Go.RowKit Go.Shelf Go.Sort Fs Fl

theorem txt_0 : (⟨#[48]⟩ : ByteArray) = txt [48] := rfl
theorem txt_nil : (⟨#[]⟩ : ByteArray) = txt [] := rfl
set_option maxRecDepth 100000 in
theorem zeros_any (n : Nat) (hn : n ≤ 1000) (w : World) : Calls Tryz.prog 35 #[.int .i64 (n : Int)] w fun e w' => e = .returned (.string (txt (List.replicate n 48))) ∧ w' = w := by
  go_enter Tryz.func35, Tryz.ntmps35
  go_wp2
  go_loopw [3, 4] (fun vs vi wr => ∃ i : Nat, i ≤ n ∧ vs = .string (txt (List.replicate i 48)) ∧ vi = .int .i64 (i : Int) ∧ wr = w) (fun _ vi _ => n - (RowKit.intOf vi).toNat)
  case atStart => exact ⟨0, Nat.zero_le _, rfl, rfl, rfl⟩
  case round =>
    obtain ⟨i, hi, rfl, rfl, rfl⟩ := hrel
    have hsz := txt_size (List.replicate i 48)
    rw [List.length_replicate] at hsz
    have HS : Hid (txt (List.replicate i 48) ++ ⟨#[48]⟩ = txt (List.replicate (i + 1) 48)) := by
      show txt (List.replicate i 48) ++ _ = _
      rw [txt_0, txt_append, List.replicate_succ']
    obtain ⟨S, hS⟩ : ∃ S, S = txt (List.replicate i 48) := ⟨_, rfl⟩
    rw [← hS] at hsz HS ⊢
    have HSS : Hid (S = txt (List.replicate i 48)) := hS
    clear hS
    by_cases h : i < n
    · have k1 : (i : Int) < (n : Int) := by omega
      go_wp2
      refine ⟨⟨i + 1, by omega, by rw [← HS.out], by simp, trivial⟩, ?_⟩
      simp only [RowKit.intOf]
      omega
    · have hin : i = n := by omega
      have k1 : ¬ (i : Int) < (n : Int) := by omega
      have HIN : Hid (i = n) := hin
      clear hin
      go_wp2
      go_ret
      rw [← HIN.out, ← HSS.out]
      exact ⟨rfl, rfl⟩
theorem dotted_one (s : ByteArray) (h : s.size = 1) (w : World) : Calls Tryz.prog 36 #[.string s] w fun e w' => e = .returned (.string s) ∧ w' = w := by
  go_enter Tryz.func36, Tryz.ntmps36
  go_wp2
  go_ret
  exact ⟨rfl, rfl⟩
set_option maxRecDepth 100000 in
theorem dotted_more (s : ByteArray) (h : 1 < s.size) (hs : s.size ≤ 100000) (w : World) : Calls Tryz.prog 36 #[.string s] w fun e w' => e = .returned (.string (s.extract 0 1 ++ ⟨#[46]⟩ ++ s.extract 1 s.size)) ∧ Below w.heap.size w w' := by
  have t1 : ((s.size : Int) == 1) = false := by rw [beq_eq_false_iff_ne]; omega
  have t2 : (1 : Int) ≤ (s.size : Int) := by omega
  go_enter Tryz.func36, Tryz.ntmps36
  go_wp2
  go_quiet (fail)
  go_wp2
  go_ret
  exact ⟨rfl, below_drewN (Below.refl _ _)⟩
/-- **dotted.** -/
theorem dotted_any (D : List Nat) (h1 : 0 < D.length) (h2 : D.length ≤ 1000) (w : World) : Calls Tryz.prog 36 #[.string (txt D)] w fun e w' => e = .returned (.string (txt (ptd D (D.length - 1)))) ∧ Below w.heap.size w w' := by
  by_cases h : D.length = 1
  · have e : ptd D (D.length - 1) = D := by
      unfold ptd padD
      rw [h, if_pos rfl, if_neg (by omega)]
    rw [e]
    refine (dotted_one (txt D) (by rw [txt_size, h]) w).mono ?_
    rintro e w' ⟨rfl, rfl⟩
    exact ⟨rfl, Below.refl _ _⟩
  · have e : ptd D (D.length - 1) = D.take 1 ++ 46 :: D.drop 1 := by
      unfold ptd padD
      rw [if_neg (by omega), if_neg (by omega), show D.length - (D.length - 1) = 1 by omega]
    refine (dotted_more (txt D) (by rw [txt_size]; omega) (by rw [txt_size]; omega) w).mono ?_
    rintro e' w' ⟨rfl, hb⟩
    refine ⟨?_, hb⟩
    rw [e, txt_extract, txt_extract, txt_dot, txt_append, txt_append, txt_size]
    congr 2
    simp
    have e3 : List.take (D.length - 1) D.tail = D.tail := List.take_of_length_le (by rw [List.length_tail]; omega)
    rw [e3]
/-- **small.** -/
theorem small_text (n : Int) (h1 : -2000 ≤ n) (h2 : n ≤ 2000) (w : World) : Calls Tryz.prog 37 #[.int .i64 n] w fun e w' => e = .returned (.string (txt ((if n < 0 then 45 else 43) :: decN n.natAbs))) ∧ Below w.heap.size w w' := by
  obtain ⟨a, ha⟩ : ∃ a, a = n.natAbs := ⟨_, rfl⟩
  have ha2 : a ≤ 2000 := by omega
  have cn := nat_any a (by omega) w
  have pa : a < pw 5 := Nat.lt_of_le_of_lt ha2 (by decide)
  have GD := (show Hid _ from fun (w1 : World) (x : Value) (hx : NatIs w1 x a) => digits_any x a w1 hx pa)
  have hsz := txt_size (decN a)
  rw [decN_length] at hsz
  have hnl := nDigits_le a 4 (by omega) (by omega)
  rw [← ha]
  clear pa
  by_cases hn : n < 0
  · obtain rfl : n = -(a : Int) := by omega
    have HE : Hid (txt ((if -(a : Int) < 0 then 45 else 43) :: decN a) = ⟨#[45]⟩ ++ txt (decN a)) := by
      show _ = _
      rw [if_pos hn, txt_m, txt_append]
      rfl
    obtain ⟨S, hS⟩ : ∃ S, S = txt (decN a) := ⟨_, rfl⟩
    rw [← hS] at hsz GD HE
    rw [HE.out]
    clear ha hS
    go_enter Tryz.func37, Tryz.ntmps37
    go_wp2_with (first | (go_at_call 32; refine cn.mono ?_; rintro e w1 ⟨x1, rfl, hx1, hw1⟩; clear cn; have gd := GD.out w1 x1 hx1; clear GD) | (go_at_call 33; refine gd.mono ?_; rintro e w2 ⟨rfl, hw2⟩; clear gd))
    go_ret
    exact ⟨rfl, hw1.trans (hw2.mono hw1.size)⟩
  · obtain rfl : n = (a : Int) := by omega
    have HE : Hid (txt ((if (a : Int) < 0 then 45 else 43) :: decN a) = ⟨#[43]⟩ ++ txt (decN a)) := by
      show _ = _
      rw [if_neg hn, txt_p, txt_append]
      rfl
    obtain ⟨S, hS⟩ : ∃ S, S = txt (decN a) := ⟨_, rfl⟩
    rw [← hS] at hsz GD HE
    rw [HE.out]
    clear ha hS
    go_enter Tryz.func37, Tryz.ntmps37
    go_wp2_with (first | (go_at_call 32; refine cn.mono ?_; rintro e w1 ⟨x1, rfl, hx1, hw1⟩; clear cn; have gd := GD.out w1 x1 hx1; clear GD) | (go_at_call 33; refine gd.mono ?_; rintro e w2 ⟨rfl, hw2⟩; clear gd))
    go_ret
    exact ⟨rfl, hw1.trans (hw2.mono hw1.size)⟩
/-- Odd, of what is neither NaN nor 0 nor infinite. -/
theorem odd_no (x : Nat) (o1 : (FloatKind.f64.format.order x x != some .eq) = false) (o2 : (FloatKind.f64.format.order x 0 == some .eq) = false) (o3 : (FloatKind.f64.format.order x 9218868437227405311 == some .gt) = false) (o4 : (FloatKind.f64.format.order x 18442240474082181119 == some .lt) = false) (w : World) :
    Calls Tryz.prog 30 #[.float .f64 x] w fun e w' => e = .returned (.tuple #[.string ⟨#[]⟩, .bool false]) ∧ w' = w := by
  go_enter Tryz.func30, Tryz.ntmps30
  go_wp2
  go_ret2
  exact ⟨rfl, rfl⟩
theorem odd_nan (x : Nat) (o1 : (FloatKind.f64.format.order x x != some .eq) = true) (w : World) :
    Calls Tryz.prog 30 #[.float .f64 x] w fun e w' => e = .returned (.tuple #[.string (txt [78, 97, 78]), .bool true]) ∧ w' = w := by
  go_enter Tryz.func30, Tryz.ntmps30
  go_wp2
  go_ret2
  exact ⟨rfl, rfl⟩
theorem odd_zero (x : Nat) (o1 : (FloatKind.f64.format.order x x != some .eq) = false) (o2 : (FloatKind.f64.format.order x 0 == some .eq) = true) (w : World) :
    Calls Tryz.prog 30 #[.float .f64 x] w fun e w' => e = .returned (.tuple #[.string (txt [48]), .bool true]) ∧ w' = w := by
  go_enter Tryz.func30, Tryz.ntmps30
  go_wp2
  go_ret2
  exact ⟨rfl, rfl⟩
theorem odd_inf (x : Nat) (o1 : (FloatKind.f64.format.order x x != some .eq) = false) (o2 : (FloatKind.f64.format.order x 0 == some .eq) = false) (o3 : (FloatKind.f64.format.order x 9218868437227405311 == some .gt) = true) (w : World) :
    Calls Tryz.prog 30 #[.float .f64 x] w fun e w' => e = .returned (.tuple #[.string (txt [73, 110, 102, 105, 110, 105, 116, 121]), .bool true]) ∧ w' = w := by
  go_enter Tryz.func30, Tryz.ntmps30
  go_wp2
  go_ret2
  exact ⟨rfl, rfl⟩
theorem odd_minf (x : Nat) (o1 : (FloatKind.f64.format.order x x != some .eq) = false) (o2 : (FloatKind.f64.format.order x 0 == some .eq) = false) (o3 : (FloatKind.f64.format.order x 9218868437227405311 == some .gt) = false) (o4 : (FloatKind.f64.format.order x 18442240474082181119 == some .lt) = true) (w : World) :
    Calls Tryz.prog 30 #[.float .f64 x] w fun e w' => e = .returned (.tuple #[.string (txt [45, 73, 110, 102, 105, 110, 105, 116, 121]), .bool true]) ∧ w' = w := by
  go_enter Tryz.func30, Tryz.ntmps30
  go_wp2
  go_ret2
  exact ⟨rfl, rfl⟩
end Go.Proofs.YtellndmbllmjgaaGreatDoor
/- NumText, of what is above 0. -/
set_option linter.unusedVariables false
namespace Go.Proofs.YtellndmbllmjgaaGreatDoor
open Go.RowKit Go.Shelf Go.Sort Fs Fl Fl2

theorem Tryz.trunced (b : Nat) (w : World) (h : (Ieee.double.read b).isNaN = false) : (callFunc 83 #[.float .f64 b]).run Tryz.prog w = .ok (.value (.float .f64 (Ieee.double.write ((Ieee.double.read b).integral .zero)))) w := by
  rw [run_callFunc_extern (P := Tryz.prog) (f := 83) (e := Extern.MathFloor.toIntegral "math.archTrunc" .zero) Tryz.func83 (by kernel_rfl) (by kernel_rfl) (by kernel_rfl) (by kernel_rfl)]
  have hd : FloatKind.f64.decode b = Ieee.double.read b := rfl
  generalize Ieee.double.read b = d at h hd ⊢
  generalize hq : FloatKind.f64.decode b = q at hd
  subst hd
  have key : Extern.MathFloor.toIntegral "math.archTrunc" .zero #[.float .f64 b] = pure (.float .f64 (FloatKind.f64.encode (q.integral .zero))) := by
    show Extern.MathFloor.toIntegral.match_1 (fun _ => Sem Value) (FloatKind.f64.decode b) _ _ = _
    rw [hq]
    cases q with
    | number s m i => rfl
    | infinity s => rfl
    | nan s t => exact absurd h (by simp [Ieee.Datum.isNaN])
  rw [key]
  rfl
theorem trunc_pos (r : Nat) (h : r < 9218868437227405312) (w : World) : Calls Tryz.prog 31 #[.float .f64 r] w fun e w' => e = .returned (.float .f64 (Ieee.double.nearest false (wholeR r) 0)) ∧ w' = w := by
  have hn : (Ieee.double.read r).isNaN = false := by have := read_wd false r h; rw [wd_false] at this; rw [this]; rfl
  have x1 := fun w => Tryz.trunced r w hn
  have e := trunc_wd false r h
  rw [wd_false] at e
  rw [e] at x1
  generalize Ieee.double.nearest false (wholeR r) 0 = y at *
  clear hn e h
  go_enter Tryz.func31, Tryz.ntmps31
  go_wp2
  go_ret
  exact ⟨rfl, rfl⟩
theorem conv_u64 (b : Nat) (v : Int) (h : floatToIntVal .f64 b .u64 = some v) (w : World) : (convert 23 22 (.float .f64 b)).run Tryz.prog w = .ok (.int .u64 v) w :=
  run_convert_float_int w 23 22 .f64 .u64 b v (by rw [Tryz.underlying23]; rfl) Tryz.underlying22 h
/-- A float that is a whole number below 2 to the 53rd. -/
theorem whole_facts (r : Nat) (h0 : 0 < r) (h : r < 4845873199050653696) (he : r = Ieee.double.nearest false (wholeR r) 0) : ∃ N : Nat, 0 < N ∧ N < 9007199254740992 ∧ floatToIntVal .f64 r .u64 = some (N : Int) ∧ XX (magR r) (expR r) = N * BB 400 ∧ expR r ≤ 1074 := by
  have hN0 : wholeR r ≠ 0 := by
    intro h1
    rw [h1, nearest_zero, word_wd, wd_false] at he
    omega
  obtain ⟨M, L, hN, hL⟩ := norm_whole r (by omega) hN0
  have hM1 := hN.M_le
  have hM2 := hN.M_lt
  rw [nearest_whole hN hL, wd_false] at he
  have hL52 : L ≤ 52 := by
    rw [he] at h
    unfold rungI at h
    omega
  have hm : magR r = M := by rw [he]; exact magR_I hM1 hM2
  have hx : expR r = L + 1022 := by rw [he]; exact expR_I hM1 hM2
  have hlt : wholeR r < 9007199254740992 := by
    have h1 := hN.2.2
    have h2 : 2 ^ (L + 1) ≤ 2 ^ 53 := Nat.pow_le_pow_right (by omega) (by omega)
    have h53 : (2 : Nat) ^ 53 = 9007199254740992 := by decide
    omega
  refine ⟨wholeR r, by omega, hlt, ?_, ?_, by omega⟩
  · refine toIntVal_of _ _ _ ?_ ?_
    · have hr : Ieee.double.read r = .number false M ((L : Int) - 52) := by
        have := read_word false (wholeR r) M L hN hL
        rw [wd_false, ← he] at this
        exact this
      rw [hr]
      exact toInt_zero_at M (wholeR r) L (norm_M hN hL52) hL52
    · have h1 : IntKind.u64.min = 0 := by decide
      have h2 : IntKind.u64.max = 18446744073709551615 := by decide
      rw [h1, h2]
      omega
  · obtain ⟨b, hb⟩ : ∃ b, b = 1022 := ⟨_, rfl⟩
    rw [hm, hx, ← hb]
    have e0 : BB 400 = K400 * Z76 := by delta BB K400; exact Eq.refl _
    have e1 : Z76 = 2 ^ 52 * (4 * 2 ^ b) := by
      have h1 := Z76_add 0
      rw [Nat.pow_zero, Nat.one_mul, show 0 + 1076 = 52 + (2 + b) by omega, Nat.pow_add 2 52, Nat.pow_add 2 2] at h1
      exact h1.symm
    unfold XX
    rw [e0, e1, Nat.pow_add 2 L]
    have h1 := hN.1
    generalize 2 ^ b = Q
    generalize K400 = K
    generalize 2 ^ 52 = A at *
    generalize 2 ^ L = B at *
    calc 4 * M * (B * Q) * K = M * B * (4 * Q * K) := by grind
      _ = wholeR r * A * (4 * Q * K) := by rw [h1]
      _ = wholeR r * (K * (A * (4 * Q))) := by grind
theorem decN_shift (d t : Nat) (hd : 0 < d) : decN (d * 10 ^ t) = decN d ++ List.replicate t 48 := by
  have hl := nDigits_shift d hd t
  apply List.ext_getElem?
  intro i
  rcases Nat.lt_or_ge i (Lib.nDigits d) with h | h
  · rw [List.getElem?_append_left (by rw [decN_length]; exact h), decN_at d i h, decN_at _ i (by omega), hl, digit_shift d t _ i h]
  · rw [List.getElem?_append_right (by rw [decN_length]; exact h), decN_length]
    rcases Nat.lt_or_ge i (Lib.nDigits d + t) with h2 | h2
    · rw [decN_at _ i (by omega), hl, List.getElem?_replicate, if_pos (by omega)]
      have : d * 10 ^ t / 10 ^ (Lib.nDigits d + t - 1 - i) % 10 = 0 := by
        obtain ⟨a, ha⟩ : ∃ a, t = (Lib.nDigits d + t - 1 - i) + (a + 1) := ⟨t - (Lib.nDigits d + t - 1 - i) - 1, by omega⟩
        generalize Lib.nDigits d + t - 1 - i = b at *
        rw [ha, Nat.pow_add, ← Nat.mul_assoc, Nat.mul_right_comm, Nat.mul_div_cancel _ (Nat.pow_pos (by omega)), Nat.pow_succ, ← Nat.mul_assoc]
        exact Nat.mul_mod_left ..
      rw [this]
    · rw [List.getElem?_eq_none (by rw [decN_length, hl]; exact h2), List.getElem?_eq_none (by rw [List.length_replicate]; omega)]
/-- How a whole number is written. -/
theorem textD_whole (d J N : Nat) (hd : 0 < d) (hJ : 400 ≤ J) (he : d * 10 ^ (J - 400) = N) (hN : N < 9007199254740992) : textD (decN d) ((Lib.nDigits d : Int) + (J : Int) - 400) = decN N := by
  have hl := nDigits_shift d hd (J - 400)
  rw [he] at hl
  have h16 := nDigits_le N 16 (by omega) (by omega)
  unfold textD
  have e : ((Lib.nDigits d : Int) + (J : Int) - 400 - (Lib.nDigits d : Int)).toNat = J - 400 := by omega
  rw [decN_length, if_pos ⟨by omega, by omega⟩, ← he, decN_shift d _ hd, e]
end Go.Proofs.YtellndmbllmjgaaGreatDoor
/- NumText. -/
set_option linter.unusedVariables false
namespace Go.Proofs.YtellndmbllmjgaaGreatDoor
open Go.RowKit Go.Shelf Go.Sort Fs Fl Fl2

theorem order_nmax (r : Nat) (h : r < 9218868437227405312) : (FloatKind.f64.format.order r 18442240474082181119 == some .lt) = false := by
  have e1 : FloatKind.f64.format.order r 18442240474082181119 = some (compare (key false r) (key true 9218868437227405311)) := by
    have := order_key false true r 9218868437227405311 h (by omega)
    rw [wd_false, wd_true] at this
    exact this
  rw [e1, key_false, key_true, cmp_gt (by omega)]
  rfl
theorem order_ltb (a b : Nat) (ha : a < 9218868437227405312) (hb : b < 9218868437227405312) : (FloatKind.f64.format.order a b == some .lt) = decide (a < b) := by
  by_cases h : a < b
  · rw [ord_lt ha hb h, decide_eq_true h]; rfl
  · rw [not_lt ha hb (by omega), decide_eq_false h]
theorem order_eqb (a b : Nat) (ha : a < 9218868437227405312) (hb : b < 9218868437227405312) : (FloatKind.f64.format.order a b == some .eq) = decide (a = b) := by
  rcases Nat.lt_trichotomy a b with h | h | h
  · rw [ord_lt ha hb h, decide_eq_false (by omega)]; rfl
  · subst h; rw [ord_eq ha, decide_eq_true rfl]; rfl
  · rw [ord_gt ha hb h, decide_eq_false (by omega)]; rfl
theorem whole_lt (r : Nat) (h : r < 9218868437227405312) : Ieee.double.nearest false (wholeR r) 0 < 9218868437227405312 := by
  by_cases h0 : wholeR r = 0
  · rw [h0, nearest_zero, word_wd, wd_false]; omega
  · obtain ⟨M, L, hN, hL⟩ := norm_whole r h h0
    rw [nearest_whole hN hL, wd_false]
    exact rungI_lt hN.M_lt hL
theorem odd_pos (r : Nat) (h0 : 0 < r) (h : r < 9218868437227405312) (w : World) : Calls Tryz.prog 30 #[.float .f64 r] w fun e w' => e = .returned (.tuple #[.string ⟨#[]⟩, .bool false]) ∧ w' = w := by
  have o1 := num_self false r h
  have o2 := eq_zero false r h
  rw [wd_false] at o1 o2
  rw [decide_eq_false (by omega)] at o2
  exact odd_no r o1 o2 (num_max r h) (order_nmax r h) w
set_option maxRecDepth 100000 in
set_option maxHeartbeats 1000000 in
theorem numtext_whole (r N : Nat) (h : r < 9218868437227405312) (h0 : 0 < r) (h53 : r < 4845873199050653696) (he : r = Ieee.double.nearest false (wholeR r) 0) (hN : N < 9007199254740992) (hc : floatToIntVal .f64 r .u64 = some (N : Int)) (w : World) :
    Calls Tryz.prog 9 #[.float .f64 r] w fun e w' => e = .returned (.string (txt (decN N))) ∧ Below w.heap.size w w' := by
  have co := odd_pos r h0 h
  have ct := trunc_pos r h
  rw [← he] at ct
  have oL := lt_zero false r h
  rw [wd_false, Bool.false_and] at oL
  have o53 := order_ltb r 4845873199050653696 h (by omega)
  rw [decide_eq_true h53] at o53
  have oe := order_eqb r r h h
  rw [decide_eq_true rfl] at oe
  have cv := conv_u64 r N hc
  have cn := nat_any N (by omega) w
  have GD := (show Hid _ from fun (w1 : World) (x : Value) (hx : NatIs w1 x N) => digits_any x N w1 hx (Nat.lt_trans hN (by decide)))
  clear h h0 h53 he hN hc
  go_enter Tryz.func9, Tryz.ntmps9
  go_wp2_with (first | (go_at_call 30; refine (co _).mono ?_; rintro e wq ⟨rfl, hwq⟩; rw [hwq]; clear hwq wq) | (go_at_call 31; refine (ct _).mono ?_; rintro e wq ⟨rfl, hwq⟩; rw [hwq]; clear hwq wq) | (go_at_call 32; refine cn.mono ?_; rintro e w1 ⟨x1, rfl, hx1, hw1⟩; clear cn; have gd := GD.out w1 x1 hx1; clear GD) | (go_at_call 33; refine gd.mono ?_; rintro e w2 ⟨rfl, hw2⟩; clear gd))
  go_ret
  exact ⟨rfl, hw1.trans (hw2.mono hw1.size)⟩
end Go.Proofs.YtellndmbllmjgaaGreatDoor
