/- NumText, of what is above 0. -/
import Derived.Test.YtellndmbllmjgaaGreatDoorCTx3x
import Derived.Test.YtellndmbllmjgaaGreatDoorCFm2
set_option linter.unusedVariables false
namespace Go.Proofs.YtellndmbllmjgaaGreatDoor
open Go.RowKit Go.Shelf Go.Sort Fs Fl Fl2

theorem Tryz.trunced (b : Nat) (w : World) (h : (Ieee.double.read b).isNaN = false) : (callFunc 83 #[.float .f64 b]).run Tryz.prog w = .ok (.value (.float .f64 (Ieee.double.write ((Ieee.double.read b).integral .zero)))) w := by
  rw [run_callFunc_extern (P := Tryz.prog) (f := 83) (e := Extern.MathFloor.toIntegral "math.archTrunc" .zero) Tryz.func83 (by kernel_rfl) (by kernel_rfl) (by kernel_rfl) (by kernel_rfl)]
  have hd : FloatKind.f64.decode b = Ieee.double.read b := rfl
  generalize Ieee.double.read b = d at h hd ⊢
  generalize hq : FloatKind.f64.decode b = q at hd
  subst hd
  have key : Extern.MathFloor.toIntegral "math.archTrunc" .zero #[.float .f64 b] = pure (.float .f64 (FloatKind.f64.encode (q.integral .zero))) := by
    show Extern.MathFloor.toIntegral.match_1 (fun _ => Sem Value) (FloatKind.f64.decode b) _ _ = _
    rw [hq]
    cases q with
    | number s m i => rfl
    | infinity s => rfl
    | nan s t => exact absurd h (by simp [Ieee.Datum.isNaN])
  rw [key]
  rfl
theorem trunc_pos (r : Nat) (h : r < 9218868437227405312) (w : World) : Calls Tryz.prog 31 #[.float .f64 r] w fun e w' => e = .returned (.float .f64 (Ieee.double.nearest false (wholeR r) 0)) ∧ w' = w := by
  have hn : (Ieee.double.read r).isNaN = false := by have := read_wd false r h; rw [wd_false] at this; rw [this]; rfl
  have x1 := fun w => Tryz.trunced r w hn
  have e := trunc_wd false r h
  rw [wd_false] at e
  rw [e] at x1
  generalize Ieee.double.nearest false (wholeR r) 0 = y at *
  clear hn e h
  go_enter Tryz.func31, Tryz.ntmps31
  go_wp2
  go_ret
  exact ⟨rfl, rfl⟩
theorem conv_u64 (b : Nat) (v : Int) (h : floatToIntVal .f64 b .u64 = some v) (w : World) : (convert 23 22 (.float .f64 b)).run Tryz.prog w = .ok (.int .u64 v) w :=
  run_convert_float_int w 23 22 .f64 .u64 b v (by rw [Tryz.underlying23]; rfl) Tryz.underlying22 h
/-- A float that is a whole number below 2 to the 53rd. -/
theorem whole_facts (r : Nat) (h0 : 0 < r) (h : r < 4845873199050653696) (he : r = Ieee.double.nearest false (wholeR r) 0) : ∃ N : Nat, 0 < N ∧ N < 9007199254740992 ∧ floatToIntVal .f64 r .u64 = some (N : Int) ∧ XX (magR r) (expR r) = N * BB 400 ∧ expR r ≤ 1074 := by
  have hN0 : wholeR r ≠ 0 := by
    intro h1
    rw [h1, nearest_zero, word_wd, wd_false] at he
    omega
  obtain ⟨M, L, hN, hL⟩ := norm_whole r (by omega) hN0
  have hM1 := hN.M_le
  have hM2 := hN.M_lt
  rw [nearest_whole hN hL, wd_false] at he
  have hL52 : L ≤ 52 := by
    rw [he] at h
    unfold rungI at h
    omega
  have hm : magR r = M := by rw [he]; exact magR_I hM1 hM2
  have hx : expR r = L + 1022 := by rw [he]; exact expR_I hM1 hM2
  have hlt : wholeR r < 9007199254740992 := by
    have h1 := hN.2.2
    have h2 : 2 ^ (L + 1) ≤ 2 ^ 53 := Nat.pow_le_pow_right (by omega) (by omega)
    have h53 : (2 : Nat) ^ 53 = 9007199254740992 := by decide
    omega
  refine ⟨wholeR r, by omega, hlt, ?_, ?_, by omega⟩
  · refine toIntVal_of _ _ _ ?_ ?_
    · have hr : Ieee.double.read r = .number false M ((L : Int) - 52) := by
        have := read_word false (wholeR r) M L hN hL
        rw [wd_false, ← he] at this
        exact this
      rw [hr]
      exact toInt_zero_at M (wholeR r) L (norm_M hN hL52) hL52
    · have h1 : IntKind.u64.min = 0 := by decide
      have h2 : IntKind.u64.max = 18446744073709551615 := by decide
      rw [h1, h2]
      omega
  · obtain ⟨b, hb⟩ : ∃ b, b = 1022 := ⟨_, rfl⟩
    rw [hm, hx, ← hb]
    have e0 : BB 400 = K400 * Z76 := by delta BB K400; exact Eq.refl _
    have e1 : Z76 = 2 ^ 52 * (4 * 2 ^ b) := by
      have h1 := Z76_add 0
      rw [Nat.pow_zero, Nat.one_mul, show 0 + 1076 = 52 + (2 + b) by omega, Nat.pow_add 2 52, Nat.pow_add 2 2] at h1
      exact h1.symm
    unfold XX
    rw [e0, e1, Nat.pow_add 2 L]
    have h1 := hN.1
    generalize 2 ^ b = Q
    generalize K400 = K
    generalize 2 ^ 52 = A at *
    generalize 2 ^ L = B at *
    calc 4 * M * (B * Q) * K = M * B * (4 * Q * K) := by grind
      _ = wholeR r * A * (4 * Q * K) := by rw [h1]
      _ = wholeR r * (K * (A * (4 * Q))) := by grind
theorem decN_shiftN (d t : Nat) (hd : 0 < d) : decN (d * 10 ^ t) = decN d ++ List.replicate t 48 := by
  have hl := nDigits_shift d hd t
  apply List.ext_getElem?
  intro i
  rcases Nat.lt_or_ge i (Lib.nDigits d) with h | h
  · rw [List.getElem?_append_left (by rw [decN_length]; exact h), decN_at d i h, decN_at _ i (by omega), hl, digit_shift d t _ i h]
  · rw [List.getElem?_append_right (by rw [decN_length]; exact h), decN_length]
    rcases Nat.lt_or_ge i (Lib.nDigits d + t) with h2 | h2
    · rw [decN_at _ i (by omega), hl, List.getElem?_replicate, if_pos (by omega)]
      have : d * 10 ^ t / 10 ^ (Lib.nDigits d + t - 1 - i) % 10 = 0 := by
        obtain ⟨a, ha⟩ : ∃ a, t = (Lib.nDigits d + t - 1 - i) + (a + 1) := ⟨t - (Lib.nDigits d + t - 1 - i) - 1, by omega⟩
        generalize Lib.nDigits d + t - 1 - i = b at *
        rw [ha, Nat.pow_add, ← Nat.mul_assoc, Nat.mul_right_comm, Nat.mul_div_cancel _ (Nat.pow_pos (by omega)), Nat.pow_succ, ← Nat.mul_assoc]
        exact Nat.mul_mod_left ..
      rw [this]
    · rw [List.getElem?_eq_none (by rw [decN_length, hl]; exact h2), List.getElem?_eq_none (by rw [List.length_replicate]; omega)]
/-- How a whole number is written. -/
theorem textD_whole (d J N : Nat) (hd : 0 < d) (hJ : 400 ≤ J) (he : d * 10 ^ (J - 400) = N) (hN : N < 9007199254740992) : textD (decN d) ((Lib.nDigits d : Int) + (J : Int) - 400) = decN N := by
  have hl := nDigits_shift d hd (J - 400)
  rw [he] at hl
  have h16 := nDigits_le N 16 (by omega) (by omega)
  unfold textD
  have e : ((Lib.nDigits d : Int) + (J : Int) - 400 - (Lib.nDigits d : Int)).toNat = J - 400 := by omega
  rw [decN_length, if_pos ⟨by omega, by omega⟩, ← he, decN_shiftN d _ hd, e]
end Go.Proofs.YtellndmbllmjgaaGreatDoor
/- NumText. -/
set_option linter.unusedVariables false
namespace Go.Proofs.YtellndmbllmjgaaGreatDoor
open Go.RowKit Go.Shelf Go.Sort Fs Fl Fl2

theorem order_nmax (r : Nat) (h : r < 9218868437227405312) : (FloatKind.f64.format.order r 18442240474082181119 == some .lt) = false := by
  have e1 : FloatKind.f64.format.order r 18442240474082181119 = some (compare (key false r) (key true 9218868437227405311)) := by
    have := order_key false true r 9218868437227405311 h (by omega)
    rw [wd_false, wd_true] at this
    exact this
  rw [e1, key_false, key_true, cmp_gt (by omega)]
  rfl
theorem order_ltb (a b : Nat) (ha : a < 9218868437227405312) (hb : b < 9218868437227405312) : (FloatKind.f64.format.order a b == some .lt) = decide (a < b) := by
  by_cases h : a < b
  · rw [ord_lt ha hb h, decide_eq_true h]; rfl
  · rw [not_lt ha hb (by omega), decide_eq_false h]
theorem order_eqb (a b : Nat) (ha : a < 9218868437227405312) (hb : b < 9218868437227405312) : (FloatKind.f64.format.order a b == some .eq) = decide (a = b) := by
  rcases Nat.lt_trichotomy a b with h | h | h
  · rw [ord_lt ha hb h, decide_eq_false (by omega)]; rfl
  · subst h; rw [ord_eq ha, decide_eq_true rfl]; rfl
  · rw [ord_gt ha hb h, decide_eq_false (by omega)]; rfl
theorem whole_lt (r : Nat) (h : r < 9218868437227405312) : Ieee.double.nearest false (wholeR r) 0 < 9218868437227405312 := by
  by_cases h0 : wholeR r = 0
  · rw [h0, nearest_zero, word_wd, wd_false]; omega
  · obtain ⟨M, L, hN, hL⟩ := norm_whole r h h0
    rw [nearest_whole hN hL, wd_false]
    exact rungI_lt hN.M_lt hL
theorem odd_pos (r : Nat) (h0 : 0 < r) (h : r < 9218868437227405312) (w : World) : Calls Tryz.prog 30 #[.float .f64 r] w fun e w' => e = .returned (.tuple #[.string ⟨#[]⟩, .bool false]) ∧ w' = w := by
  have o1 := num_self false r h
  have o2 := eq_zero false r h
  rw [wd_false] at o1 o2
  rw [decide_eq_false (by omega)] at o2
  exact odd_no r o1 o2 (num_max r h) (order_nmax r h) w
set_option maxRecDepth 100000 in
set_option maxHeartbeats 1000000 in
theorem numtext_whole (r N : Nat) (h : r < 9218868437227405312) (h0 : 0 < r) (h53 : r < 4845873199050653696) (he : r = Ieee.double.nearest false (wholeR r) 0) (hN : N < 9007199254740992) (hc : floatToIntVal .f64 r .u64 = some (N : Int)) (w : World) :
    Calls Tryz.prog 9 #[.float .f64 r] w fun e w' => e = .returned (.string (txt (decN N))) ∧ Below w.heap.size w w' := by
  have co := odd_pos r h0 h
  have ct := trunc_pos r h
  rw [← he] at ct
  have oL := lt_zero false r h
  rw [wd_false, Bool.false_and] at oL
  have o53 := order_ltb r 4845873199050653696 h (by omega)
  rw [decide_eq_true h53] at o53
  have oe := order_eqb r r h h
  rw [decide_eq_true rfl] at oe
  have cv := conv_u64 r N hc
  have cn := nat_any N (by omega) w
  have GD := (show Hid _ from fun (w1 : World) (x : Value) (hx : NatIs w1 x N) => digits_any x N w1 hx (Nat.lt_trans hN (by decide)))
  clear h h0 h53 he hN hc
  go_enter Tryz.func9, Tryz.ntmps9
  go_wp2_with (first | (go_at_call 30; refine (co _).mono ?_; rintro e wq ⟨rfl, hwq⟩; rw [hwq]; clear hwq wq) | (go_at_call 31; refine (ct _).mono ?_; rintro e wq ⟨rfl, hwq⟩; rw [hwq]; clear hwq wq) | (go_at_call 32; refine cn.mono ?_; rintro e w1 ⟨x1, rfl, hx1, hw1⟩; clear cn; have gd := GD.out w1 x1 hx1; clear GD) | (go_at_call 33; refine gd.mono ?_; rintro e w2 ⟨rfl, hw2⟩; clear gd))
  go_ret
  exact ⟨rfl, hw1.trans (hw2.mono hw1.size)⟩
end Go.Proofs.YtellndmbllmjgaaGreatDoor
/- NumText, of a number above 0 that is great. -/
set_option linter.unusedVariables false
namespace Go.Proofs.YtellndmbllmjgaaGreatDoor
open Go.RowKit Go.Shelf Go.Sort Fs Fl Fl2

set_option maxRecDepth 100000 in
set_option maxHeartbeats 2000000 in
theorem numtext_big (r d J : Nat) (h0 : 0 < r) (h : r < 9218868437227405312) (hT : Fs.Told (magR r) (expR r) d J) (hd : d < 1152921504606846976) (hJ : J < 1000) (h53 : ¬ r < 4845873199050653696) (w : World) :
    Calls Tryz.prog 9 #[.float .f64 r] w fun e w' => e = .returned (.string (txt (textD (decN d) ((Lib.nDigits d : Int) + (J : Int) - 400)))) ∧ Below w.heap.size w w' := by
  have co := odd_pos r h0 h
  have cf := fewest_any r d J h0 h hT hd w
  have oL := lt_zero false r h
  rw [wd_false, Bool.false_and] at oL
  have o53 := order_ltb r 4845873199050653696 h (by omega)
  rw [decide_eq_false h53] at o53
  clear h h53
  have hnl : Lib.nDigits d ≤ 19 := nDigits_le d 19 (by omega) (by omega)
  have hnp := Lib.nDigits_pos d
  have hlen := decN_length d
  have hsz := txt_size (decN d)
  obtain ⟨n, hn⟩ : ∃ n : Int, n = (Lib.nDigits d : Int) + (J : Int) - 400 := ⟨_, rfl⟩
  obtain ⟨k, hk⟩ : ∃ k, k = Lib.nDigits d := ⟨_, rfl⟩
  have hna : -400 ≤ n := by omega
  have hnb : n ≤ 1000 := by omega
  rw [← hn] at cf ⊢
  rw [← hk] at hnl hnp hlen
  rw [hlen] at hsz
  generalize decN d = D at *
  clear hT hd hJ hn hk h0
  by_cases cA : (k : Int) ≤ n ∧ n ≤ 21
  · obtain ⟨c, hc⟩ : ∃ c : Nat, n - (k : Int) = (c : Int) := ⟨(n - (k : Int)).toNat, by omega⟩
    have HE : Hid (textD D n = D ++ List.replicate c 48) := by
      show textD D n = _
      unfold textD
      rw [hlen, if_pos cA, hc, Int.toNat_natCast]
    obtain ⟨k1, k2⟩ := cA
    have cz := zeros_any c (by omega)
    have hzz := txt_size (List.replicate c 48)
    rw [List.length_replicate] at hzz
    have hc9 : c ≤ 30 := by omega
    have HT : Hid (txt D ++ txt (List.replicate c 48) = txt (textD D n)) := by
      show _ = txt (textD D n)
      rw [HE.out, txt_append]
    generalize txt (List.replicate c 48) = Z at *
    generalize txt D = S at *
    go_enter Tryz.func9, Tryz.ntmps9
    go_wp2_with (first | (go_at_call 30; refine (co _).mono ?_; rintro e wq ⟨rfl, hwq⟩; rw [hwq]; clear hwq wq) | (go_at_call 34; refine cf.mono ?_; rintro e w1 ⟨rfl, hw1⟩; clear cf) | (go_at_call 35; refine (cz _).mono ?_; rintro e wq ⟨rfl, hwq⟩; rw [hwq]; clear hwq wq))
    go_ret
    rw [← HT.out]
    exact ⟨rfl, hw1⟩
  · by_cases cB : 0 < n ∧ n ≤ 21
    · obtain ⟨a, ha⟩ : ∃ a : Nat, n = (a : Int) := ⟨n.toNat, by omega⟩
      subst ha
      obtain ⟨k1, k2⟩ := cB
      have hak : a < k := by omega
      have HT : Hid ((txt D).extract 0 a ++ ⟨#[46]⟩ ++ (txt D).extract a (txt D).size = txt (textD D (a : Int))) := by
        show _ = txt (textD D (a : Int))
        have e1 : textD D (a : Int) = D.take a ++ 46 :: D.drop a := by
          unfold textD ptd padD
          rw [hlen, if_neg cA, if_pos ⟨by omega, k2⟩, show ((k : Int) - (a : Int)).toNat = k - a by omega, if_neg (by omega), if_neg (by omega), hlen, show k - (k - a) = a by omega]
        rw [e1, txt_extract, txt_extract, txt_dot, txt_append, txt_append, txt_size]
        have e3 : List.take (D.length - a) (D.drop a) = D.drop a := List.take_of_length_le (by rw [List.length_drop]; omega)
        rw [e3]
        simp [List.append_assoc]
      have t1 : ¬ (k : Int) ≤ (a : Int) := by omega
      have t3 : (a : Int) ≤ (k : Int) := by omega
      generalize txt D = S at *
      clear cA
      go_enter Tryz.func9, Tryz.ntmps9
      go_wp2_with (first | (go_at_call 30; refine (co _).mono ?_; rintro e wq ⟨rfl, hwq⟩; rw [hwq]; clear hwq wq) | (go_at_call 34; refine cf.mono ?_; rintro e w1 ⟨rfl, hw1⟩; clear cf))
      go_quiet (fail)
      go_wp2
      go_ret
      rw [← HT.out, hsz]
      exact ⟨rfl, below_drewN hw1⟩
    · by_cases cC : -6 < n ∧ n ≤ 0
      · obtain ⟨c, hc⟩ : ∃ c : Nat, n = -(c : Int) := ⟨(-n).toNat, by omega⟩
        subst hc
        obtain ⟨k1, k2⟩ := cC
        have hc9 : c ≤ 5 := by omega
        have cz := zeros_any c (by omega)
        have hzz := txt_size (List.replicate c 48)
        rw [List.length_replicate] at hzz
        have HT : Hid (⟨#[48, 46]⟩ ++ txt (List.replicate c 48) ++ txt D = txt (textD D (-(c : Int)))) := by
          show _ = txt (textD D (-(c : Int)))
          have e1 : textD D (-(c : Int)) = [48, 46] ++ List.replicate c 48 ++ D := by
            unfold textD ptd padD
            rw [hlen, if_neg cA, if_pos ⟨k1, by omega⟩, show ((k : Int) - -(c : Int)).toNat = k + c by omega, if_neg (by omega), if_pos (by omega), show k + c + 1 - k = c + 1 by omega]
            have e2 : (List.replicate (c + 1) 48 ++ D).length - (k + c) = 1 := by rw [List.length_append, List.length_replicate, hlen]; omega
            rw [e2, List.replicate_succ]
            simp
          rw [e1, show (⟨#[48, 46]⟩ : ByteArray) = txt [48, 46] from rfl, txt_append, txt_append]
        have t1 : ¬ (k : Int) ≤ -(c : Int) := by omega
        have t2 : ¬ (0 : Int) < -(c : Int) := by omega
        have hz2 : (⟨#[48, 46]⟩ ++ txt (List.replicate c 48) : ByteArray).size = 2 + c := by rw [ByteArray.size_append, hzz]; rfl
        generalize txt (List.replicate c 48) = Z at *
        generalize txt D = S at *
        clear cA cB
        go_enter Tryz.func9, Tryz.ntmps9
        go_wp2_with (first | (go_at_call 30; refine (co _).mono ?_; rintro e wq ⟨rfl, hwq⟩; rw [hwq]; clear hwq wq) | (go_at_call 34; refine cf.mono ?_; rintro e w1 ⟨rfl, hw1⟩; clear cf) | (go_at_call 35; refine (cz _).mono ?_; rintro e wq ⟨rfl, hwq⟩; rw [hwq]; clear hwq wq))
        go_ret
        rw [← HT.out]
        exact ⟨rfl, hw1⟩
      · have DO := (show Hid _ from fun (w1 : World) => dotted_any D (by omega) (by omega) w1)
        have SM := (show Hid _ from fun (w1 : World) => smallN_text (n - 1) (by omega) (by omega) w1)
        have hpl := ptd_len D (D.length - 1)
        have hnd := nDigits_le (n - 1).natAbs 4 (by omega) (by omega)
        have hp1 := txt_size (ptd D (D.length - 1))
        have hq1 := txt_size ((if n - 1 < 0 then 45 else 43) :: decN (n - 1).natAbs)
        rw [List.length_cons, decN_length] at hq1
        have HT : Hid (txt (ptd D (D.length - 1)) ++ ⟨#[101]⟩ ++ txt ((if n - 1 < 0 then 45 else 43) :: decN (n - 1).natAbs) = txt (textD D n)) := by
          show _ = txt (textD D n)
          have e1 : textD D n = ptd D (D.length - 1) ++ [101] ++ ((if n - 1 < 0 then 45 else 43) :: decN (n - 1).natAbs) := by
            unfold textD pwd
            rw [hlen, if_neg cA, if_neg (by omega)]
            simp
          rw [e1, txt_e, txt_append, txt_append]
        have t1 : ¬ ((k : Int) ≤ n ∧ n ≤ 21) := cA
        have hP : (txt (ptd D (D.length - 1))).size ≤ 100 := by omega
        have hQ : (txt ((if n - 1 < 0 then 45 else 43) :: decN (n - 1).natAbs)).size ≤ 100 := by omega
        have hPQ : (txt (ptd D (D.length - 1)) ++ ⟨#[101]⟩ : ByteArray).size ≤ 200 := by
          rw [ByteArray.size_append]
          have : (⟨#[101]⟩ : ByteArray).size = 1 := rfl
          omega
        generalize txt (ptd D (D.length - 1)) = P at *
        generalize txt ((if n - 1 < 0 then 45 else 43) :: decN (n - 1).natAbs) = Q at *
        generalize txt D = S at *
        clear hp1 hq1 hpl hnd hlen
        by_cases n21 : n ≤ 21
        · have m1 : ¬ (k : Int) ≤ n := by omega
          have m2 : ¬ (0 : Int) < n := by omega
          have m3 : ¬ (-6 : Int) < n := by omega
          clear cA cB cC t1
          go_enter Tryz.func9, Tryz.ntmps9
          go_wp2_with (first | (go_at_call 30; refine (co _).mono ?_; rintro e wq ⟨rfl, hwq⟩; rw [hwq]; clear hwq wq) | (go_at_call 34; refine cf.mono ?_; rintro e w1 ⟨rfl, hw1⟩; clear cf; have dd := DO.out w1; clear DO) | (go_at_call 36; refine dd.mono ?_; rintro e w2 ⟨rfl, hw2⟩; clear dd; have sm := SM.out w2; clear SM) | (go_at_call 37; refine sm.mono ?_; rintro e w3 ⟨rfl, hw3⟩; clear sm))
          go_ret
          rw [← HT.out]
          have hw12 := hw1.trans (hw2.mono hw1.size)
          exact ⟨rfl, hw12.trans (hw3.mono hw12.size)⟩
        · have m1 : (0 : Int) < n := by omega
          have m4 : (-6 : Int) < n := by omega
          have m5 : ¬ n ≤ 0 := by omega
          have m6 : (k : Int) ≤ n := by omega
          clear cA cB cC t1
          go_enter Tryz.func9, Tryz.ntmps9
          go_wp2_with (first | (go_at_call 30; refine (co _).mono ?_; rintro e wq ⟨rfl, hwq⟩; rw [hwq]; clear hwq wq) | (go_at_call 34; refine cf.mono ?_; rintro e w1 ⟨rfl, hw1⟩; clear cf; have dd := DO.out w1; clear DO) | (go_at_call 36; refine dd.mono ?_; rintro e w2 ⟨rfl, hw2⟩; clear dd; have sm := SM.out w2; clear SM) | (go_at_call 37; refine sm.mono ?_; rintro e w3 ⟨rfl, hw3⟩; clear sm))
          go_ret
          rw [← HT.out]
          have hw12 := hw1.trans (hw2.mono hw1.size)
          exact ⟨rfl, hw12.trans (hw3.mono hw12.size)⟩
end Go.Proofs.YtellndmbllmjgaaGreatDoor
/- NumText, of a number above 0 that is not whole. -/
set_option linter.unusedVariables false
namespace Go.Proofs.YtellndmbllmjgaaGreatDoor
open Go.RowKit Go.Shelf Go.Sort Fs Fl Fl2

set_option maxRecDepth 100000 in
set_option maxHeartbeats 2000000 in
theorem numtext_frac (r d J : Nat) (h0 : 0 < r) (h : r < 9218868437227405312) (hT : Fs.Told (magR r) (expR r) d J) (hd : d < 1152921504606846976) (hJ : J < 1000) (h53 : r < 4845873199050653696) (he : r ≠ Ieee.double.nearest false (wholeR r) 0) (w : World) :
    Calls Tryz.prog 9 #[.float .f64 r] w fun e w' => e = .returned (.string (txt (textD (decN d) ((Lib.nDigits d : Int) + (J : Int) - 400)))) ∧ Below w.heap.size w w' := by
  have co := odd_pos r h0 h
  have cf := fewest_any r d J h0 h hT hd w
  have oL := lt_zero false r h
  rw [wd_false, Bool.false_and] at oL
  have o53 := order_ltb r 4845873199050653696 h (by omega)
  rw [decide_eq_true h53] at o53
  have oe := order_eqb r _ h (whole_lt r h)
  rw [decide_eq_false he] at oe
  have ct := trunc_pos r h
  generalize Ieee.double.nearest false (wholeR r) 0 = tt at *
  clear h h53 he
  have hnl : Lib.nDigits d ≤ 19 := nDigits_le d 19 (by omega) (by omega)
  have hnp := Lib.nDigits_pos d
  have hlen := decN_length d
  have hsz := txt_size (decN d)
  obtain ⟨n, hn⟩ : ∃ n : Int, n = (Lib.nDigits d : Int) + (J : Int) - 400 := ⟨_, rfl⟩
  obtain ⟨k, hk⟩ : ∃ k, k = Lib.nDigits d := ⟨_, rfl⟩
  have hna : -400 ≤ n := by omega
  have hnb : n ≤ 1000 := by omega
  rw [← hn] at cf ⊢
  rw [← hk] at hnl hnp hlen
  rw [hlen] at hsz
  generalize decN d = D at *
  clear hT hd hJ hn hk h0
  by_cases cA : (k : Int) ≤ n ∧ n ≤ 21
  · obtain ⟨c, hc⟩ : ∃ c : Nat, n - (k : Int) = (c : Int) := ⟨(n - (k : Int)).toNat, by omega⟩
    have HE : Hid (textD D n = D ++ List.replicate c 48) := by
      show textD D n = _
      unfold textD
      rw [hlen, if_pos cA, hc, Int.toNat_natCast]
    obtain ⟨k1, k2⟩ := cA
    have cz := zeros_any c (by omega)
    have hzz := txt_size (List.replicate c 48)
    rw [List.length_replicate] at hzz
    have hc9 : c ≤ 30 := by omega
    have HT : Hid (txt D ++ txt (List.replicate c 48) = txt (textD D n)) := by
      show _ = txt (textD D n)
      rw [HE.out, txt_append]
    generalize txt (List.replicate c 48) = Z at *
    generalize txt D = S at *
    go_enter Tryz.func9, Tryz.ntmps9
    go_wp2_with (first | (go_at_call 30; refine (co _).mono ?_; rintro e wq ⟨rfl, hwq⟩; rw [hwq]; clear hwq wq) | (go_at_call 31; refine (ct _).mono ?_; rintro e wq ⟨rfl, hwq⟩; rw [hwq]; clear hwq wq) | (go_at_call 34; refine cf.mono ?_; rintro e w1 ⟨rfl, hw1⟩; clear cf) | (go_at_call 35; refine (cz _).mono ?_; rintro e wq ⟨rfl, hwq⟩; rw [hwq]; clear hwq wq))
    go_ret
    rw [← HT.out]
    exact ⟨rfl, hw1⟩
  · by_cases cB : 0 < n ∧ n ≤ 21
    · obtain ⟨a, ha⟩ : ∃ a : Nat, n = (a : Int) := ⟨n.toNat, by omega⟩
      subst ha
      obtain ⟨k1, k2⟩ := cB
      have hak : a < k := by omega
      have HT : Hid ((txt D).extract 0 a ++ ⟨#[46]⟩ ++ (txt D).extract a (txt D).size = txt (textD D (a : Int))) := by
        show _ = txt (textD D (a : Int))
        have e1 : textD D (a : Int) = D.take a ++ 46 :: D.drop a := by
          unfold textD ptd padD
          rw [hlen, if_neg cA, if_pos ⟨by omega, k2⟩, show ((k : Int) - (a : Int)).toNat = k - a by omega, if_neg (by omega), if_neg (by omega), hlen, show k - (k - a) = a by omega]
        rw [e1, txt_extract, txt_extract, txt_dot, txt_append, txt_append, txt_size]
        have e3 : List.take (D.length - a) (D.drop a) = D.drop a := List.take_of_length_le (by rw [List.length_drop]; omega)
        rw [e3]
        simp [List.append_assoc]
      have t1 : ¬ (k : Int) ≤ (a : Int) := by omega
      have t3 : (a : Int) ≤ (k : Int) := by omega
      generalize txt D = S at *
      clear cA
      go_enter Tryz.func9, Tryz.ntmps9
      go_wp2_with (first | (go_at_call 30; refine (co _).mono ?_; rintro e wq ⟨rfl, hwq⟩; rw [hwq]; clear hwq wq) | (go_at_call 31; refine (ct _).mono ?_; rintro e wq ⟨rfl, hwq⟩; rw [hwq]; clear hwq wq) | (go_at_call 34; refine cf.mono ?_; rintro e w1 ⟨rfl, hw1⟩; clear cf))
      go_quiet (fail)
      go_wp2
      go_ret
      rw [← HT.out, hsz]
      exact ⟨rfl, below_drewN hw1⟩
    · by_cases cC : -6 < n ∧ n ≤ 0
      · obtain ⟨c, hc⟩ : ∃ c : Nat, n = -(c : Int) := ⟨(-n).toNat, by omega⟩
        subst hc
        obtain ⟨k1, k2⟩ := cC
        have hc9 : c ≤ 5 := by omega
        have cz := zeros_any c (by omega)
        have hzz := txt_size (List.replicate c 48)
        rw [List.length_replicate] at hzz
        have HT : Hid (⟨#[48, 46]⟩ ++ txt (List.replicate c 48) ++ txt D = txt (textD D (-(c : Int)))) := by
          show _ = txt (textD D (-(c : Int)))
          have e1 : textD D (-(c : Int)) = [48, 46] ++ List.replicate c 48 ++ D := by
            unfold textD ptd padD
            rw [hlen, if_neg cA, if_pos ⟨k1, by omega⟩, show ((k : Int) - -(c : Int)).toNat = k + c by omega, if_neg (by omega), if_pos (by omega), show k + c + 1 - k = c + 1 by omega]
            have e2 : (List.replicate (c + 1) 48 ++ D).length - (k + c) = 1 := by rw [List.length_append, List.length_replicate, hlen]; omega
            rw [e2, List.replicate_succ]
            simp
          rw [e1, show (⟨#[48, 46]⟩ : ByteArray) = txt [48, 46] from rfl, txt_append, txt_append]
        have t1 : ¬ (k : Int) ≤ -(c : Int) := by omega
        have t2 : ¬ (0 : Int) < -(c : Int) := by omega
        have hz2 : (⟨#[48, 46]⟩ ++ txt (List.replicate c 48) : ByteArray).size = 2 + c := by rw [ByteArray.size_append, hzz]; rfl
        generalize txt (List.replicate c 48) = Z at *
        generalize txt D = S at *
        clear cA cB
        go_enter Tryz.func9, Tryz.ntmps9
        go_wp2_with (first | (go_at_call 30; refine (co _).mono ?_; rintro e wq ⟨rfl, hwq⟩; rw [hwq]; clear hwq wq) | (go_at_call 31; refine (ct _).mono ?_; rintro e wq ⟨rfl, hwq⟩; rw [hwq]; clear hwq wq) | (go_at_call 34; refine cf.mono ?_; rintro e w1 ⟨rfl, hw1⟩; clear cf) | (go_at_call 35; refine (cz _).mono ?_; rintro e wq ⟨rfl, hwq⟩; rw [hwq]; clear hwq wq))
        go_ret
        rw [← HT.out]
        exact ⟨rfl, hw1⟩
      · have DO := (show Hid _ from fun (w1 : World) => dotted_any D (by omega) (by omega) w1)
        have SM := (show Hid _ from fun (w1 : World) => smallN_text (n - 1) (by omega) (by omega) w1)
        have hpl := ptd_len D (D.length - 1)
        have hnd := nDigits_le (n - 1).natAbs 4 (by omega) (by omega)
        have hp1 := txt_size (ptd D (D.length - 1))
        have hq1 := txt_size ((if n - 1 < 0 then 45 else 43) :: decN (n - 1).natAbs)
        rw [List.length_cons, decN_length] at hq1
        have HT : Hid (txt (ptd D (D.length - 1)) ++ ⟨#[101]⟩ ++ txt ((if n - 1 < 0 then 45 else 43) :: decN (n - 1).natAbs) = txt (textD D n)) := by
          show _ = txt (textD D n)
          have e1 : textD D n = ptd D (D.length - 1) ++ [101] ++ ((if n - 1 < 0 then 45 else 43) :: decN (n - 1).natAbs) := by
            unfold textD pwd
            rw [hlen, if_neg cA, if_neg (by omega)]
            simp
          rw [e1, txt_e, txt_append, txt_append]
        have t1 : ¬ ((k : Int) ≤ n ∧ n ≤ 21) := cA
        have hP : (txt (ptd D (D.length - 1))).size ≤ 100 := by omega
        have hQ : (txt ((if n - 1 < 0 then 45 else 43) :: decN (n - 1).natAbs)).size ≤ 100 := by omega
        have hPQ : (txt (ptd D (D.length - 1)) ++ ⟨#[101]⟩ : ByteArray).size ≤ 200 := by
          rw [ByteArray.size_append]
          have : (⟨#[101]⟩ : ByteArray).size = 1 := rfl
          omega
        generalize txt (ptd D (D.length - 1)) = P at *
        generalize txt ((if n - 1 < 0 then 45 else 43) :: decN (n - 1).natAbs) = Q at *
        generalize txt D = S at *
        clear hp1 hq1 hpl hnd hlen
        by_cases n21 : n ≤ 21
        · have m1 : ¬ (k : Int) ≤ n := by omega
          have m2 : ¬ (0 : Int) < n := by omega
          have m3 : ¬ (-6 : Int) < n := by omega
          clear cA cB cC t1
          go_enter Tryz.func9, Tryz.ntmps9
          go_wp2_with (first | (go_at_call 30; refine (co _).mono ?_; rintro e wq ⟨rfl, hwq⟩; rw [hwq]; clear hwq wq) | (go_at_call 31; refine (ct _).mono ?_; rintro e wq ⟨rfl, hwq⟩; rw [hwq]; clear hwq wq) | (go_at_call 34; refine cf.mono ?_; rintro e w1 ⟨rfl, hw1⟩; clear cf; have dd := DO.out w1; clear DO) | (go_at_call 36; refine dd.mono ?_; rintro e w2 ⟨rfl, hw2⟩; clear dd; have sm := SM.out w2; clear SM) | (go_at_call 37; refine sm.mono ?_; rintro e w3 ⟨rfl, hw3⟩; clear sm))
          go_ret
          rw [← HT.out]
          have hw12 := hw1.trans (hw2.mono hw1.size)
          exact ⟨rfl, hw12.trans (hw3.mono hw12.size)⟩
        · have m1 : (0 : Int) < n := by omega
          have m4 : (-6 : Int) < n := by omega
          have m5 : ¬ n ≤ 0 := by omega
          have m6 : (k : Int) ≤ n := by omega
          clear cA cB cC t1
          go_enter Tryz.func9, Tryz.ntmps9
          go_wp2_with (first | (go_at_call 30; refine (co _).mono ?_; rintro e wq ⟨rfl, hwq⟩; rw [hwq]; clear hwq wq) | (go_at_call 31; refine (ct _).mono ?_; rintro e wq ⟨rfl, hwq⟩; rw [hwq]; clear hwq wq) | (go_at_call 34; refine cf.mono ?_; rintro e w1 ⟨rfl, hw1⟩; clear cf; have dd := DO.out w1; clear DO) | (go_at_call 36; refine dd.mono ?_; rintro e w2 ⟨rfl, hw2⟩; clear dd; have sm := SM.out w2; clear SM) | (go_at_call 37; refine sm.mono ?_; rintro e w3 ⟨rfl, hw3⟩; clear sm))
          go_ret
          rw [← HT.out]
          have hw12 := hw1.trans (hw2.mono hw1.size)
          exact ⟨rfl, hw12.trans (hw3.mono hw12.size)⟩
end Go.Proofs.YtellndmbllmjgaaGreatDoor
/- NumText, at every word; NumWritten's walk. -/
set_option linter.unusedVariables false
namespace Go.Proofs.YtellndmbllmjgaaGreatDoor
open Go.RowKit Go.Shelf Go.Sort Fs Fl Fl2

theorem numtext_pos (r d J : Nat) (h0 : 0 < r) (h : r < 9218868437227405312) (hT : Fs.Told (magR r) (expR r) d J) (hd0 : 0 < d) (hd : d < 1152921504606846976) (hJ : J < 1000) (w : World) :
    Calls Tryz.prog 9 #[.float .f64 r] w fun e w' => e = .returned (.string (txt (textD (decN d) ((Lib.nDigits d : Int) + (J : Int) - 400)))) ∧ Below w.heap.size w w' := by
  by_cases h53 : r < 4845873199050653696
  · by_cases he : r = Ieee.double.nearest false (wholeR r) 0
    · obtain ⟨N, hN0, hN, hc, hX, hE⟩ := whole_facts r h0 h53 he
      have hM0 : 0 < magR r := by have := magR_zero (r := r); omega
      obtain ⟨g1, g2⟩ := told_whole hM0 hT hN0 hX hE
      rw [textD_whole d J N hd0 g1 g2 hN]
      exact numtext_whole r N h h0 h53 he hN hc w
    · exact numtext_frac r d J h0 h hT hd hJ h53 he w
  · exact numtext_big r d J h0 h hT hd hJ h53 w
theorem order_max (s : Bool) (r : Nat) (h : r < 9218868437227405312) : (FloatKind.f64.format.order (wd s r) 9218868437227405311 == some .gt) = false := by
  have e1 : FloatKind.f64.format.order (wd s r) 9218868437227405311 = some (compare (key s r) (key false 9218868437227405311)) := by
    have := order_key s false r 9218868437227405311 h (by omega)
    rw [wd_false] at this
    exact this
  rw [e1, key_false]
  cases s
  · rw [key_false]
    rcases Nat.lt_or_eq_of_le (show r ≤ 9218868437227405311 by omega) with h1 | h1
    · rw [cmp_lt (by omega)]; rfl
    · rw [h1, cmp_eq]; rfl
  · rw [key_true, cmp_lt (by omega)]; rfl
theorem order_nmax2 (s : Bool) (r : Nat) (h : r < 9218868437227405312) : (FloatKind.f64.format.order (wd s r) 18442240474082181119 == some .lt) = false := by
  cases s
  · rw [wd_false]; exact order_nmax r h
  · have e1 : FloatKind.f64.format.order (wd true r) 18442240474082181119 = some (compare (key true r) (key true 9218868437227405311)) := by
      have := order_key true true r 9218868437227405311 h (by omega)
      rw [wd_true 9218868437227405311] at this
      exact this
    rw [e1, key_true, key_true]
    rcases Nat.lt_or_eq_of_le (show r ≤ 9218868437227405311 by omega) with h1 | h1
    · rw [cmp_gt (by omega)]; rfl
    · rw [h1, cmp_eq]; rfl
set_option maxRecDepth 100000 in
theorem numtext_neg (x r : Nat) (S : ByteArray) (hS : S.size ≤ 100000) (co : ∀ w, Calls Tryz.prog 30 #[.float .f64 x] w fun e w' => e = .returned (.tuple #[.string ⟨#[]⟩, .bool false]) ∧ w' = w)
    (o2 : (FloatKind.f64.format.order x 0 == some .lt) = true) (hn : ∀ w, (Go.Op.unary .neg (.float .f64 x)).run Tryz.prog w = .ok (.float .f64 r) w) (w : World)
    (c : Calls Tryz.prog 9 #[.float .f64 r] w fun rr w' => rr = .returned (.string S) ∧ Below w.heap.size w w') :
    Calls Tryz.prog 9 #[.float .f64 x] w fun rr w' => rr = .returned (.string (⟨#[45]⟩ ++ S)) ∧ Below w.heap.size w w' := by
  go_enter Tryz.func9, Tryz.ntmps9
  go_wp2_with (first | (go_at_call 30; refine (co _).mono ?_; rintro e wq ⟨rfl, hwq⟩; rw [hwq]; clear hwq wq) | (go_at_call 9; refine c.mono ?_; rintro e w1 ⟨rfl, hb⟩; clear c))
  go_ret
  exact ⟨rfl, hb⟩
theorem numtext_odd (x : Nat) (S : ByteArray) (co : ∀ w, Calls Tryz.prog 30 #[.float .f64 x] w fun e w' => e = .returned (.tuple #[.string S, .bool true]) ∧ w' = w) (w : World) :
    Calls Tryz.prog 9 #[.float .f64 x] w fun rr w' => rr = .returned (.string S) ∧ w' = w := by
  go_enter Tryz.func9, Tryz.ntmps9
  go_wp2_with (first | (go_at_call 30; refine (co _).mono ?_; rintro e wq ⟨rfl, hwq⟩; rw [hwq]; clear hwq wq))
  go_ret
  exact ⟨rfl, rfl⟩
/-- **NumText, at every word.** -/
theorem numtext_any (s : Bool) (r : Nat) (h : r < 9223372036854775808) (T : List Nat) (hT : 0 < r → r < 9218868437227405312 → ∃ d0 J, Fs.Told (magR r) (expR r) d0 J ∧ 0 < d0 ∧ d0 < 1152921504606846976 ∧ J < 1000 ∧ T = textD (decN d0) ((Lib.nDigits d0 : Int) + (J : Int) - 400)) (w : World) :
    Calls Tryz.prog 9 #[.float .f64 (wd s r)] w fun rr w' => rr = .returned (.string (txt (writ T s r))) ∧ Below w.heap.size w w' := by
  rcases Nat.lt_trichotomy r 9218868437227405312 with h1 | h1 | h1
  · have o1 := num_self s r h1
    have o2 := lt_zero s r h1
    have o3 := eq_zero s r h1
    rcases Nat.eq_zero_or_pos r with h0 | h0
    · subst h0
      refine (numtext_odd _ _ (fun w => odd_zero _ o1 (by rw [o3]; rfl) w) w).mono ?_
      rintro e w' ⟨rfl, rfl⟩
      exact ⟨rfl, Below.refl _ _⟩
    · obtain ⟨d0, J, a1, a2, a3, a4, rfl⟩ := hT h0 h1
      have cp := numtext_pos r d0 J h0 h1 a1 a2 a3 a4 w
      have hw : ∀ T, writ T s r = (if s then [45] else []) ++ T := by
        intro T
        unfold writ
        rw [if_neg (by omega), if_neg (by omega), if_neg (show ¬ r = 9218868437227405312 by omega)]
      rw [hw]
      cases s
      · rw [wd_false]
        exact cp
      · have hn := run_neg true r h
        rw [Bool.not_true, wd_false] at hn
        have hr : decide (r ≠ 0) = true := decide_eq_true (by omega)
        have hnl : Lib.nDigits d0 ≤ 19 := nDigits_le d0 19 (by omega) (by omega)
        have hl := textD_len (decN d0) ((Lib.nDigits d0 : Int) + (J : Int) - 400) (by rw [decN_length]; omega) (by omega) (by omega)
        refine (numtext_neg (wd true r) r _ (by rw [txt_size]; omega) (fun w => odd_no _ o1 (by rw [o3]; exact decide_eq_false (by omega)) (order_max true r h1) (order_nmax2 true r h1) w) (by rw [o2, hr]; rfl) hn w cp).mono ?_
        rintro e w' ⟨rfl, hb⟩
        refine ⟨?_, hb⟩
        rw [txt_minus, txt_append]
        rfl
  · subst h1
    obtain ⟨o1, o2, o3⟩ := inf_facts s
    cases s
    · rw [wd_false] at *
      refine (numtext_odd _ _ (fun w => odd_inf _ o1 o3 inf_max w) w).mono ?_
      rintro e w' ⟨rfl, rfl⟩
      exact ⟨rfl, Below.refl _ _⟩
    · have o4 : (FloatKind.f64.format.order (wd true 9218868437227405312) 9218868437227405311 == some .gt) = false := by rw [wd_true]; decide
      have o5 : (FloatKind.f64.format.order (wd true 9218868437227405312) 18442240474082181119 == some .lt) = true := by rw [wd_true]; decide
      refine (numtext_odd _ _ (fun w => odd_minf _ o1 o3 o4 o5 w) w).mono ?_
      rintro e w' ⟨rfl, rfl⟩
      exact ⟨rfl, Below.refl _ _⟩
  · refine (numtext_odd _ _ (fun w => odd_nan _ (nan_self s r h1 h) w) w).mono ?_
    rintro e w' ⟨rfl, rfl⟩
    refine ⟨?_, Below.refl _ _⟩
    unfold writ
    rw [if_pos h1]
theorem word_of (B : Nat) (h : B < 18446744073709551616) : ∃ s r, r < 9223372036854775808 ∧ B = wd s r := by
  by_cases hb : B < 9223372036854775808
  · exact ⟨false, B, hb, (wd_false B).symm⟩
  · exact ⟨true, B - 9223372036854775808, by omega, by rw [wd_true]; omega⟩
set_option maxRecDepth 100000 in
/-- **NumWritten.** -/
theorem numWritten_any (B : Nat) (hB : B < 18446744073709551616) (w : World) (hlaid : Laid w) :
    Calls Tryz.prog 3 #[.int .u64 (B : Int)] w fun e w' => e = .returned (.bool true) ∧ Below w.heap.size w w' := by
  obtain ⟨s, r, hr, hw⟩ := word_of B hB
  have x1 := Tryz.frombits7 (B : Int)
  rw [Int.toNat_natCast] at x1
  have ct := text_any s r hr w hlaid
  have CN := (show Hid _ from fun T hT (w1 : World) => numtext_any s r hr T hT w1)
  rw [← hw] at ct CN
  clear hw hlaid
  go_enter Tryz.func3, Tryz.ntmps3
  go_wp2_with (first | (go_at_call 8; refine ct.mono ?_; rintro e w1 ⟨T, hT, rfl, hb⟩; clear ct; have cn := CN.out T hT w1; clear CN hT) | (go_at_call 9; refine cn.mono ?_; rintro e w2 ⟨rfl, hb2⟩; clear cn))
  go_ret
  exact ⟨by simp, hb.trans (hb2.mono hb.size)⟩
end Go.Proofs.YtellndmbllmjgaaGreatDoor
