/- NumText, at every word; NumWritten's walk. -/
import Derived.Test.YtellndmbllmjgaaGreatDoorNt4
import Derived.Test.YtellndmbllmjgaaGreatDoorNt5
set_option linter.unusedVariables false
namespace Go.Proofs.YtellndmbllmjgaaGreatDoor
open Go.RowKit Go.Shelf Go.Sort Fs Fl Fl2

theorem numtext_pos (r d J : Nat) (h0 : 0 < r) (h : r < 9218868437227405312) (hT : Fs.Told (magR r) (expR r) d J) (hd0 : 0 < d) (hd : d < 1152921504606846976) (hJ : J < 1000) (w : World) :
    Calls Tryz.prog 9 #[.float .f64 r] w fun e w' => e = .returned (.string (txt (textD (decN d) ((Lib.nDigits d : Int) + (J : Int) - 400)))) ∧ Below w.heap.size w w' := by
  by_cases h53 : r < 4845873199050653696
  · by_cases he : r = Ieee.double.nearest false (wholeR r) 0
    · obtain ⟨N, hN0, hN, hc, hX, hE⟩ := whole_facts r h0 h53 he
      have hM0 : 0 < magR r := by have := magR_zero (r := r); omega
      obtain ⟨g1, g2⟩ := told_whole hM0 hT hN0 hX hE
      rw [textD_whole d J N hd0 g1 g2 hN]
      exact numtext_whole r N h h0 h53 he hN hc w
    · exact numtext_frac r d J h0 h hT hd hJ h53 he w
  · exact numtext_big r d J h0 h hT hd hJ h53 w
theorem order_max (s : Bool) (r : Nat) (h : r < 9218868437227405312) : (FloatKind.f64.format.order (wd s r) 9218868437227405311 == some .gt) = false := by
  have e1 : FloatKind.f64.format.order (wd s r) 9218868437227405311 = some (compare (key s r) (key false 9218868437227405311)) := by
    have := order_key s false r 9218868437227405311 h (by omega)
    rw [wd_false] at this
    exact this
  rw [e1, key_false]
  cases s
  · rw [key_false]
    rcases Nat.lt_or_eq_of_le (show r ≤ 9218868437227405311 by omega) with h1 | h1
    · rw [cmp_lt (by omega)]; rfl
    · rw [h1, cmp_eq]; rfl
  · rw [key_true, cmp_lt (by omega)]; rfl
theorem order_nmax2 (s : Bool) (r : Nat) (h : r < 9218868437227405312) : (FloatKind.f64.format.order (wd s r) 18442240474082181119 == some .lt) = false := by
  cases s
  · rw [wd_false]; exact order_nmax r h
  · have e1 : FloatKind.f64.format.order (wd true r) 18442240474082181119 = some (compare (key true r) (key true 9218868437227405311)) := by
      have := order_key true true r 9218868437227405311 h (by omega)
      rw [wd_true 9218868437227405311] at this
      exact this
    rw [e1, key_true, key_true]
    rcases Nat.lt_or_eq_of_le (show r ≤ 9218868437227405311 by omega) with h1 | h1
    · rw [cmp_gt (by omega)]; rfl
    · rw [h1, cmp_eq]; rfl
set_option maxRecDepth 100000 in
theorem numtext_neg (x r : Nat) (S : ByteArray) (hS : S.size ≤ 100000) (co : ∀ w, Calls Tryz.prog 30 #[.float .f64 x] w fun e w' => e = .returned (.tuple #[.string ⟨#[]⟩, .bool false]) ∧ w' = w)
    (o2 : (FloatKind.f64.format.order x 0 == some .lt) = true) (hn : ∀ w, (Go.Op.unary .neg (.float .f64 x)).run Tryz.prog w = .ok (.float .f64 r) w) (w : World)
    (c : Calls Tryz.prog 9 #[.float .f64 r] w fun rr w' => rr = .returned (.string S) ∧ Below w.heap.size w w') :
    Calls Tryz.prog 9 #[.float .f64 x] w fun rr w' => rr = .returned (.string (⟨#[45]⟩ ++ S)) ∧ Below w.heap.size w w' := by
  go_enter Tryz.func9, Tryz.ntmps9
  go_wp2_with (first | (go_at_call 30; refine (co _).mono ?_; rintro e wq ⟨rfl, hwq⟩; rw [hwq]; clear hwq wq) | (go_at_call 9; refine c.mono ?_; rintro e w1 ⟨rfl, hb⟩; clear c))
  go_ret
  exact ⟨rfl, hb⟩
theorem numtext_odd (x : Nat) (S : ByteArray) (co : ∀ w, Calls Tryz.prog 30 #[.float .f64 x] w fun e w' => e = .returned (.tuple #[.string S, .bool true]) ∧ w' = w) (w : World) :
    Calls Tryz.prog 9 #[.float .f64 x] w fun rr w' => rr = .returned (.string S) ∧ w' = w := by
  go_enter Tryz.func9, Tryz.ntmps9
  go_wp2_with (first | (go_at_call 30; refine (co _).mono ?_; rintro e wq ⟨rfl, hwq⟩; rw [hwq]; clear hwq wq))
  go_ret
  exact ⟨rfl, rfl⟩
/-- **NumText, at every word.** -/
theorem numtext_any (s : Bool) (r : Nat) (h : r < 9223372036854775808) (T : List Nat) (hT : 0 < r → r < 9218868437227405312 → ∃ d0 J, Fs.Told (magR r) (expR r) d0 J ∧ 0 < d0 ∧ d0 < 1152921504606846976 ∧ J < 1000 ∧ T = textD (decN d0) ((Lib.nDigits d0 : Int) + (J : Int) - 400)) (w : World) :
    Calls Tryz.prog 9 #[.float .f64 (wd s r)] w fun rr w' => rr = .returned (.string (txt (writ T s r))) ∧ Below w.heap.size w w' := by
  rcases Nat.lt_trichotomy r 9218868437227405312 with h1 | h1 | h1
  · have o1 := num_self s r h1
    have o2 := lt_zero s r h1
    have o3 := eq_zero s r h1
    rcases Nat.eq_zero_or_pos r with h0 | h0
    · subst h0
      refine (numtext_odd _ _ (fun w => odd_zero _ o1 (by rw [o3]; rfl) w) w).mono ?_
      rintro e w' ⟨rfl, rfl⟩
      exact ⟨rfl, Below.refl _ _⟩
    · obtain ⟨d0, J, a1, a2, a3, a4, rfl⟩ := hT h0 h1
      have cp := numtext_pos r d0 J h0 h1 a1 a2 a3 a4 w
      have hw : ∀ T, writ T s r = (if s then [45] else []) ++ T := by
        intro T
        unfold writ
        rw [if_neg (by omega), if_neg (by omega), if_neg (show ¬ r = 9218868437227405312 by omega)]
      rw [hw]
      cases s
      · rw [wd_false]
        exact cp
      · have hn := run_neg true r h
        rw [Bool.not_true, wd_false] at hn
        have hr : decide (r ≠ 0) = true := decide_eq_true (by omega)
        have hnl : Lib.nDigits d0 ≤ 19 := nDigits_le d0 19 (by omega) (by omega)
        have hl := textD_len (decN d0) ((Lib.nDigits d0 : Int) + (J : Int) - 400) (by rw [decN_length]; omega) (by omega) (by omega)
        refine (numtext_neg (wd true r) r _ (by rw [txt_size]; omega) (fun w => odd_no _ o1 (by rw [o3]; exact decide_eq_false (by omega)) (order_max true r h1) (order_nmax2 true r h1) w) (by rw [o2, hr]; rfl) hn w cp).mono ?_
        rintro e w' ⟨rfl, hb⟩
        refine ⟨?_, hb⟩
        rw [txt_minus, txt_append]
        rfl
  · subst h1
    obtain ⟨o1, o2, o3⟩ := inf_facts s
    cases s
    · rw [wd_false] at *
      refine (numtext_odd _ _ (fun w => odd_inf _ o1 o3 inf_max w) w).mono ?_
      rintro e w' ⟨rfl, rfl⟩
      exact ⟨rfl, Below.refl _ _⟩
    · have o4 : (FloatKind.f64.format.order (wd true 9218868437227405312) 9218868437227405311 == some .gt) = false := by rw [wd_true]; decide
      have o5 : (FloatKind.f64.format.order (wd true 9218868437227405312) 18442240474082181119 == some .lt) = true := by rw [wd_true]; decide
      refine (numtext_odd _ _ (fun w => odd_minf _ o1 o3 o4 o5 w) w).mono ?_
      rintro e w' ⟨rfl, rfl⟩
      exact ⟨rfl, Below.refl _ _⟩
  · refine (numtext_odd _ _ (fun w => odd_nan _ (nan_self s r h1 h) w) w).mono ?_
    rintro e w' ⟨rfl, rfl⟩
    refine ⟨?_, Below.refl _ _⟩
    unfold writ
    rw [if_pos h1]
theorem word_of (B : Nat) (h : B < 18446744073709551616) : ∃ s r, r < 9223372036854775808 ∧ B = wd s r := by
  by_cases hb : B < 9223372036854775808
  · exact ⟨false, B, hb, (wd_false B).symm⟩
  · exact ⟨true, B - 9223372036854775808, by omega, by rw [wd_true]; omega⟩
set_option maxRecDepth 100000 in
/-- **NumWritten.** -/
theorem numWritten_any (B : Nat) (hB : B < 18446744073709551616) (w : World) (hlaid : Laid w) :
    Calls Tryz.prog 3 #[.int .u64 (B : Int)] w fun e w' => e = .returned (.bool true) ∧ Below w.heap.size w w' := by
  obtain ⟨s, r, hr, hw⟩ := word_of B hB
  have x1 := Tryz.frombits7 (B : Int)
  rw [Int.toNat_natCast] at x1
  have ct := text_any s r hr w hlaid
  have CN := (show Hid _ from fun T hT (w1 : World) => numtext_any s r hr T hT w1)
  rw [← hw] at ct CN
  clear hw hlaid
  go_enter Tryz.func3, Tryz.ntmps3
  go_wp2_with (first | (go_at_call 8; refine ct.mono ?_; rintro e w1 ⟨T, hT, rfl, hb⟩; clear ct; have cn := CN.out T hT w1; clear CN hT) | (go_at_call 9; refine cn.mono ?_; rintro e w2 ⟨rfl, hb2⟩; clear cn))
  go_ret
  exact ⟨by simp, hb.trans (hb2.mono hb.size)⟩
end Go.Proofs.YtellndmbllmjgaaGreatDoor
