/- num.Text, at every word, all in one. -/
import Derived.Test.YtellndmbllmjgaaGreatDoorCPt1x
import Derived.Deep.RegionWith
import Derived.Test.YtellndmbllmjgaaGreatDoorCFl2x
set_option linter.unusedVariables false
namespace Go.Proofs.YtellndmbllmjgaaGreatDoor
open Go.RowKit Go.Shelf Go.Sort Fs Fl

theorem lt_zero (s : Bool) (r : Nat) (h : r < 9218868437227405312) : (FloatKind.f64.format.order (wd s r) 0 == some .lt) = (s && decide (r ≠ 0)) := by
  have h1 : FloatKind.f64.format.order (wd s r) 0 = some (compare (key s r) 0) := order_zero s r h
  rw [h1]
  cases s
  · rw [key_false, Bool.false_and]
    by_cases h0 : r = 0
    · subst h0; rfl
    · rw [cmp_gt (by omega)]; rfl
  · rw [key_true, Bool.true_and]
    by_cases h0 : r = 0
    · subst h0; rfl
    · rw [cmp_lt (by omega), decide_eq_true h0]; rfl
theorem eq_zero (s : Bool) (r : Nat) (h : r < 9218868437227405312) : (FloatKind.f64.format.order (wd s r) 0 == some .eq) = decide (r = 0) := by
  have h1 : FloatKind.f64.format.order (wd s r) 0 = some (compare (key s r) 0) := order_zero s r h
  rw [h1]
  by_cases h0 : r = 0
  · subst h0
    cases s <;> rfl
  · rw [decide_eq_false h0]
    cases s
    · rw [key_false, cmp_gt (by omega)]; rfl
    · rw [key_true, cmp_lt (by omega)]; rfl
theorem num_self (s : Bool) (r : Nat) (h : r < 9218868437227405312) : (FloatKind.f64.format.order (wd s r) (wd s r) != some .eq) = false := by
  have e1 : FloatKind.f64.format.order (wd s r) (wd s r) = some (compare (key s r) (key s r)) := order_key s s r r h h
  rw [e1, cmp_eq]
  rfl
theorem num_max (r : Nat) (h : r < 9218868437227405312) : (FloatKind.f64.format.order r 9218868437227405311 == some .gt) = false := by
  have e2 : FloatKind.f64.format.order r 9218868437227405311 = some (compare (r : Int) (9218868437227405311 : Nat)) := order_pos r 9218868437227405311 h (by omega)
  rw [e2]
  rcases Nat.lt_or_eq_of_le (show r ≤ 9218868437227405311 by omega) with h1 | h1
  · rw [cmp_lt (by omega)]; rfl
  · rw [h1, cmp_eq]; rfl
theorem inf_facts (s : Bool) : (FloatKind.f64.format.order (wd s 9218868437227405312) (wd s 9218868437227405312) != some .eq) = false ∧ (FloatKind.f64.format.order (wd s 9218868437227405312) 0 == some .lt) = s ∧ (FloatKind.f64.format.order (wd s 9218868437227405312) 0 == some .eq) = false := by
  cases s
  · rw [wd_false]; decide
  · rw [wd_true]; decide
theorem inf_max : (FloatKind.f64.format.order 9218868437227405312 9218868437227405311 == some .gt) = true := by decide
theorem nan_self (s : Bool) (r : Nat) (h : 9218868437227405312 < r) (h2 : r < 9223372036854775808) : (FloatKind.f64.format.order (wd s r) (wd s r) != some .eq) = true := by
  have e : FloatKind.f64.format.order (wd s r) (wd s r) = none := order_nan _ s r h h2
  rw [e]
  rfl
theorem textD_len (D : List Nat) (n : Int) (h : D.length ≤ 100) (h1 : -400 ≤ n) (h2 : n ≤ 1000) : (textD D n).length ≤ 5000 := by
  unfold textD
  split
  · rw [List.length_append, List.length_replicate]; omega
  · split
    · have := ptd_len D ((D.length : Int) - n).toNat
      omega
    · unfold pwd
      have := ptd_len D (D.length - 1)
      have h3 := decN_length (n - 1).natAbs
      have h4 := nDigits_le (n - 1).natAbs 4 (by omega) (by omega)
      simp only [List.length_append, List.length_singleton]
      omega
/-- **num.Text, at every word.** -/
theorem text_any (s : Bool) (r : Nat) (h : r < 9223372036854775808) (w : World) (hlaid : Laid w) :
    Calls Tryz.prog 8 #[.float .f64 (wd s r)] w fun rr w' => ∃ T, (0 < r → r < 9218868437227405312 → ∃ d0 J, Fs.Told (magR r) (expR r) d0 J ∧ 0 < d0 ∧ d0 < 1152921504606846976 ∧ J < 1000 ∧ T = textD (decN d0) ((Lib.nDigits d0 : Int) + (J : Int) - 400)) ∧ rr = .returned (.string (txt (writ T s r))) ∧ Below w.heap.size w w' := by
  rcases Nat.lt_trichotomy r 9218868437227405312 with h1 | h1 | h1
  · have o1 := num_self s r h1
    have o2 := lt_zero s r h1
    have o3 := eq_zero s r h1
    rcases Nat.eq_zero_or_pos r with h0 | h0
    · subst h0
      refine (text_zero _ o1 (by rw [o2]; simp) (by rw [o3]; rfl) w).mono ?_
      rintro e w' ⟨rfl, rfl⟩
      exact ⟨[], fun h => absurd h (by omega), rfl, Below.refl _ _⟩
    · -- the number without its sign
      have p1 := num_self false r h1
      have p2 := lt_zero false r h1
      have p3 := eq_zero false r h1
      rw [wd_false] at p1 p2 p3
      have cp := text_pos r h0 h1 w hlaid p1 (by rw [p2]; rfl) (by rw [p3]; exact decide_eq_false (by omega)) (num_max r h1)
      cases s
      · rw [wd_false]
        refine cp.mono ?_
        rintro e w' ⟨d0, J, a1, a2, a3, a4, rfl, hb⟩
        refine ⟨_, fun _ _ => ⟨d0, J, a1, a2, a3, a4, rfl⟩, ?_, hb⟩
        unfold writ
        rw [if_neg (by omega), if_neg (by omega), if_neg (show ¬ r = 9218868437227405312 by omega)]
        rfl
      · have hn := run_neg true r h
        rw [Bool.not_true, wd_false] at hn
        have hr : decide (r ≠ 0) = true := decide_eq_true (by omega)
        refine (text_neg (wd true r) r (fun t => ∃ d0 J, Fs.Told (magR r) (expR r) d0 J ∧ 0 < d0 ∧ d0 < 1152921504606846976 ∧ J < 1000 ∧ t = txt (textD (decN d0) ((Lib.nDigits d0 : Int) + (J : Int) - 400))) ?_ o1 (by rw [o2, hr]; rfl) hn w (cp.mono ?_)).mono ?_
        · rintro t ⟨d0, J, a1, a2, a3, a4, rfl⟩
          rw [txt_size]
          have hnl : Lib.nDigits d0 ≤ 19 := nDigits_le d0 19 (by omega) (by omega)
          have := textD_len (decN d0) ((Lib.nDigits d0 : Int) + (J : Int) - 400) (by rw [decN_length]; omega) (by omega) (by omega)
          omega
        · rintro e w' ⟨d0, J, a1, a2, a3, a4, rfl, hb⟩
          exact ⟨_, ⟨d0, J, a1, a2, a3, a4, rfl⟩, rfl, hb⟩
        · rintro e w' ⟨t, ⟨d0, J, a1, a2, a3, a4, rfl⟩, rfl, hb⟩
          refine ⟨_, fun _ _ => ⟨d0, J, a1, a2, a3, a4, rfl⟩, ?_, hb⟩
          rw [txt_minus, txt_append]
          unfold writ
          rw [if_neg (by omega), if_neg (by omega), if_neg (show ¬ r = 9218868437227405312 by omega)]
          rfl
  · subst h1
    obtain ⟨o1, o2, o3⟩ := inf_facts s
    obtain ⟨p1, p2, p3⟩ := inf_facts false
    rw [wd_false] at p1 p2 p3
    have ci := text_inf 9218868437227405312 p1 p2 p3 inf_max w
    cases s
    · rw [wd_false]
      refine ci.mono ?_
      rintro e w' ⟨rfl, rfl⟩
      exact ⟨[], fun _ h => absurd h (by omega), rfl, Below.refl _ _⟩
    · have hn := run_neg true 9218868437227405312 h
      rw [Bool.not_true, wd_false] at hn
      refine (text_neg (wd true 9218868437227405312) 9218868437227405312 (fun t => t = txt [73, 110, 102, 105, 110, 105, 116, 121]) ?_ o1 o2 hn w (ci.mono ?_)).mono ?_
      · rintro t rfl
        rw [txt_size]
        simp
      · rintro e w' ⟨rfl, rfl⟩
        exact ⟨_, rfl, rfl, Below.refl _ _⟩
      · rintro e w' ⟨t, rfl, rfl, hb⟩
        refine ⟨[], fun _ h => absurd h (by omega), ?_, hb⟩
        rw [txt_minus, txt_append]
        rfl
  · refine (text_nan _ (nan_self s r h1 h) w).mono ?_
    rintro e w' ⟨rfl, rfl⟩
    refine ⟨[], fun _ h => absurd h (by omega), ?_, Below.refl _ _⟩
    unfold writ
    rw [if_pos h1]
end Go.Proofs.YtellndmbllmjgaaGreatDoor
/- zeros, small, dotted, Odd. -/
set_option linter.unusedVariables false
namespace Go.Proofs.YtellndmbllmjgaaGreatDoor
open Go.RowKit Go.Shelf Go.Sort Fs Fl

theorem txt_0 : (⟨#[48]⟩ : ByteArray) = txt [48] := rfl
theorem txt_nil : (⟨#[]⟩ : ByteArray) = txt [] := rfl
set_option maxRecDepth 100000 in
theorem zeros_any (n : Nat) (hn : n ≤ 1000) (w : World) : Calls Tryz.prog 35 #[.int .i64 (n : Int)] w fun e w' => e = .returned (.string (txt (List.replicate n 48))) ∧ w' = w := by
  go_enter Tryz.func35, Tryz.ntmps35
  go_wp2
  go_loopw [3, 4] (fun vs vi wr => ∃ i : Nat, i ≤ n ∧ vs = .string (txt (List.replicate i 48)) ∧ vi = .int .i64 (i : Int) ∧ wr = w) (fun _ vi _ => n - (RowKit.intOf vi).toNat)
  case atStart => exact ⟨0, Nat.zero_le _, rfl, rfl, rfl⟩
  case round =>
    obtain ⟨i, hi, rfl, rfl, rfl⟩ := hrel
    have hsz := txt_size (List.replicate i 48)
    rw [List.length_replicate] at hsz
    have HS : Hid (txt (List.replicate i 48) ++ ⟨#[48]⟩ = txt (List.replicate (i + 1) 48)) := by
      show txt (List.replicate i 48) ++ _ = _
      rw [txt_0, txt_append, List.replicate_succ']
    obtain ⟨S, hS⟩ : ∃ S, S = txt (List.replicate i 48) := ⟨_, rfl⟩
    rw [← hS] at hsz HS ⊢
    have HSS : Hid (S = txt (List.replicate i 48)) := hS
    clear hS
    by_cases h : i < n
    · have k1 : (i : Int) < (n : Int) := by omega
      go_wp2
      refine ⟨⟨i + 1, by omega, by rw [← HS.out], by simp, trivial⟩, ?_⟩
      simp only [RowKit.intOf]
      omega
    · have hin : i = n := by omega
      have k1 : ¬ (i : Int) < (n : Int) := by omega
      have HIN : Hid (i = n) := hin
      clear hin
      go_wp2
      go_ret
      rw [← HIN.out, ← HSS.out]
      exact ⟨rfl, rfl⟩
theorem dotted_one (s : ByteArray) (h : s.size = 1) (w : World) : Calls Tryz.prog 36 #[.string s] w fun e w' => e = .returned (.string s) ∧ w' = w := by
  go_enter Tryz.func36, Tryz.ntmps36
  go_wp2
  go_ret
  exact ⟨rfl, rfl⟩
set_option maxRecDepth 100000 in
theorem dotted_more (s : ByteArray) (h : 1 < s.size) (hs : s.size ≤ 100000) (w : World) : Calls Tryz.prog 36 #[.string s] w fun e w' => e = .returned (.string (s.extract 0 1 ++ ⟨#[46]⟩ ++ s.extract 1 s.size)) ∧ Below w.heap.size w w' := by
  have t1 : ((s.size : Int) == 1) = false := by rw [beq_eq_false_iff_ne]; omega
  have t2 : (1 : Int) ≤ (s.size : Int) := by omega
  go_enter Tryz.func36, Tryz.ntmps36
  go_wp2
  go_quiet (fail)
  go_wp2
  go_ret
  exact ⟨rfl, below_drewN (Below.refl _ _)⟩
/-- **dotted.** -/
theorem dotted_any (D : List Nat) (h1 : 0 < D.length) (h2 : D.length ≤ 1000) (w : World) : Calls Tryz.prog 36 #[.string (txt D)] w fun e w' => e = .returned (.string (txt (ptd D (D.length - 1)))) ∧ Below w.heap.size w w' := by
  by_cases h : D.length = 1
  · have e : ptd D (D.length - 1) = D := by
      unfold ptd padD
      rw [h, if_pos rfl, if_neg (by omega)]
    rw [e]
    refine (dotted_one (txt D) (by rw [txt_size, h]) w).mono ?_
    rintro e w' ⟨rfl, rfl⟩
    exact ⟨rfl, Below.refl _ _⟩
  · have e : ptd D (D.length - 1) = D.take 1 ++ 46 :: D.drop 1 := by
      unfold ptd padD
      rw [if_neg (by omega), if_neg (by omega), show D.length - (D.length - 1) = 1 by omega]
    refine (dotted_more (txt D) (by rw [txt_size]; omega) (by rw [txt_size]; omega) w).mono ?_
    rintro e' w' ⟨rfl, hb⟩
    refine ⟨?_, hb⟩
    rw [e, txt_extract, txt_extract, txt_dot, txt_append, txt_append, txt_size]
    congr 2
    simp
    have e3 : List.take (D.length - 1) D.tail = D.tail := List.take_of_length_le (by rw [List.length_tail]; omega)
    rw [e3]
/-- **small.** -/
theorem smallN_text (n : Int) (h1 : -2000 ≤ n) (h2 : n ≤ 2000) (w : World) : Calls Tryz.prog 37 #[.int .i64 n] w fun e w' => e = .returned (.string (txt ((if n < 0 then 45 else 43) :: decN n.natAbs))) ∧ Below w.heap.size w w' := by
  obtain ⟨a, ha⟩ : ∃ a, a = n.natAbs := ⟨_, rfl⟩
  have ha2 : a ≤ 2000 := by omega
  have cn := nat_any a (by omega) w
  have pa : a < pw 5 := Nat.lt_of_le_of_lt ha2 (by decide)
  have GD := (show Hid _ from fun (w1 : World) (x : Value) (hx : NatIs w1 x a) => digits_any x a w1 hx pa)
  have hsz := txt_size (decN a)
  rw [decN_length] at hsz
  have hnl := nDigits_le a 4 (by omega) (by omega)
  rw [← ha]
  clear pa
  by_cases hn : n < 0
  · obtain rfl : n = -(a : Int) := by omega
    have HE : Hid (txt ((if -(a : Int) < 0 then 45 else 43) :: decN a) = ⟨#[45]⟩ ++ txt (decN a)) := by
      show _ = _
      rw [if_pos hn, txt_m, txt_append]
      rfl
    obtain ⟨S, hS⟩ : ∃ S, S = txt (decN a) := ⟨_, rfl⟩
    rw [← hS] at hsz GD HE
    rw [HE.out]
    clear ha hS
    go_enter Tryz.func37, Tryz.ntmps37
    go_wp2_with (first | (go_at_call 32; refine cn.mono ?_; rintro e w1 ⟨x1, rfl, hx1, hw1⟩; clear cn; have gd := GD.out w1 x1 hx1; clear GD) | (go_at_call 33; refine gd.mono ?_; rintro e w2 ⟨rfl, hw2⟩; clear gd))
    go_ret
    exact ⟨rfl, hw1.trans (hw2.mono hw1.size)⟩
  · obtain rfl : n = (a : Int) := by omega
    have HE : Hid (txt ((if (a : Int) < 0 then 45 else 43) :: decN a) = ⟨#[43]⟩ ++ txt (decN a)) := by
      show _ = _
      rw [if_neg hn, txt_p, txt_append]
      rfl
    obtain ⟨S, hS⟩ : ∃ S, S = txt (decN a) := ⟨_, rfl⟩
    rw [← hS] at hsz GD HE
    rw [HE.out]
    clear ha hS
    go_enter Tryz.func37, Tryz.ntmps37
    go_wp2_with (first | (go_at_call 32; refine cn.mono ?_; rintro e w1 ⟨x1, rfl, hx1, hw1⟩; clear cn; have gd := GD.out w1 x1 hx1; clear GD) | (go_at_call 33; refine gd.mono ?_; rintro e w2 ⟨rfl, hw2⟩; clear gd))
    go_ret
    exact ⟨rfl, hw1.trans (hw2.mono hw1.size)⟩
/-- Odd, of what is neither NaN nor 0 nor infinite. -/
theorem odd_no (x : Nat) (o1 : (FloatKind.f64.format.order x x != some .eq) = false) (o2 : (FloatKind.f64.format.order x 0 == some .eq) = false) (o3 : (FloatKind.f64.format.order x 9218868437227405311 == some .gt) = false) (o4 : (FloatKind.f64.format.order x 18442240474082181119 == some .lt) = false) (w : World) :
    Calls Tryz.prog 30 #[.float .f64 x] w fun e w' => e = .returned (.tuple #[.string ⟨#[]⟩, .bool false]) ∧ w' = w := by
  go_enter Tryz.func30, Tryz.ntmps30
  go_wp2
  go_ret2
  exact ⟨rfl, rfl⟩
theorem odd_nan (x : Nat) (o1 : (FloatKind.f64.format.order x x != some .eq) = true) (w : World) :
    Calls Tryz.prog 30 #[.float .f64 x] w fun e w' => e = .returned (.tuple #[.string (txt [78, 97, 78]), .bool true]) ∧ w' = w := by
  go_enter Tryz.func30, Tryz.ntmps30
  go_wp2
  go_ret2
  exact ⟨rfl, rfl⟩
theorem odd_zero (x : Nat) (o1 : (FloatKind.f64.format.order x x != some .eq) = false) (o2 : (FloatKind.f64.format.order x 0 == some .eq) = true) (w : World) :
    Calls Tryz.prog 30 #[.float .f64 x] w fun e w' => e = .returned (.tuple #[.string (txt [48]), .bool true]) ∧ w' = w := by
  go_enter Tryz.func30, Tryz.ntmps30
  go_wp2
  go_ret2
  exact ⟨rfl, rfl⟩
theorem odd_inf (x : Nat) (o1 : (FloatKind.f64.format.order x x != some .eq) = false) (o2 : (FloatKind.f64.format.order x 0 == some .eq) = false) (o3 : (FloatKind.f64.format.order x 9218868437227405311 == some .gt) = true) (w : World) :
    Calls Tryz.prog 30 #[.float .f64 x] w fun e w' => e = .returned (.tuple #[.string (txt [73, 110, 102, 105, 110, 105, 116, 121]), .bool true]) ∧ w' = w := by
  go_enter Tryz.func30, Tryz.ntmps30
  go_wp2
  go_ret2
  exact ⟨rfl, rfl⟩
theorem odd_minf (x : Nat) (o1 : (FloatKind.f64.format.order x x != some .eq) = false) (o2 : (FloatKind.f64.format.order x 0 == some .eq) = false) (o3 : (FloatKind.f64.format.order x 9218868437227405311 == some .gt) = false) (o4 : (FloatKind.f64.format.order x 18442240474082181119 == some .lt) = true) (w : World) :
    Calls Tryz.prog 30 #[.float .f64 x] w fun e w' => e = .returned (.tuple #[.string (txt [45, 73, 110, 102, 105, 110, 105, 116, 121]), .bool true]) ∧ w' = w := by
  go_enter Tryz.func30, Tryz.ntmps30
  go_wp2
  go_ret2
  exact ⟨rfl, rfl⟩
end Go.Proofs.YtellndmbllmjgaaGreatDoor
/- Plain mathematics: sums, products and quotients of words that are not great are not great. -/
set_option linter.unusedVariables false
namespace Go.Proofs.YtellndmbllmjgaaGreatDoor
namespace Fl
open Ieee

theorem cut_le (s : Bool) (N d c : Nat) (h : N ≤ c * 2 ^ d) : Toward.even.cut s N d ≤ c := by
  unfold Toward.cut
  simp only [Nat.shiftLeft_eq, Nat.one_mul]
  rcases Nat.le_total d (N.log2 + 2) with hd | hd
  · rw [Nat.min_eq_left hd]
    have hp := Nat.two_pow_pos d
    generalize 2 ^ d = g at *
    have h1 := Nat.div_add_mod N g
    have h2 := Nat.mod_lt N hp
    by_cases h0 : N % g = 0
    · have hle : N / g ≤ c := Nat.div_le_of_le_mul (by rw [Nat.mul_comm]; exact h)
      have hb : (decide (g < 2 * (N % g)) || (g == 2 * (N % g) && N / g % 2 == 1)) = false := by
        rw [h0]
        have : (g == 2 * 0) = false := by rw [beq_eq_false_iff_ne]; omega
        simp [this]
      rw [hb]
      simpa using hle
    · have hlt : N / g < c := by
        rcases Nat.lt_or_ge (N / g) c with h3 | h3
        · exact h3
        · have := Nat.mul_le_mul_left g h3
          rw [Nat.mul_comm c] at h
          omega
      have := Bool.toNat_le (decide (g < 2 * (N % g)) || (g == 2 * (N % g) && N / g % 2 == 1))
      omega
  · rw [Nat.min_eq_right hd]
    have a := Nat.lt_log2_self (n := N)
    have h1 : 2 * N < 2 ^ (N.log2 + 2) := by rw [Nat.pow_succ]; omega
    generalize 2 ^ (N.log2 + 2) = g at *
    rw [Nat.div_eq_of_lt (by omega), Nat.mod_eq_of_lt (by omega)]
    have hb : (decide (g < 2 * N) || (g == 2 * N && 0 % 2 == 1)) = false := by
      have : (g == 2 * N) = false := by rw [beq_eq_false_iff_ne]; omega
      simp [this]
      omega
    rw [hb]
    simp
theorem cut_ge (s : Bool) (N d : Nat) : N / 2 ^ d ≤ Toward.even.cut s N d := by
  unfold Toward.cut
  simp only [Nat.shiftLeft_eq, Nat.one_mul]
  rcases Nat.le_total d (N.log2 + 2) with hd | hd
  · rw [Nat.min_eq_left hd]
    omega
  · have a := Nat.lt_log2_self (n := N)
    have h1 : N < 2 ^ (N.log2 + 2) := Nat.lt_of_lt_of_le a (Nat.pow_le_pow_right (by omega) (by omega))
    have h2 : N < 2 ^ d := Nat.lt_of_lt_of_le h1 (Nat.pow_le_pow_right (by omega) hd)
    rw [Nat.div_eq_of_lt h2]
    exact Nat.zero_le _
theorem pow_le {a b : Nat} (h : 2 ^ a ≤ 2 ^ b) : a ≤ b := (Nat.pow_le_pow_iff_right (by omega)).1 h
/-- A power that is not to be written out. -/
def e2 (n : Nat) : Nat := 2 ^ n
theorem e2_add (a b : Nat) : e2 (a + b) = e2 a * e2 b := Nat.pow_add 2 a b
theorem e2_pos (a : Nat) : 0 < e2 a := Nat.two_pow_pos a
theorem nearest_le (s : Bool) (mag e c T : Nat) (hT1 : 2 ≤ T) (hT : T ≤ 2046) (h : mag * e2 (e + 1023) ≤ e2 (T + c)) : ∃ r, r ≤ T * 4503599627370496 ∧ double.nearest s mag ((e : Int) - c) = wd s r := by
  obtain ⟨E1, hE⟩ : ∃ E1, E1 = e + 1023 := ⟨_, rfl⟩
  rw [← hE] at h
  unfold e2 at h
  by_cases h0 : mag = 0
  · subst h0
    exact ⟨0, Nat.zero_le _, by rw [nearest_zero, word_wd]⟩
  · obtain ⟨L, hL⟩ : ∃ L, L = mag.log2 := ⟨_, rfl⟩
    have l1 : 2 ^ L ≤ mag := by rw [hL]; exact Nat.log2_self_le h0
    have l2 : mag < 2 ^ (L + 1) := by rw [hL]; exact Nat.lt_log2_self
    have l3 : L + E1 ≤ T + c := pow_le (by rw [Nat.pow_add]; exact Nat.le_trans (Nat.mul_le_mul_right _ l1) h)
    obtain ⟨last, hlast⟩ : ∃ last, last = max ((e : Int) - c + (mag.log2 : Int) - 52) (-1074) := ⟨_, rfl⟩
    obtain ⟨up, hup⟩ : ∃ up, up = ((e : Int) - c - last).toNat := ⟨_, rfl⟩
    obtain ⟨dn, hdn⟩ : ∃ dn, dn = (last - ((e : Int) - c)).toNat := ⟨_, rfl⟩
    obtain ⟨kept, hk⟩ : ∃ kept, kept = Toward.even.cut s (mag <<< up) dn := ⟨_, rfl⟩
    rw [nearest_at s mag _ last kept h0 hlast.symm (by rw [hk, hup, hdn]), word_wd]
    refine ⟨_, ?_, rfl⟩
    have k1 : kept ≤ 2 ^ 53 := by
      rw [hk, Nat.shiftLeft_eq]
      refine cut_le s _ _ _ ?_
      have : mag * 2 ^ up ≤ 2 ^ (L + 1) * 2 ^ up := Nat.mul_le_mul_right _ (by omega)
      rw [← Nat.pow_add] at this ⊢
      exact Nat.le_trans this (Nat.pow_le_pow_right (by omega) (by omega))
    have k2 : ∀ t : Nat, (t : Int) = T - 1023 - last → kept ≤ 2 ^ t := by
      intro t ht
      rw [hk, Nat.shiftLeft_eq]
      refine cut_le s _ _ _ ?_
      have h1 : mag * 2 ^ E1 * 2 ^ up ≤ 2 ^ (T + c) * 2 ^ up := Nat.mul_le_mul_right _ h
      rw [← Nat.pow_add, show T + c + up = t + dn + E1 by omega, Nat.pow_add, Nat.mul_right_comm] at h1
      rw [← Nat.pow_add]
      exact Nat.le_of_mul_le_mul_right h1 (Nat.two_pow_pos E1)
    refine Nat.le_trans (Nat.min_le_left _ _) ?_
    have h53 : (2 : Nat) ^ 53 = 9007199254740992 := by decide
    by_cases hc : (e : Int) - c + (mag.log2 : Int) - 52 ≤ -1074
    · have : last = -1074 := by omega
      rw [this]
      omega
    · have e1 : last = (e : Int) - c + L - 52 := by omega
      obtain ⟨t, ht⟩ : ∃ t : Nat, (t : Int) = T - 1023 - last := ⟨(T - 1023 - last).toNat, by omega⟩
      by_cases ht2 : t = 52
      · have := k2 t ht
        rw [ht2] at this
        have h52 : (2 : Nat) ^ 52 = 4503599627370496 := by decide
        omega
      · omega
theorem nearest_ge (s : Bool) (mag e c : Nat) (h : e2 c ≤ mag * 2 ^ e) : ∃ r, 1023 * 4503599627370496 ≤ r ∧ r ≤ 9218868437227405312 ∧ double.nearest s mag ((e : Int) - c) = wd s r := by
  unfold e2 at h
  have h0 : mag ≠ 0 := by
    intro h0
    rw [h0, Nat.zero_mul] at h
    have := Nat.two_pow_pos c
    omega
  obtain ⟨L, hL⟩ : ∃ L, L = mag.log2 := ⟨_, rfl⟩
  have l1 : 2 ^ L ≤ mag := by rw [hL]; exact Nat.log2_self_le h0
  have l2 : mag < 2 ^ (L + 1) := by rw [hL]; exact Nat.lt_log2_self
  have l3 : c < L + 1 + e := by
    have h1 : 2 ^ c < 2 ^ (L + 1 + e) := by
      rw [Nat.pow_add]
      exact Nat.lt_of_le_of_lt h ((Nat.mul_lt_mul_right (Nat.two_pow_pos e)).2 l2)
    exact (Nat.pow_lt_pow_iff_right (by omega)).1 h1
  obtain ⟨last, hlast⟩ : ∃ last, last = max ((e : Int) - c + (mag.log2 : Int) - 52) (-1074) := ⟨_, rfl⟩
  have e1 : last = (e : Int) - c + L - 52 := by omega
  obtain ⟨up, hup⟩ : ∃ up, up = ((e : Int) - c - last).toNat := ⟨_, rfl⟩
  obtain ⟨dn, hdn⟩ : ∃ dn, dn = (last - ((e : Int) - c)).toNat := ⟨_, rfl⟩
  obtain ⟨kept, hk⟩ : ∃ kept, kept = Toward.even.cut s (mag <<< up) dn := ⟨_, rfl⟩
  rw [nearest_at s mag _ last kept h0 hlast.symm (by rw [hk, hup, hdn]), word_wd]
  have k1 : 2 ^ 52 ≤ kept := by
    rw [hk, Nat.shiftLeft_eq]
    refine Nat.le_trans ?_ (cut_ge s _ _)
    rw [Nat.le_div_iff_mul_le (Nat.two_pow_pos _), ← Nat.pow_add]
    have : 2 ^ L * 2 ^ up ≤ mag * 2 ^ up := Nat.mul_le_mul_right _ l1
    rw [← Nat.pow_add] at this
    exact Nat.le_trans (Nat.pow_le_pow_right (by omega) (by omega)) this
  have h52 : (2 : Nat) ^ 52 = 4503599627370496 := by decide
  refine ⟨_, ?_, Nat.min_le_right _ _, rfl⟩
  refine Nat.le_min.2 ⟨?_, by omega⟩
  omega
def P74 : Nat := e2 1074
theorem P74_def : e2 1074 = P74 := by unfold P74; rfl
theorem P74_pos : 0 < P74 := e2_pos 1074
/-- A word that is not above 2 to the T (less 1023). -/
def Sz (T x : Nat) : Prop := ∃ s r, x = wd s r ∧ r ≤ T * 4503599627370496
theorem valR_top (T : Nat) (h : 0 < T) : valR (T * 4503599627370496) = e2 (T + 51) := by
  unfold valR magR expR
  rw [if_neg (by omega), Nat.mul_mod_left, Nat.mul_div_cancel _ (by omega), Nat.add_zero, show T + 51 = 52 + (T - 1) by omega, e2_add 52]
  rfl
theorem valR_le {T r : Nat} (h0 : 0 < T) (h : r ≤ T * 4503599627370496) : valR r ≤ e2 (T + 51) := by
  rw [← valR_top T h0]
  rcases Nat.lt_or_eq_of_le h with h | h
  · exact Nat.le_of_lt (valR_lt h)
  · rw [h]; exact Nat.le_refl _
theorem valR_ge {r : Nat} (h : 1023 * 4503599627370496 ≤ r) : P74 ≤ valR r := by
  have h1 := valR_top 1023 (by omega)
  rw [show 1023 + 51 = 1074 from rfl, P74_def] at h1
  rw [← h1]
  rcases Nat.lt_or_eq_of_le h with h | h
  · exact Nat.le_of_lt (valR_lt h)
  · rw [h]; exact Nat.le_refl _
/-- A sum of two words, exactly. -/
theorem sum_of (s t : Bool) (a b : Nat) : ∃ (n : Bool) (mag k : Nat), (Datum.number s (magR a) ((expR a : Int) - 1074)).sum (Datum.number t (magR b) ((expR b : Int) - 1074)) = some (Datum.number n mag ((k : Int) - (1074 : Nat))) ∧ mag * 2 ^ k = (key s (valR a) + key t (valR b)).natAbs ∧ (key s (valR a) + key t (valR b) ≠ 0 → n = decide (key s (valR a) + key t (valR b) < 0)) := by
  obtain ⟨k, hk⟩ : ∃ k, k = min (expR a) (expR b) := ⟨_, rfl⟩
  have e0 : min ((expR a : Int) - 1074) ((expR b : Int) - 1074) = (k : Int) - (1074 : Nat) := by omega
  have e1 : ((expR a : Int) - 1074 - ((k : Int) - (1074 : Nat))).toNat = expR a - k := by omega
  have e2 : ((expR b : Int) - 1074 - ((k : Int) - (1074 : Nat))).toNat = expR b - k := by omega
  simp only [Datum.sum, signed_key]
  rw [e0, e1, e2]
  have v1 : valR a = magR a * 2 ^ (expR a - k) * 2 ^ k := by
    unfold valR
    rw [Nat.mul_assoc, ← pow_split, show expR a - k + k = expR a by omega]
  have v2 : valR b = magR b * 2 ^ (expR b - k) * 2 ^ k := by
    unfold valR
    rw [Nat.mul_assoc, ← pow_split, show expR b - k + k = expR b by omega]
  have kk : ∀ (s : Bool) (x : Nat), key s (x * 2 ^ k) = key s x * ((2 ^ k : Nat) : Int) := by
    intro s x
    cases s
    · simp only [key_false, Int.natCast_mul]
    · simp only [key_true, Int.natCast_mul, Int.neg_mul]
  have hp : (0 : Int) < ((2 ^ k : Nat) : Int) := by have := Nat.two_pow_pos k; omega
  have hsum : key s (valR a) + key t (valR b) = (key s (magR a * 2 ^ (expR a - k)) + key t (magR b * 2 ^ (expR b - k))) * ((2 ^ k : Nat) : Int) := by
    rw [v1, v2, kk, kk, Int.add_mul]
  refine ⟨_, _, k, rfl, ?_, ?_⟩
  · rw [hsum, Int.natAbs_mul, Int.natAbs_natCast]
  · intro hne
    have hz : key s (magR a * 2 ^ (expR a - k)) + key t (magR b * 2 ^ (expR b - k)) ≠ 0 := by
      intro hz
      rw [hz, Int.zero_mul] at hsum
      exact hne hsum
    rw [if_neg hz, hsum]
    congr 1
    apply propext
    constructor
    · intro h; exact Int.mul_neg_of_neg_of_pos h hp
    · intro h
      rcases Int.lt_or_le (key s (magR a * 2 ^ (expR a - k)) + key t (magR b * 2 ^ (expR b - k))) 0 with h1 | h1
      · exact h1
      · have := Int.mul_nonneg h1 (Int.le_of_lt hp); omega
theorem opp_read (t : Bool) (b : Nat) (hb : b < 9218868437227405312) : (double.read (wd t b)).opposite = Datum.number (!t) (magR b) ((expR b : Int) - 1074) := by
  rw [read_wd t b hb]; rfl
theorem top_lt {T r : Nat} (hT : T ≤ 2046) (h : r ≤ T * 4503599627370496) : r < 9218868437227405312 := by omega
theorem key_abs (s t : Bool) (a b : Nat) : (key s a + key t b).natAbs ≤ a + b := by
  cases s <;> cases t <;> simp only [key_false, key_true] <;> omega
theorem bound_of {mag k T V : Nat} (h : mag * 2 ^ k = V) (hV : V ≤ e2 (T + 51)) : mag * e2 (k + 1023) ≤ e2 (T + 1074) := by
  have hV' : mag * e2 k ≤ e2 (T + 51) := by rw [← h] at hV; exact hV
  have e1 : e2 (T + 1074) = e2 (T + 51) * e2 1023 := by rw [← e2_add]
  rw [e2_add k 1023, ← Nat.mul_assoc, e1]
  exact Nat.mul_le_mul_right (e2 1023) hV'
theorem e2_succ (n : Nat) : e2 (n + 1) = 2 * e2 n := by unfold e2; rw [Nat.pow_succ, Nat.mul_comm]
theorem add_sz {A x y : Nat} (h0 : 1 < A) (hA : A + 1 ≤ 2046) (hx : Sz A x) (hy : Sz A y) : ∃ z, double.add x y = some z ∧ Sz (A + 1) z := by
  obtain ⟨s, a, rfl, ha⟩ := hx
  obtain ⟨t, b, rfl, hb⟩ := hy
  obtain ⟨n, mag, k, h1, h2, _⟩ := sum_of s t a b
  have a1 := valR_le (by omega) ha
  have b1 := valR_le (by omega) hb
  have h3 := key_abs s t (valR a) (valR b)
  have h4 := e2_succ (A + 51)
  obtain ⟨r, hr, hn⟩ := nearest_le n mag k 1074 (A + 1) (by omega) hA (bound_of h2 (by rw [show A + 1 + 51 = A + 51 + 1 by omega]; omega))
  refine ⟨wd n r, ?_, n, r, rfl, hr⟩
  unfold Format.add
  rw [read_wd s a (top_lt (by omega) ha), read_wd t b (top_lt (by omega) hb), h1]
  simp only [Option.map_some, Format.write, hn]
theorem sub_sz {A x y : Nat} (h0 : 1 < A) (hA : A + 1 ≤ 2046) (hx : Sz A x) (hy : Sz A y) : ∃ z, double.sub x y = some z ∧ Sz (A + 1) z := by
  obtain ⟨s, a, rfl, ha⟩ := hx
  obtain ⟨t, b, rfl, hb⟩ := hy
  obtain ⟨n, mag, k, h1, h2, _⟩ := sum_of s (!t) a b
  have a1 := valR_le (by omega) ha
  have b1 := valR_le (by omega) hb
  have h3 := key_abs s (!t) (valR a) (valR b)
  have h4 := e2_succ (A + 51)
  obtain ⟨r, hr, hn⟩ := nearest_le n mag k 1074 (A + 1) (by omega) hA (bound_of h2 (by rw [show A + 1 + 51 = A + 51 + 1 by omega]; omega))
  refine ⟨wd n r, ?_, n, r, rfl, hr⟩
  unfold Format.sub
  rw [read_wd s a (top_lt (by omega) ha), opp_read t b (top_lt (by omega) hb), h1]
  simp only [Option.map_some, Format.write, hn]
theorem mul_wd {A B a b T : Nat} (s t : Bool) (h0 : 0 < A) (h1 : 0 < B) (hA : A + B = T + 1023) (hT : 2 ≤ T) (hT2 : T ≤ 2046) (hA2 : A ≤ 2046) (hB2 : B ≤ 2046) (ha : a ≤ A * 4503599627370496) (hb : b ≤ B * 4503599627370496) : ∃ r, double.mul (wd s a) (wd t b) = some (wd (s ^^ t) r) ∧ r ≤ T * 4503599627370496 := by
  have a1 := valR_le h0 ha
  have b1 := valR_le h1 hb
  obtain ⟨r, hr, hn⟩ := nearest_le (s ^^ t) (magR a * magR b) (expR a + expR b) 2148 T hT hT2 (by
    have := Nat.mul_le_mul_right (e2 1023) (Nat.mul_le_mul a1 b1)
    rw [← e2_add, ← e2_add, show A + 51 + (B + 51) + 1023 = T + 2148 by omega] at this
    refine Nat.le_trans (Nat.le_of_eq ?_) this
    rw [e2_add _ 1023, e2_add]
    unfold valR
    generalize e2 1023 = Q
    unfold e2
    grind)
  refine ⟨r, ?_, hr⟩
  unfold Format.mul
  rw [read_wd s a (top_lt hA2 ha), read_wd t b (top_lt hB2 hb)]
  simp only [Datum.product, Option.map_some, Format.write]
  rw [show (expR a : Int) - 1074 + ((expR b : Int) - 1074) = ((expR a + expR b : Nat) : Int) - (2148 : Nat) by omega, hn]
theorem mul_sz {A B T x y : Nat} (h0 : 0 < A) (h1 : 0 < B) (hA : A + B = T + 1023) (hT : 2 ≤ T) (hT2 : T ≤ 2046) (hA2 : A ≤ 2046) (hB2 : B ≤ 2046) (hx : Sz A x) (hy : Sz B y) : ∃ z, double.mul x y = some z ∧ Sz T z := by
  obtain ⟨s, a, rfl, ha⟩ := hx
  obtain ⟨t, b, rfl, hb⟩ := hy
  obtain ⟨r, h, hr⟩ := mul_wd s t h0 h1 hA hT hT2 hA2 hB2 ha hb
  exact ⟨_, h, _, r, rfl, hr⟩
theorem mul_pos {A B T a b : Nat} (h0 : 0 < A) (h1 : 0 < B) (hA : A + B = T + 1023) (hT : 2 ≤ T) (hT2 : T ≤ 2046) (hA2 : A ≤ 2046) (hB2 : B ≤ 2046) (ha : a ≤ A * 4503599627370496) (hb : b ≤ B * 4503599627370496) : ∃ r, double.mul a b = some r ∧ r ≤ T * 4503599627370496 := by
  obtain ⟨r, h, hr⟩ := mul_wd false false h0 h1 hA hT hT2 hA2 hB2 ha hb
  rw [wd_false, wd_false, Bool.xor_false, wd_false] at h
  exact ⟨r, h, hr⟩
/-- One less than a word between 0 and 2. -/
theorem sub_one {a : Nat} (ha : a ≤ 1024 * 4503599627370496) : ∃ z, double.sub a 4607182418800017408 = some z ∧ Sz 1023 z := by
  obtain ⟨n, mag, k, h1, h2, _⟩ := sum_of false true a (1023 * 4503599627370496)
  have a1 := valR_le (T := 1024) (by omega) ha
  have b1 := valR_top 1023 (by omega)
  have h4 := e2_succ (1023 + 51)
  rw [b1, key_false, key_true] at h2
  rw [show 1024 + 51 = 1023 + 51 + 1 from rfl] at a1
  obtain ⟨r, hr, hn⟩ := nearest_le n mag k 1074 1023 (by omega) (by omega) (bound_of h2 (by omega))
  refine ⟨wd n r, ?_, n, r, rfl, hr⟩
  unfold Format.sub
  have e1 : double.read a = double.read (wd false a) := by rw [wd_false]
  have e2 : (4607182418800017408 : Nat) = wd false (1023 * 4503599627370496) := by rw [wd_false]
  rw [e2, e1, read_wd false a (by omega), opp_read false _ (by omega), Bool.not_false, h1]
  simp only [Option.map_some, Format.write, hn]
/-- Two more than a word between -1 and 1. -/
theorem add_two {y : Nat} (hy : Sz 1023 y) : ∃ r, double.add 4611686018427387904 y = some r ∧ 1023 * 4503599627370496 ≤ r ∧ r ≤ 1025 * 4503599627370496 := by
  obtain ⟨t, b, rfl, hb⟩ := hy
  obtain ⟨n, mag, k, h1, h2, h3⟩ := sum_of false t (1024 * 4503599627370496) b
  have b1 := valR_le (by omega) hb
  have a1 := valR_top 1024 (by omega)
  have h4 := e2_succ (1023 + 51)
  have h5 := e2_succ (1023 + 51 + 1)
  have h6 := e2_pos (1023 + 51)
  rw [show 1024 + 51 = 1023 + 51 + 1 from rfl] at a1
  rw [a1] at h2 h3
  obtain ⟨P, hP⟩ : ∃ P, P = e2 (1023 + 51) := ⟨_, rfl⟩
  rw [← hP] at b1 h4 h6
  rw [h4] at h2 h3
  have hk : key false (2 * P) + key t (valR b) ≤ 3 * (P : Int) ∧ (P : Int) ≤ key false (2 * P) + key t (valR b) := by
    cases t <;> simp only [key_false, key_true] <;> omega
  have hg0 : e2 1074 ≤ mag * 2 ^ k := by
    rw [show 1074 = 1023 + 51 from rfl, ← hP]
    omega
  obtain ⟨r, hr, hr2, hn⟩ := nearest_ge n mag k 1074 hg0
  obtain ⟨r', hr', hn'⟩ := nearest_le n mag k 1074 1025 (by omega) (by omega) (bound_of h2 (by rw [show 1025 + 51 = 1023 + 51 + 1 + 1 from rfl, h5, h4]; omega))
  have hn0 : n = false := by rw [h3 (by omega)]; exact decide_eq_false (by omega)
  subst hn0
  rw [wd_false] at hn hn'
  have hrr : r = r' := by rw [← hn, hn']
  refine ⟨r, ?_, hr, by omega⟩
  unfold Format.add
  have e2 : (4611686018427387904 : Nat) = wd false (1024 * 4503599627370496) := by rw [wd_false]
  rw [e2, read_wd false _ (by omega), read_wd t b (by omega), h1]
  simp only [Option.map_some, Format.write, hn]
theorem log_bound {a b more c ma mb : Nat} (hz : ma ≠ 0) (a1 : ma * 2 ^ a ≤ e2 c) (b1 : e2 c ≤ mb * 2 ^ b) : 52 + 2 + mb.log2 - ma.log2 = more → a ≤ b + more := by
  unfold e2 at a1 b1
  have c1 : ma.log2 + a ≤ c := pow_le (by
    rw [Nat.pow_add]
    exact Nat.le_trans (Nat.mul_le_mul_right _ (Nat.log2_self_le hz)) a1)
  have c2 : c < mb.log2 + 1 + b := by
    have : 2 ^ c < 2 ^ (mb.log2 + 1 + b) := by
      rw [Nat.pow_add]
      exact Nat.lt_of_le_of_lt b1 ((Nat.mul_lt_mul_right (Nat.two_pow_pos _)).2 Nat.lt_log2_self)
    exact (Nat.pow_lt_pow_iff_right (by omega)).1 this
  omega
/-- The quotient's digits, and one more. -/
theorem quo_le {ma mb a b more mg : Nat} (hmb : 0 < mb) (hle : ma * 2 ^ a ≤ mb * 2 ^ b) (hab : a ≤ b + more) (hmg : mg ≤ 2 * (ma * 2 ^ more / mb) + (if ma * 2 ^ more % mb = 0 then 0 else 1)) : mg * 2 ^ a ≤ 2 ^ (b + more + 1) := by
  obtain ⟨T, hT⟩ : ∃ T, b + more = a + T := ⟨b + more - a, by omega⟩
  -- ma * 2^more ≤ mb * 2^T
  have h1 : ma * 2 ^ more ≤ mb * 2 ^ T := by
    have : ma * 2 ^ a * 2 ^ more ≤ mb * 2 ^ b * 2 ^ more := Nat.mul_le_mul_right _ hle
    rw [Nat.mul_assoc mb, ← Nat.pow_add, hT, Nat.pow_add, Nat.mul_right_comm, Nat.mul_comm (2 ^ a), ← Nat.mul_assoc] at this
    exact Nat.le_of_mul_le_mul_right this (Nat.two_pow_pos a)
  have h2 : mg ≤ 2 * 2 ^ T := by
    generalize ma * 2 ^ more = N at *
    have d1 := Nat.div_add_mod N mb
    split at hmg
    · have : N / mb ≤ 2 ^ T := Nat.div_le_of_le_mul h1
      omega
    · rename_i hne
      have : N / mb < 2 ^ T := by
        rcases Nat.lt_or_ge (N / mb) (2 ^ T) with h3 | h3
        · exact h3
        · have := Nat.mul_le_mul_left mb h3
          omega
      omega
  calc mg * 2 ^ a ≤ 2 * 2 ^ T * 2 ^ a := Nat.mul_le_mul_right _ h2
    _ = 2 ^ (b + more + 1) := by rw [hT, show a + T + 1 = T + a + 1 by omega, Nat.pow_succ, Nat.pow_add]; grind
/-- A word between -1 and 1 by one that is at least 1. -/
theorem div_sz {x b : Nat} (hx : Sz 1023 x) (h1 : 1023 * 4503599627370496 ≤ b) (h2 : b < 9218868437227405312) : ∃ z, double.div x b = some z ∧ Sz 1023 z := by
  obtain ⟨s, a, rfl, ha⟩ := hx
  have a1 := valR_le (by omega) ha
  have b1 := valR_ge h1
  rw [← P74_def] at b1
  have hb0 : magR b ≠ 0 := by
    intro h
    have := magR_zero.1 h
    omega
  unfold Format.div
  have e1 : double.read b = double.read (wd false b) := by rw [wd_false]
  rw [read_wd s a (by omega), e1, read_wd false b h2]
  simp only [Datum.quotient]
  rw [if_neg hb0]
  simp only [Option.map_some, Format.write]
  obtain ⟨more, hm⟩ : ∃ more, more = double.fractionBits + 2 + (magR b).log2 - (magR a).log2 := ⟨_, rfl⟩
  rw [← hm]
  have hf : double.fractionBits = 52 := rfl
  rw [hf] at hm
  have hmag : 2 * ((magR a <<< more) / magR b) + (magR a <<< more % magR b != 0).toNat ≤ 2 * (magR a * 2 ^ more / magR b) + (if magR a * 2 ^ more % magR b = 0 then 0 else 1) := by
    rw [Nat.shiftLeft_eq]
    by_cases h : magR a * 2 ^ more % magR b = 0
    · rw [if_pos h, h]; simp
    · rw [if_neg h, bne_iff_ne.2 h]; simp
  generalize 2 * ((magR a <<< more) / magR b) + (magR a <<< more % magR b != 0).toNat = mg at *
  have key1 : mg * e2 (expR a + 1023) ≤ e2 (1023 + (expR b + more + 1)) := by
    have e1 : e2 (1023 + (expR b + more + 1)) = e2 (expR b + more + 1) * e2 1023 := by rw [← e2_add, Nat.add_comm]
    rw [e2_add (expR a) 1023, ← Nat.mul_assoc, e1]
    suffices hs : mg * e2 (expR a) ≤ e2 (expR b + more + 1) from Nat.mul_le_mul_right (e2 1023) hs
    by_cases hz : magR a = 0
    · rw [hz, Nat.zero_mul, Nat.zero_div, Nat.zero_mod, if_pos rfl] at hmag
      have : mg = 0 := by omega
      rw [this, Nat.zero_mul]
      exact Nat.zero_le _
    · have q2 : expR a ≤ expR b + more := log_bound (c := 1023 + 51) hz a1 b1 hm.symm
      exact quo_le (by omega) (Nat.le_trans a1 b1) q2 hmag
  obtain ⟨r, hr, hn⟩ := nearest_le (s ^^ false) mg (expR a) (expR b + more + 1) 1023 (by omega) (by omega) key1
  refine ⟨wd (s ^^ false) r, ?_, _, r, rfl, hr⟩
  rw [show (expR a : Int) - 1074 - ((expR b : Int) - 1074) - (more : Int) - 1 = (expR a : Int) - ((expR b + more + 1 : Nat) : Int) by omega, hn]
theorem Sz.mono {A B x : Nat} (h : Sz A x) (hl : A ≤ B) : Sz B x := by
  obtain ⟨s, r, h1, h2⟩ := h
  exact ⟨s, r, h1, Nat.le_trans h2 (Nat.mul_le_mul_right _ hl)⟩
theorem Sz.lit (T x : Nat) (h : x ≤ T * 4503599627370496) : Sz T x := ⟨false, x, (wd_false x).symm, h⟩
end Fl
end Go.Proofs.YtellndmbllmjgaaGreatDoor
