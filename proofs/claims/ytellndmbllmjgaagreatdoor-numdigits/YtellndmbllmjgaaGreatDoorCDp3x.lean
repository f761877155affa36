/- Exponential with as many digits as tell the number; the four answers side by side. -/
import Derived.Test.YtellndmbllmjgaaGreatDoorCDe3x
import Derived.Test.YtellndmbllmjgaaGreatDoorCDp5x
import Derived.Test.YtellndmbllmjgaaGreatDoorCDp2x
import Derived.Test.YtellndmbllmjgaaGreatDoorCDn8x
import Derived.Test.YtellndmbllmjgaaGreatDoorCFm2
import Derived.Test.YtellndmbllmjgaaGreatDoorCNt2x
import Derived.Lib.DecodeN
set_option linter.unusedVariables false
namespace Go.Proofs.YtellndmbllmjgaaGreatDoor
open Go.RowKit Go.Shelf Go.Sort Fs Fl Fl2

/-- The digits that tell a word, and how far. -/
def FewD (r d J : Nat) : Prop := Fs.Told (magR r) (expR r) d J ∧ 0 < d ∧ d < 1152921504606846976 ∧ J < 1000
theorem fewD_bounds {r d J : Nat} (h : FewD r d J) : 1 ≤ Lib.nDigits d ∧ Lib.nDigits d ≤ 19 ∧ J < 1000 := by
  obtain ⟨a1, a2, a3, a4⟩ := h
  have h1 := Lib.nDigits_pos d
  have h2 : Lib.nDigits d ≤ 19 := nDigits_le d 19 (by omega) (by omega)
  omega
def fewT (s : Bool) (d J : Nat) : List Nat := (if s then [45] else []) ++ pwd (decN d) ((Lib.nDigits d : Int) + (J : Int) - 400 - 1)
theorem expP_few (s : Bool) (r : Nat) (n : Int) (h0 : 0 < r) (hf : r < 9218868437227405312) (hn : n < 0) (w : World) (hL : Laid w) :
    Calls Tryz.prog 57 #[.float .f64 (wd s r), .int .i64 n] w fun e w' => ∃ T, (∃ d J, FewD r d J ∧ T = txt (fewT s d J)) ∧ e = .returned (.tuple #[.string T, .nilIface]) ∧ Below w.heap.size w w' := by
  have hlz := lt_zero s r hf
  rw [decide_eq_true (show r ≠ 0 by omega), Bool.and_true] at hlz
  have ce : Calls Tryz.prog 26 #[.float .f64 r] w fun e w' => ∃ S m, (∃ d J, FewD r d J ∧ S = txt (decN d) ∧ m = (Lib.nDigits d : Int) + (J : Int) - 400) ∧ e = .returned (.agg #[.string S, .int .i64 m]) ∧ Below w.heap.size w w' := by
    refine (shortest_any r h0 hf w hL).mono ?_
    rintro e w' ⟨d, J, a1, a2, a3, a4, rfl, hb⟩
    exact ⟨_, _, ⟨d, J, ⟨a1, a2, a3, a4⟩, rfl, rfl⟩, rfl, hb⟩
  have c := expW_few (wd s r) r (txt (if s then [45] else [])) n hn (by rw [txt_size]; split <;> simp) (fun S m => ∃ d J, FewD r d J ∧ S = txt (decN d) ∧ m = (Lib.nDigits d : Int) + (J : Int) - 400)
    (fun T => ∃ d J, FewD r d J ∧ T = txt (pwd (decN d) ((Lib.nDigits d : Int) + (J : Int) - 400 - 1))) w
    (finite_yes s r hf) (minus_any (wd s r) s hlz) (abs_any s r (by omega)) ce
    (fun S m hS W hW => by
      obtain ⟨d, J, hF, rfl, rfl⟩ := hS
      obtain ⟨b1, b2, b3⟩ := fewD_bounds hF
      have hl := decN_length d
      refine (powered_at (decN d) ((Lib.nDigits d : Int) + (J : Int) - 400) (by omega) (by omega) (by omega) (by omega) W (hL.below hW)).mono ?_
      rintro e w' ⟨rfl, hb⟩
      refine ⟨_, ⟨d, J, hF, rfl⟩, ?_, rfl, hb⟩
      rw [txt_size]
      have := pwd_len (decN d) ((Lib.nDigits d : Int) + (J : Int) - 400 - 1) (by omega) (by omega) (by omega)
      omega)
  refine c.mono ?_
  rintro e w' ⟨T, ⟨d, J, hF, rfl⟩, rfl, hb⟩
  rw [txt_append]
  exact ⟨_, ⟨d, J, hF, rfl⟩, rfl, hb⟩
theorem expP_few0 (s : Bool) (n : Int) (hn : n < 0) (w : World) (hL : Laid w) :
    Calls Tryz.prog 57 #[.float .f64 (wd s 0), .int .i64 n] w fun e w' => e = .returned (.tuple #[.string (txt (pwd [48] 0)), .nilIface]) ∧ Below w.heap.size w w' := by
  have hlz := lt_zero s 0 (by omega)
  rw [decide_eq_false (show ¬ ((0 : Nat) ≠ 0) by simp), Bool.and_false] at hlz
  have ce : Calls Tryz.prog 26 #[.float .f64 0] w fun e w' => ∃ S m, (S = txt [48] ∧ m = 1) ∧ e = .returned (.agg #[.string S, .int .i64 m]) ∧ Below w.heap.size w w' := by
    refine (shortest_zero w hL).mono ?_
    rintro e w' ⟨rfl, hb⟩
    exact ⟨_, _, ⟨rfl, rfl⟩, rfl, hb⟩
  have c := expW_few (wd s 0) 0 (txt []) n hn (by rw [txt_size]; simp) (fun S m => S = txt [48] ∧ m = 1)
    (fun T => T = txt (pwd [48] 0)) w
    (finite_yes s 0 (by omega)) (minus_any (wd s 0) false hlz) (abs_any s 0 (by omega)) ce
    (fun S m hS W hW => by
      obtain ⟨rfl, rfl⟩ := hS
      refine (powered_at [48] 1 (by simp) (by simp) (by omega) (by omega) W (hL.below hW)).mono ?_
      rintro e w' ⟨rfl, hb⟩
      refine ⟨_, rfl, ?_, rfl, hb⟩
      rw [txt_size]
      have := pwd_len [48] 0 (by simp) (by omega) (by omega)
      omega)
  refine c.mono ?_
  rintro e w' ⟨T, rfl, rfl, hb⟩
  rw [txt_append]
  exact ⟨rfl, hb⟩
theorem expD_few (s : Bool) (r d J : Nat) (n : Int) (h0 : 0 < r) (hf : r < 9218868437227405312) (hn : n < 0) (hF : FewD r d J) (w : World) :
    Calls Tryz.prog 20 #[.float .f64 (wd s r), .int .i64 n] w fun e w' => e = .returned (.tuple #[.string (txt (fewT s d J)), .bool true]) ∧ Below w.heap.size w w' := by
  obtain ⟨b1, b2, b3⟩ := fewD_bounds hF
  have hl := decN_length d
  have pos : Calls Tryz.prog 20 #[.float .f64 r, .int .i64 n] w fun e w' => e = .returned (.tuple #[.string (txt (pwd (decN d) ((Lib.nDigits d : Int) + (J : Int) - 400 - 1))), .bool true]) ∧ Below w.heap.size w w' := by
    have o2 := ne_zero false r hf
    have o4 := lt_zero false r hf
    have o5 := gt_zero false r hf
    rw [wd_false] at o2 o4 o5
    rw [decide_eq_true (show r ≠ 0 by omega)] at o2 o5
    exact expR_few r n true ⟨#[]⟩ (decN d) ((Lib.nDigits d : Int) + (J : Int) - 400) (by omega) (by omega) (by omega) (by omega) hn (fun e => by cases e) w o2 o4 o5 (fun w => odd_pos r h0 hf w) (fun _ => fewest_any r d J h0 hf hF.1 hF.2.2.1 w)
  cases s
  · rw [wd_false]
    exact pos
  · have o4 := lt_zero true r hf
    rw [decide_eq_true (show r ≠ 0 by omega)] at o4
    have hng := run_neg true r (by omega)
    rw [Bool.not_true, wd_false] at hng
    have hpl := pwd_len (decN d) ((Lib.nDigits d : Int) + (J : Int) - 400 - 1) (by omega) (by omega) (by omega)
    refine (expR_neg (wd true r) r n _ (by rw [txt_size]; omega) (by omega) w o4 hng (fun w => odd_neg r h0 hf w) pos).mono ?_
    rintro e w' ⟨rfl, hb⟩
    refine ⟨?_, hb⟩
    rw [txt_m, txt_append]
    rfl
theorem expD_few0 (s : Bool) (n : Int) (hn : n < 0) (w : World) :
    Calls Tryz.prog 20 #[.float .f64 (wd s 0), .int .i64 n] w fun e w' => e = .returned (.tuple #[.string (txt (pwd [48] 0)), .bool true]) ∧ Below w.heap.size w w' := by
  have o2 := ne_zero s 0 (by omega)
  have o4 := lt_zero s 0 (by omega)
  have o5 := gt_zero s 0 (by omega)
  rw [decide_eq_false (show ¬ ((0 : Nat) ≠ 0) by simp)] at o2 o4 o5
  rw [Bool.and_false] at o4 o5
  exact expR_few (wd s 0) n false (txt [48]) [48] 1 (by simp) (by simp) (by omega) (by omega) hn (fun _ => ⟨rfl, rfl⟩) w o2 o4 o5 (fun w => odd_nought s w) (fun e => by cases e)

theorem both_ok {p f x : Nat} {n : Int} {w : World} (PT : ByteArray → Prop) (h : ∀ T, PT T → Ans f x n T true)
    (c : Calls Tryz.prog p #[.float .f64 x, .int .i64 n] w fun e w' => ∃ T, PT T ∧ e = .returned (.tuple #[.string T, .nilIface]) ∧ Below w.heap.size w w') : Both p f x n w := by
  refine c.mono ?_
  rintro e w' ⟨T, hT, rfl, hb⟩
  exact ⟨Or.inl ⟨T, h T hT, rfl⟩, hb⟩
theorem both_is {p f x : Nat} {n : Int} {w : World} (T : ByteArray) (h : Ans f x n T true)
    (c : Calls Tryz.prog p #[.float .f64 x, .int .i64 n] w fun e w' => e = .returned (.tuple #[.string T, .nilIface]) ∧ Below w.heap.size w w') : Both p f x n w := by
  refine c.mono ?_
  rintro e w' ⟨rfl, hb⟩
  exact ⟨Or.inl ⟨T, h, rfl⟩, hb⟩
theorem both_no {p f x : Nat} {n : Int} {w : World} (h : ∀ w, Calls Tryz.prog f #[.float .f64 x, .int .i64 n] w fun e w' => e = .returned (.tuple #[.string ⟨#[]⟩, .bool false]) ∧ w' = w)
    (c : Calls Tryz.prog p #[.float .f64 x, .int .i64 n] w fun e w' => e = .returned (.tuple #[.string ⟨#[]⟩, .iface 35 (.int .i64 5)]) ∧ w' = w) : Both p f x n w := by
  refine c.mono ?_
  rintro e w' ⟨rfl, rfl⟩
  refine ⟨Or.inr ⟨?_, rfl⟩, Below.refl _ _⟩
  intro w
  refine (h w).mono ?_
  rintro e w' ⟨rfl, rfl⟩
  exact ⟨rfl, Below.refl _ _⟩
theorem ans_same {f x : Nat} {n : Int} {T : ByteArray} {ok : Bool} (h : ∀ w, Calls Tryz.prog f #[.float .f64 x, .int .i64 n] w fun e w' => e = .returned (.tuple #[.string T, .bool ok]) ∧ w' = w) : Ans f x n T ok := by
  intro w
  refine (h w).mono ?_
  rintro e w' ⟨rfl, rfl⟩
  exact ⟨rfl, Below.refl _ _⟩
/-- What Text says of a word. -/
def TX (s : Bool) (r : Nat) (T : ByteArray) : Prop := ∃ U, (0 < r → r < 9218868437227405312 → ∃ d0 J, Fs.Told (magR r) (expR r) d0 J ∧ 0 < d0 ∧ d0 < 1152921504606846976 ∧ J < 1000 ∧ U = textD (decN d0) ((Lib.nDigits d0 : Int) + (J : Int) - 400)) ∧ T = txt (writ U s r)
theorem textC_any (s : Bool) (r : Nat) (h : r < 9223372036854775808) (w : World) (hL : Laid w) : TextC (wd s r) (TX s r) w := by
  intro W hW
  refine (text_any s r h W (hL.below hW)).mono ?_
  rintro e w' ⟨T, hT, rfl, hb⟩
  exact ⟨_, ⟨T, hT, rfl⟩, rfl, hb⟩
theorem sub_not (s : Bool) (r : Nat) (h1 : 9218868437227405312 ≤ r) (h : r < 9223372036854775808) : Ieee.double.sub (wd s r) (wd s r) = none := by
  rcases Nat.eq_or_lt_of_le h1 with h2 | h2
  · rw [← h2]; exact sub_inf s
  · exact sub_nan _ s r h2 h
/-- Odd, of what is no number. -/
theorem odd_far (s : Bool) (r : Nat) (h1 : 9218868437227405312 ≤ r) (h : r < 9223372036854775808) (U : List Nat) (w : World) :
    Calls Tryz.prog 30 #[.float .f64 (wd s r)] w fun e w' => e = .returned (.tuple #[.string (txt (writ U s r)), .bool true]) ∧ w' = w := by
  rcases Nat.eq_or_lt_of_le h1 with h2 | h2
  · subst h2
    obtain ⟨o1, o2, o3⟩ := inf_facts s
    cases s
    · rw [wd_false] at *
      exact odd_inf _ o1 o3 inf_max w
    · have o4 : (FloatKind.f64.format.order (wd true 9218868437227405312) 9218868437227405311 == some .gt) = false := by rw [wd_true]; decide
      have o5 : (FloatKind.f64.format.order (wd true 9218868437227405312) 18442240474082181119 == some .lt) = true := by rw [wd_true]; decide
      exact odd_minf _ o1 o3 o4 o5 w
  · have e : writ U s r = [78, 97, 78] := by unfold writ; rw [if_pos h2]
    rw [e]
    exact odd_nan _ (nan_self s r h2 h) w
theorem ne_far (s : Bool) (r : Nat) (h1 : 9218868437227405312 ≤ r) (h : r < 9223372036854775808) : (FloatKind.f64.format.order (wd s r) 0 != some .eq) = true := by
  rcases Nat.eq_or_lt_of_le h1 with h2 | h2
  · subst h2
    cases s
    · rw [wd_false]; decide
    · rw [wd_true]; decide
  · have e : FloatKind.f64.format.order (wd s r) 0 = none := order_nan 0 s r h2 h
    rw [e]; rfl
end Go.Proofs.YtellndmbllmjgaaGreatDoor
/- Fixed, Exponential, Precision, Radix: at every word and every number of digits the program says what the document says. -/
set_option linter.unusedVariables false
namespace Go.Proofs.YtellndmbllmjgaaGreatDoor
open Go.RowKit Go.Shelf Go.Sort Fs Fl Fl2

theorem lt_far (r : Nat) (h1 : 4921056587992461136 ≤ r) (h : r < 9223372036854775808) : (FloatKind.f64.format.order r 4921056587992461136 == some .lt) = false := by
  rcases Nat.lt_trichotomy r 9218868437227405312 with h2 | h2 | h2
  · rw [order_ltb r 4921056587992461136 h2 (by omega)]
    exact decide_eq_false (by omega)
  · rw [h2, order_infp _ (by omega)]; rfl
  · have := order_nan 4921056587992461136 false r h2 h
    rw [wd_false] at this
    have e : FloatKind.f64.format.order r 4921056587992461136 = none := this
    rw [e]; rfl
theorem fixA (hC : PartC) (s : Bool) (r : Nat) (h : r < 9223372036854775808) (n : Int) (w : World) (hT : TabAt 4 Lib.deBruijn64tab w) (hL : Laid w) : Both 56 19 (wd s r) n w := by
  by_cases hn : n < 0 ∨ 20 < n
  · exact both_no (fun w => fixR_no _ n hn w) (fixW_no _ n hn w)
  · obtain ⟨m, rfl⟩ : ∃ m : Nat, n = (m : Int) := ⟨n.toNat, by omega⟩
    have hm : m ≤ 20 := by omega
    by_cases hr : r < 4921056587992461136
    · rcases Nat.eq_zero_or_pos r with h0 | h0
      · subst h0
        exact both_is _ (fun w => fixD_zero s m hm w) (fixP_zero hC s m hm w hT)
      · exact both_is _ (fun w => fixD_mid s r m h0 hr hm w) (fixP_mid hC s r m h0 hr hm w hT)
    · refine both_ok (TX s r) ?_ (fixW_farP (wd s r) r m hm (TX s r) w (lt_far r (by omega) h) (abs_any s r h) (textC_any s r h w hL))
      rintro T ⟨U, hU, rfl⟩ w
      refine fixR_far (wd s r) m hm _ _ _ _ w rfl rfl rfl ?_ (numtext_any s r h U hU w)
      rcases Nat.lt_trichotomy r 9218868437227405312 with h2 | h2 | h2
      · rw [far_up s r h2, far_down s r h2, decide_eq_true (show 4921056587992461136 ≤ r by omega)]
        cases s
        · exact Or.inr (Or.inl rfl)
        · exact Or.inr (Or.inr rfl)
      · subst h2
        cases s
        · refine Or.inr (Or.inl ?_)
          rw [wd_false]; decide
        · refine Or.inr (Or.inr ?_)
          rw [wd_true]; decide
      · exact Or.inl (nan_self s r h2 h)
theorem odd_fin (s : Bool) (r : Nat) (hf : r < 9218868437227405312) : ∃ S b, (b = true → decide (r ≠ 0) = false) ∧ (0 < r → b = false) ∧ ∀ w, Calls Tryz.prog 30 #[.float .f64 (wd s r)] w fun e w' => e = .returned (.tuple #[.string S, .bool b]) ∧ w' = w := by
  rcases Nat.eq_zero_or_pos r with h0 | h0
  · subst h0
    exact ⟨_, true, fun _ => by simp, fun h => absurd h (by omega), fun w => odd_nought s w⟩
  · cases s
    · rw [wd_false]
      exact ⟨_, false, (fun e => by cases e), fun _ => rfl, fun w => odd_pos r h0 hf w⟩
    · exact ⟨_, false, (fun e => by cases e), fun _ => rfl, fun w => odd_neg r h0 hf w⟩
theorem expA (hC : PartC) (s : Bool) (r : Nat) (h : r < 9223372036854775808) (n : Int) (w : World) (hT : TabAt 4 Lib.deBruijn64tab w) (hL : Laid w) : Both 57 20 (wd s r) n w := by
  by_cases hf : r < 9218868437227405312
  · by_cases hn : 20 < n
    · obtain ⟨S, b, hb, _, co⟩ := odd_fin s r hf
      exact both_no (fun w => expR_no _ n b _ S hn w (ne_zero s r hf) hb co) (expW_no _ n hn w (finite_yes s r hf))
    · by_cases hneg : n < 0
      · rcases Nat.eq_zero_or_pos r with h0 | h0
        · subst h0
          exact both_is _ (fun w => expD_few0 s n hneg w) (expP_few0 s n hneg w hL)
        · refine both_ok _ ?_ (expP_few s r n h0 hf hneg w hL)
          rintro T ⟨d, J, hF, rfl⟩ w
          exact expD_few s r d J n h0 hf hneg hF w
      · obtain ⟨m, rfl⟩ : ∃ m : Nat, n = (m : Int) := ⟨n.toNat, by omega⟩
        have hm : m ≤ 20 := by omega
        rcases Nat.eq_zero_or_pos r with h0 | h0
        · subst h0
          exact both_is _ (fun w => expD_zero s m hm w) (expP_zero hC s m hm w hT hL)
        · refine both_ok (fun T => ∃ p, IsPt r p ∧ T = txt ((if s then [45] else []) ++ pwd (rdD r (m + 1) p) (rdP r (m + 1) p - 1))) ?_ ?_
          · rintro T ⟨p, hp, rfl⟩ w
            exact expD_mid s r m p h0 hf hm hp w
          · refine (expP_mid hC s r m h0 hf hm w hT hL).mono ?_
            rintro e w' ⟨p, hp, rfl, hb⟩
            exact ⟨_, ⟨p, hp, rfl⟩, rfl, hb⟩
  · refine both_ok (TX s r) ?_ (expW_text (wd s r) n (TX s r) w (fun w => finite_not _ (sub_not s r (by omega) h) w) (textC_any s r h w hL))
    rintro T ⟨U, hU, rfl⟩
    exact ans_same (fun w => expR_odd (wd s r) n _ w (ne_far s r (by omega) h) (fun w => odd_far s r (by omega) h U w))
theorem precA (hC : PartC) (s : Bool) (r : Nat) (h : r < 9223372036854775808) (n : Int) (w : World) (hT : TabAt 4 Lib.deBruijn64tab w) (hL : Laid w) : Both 58 21 (wd s r) n w := by
  by_cases hf : r < 9218868437227405312
  · by_cases hn : n < 1 ∨ 21 < n
    · obtain ⟨S, b, hb, _, co⟩ := odd_fin s r hf
      exact both_no (fun w => precR_no _ n b _ S hn w (ne_zero s r hf) hb co) (precW_no _ n hn w (finite_yes s r hf))
    · obtain ⟨m, rfl⟩ : ∃ m : Nat, n = (m : Int) := ⟨n.toNat, by omega⟩
      have hm0 : 1 ≤ m := by omega
      have hm : m ≤ 21 := by omega
      rcases Nat.eq_zero_or_pos r with h0 | h0
      · subst h0
        exact both_is _ (fun w => precD_zero s m hm0 hm w) (precP_zero hC s m hm0 hm w hT)
      · refine both_ok (fun T => ∃ p, IsPt r p ∧ T = txt ((if s then [45] else []) ++ precL (rdD r m p) m (rdP r m p))) ?_ ?_
        · rintro T ⟨p, hp, rfl⟩ w
          exact precD_mid s r m p h0 hf hm0 hm hp w
        · refine (precP_mid hC s r m h0 hf hm0 hm w hT hL).mono ?_
          rintro e w' ⟨p, hp, rfl, hb⟩
          exact ⟨_, ⟨p, hp, rfl⟩, rfl, hb⟩
  · refine both_ok (TX s r) ?_ (precW_text (wd s r) n (TX s r) w (fun w => finite_not _ (sub_not s r (by omega) h) w) (textC_any s r h w hL))
    rintro T ⟨U, hU, rfl⟩
    exact ans_same (fun w => precR_odd (wd s r) n _ w (ne_far s r (by omega) h) (fun w => odd_far s r (by omega) h U w))
theorem radA (hC : PartC) (s : Bool) (r : Nat) (h : r < 9223372036854775808) (b : Int) (w : World) (hT : TabAt 4 Lib.deBruijn64tab w) (hL : Laid w) : Both 59 22 (wd s r) b w := by
  by_cases hb : b < 2 ∨ 36 < b
  · exact both_no (fun w => radR_no _ b hb w) (radW_no _ b hb w)
  · obtain ⟨m, rfl⟩ : ∃ m : Nat, b = (m : Int) := ⟨b.toNat, by omega⟩
    have hm0 : 2 ≤ m := by omega
    have hm : m ≤ 36 := by omega
    by_cases hf : r < 9218868437227405312
    · rcases Nat.eq_zero_or_pos r with h0 | h0
      · subst h0
        refine both_ok (TX s 0) ?_ (radW_textP (wd s 0) (m : Int) (by omega) (by omega) true (TX s 0) w (by rw [eq_zero s 0 hf]; rfl) (Or.inl rfl) (finite_yes s 0 hf) (textC_any s 0 h w hL))
        rintro T ⟨U, hU, rfl⟩
        exact ans_same (fun w => radR_odd (wd s 0) (m : Int) (by omega) (by omega) _ w (fun w => odd_nought s w))
      · obtain ⟨S, b, _, hbf, co⟩ := odd_fin s r hf
        have hbf := hbf h0
        subst hbf
        by_cases h10 : m = 10
        · subst h10
          refine both_ok (TX s r) ?_ (radW_textP (wd s r) _ (by omega) (by omega) _ (TX s r) w rfl (Or.inr rfl) (finite_yes s r hf) (textC_any s r h w hL))
          rintro T ⟨U, hU, rfl⟩ w
          exact radR_ten (wd s r) S _ w co (numtext_any s r h U hU w)
        · exact both_is _ (fun w => radD_mid s r m h0 hf hm0 hm h10 (radT_len r m hf hm0) w) (radP_mid hC s r m h0 hf hm0 hm h10 w hT)
    · refine both_ok (TX s r) ?_ (radW_odd (wd s r) (m : Int) (by omega) (by omega) (TX s r) w (fun w => finite_not _ (sub_not s r (by omega) h) w) (textC_any s r h w hL))
      rintro T ⟨U, hU, rfl⟩
      exact ans_same (fun w => radR_odd (wd s r) (m : Int) (by omega) (by omega) _ w (fun w => odd_far s r (by omega) h U w))
end Go.Proofs.YtellndmbllmjgaaGreatDoor
/- The law NumDigits, given what Written says. -/
set_option linter.unusedVariables false
namespace Go.Proofs.YtellndmbllmjgaaGreatDoor
open Go.RowKit Go.Shelf

set_option maxRecDepth 100000 in
set_option maxHeartbeats 1000000 in
theorem law_up0 (B x : Nat) (n how : Int) (w : World) (hx : ∀ w, (callFunc 7 #[.int .u64 (B : Int)]).run Tryz.prog w = .ok (.value (.float .f64 x)) w) (h0 : ¬ how < 0) (hk : how.tmod 4 = 0) (c : WrittenC 19 x n 0 w) :
    Calls Tryz.prog 5 #[.int .u64 (B : Int), .int .i64 n, .int .i64 how] w fun e w' => e = .returned (.bool true) ∧ Below w.heap.size w w' := by
  have C : Hid (WrittenC 19 x n 0 w) := c
  clear c
  go_enter Tryz.func5, Tryz.ntmps5
  go_wp2_with (first | (go_at_call 18; fail))
  refine (C.out).mono ?_
  rintro e w1 ⟨h, hb⟩
  clear C
  rcases h with ⟨T, hA, rfl⟩ | ⟨hA, rfl⟩
  · have cd := hA w1
    clear hA
    go_wp2_with (first | (go_at_call 19; refine cd.mono ?_; rintro e w2 ⟨rfl, hb2⟩))
    go_ret
    exact ⟨by simp, hb.trans (hb2.mono hb.size)⟩
  · have cd := hA w1
    clear hA
    go_wp2_with (first | (go_at_call 19; refine cd.mono ?_; rintro e w2 ⟨rfl, hb2⟩))
    go_ret
    exact ⟨by simp, hb.trans (hb2.mono hb.size)⟩
set_option maxRecDepth 100000 in
set_option maxHeartbeats 1000000 in
theorem law_up1 (B x : Nat) (n how : Int) (w : World) (hx : ∀ w, (callFunc 7 #[.int .u64 (B : Int)]).run Tryz.prog w = .ok (.value (.float .f64 x)) w) (h0 : ¬ how < 0) (hk : how.tmod 4 = 1) (c : WrittenC 20 x n 1 w) :
    Calls Tryz.prog 5 #[.int .u64 (B : Int), .int .i64 n, .int .i64 how] w fun e w' => e = .returned (.bool true) ∧ Below w.heap.size w w' := by
  have C : Hid (WrittenC 20 x n 1 w) := c
  clear c
  go_enter Tryz.func5, Tryz.ntmps5
  go_wp2_with (first | (go_at_call 18; fail))
  refine (C.out).mono ?_
  rintro e w1 ⟨h, hb⟩
  clear C
  rcases h with ⟨T, hA, rfl⟩ | ⟨hA, rfl⟩
  · have cd := hA w1
    clear hA
    go_wp2_with (first | (go_at_call 20; refine cd.mono ?_; rintro e w2 ⟨rfl, hb2⟩))
    go_ret
    exact ⟨by simp, hb.trans (hb2.mono hb.size)⟩
  · have cd := hA w1
    clear hA
    go_wp2_with (first | (go_at_call 20; refine cd.mono ?_; rintro e w2 ⟨rfl, hb2⟩))
    go_ret
    exact ⟨by simp, hb.trans (hb2.mono hb.size)⟩
set_option maxRecDepth 100000 in
set_option maxHeartbeats 1000000 in
theorem law_up2 (B x : Nat) (n how : Int) (w : World) (hx : ∀ w, (callFunc 7 #[.int .u64 (B : Int)]).run Tryz.prog w = .ok (.value (.float .f64 x)) w) (h0 : ¬ how < 0) (hk : how.tmod 4 = 2) (c : WrittenC 21 x n 2 w) :
    Calls Tryz.prog 5 #[.int .u64 (B : Int), .int .i64 n, .int .i64 how] w fun e w' => e = .returned (.bool true) ∧ Below w.heap.size w w' := by
  have C : Hid (WrittenC 21 x n 2 w) := c
  clear c
  go_enter Tryz.func5, Tryz.ntmps5
  go_wp2_with (first | (go_at_call 18; fail))
  refine (C.out).mono ?_
  rintro e w1 ⟨h, hb⟩
  clear C
  rcases h with ⟨T, hA, rfl⟩ | ⟨hA, rfl⟩
  · have cd := hA w1
    clear hA
    go_wp2_with (first | (go_at_call 21; refine cd.mono ?_; rintro e w2 ⟨rfl, hb2⟩))
    go_ret
    exact ⟨by simp, hb.trans (hb2.mono hb.size)⟩
  · have cd := hA w1
    clear hA
    go_wp2_with (first | (go_at_call 21; refine cd.mono ?_; rintro e w2 ⟨rfl, hb2⟩))
    go_ret
    exact ⟨by simp, hb.trans (hb2.mono hb.size)⟩
set_option maxRecDepth 100000 in
set_option maxHeartbeats 1000000 in
theorem law_up3 (B x : Nat) (n how : Int) (w : World) (hx : ∀ w, (callFunc 7 #[.int .u64 (B : Int)]).run Tryz.prog w = .ok (.value (.float .f64 x)) w) (h0 : ¬ how < 0) (hk : how.tmod 4 = 3) (c : WrittenC 22 x n 3 w) :
    Calls Tryz.prog 5 #[.int .u64 (B : Int), .int .i64 n, .int .i64 how] w fun e w' => e = .returned (.bool true) ∧ Below w.heap.size w w' := by
  have C : Hid (WrittenC 22 x n 3 w) := c
  clear c
  go_enter Tryz.func5, Tryz.ntmps5
  go_wp2_with (first | (go_at_call 18; fail))
  refine (C.out).mono ?_
  rintro e w1 ⟨h, hb⟩
  clear C
  rcases h with ⟨T, hA, rfl⟩ | ⟨hA, rfl⟩
  · have cd := hA w1
    clear hA
    go_wp2_with (first | (go_at_call 22; refine cd.mono ?_; rintro e w2 ⟨rfl, hb2⟩))
    go_ret
    exact ⟨by simp, hb.trans (hb2.mono hb.size)⟩
  · have cd := hA w1
    clear hA
    go_wp2_with (first | (go_at_call 22; refine cd.mono ?_; rintro e w2 ⟨rfl, hb2⟩))
    go_ret
    exact ⟨by simp, hb.trans (hb2.mono hb.size)⟩
set_option maxRecDepth 100000 in
set_option maxHeartbeats 1000000 in
theorem law_dn0 (B x : Nat) (n how : Int) (w : World) (hx : ∀ w, (callFunc 7 #[.int .u64 (B : Int)]).run Tryz.prog w = .ok (.value (.float .f64 x)) w) (h0 : how < 0) (h1 : -9223372036854775808 ≤ how) (hk : (-(how + 1)).tmod 4 = 0) (c : WrittenC 19 x n 0 w) :
    Calls Tryz.prog 5 #[.int .u64 (B : Int), .int .i64 n, .int .i64 how] w fun e w' => e = .returned (.bool true) ∧ Below w.heap.size w w' := by
  have C : Hid (WrittenC 19 x n 0 w) := c
  clear c
  have hw1 : IntKind.i64.wrap (how + 1) = how + 1 := by rw [IntKind.wrap_i64]; omega
  have hw2 : IntKind.i64.wrap (-(how + 1)) = -(how + 1) := by rw [IntKind.wrap_i64]; omega
  go_enter Tryz.func5, Tryz.ntmps5
  go_wp2_with (first | (go_at_call 18; fail))
  refine (C.out).mono ?_
  rintro e w1 ⟨h, hb⟩
  clear C
  rcases h with ⟨T, hA, rfl⟩ | ⟨hA, rfl⟩
  · have cd := hA w1
    clear hA
    go_wp2_with (first | (go_at_call 19; refine cd.mono ?_; rintro e w2 ⟨rfl, hb2⟩))
    go_ret
    exact ⟨by simp, hb.trans (hb2.mono hb.size)⟩
  · have cd := hA w1
    clear hA
    go_wp2_with (first | (go_at_call 19; refine cd.mono ?_; rintro e w2 ⟨rfl, hb2⟩))
    go_ret
    exact ⟨by simp, hb.trans (hb2.mono hb.size)⟩
set_option maxRecDepth 100000 in
set_option maxHeartbeats 1000000 in
theorem law_dn1 (B x : Nat) (n how : Int) (w : World) (hx : ∀ w, (callFunc 7 #[.int .u64 (B : Int)]).run Tryz.prog w = .ok (.value (.float .f64 x)) w) (h0 : how < 0) (h1 : -9223372036854775808 ≤ how) (hk : (-(how + 1)).tmod 4 = 1) (c : WrittenC 20 x n 1 w) :
    Calls Tryz.prog 5 #[.int .u64 (B : Int), .int .i64 n, .int .i64 how] w fun e w' => e = .returned (.bool true) ∧ Below w.heap.size w w' := by
  have C : Hid (WrittenC 20 x n 1 w) := c
  clear c
  have hw1 : IntKind.i64.wrap (how + 1) = how + 1 := by rw [IntKind.wrap_i64]; omega
  have hw2 : IntKind.i64.wrap (-(how + 1)) = -(how + 1) := by rw [IntKind.wrap_i64]; omega
  go_enter Tryz.func5, Tryz.ntmps5
  go_wp2_with (first | (go_at_call 18; fail))
  refine (C.out).mono ?_
  rintro e w1 ⟨h, hb⟩
  clear C
  rcases h with ⟨T, hA, rfl⟩ | ⟨hA, rfl⟩
  · have cd := hA w1
    clear hA
    go_wp2_with (first | (go_at_call 20; refine cd.mono ?_; rintro e w2 ⟨rfl, hb2⟩))
    go_ret
    exact ⟨by simp, hb.trans (hb2.mono hb.size)⟩
  · have cd := hA w1
    clear hA
    go_wp2_with (first | (go_at_call 20; refine cd.mono ?_; rintro e w2 ⟨rfl, hb2⟩))
    go_ret
    exact ⟨by simp, hb.trans (hb2.mono hb.size)⟩
set_option maxRecDepth 100000 in
set_option maxHeartbeats 1000000 in
theorem law_dn2 (B x : Nat) (n how : Int) (w : World) (hx : ∀ w, (callFunc 7 #[.int .u64 (B : Int)]).run Tryz.prog w = .ok (.value (.float .f64 x)) w) (h0 : how < 0) (h1 : -9223372036854775808 ≤ how) (hk : (-(how + 1)).tmod 4 = 2) (c : WrittenC 21 x n 2 w) :
    Calls Tryz.prog 5 #[.int .u64 (B : Int), .int .i64 n, .int .i64 how] w fun e w' => e = .returned (.bool true) ∧ Below w.heap.size w w' := by
  have C : Hid (WrittenC 21 x n 2 w) := c
  clear c
  have hw1 : IntKind.i64.wrap (how + 1) = how + 1 := by rw [IntKind.wrap_i64]; omega
  have hw2 : IntKind.i64.wrap (-(how + 1)) = -(how + 1) := by rw [IntKind.wrap_i64]; omega
  go_enter Tryz.func5, Tryz.ntmps5
  go_wp2_with (first | (go_at_call 18; fail))
  refine (C.out).mono ?_
  rintro e w1 ⟨h, hb⟩
  clear C
  rcases h with ⟨T, hA, rfl⟩ | ⟨hA, rfl⟩
  · have cd := hA w1
    clear hA
    go_wp2_with (first | (go_at_call 21; refine cd.mono ?_; rintro e w2 ⟨rfl, hb2⟩))
    go_ret
    exact ⟨by simp, hb.trans (hb2.mono hb.size)⟩
  · have cd := hA w1
    clear hA
    go_wp2_with (first | (go_at_call 21; refine cd.mono ?_; rintro e w2 ⟨rfl, hb2⟩))
    go_ret
    exact ⟨by simp, hb.trans (hb2.mono hb.size)⟩
set_option maxRecDepth 100000 in
set_option maxHeartbeats 1000000 in
theorem law_dn3 (B x : Nat) (n how : Int) (w : World) (hx : ∀ w, (callFunc 7 #[.int .u64 (B : Int)]).run Tryz.prog w = .ok (.value (.float .f64 x)) w) (h0 : how < 0) (h1 : -9223372036854775808 ≤ how) (hk : (-(how + 1)).tmod 4 = 3) (c : WrittenC 22 x n 3 w) :
    Calls Tryz.prog 5 #[.int .u64 (B : Int), .int .i64 n, .int .i64 how] w fun e w' => e = .returned (.bool true) ∧ Below w.heap.size w w' := by
  have C : Hid (WrittenC 22 x n 3 w) := c
  clear c
  have hw1 : IntKind.i64.wrap (how + 1) = how + 1 := by rw [IntKind.wrap_i64]; omega
  have hw2 : IntKind.i64.wrap (-(how + 1)) = -(how + 1) := by rw [IntKind.wrap_i64]; omega
  go_enter Tryz.func5, Tryz.ntmps5
  go_wp2_with (first | (go_at_call 18; fail))
  refine (C.out).mono ?_
  rintro e w1 ⟨h, hb⟩
  clear C
  rcases h with ⟨T, hA, rfl⟩ | ⟨hA, rfl⟩
  · have cd := hA w1
    clear hA
    go_wp2_with (first | (go_at_call 22; refine cd.mono ?_; rintro e w2 ⟨rfl, hb2⟩))
    go_ret
    exact ⟨by simp, hb.trans (hb2.mono hb.size)⟩
  · have cd := hA w1
    clear hA
    go_wp2_with (first | (go_at_call 22; refine cd.mono ?_; rintro e w2 ⟨rfl, hb2⟩))
    go_ret
    exact ⟨by simp, hb.trans (hb2.mono hb.size)⟩
end Go.Proofs.YtellndmbllmjgaaGreatDoor
/- Plain mathematics for units: no program in sight. -/
namespace Go.Proofs.YtellndmbllmjgaaGreatDoor.Ut
namespace Un

/-- The bytes of a code point, or of a half that stands alone. -/
def encR (r : Nat) : List Nat :=
  if r < 128 then [r]
  else if r < 2048 then [192 + r / 64, 128 + r % 64]
  else if r < 65536 then [224 + r / 4096, 128 + r / 64 % 64, 128 + r % 64]
  else [240 + r / 262144, 128 + r / 4096 % 64, 128 + r / 64 % 64, 128 + r % 64]

def isF (r : Nat) : Bool := decide (55296 ≤ r) && decide (r < 56320)
def isS (r : Nat) : Bool := decide (56320 ≤ r) && decide (r < 57344)

/-- The code points of units. -/
def pts : List Nat → List Nat
  | [] => []
  | [u] => [u]
  | u :: v :: t => if isF u && isS v then (65536 + (u - 55296) * 1024 + v - 56320) :: pts t else u :: pts (v :: t)

/-- The units of a code point. -/
def unR (r : Nat) : List Nat := if r < 65536 then [r] else [55296 + (r - 65536) / 1024, 56320 + (r - 65536) % 1024]

theorem unR_pair (u v : Nat) (h : (isF u && isS v) = true) : unR (65536 + (u - 55296) * 1024 + v - 56320) = [u, v] := by
  simp only [isF, isS, Bool.and_eq_true, decide_eq_true_eq] at h
  unfold unR
  rw [if_neg (by omega)]
  have e1 : 55296 + (65536 + (u - 55296) * 1024 + v - 56320 - 65536) / 1024 = u := by omega
  have e2 : 56320 + (65536 + (u - 55296) * 1024 + v - 56320 - 65536) % 1024 = v := by omega
  rw [e1, e2]

theorem pts_unR : ∀ (l : List Nat), (∀ u ∈ l, u < 65536) → (pts l).flatMap unR = l
  | [], _ => rfl
  | [u], h => by
    have := h u (by simp)
    simp [pts, unR, this]
  | u :: v :: t, h => by
    unfold pts
    split
    · rename_i hh
      rw [List.flatMap_cons, unR_pair u v hh, pts_unR t (fun x hx => h x (by simp [hx]))]
      rfl
    · have hu : u < 65536 := h u (by simp)
      rw [List.flatMap_cons, pts_unR (v :: t) (fun x hx => h x (by simp at hx ⊢; exact .inr hx))]
      simp [unR, hu]

theorem pts_lt : ∀ (l : List Nat), (∀ u ∈ l, u < 65536) → ∀ r ∈ pts l, r ≤ 1114111
  | [], _ => by simp [pts]
  | [u], h => by
    have := h u (by simp)
    simp [pts]; omega
  | u :: v :: t, h => by
    unfold pts
    split
    · rename_i hh
      simp only [isF, isS, Bool.and_eq_true, decide_eq_true_eq] at hh
      intro r hr
      rcases List.mem_cons.1 hr with hr | hr
      · rw [hr]; omega
      · exact pts_lt t (fun x hx => h x (by simp [hx])) r hr
    · intro r hr
      rcases List.mem_cons.1 hr with rfl | hr
      · have := h r (by simp); omega
      · exact pts_lt (v :: t) (fun x hx => h x (by simp at hx ⊢; exact .inr hx)) r hr

theorem encR_lt (r : Nat) (h : r ≤ 1114111) : ∀ b ∈ encR r, b < 256 := by
  unfold encR
  intro b hb
  repeat' split at hb
  all_goals simp only [List.mem_cons, List.not_mem_nil, or_false] at hb
  all_goals omega

theorem encR_len (r : Nat) : 1 ≤ (encR r).length ∧ (encR r).length ≤ 4 := by
  unfold encR
  repeat' split
  all_goals simp

/-- What stands at the front of four bytes (n: how many bytes there are), with the halves looked for. -/
def pointN (n b0 b1 b2 b3 : Nat) : Nat × Nat :=
  if Lib.decodeN n b0 b1 b2 b3 = (65533, 1) ∧ 3 ≤ n ∧ b0 = 237 ∧ b1 / 32 = 5 ∧ b2 / 64 = 2 then (55296 + b1 % 32 * 64 + b2 % 64, 3) else Lib.decodeN n b0 b1 b2 b3

set_option maxRecDepth 100000 in
theorem pointN_encR (r n b0 b1 b2 b3 : Nat) (h : r ≤ 1114111) (hn : (encR r).length ≤ n) (e0 : (encR r)[0]?.getD 0 = b0) (e1 : 1 < (encR r).length → (encR r)[1]?.getD 0 = b1)
    (e2 : 2 < (encR r).length → (encR r)[2]?.getD 0 = b2) (e3 : 3 < (encR r).length → (encR r)[3]?.getD 0 = b3) : pointN n b0 b1 b2 b3 = (r, (encR r).length) := by
  unfold encR at hn e0 e1 e2 e3 ⊢
  by_cases h1 : r < 128
  · simp only [h1, if_true] at hn e0 ⊢
    simp at e0 hn
    subst e0
    have hd : Lib.decodeN n r b1 b2 b3 = (r, 1) := by
      unfold Lib.decodeN
      rw [if_pos h1]
    unfold pointN
    rw [hd, if_neg (by omega)]
    rfl
  by_cases h2 : r < 2048
  · simp only [h1, h2, if_true, if_false] at hn e0 e1 ⊢
    simp at e0 e1 hn
    subst e0; subst e1
    have g1 : ¬ (192 + r / 64 < 128) := by omega
    have g2 : (192 + r / 64) / 32 = 6 ∧ (1 < n ∧ (128 + r % 64) / 64 = 2) := by omega
    have g3 : (192 + r / 64) % 32 * 64 + (128 + r % 64) % 64 = r := by omega
    have hd : Lib.decodeN n (192 + r / 64) (128 + r % 64) b2 b3 = (r, 2) := by
      unfold Lib.decodeN
      rw [if_neg g1, if_pos g2, g3, if_pos (by omega)]
    unfold pointN
    rw [hd, if_neg (by simp)]
    rfl
  by_cases h3 : r < 65536
  · simp only [h1, h2, h3, if_true, if_false] at hn e0 e1 e2 ⊢
    simp at e0 e1 e2 hn
    subst e0; subst e1; subst e2
    have g1 : ¬ (224 + r / 4096 < 128) := by omega
    have g2 : ¬ ((224 + r / 4096) / 32 = 6 ∧ (1 < n ∧ (128 + r / 64 % 64) / 64 = 2)) := by omega
    have g3 : (224 + r / 4096) / 16 = 14 ∧ (1 < n ∧ (128 + r / 64 % 64) / 64 = 2) ∧ (2 < n ∧ (128 + r % 64) / 64 = 2) := by omega
    have g4 : (224 + r / 4096) % 16 * 4096 + (128 + r / 64 % 64) % 64 * 64 + (128 + r % 64) % 64 = r := by omega
    by_cases hs : 55296 ≤ r ∧ r < 57344
    · have hd : Lib.decodeN n (224 + r / 4096) (128 + r / 64 % 64) (128 + r % 64) b3 = (65533, 1) := by
        unfold Lib.decodeN
        rw [if_neg g1, if_neg g2, if_pos g3, g4, if_neg (by omega)]
      unfold pointN
      rw [hd, if_pos ⟨rfl, by omega, by omega, by omega, by omega⟩]
      refine Prod.ext ?_ rfl
      show 55296 + (128 + r / 64 % 64) % 32 * 64 + (128 + r % 64) % 64 = r
      omega
    · have hd : Lib.decodeN n (224 + r / 4096) (128 + r / 64 % 64) (128 + r % 64) b3 = (r, 3) := by
        unfold Lib.decodeN
        rw [if_neg g1, if_neg g2, if_pos g3, g4, if_pos (by omega)]
      unfold pointN
      rw [hd, if_neg (by simp)]
      rfl
  · simp only [h1, h2, h3, if_false] at hn e0 e1 e2 e3 ⊢
    simp at e0 e1 e2 e3 hn
    subst e0; subst e1; subst e2; subst e3
    have g1 : ¬ (240 + r / 262144 < 128) := by omega
    have g2 : ¬ ((240 + r / 262144) / 32 = 6 ∧ (1 < n ∧ (128 + r / 4096 % 64) / 64 = 2)) := by omega
    have g3 : ¬ ((240 + r / 262144) / 16 = 14 ∧ (1 < n ∧ (128 + r / 4096 % 64) / 64 = 2) ∧ (2 < n ∧ (128 + r / 64 % 64) / 64 = 2)) := by omega
    have g4 : (240 + r / 262144) / 8 = 30 ∧ (1 < n ∧ (128 + r / 4096 % 64) / 64 = 2) ∧ (2 < n ∧ (128 + r / 64 % 64) / 64 = 2) ∧ (3 < n ∧ (128 + r % 64) / 64 = 2) := by omega
    have g5 : (240 + r / 262144) % 8 * 262144 + (128 + r / 4096 % 64) % 64 * 4096 + (128 + r / 64 % 64) % 64 * 64 + (128 + r % 64) % 64 = r := by omega
    have hd : Lib.decodeN n (240 + r / 262144) (128 + r / 4096 % 64) (128 + r / 64 % 64) (128 + r % 64) = (r, 4) := by
      unfold Lib.decodeN
      rw [if_neg g1, if_neg g2, if_neg g3, if_pos g4, g5, if_pos (by omega)]
    unfold pointN
    rw [hd, if_neg (by simp)]
    rfl

end Un
end Go.Proofs.YtellndmbllmjgaaGreatDoor.Ut
