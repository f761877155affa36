/- The document's Uint32, of a finite word; both, of what is no finite number. -/
import Derived.Test.YtellndmbllmjgaaGreatDoorCBqEx
import Derived.Test.YtellndmbllmjgaaGreatDoorCWh4x
set_option linter.unusedVariables false
namespace Go.Proofs.YtellndmbllmjgaaGreatDoor.Nq
open Go.RowKit Go.Shelf Fl

/-- The rung of a whole number. -/
def rungOf (n : Nat) : Nat := Ieee.double.nearest false n 0
theorem Wd.rung {n r : Nat} (h : Wd n r) : r = rungOf n := by
  unfold rungOf
  rcases h with ⟨rfl, rfl⟩ | ⟨M, L, hN, hL, rfl⟩
  · rw [nearest_zero, word_wd, wd_false]
  · rw [nearest_whole hN hL, wd_false]
theorem Mod_any (s : Bool) (n r : Nat) (h : Wd n r) (w : World) :
    Calls Tryz.prog 154 #[.float .f64 (wd s r), .float .f64 4751297606875873280] w fun e w' => e = .returned (.float .f64 (wd s (rungOf (n % 4294967296)))) ∧ w' = w := by
  refine (Mod_of (wd s r) 0 (fun x' => ∃ r', Wd (n % 4294967296) r' ∧ x' = wd s r') (fun w => mod_any s n r h w) w).mono ?_
  rintro e w' ⟨⟨x', ⟨r', hr', rfl⟩, rfl⟩, rfl⟩
  rw [hr'.rung]
  exact ⟨rfl, rfl⟩
theorem Wd_small {n : Nat} (h : n < 4294967296) : Wd n (rungOf n) := by
  by_cases h0 : n = 0
  · subst h0
    exact Or.inl ⟨rfl, by unfold rungOf; rw [nearest_zero, word_wd, wd_false]⟩
  · obtain ⟨M, L, hN, hL⟩ := norm_small h0 (by omega)
    exact Or.inr ⟨M, L, hN, by omega, by unfold rungOf; rw [nearest_whole hN (by omega), wd_false]⟩
theorem trunc_whole (s : Bool) (r : Nat) (h : r < 9218868437227405312) : ∃ t, Wd (wholeR r) t ∧ Ieee.double.write ((Ieee.double.read (wd s r)).integral .zero) = wd s t := by
  rw [trunc_wd s r h]
  by_cases h0 : wholeR r = 0
  · exact ⟨0, Or.inl ⟨h0, rfl⟩, by rw [h0, nearest_zero, word_wd]⟩
  · obtain ⟨M, L, hN, hL⟩ := norm_whole r h h0
    exact ⟨_, Or.inr ⟨M, L, hN, hL, rfl⟩, nearest_whole hN hL⟩
theorem num_notNaN (s : Bool) (r : Nat) (h : r < 9218868437227405312) : (Ieee.double.read (wd s r)).isNaN = false := by
  rw [read_wd s r h]; rfl
theorem max_wd : (18442240474082181119 : Nat) = wd true 9218868437227405311 := by rw [wd_true]
theorem num_orders (s : Bool) (r : Nat) (h : r < 9218868437227405312) : FloatKind.f64.format.order (wd s r) (wd s r) = some .eq ∧ (FloatKind.f64.format.order (wd s r) 9218868437227405311 == some .gt) = false ∧ (FloatKind.f64.format.order (wd s r) 18442240474082181119 == some .lt) = false := by
  have e1 : FloatKind.f64.format.order (wd s r) (wd s r) = some (compare (key s r) (key s r)) := order_key s s r r h h
  have e2 : FloatKind.f64.format.order (wd s r) 9218868437227405311 = some (compare (key s r) (key false 9218868437227405311)) := by
    have := order_key s false r 9218868437227405311 h (by omega)
    rw [wd_false] at this
    exact this
  have e3 : FloatKind.f64.format.order (wd s r) 18442240474082181119 = some (compare (key s r) (key true 9218868437227405311)) := by
    rw [max_wd]
    exact order_key s true r 9218868437227405311 h (by omega)
  have k1 : -(9218868437227405311 : Int) ≤ key s r ∧ key s r ≤ 9218868437227405311 := by
    cases s
    · rw [key_false]; omega
    · rw [key_true]; omega
  refine ⟨by rw [e1, cmp_eq], ?_, ?_⟩
  · rw [e2, key_false]
    rcases Int.lt_or_eq_of_le k1.2 with h1 | h1
    · rw [cmp_lt (by omega)]; rfl
    · rw [h1]
      exact congrArg (· == some Ordering.gt) (congrArg some (cmp_eq _))
  · rw [e3, key_true]
    rcases Int.lt_or_eq_of_le k1.1 with h1 | h1
    · rw [cmp_gt (by omega)]; rfl
    · rw [← h1]
      exact congrArg (· == some Ordering.lt) (congrArg some (cmp_eq _))
/-- **The document's Uint32, of a finite word.** -/
theorem refU_num (s : Bool) (r : Nat) (h : r < 9218868437227405312) (w : World) :
    Calls Tryz.prog 105 #[.float .f64 (wd s r)] w fun e w' => e = .returned (.int .u32 (key s (wholeR r) % 4294967296)) ∧ w' = w := by
  obtain ⟨o1, o2, o3⟩ := num_orders s r h
  have o1' : (FloatKind.f64.format.order (wd s r) (wd s r) != some .eq) = false := by rw [o1]; rfl
  obtain ⟨t, ht, htr⟩ := trunc_whole s r h
  have ct := trunc_any (wd s r) (num_notNaN s r h)
  rw [htr] at ct
  have cm := Mod_any s (wholeR r) t ht w
  generalize wholeR r = V at *
  have hn : V % 4294967296 < 4294967296 := Nat.mod_lt _ (by omega)
  obtain ⟨n, hnv⟩ : ∃ n, n = V % 4294967296 := ⟨_, rfl⟩
  rw [← hnv] at cm hn
  have hw := Wd_small hn
  have o4 := lt_zero s (rungOf n) hw.lt
  generalize rungOf n = q at *
  by_cases h0 : n = 0
  · have hq0 := hw.zero.2 h0
    subst hq0
    rw [show decide ((0 : Nat) ≠ 0) = false from rfl, Bool.and_false] at o4
    have hv : key s V % 4294967296 = 0 := by
      cases s
      · rw [key_false]; omega
      · rw [key_true]; omega
    rw [hv]
    exact refU_pos _ _ _ 0 w o1' o2 o3 ct cm o4 (conv_u32 _ 0 (u32_zero s))
  · have hq0 : q ≠ 0 := fun e => h0 (hw.zero.1 e)
    rw [decide_eq_true hq0, Bool.and_true] at o4
    obtain ⟨M, L, hN, hL, rfl⟩ : ∃ M L, Norm n M L ∧ L ≤ 1023 ∧ q = rungI M L := by
      rcases hw with ⟨e, _⟩ | hw
      · exact absurd e h0
      · exact hw
    have hL32 : L < 32 := by
      rcases Nat.lt_or_ge L 32 with h5 | h5
      · exact h5
      · have : (2 : Nat) ^ 32 ≤ 2 ^ L := Nat.pow_le_pow_right (by omega) h5
        have := hN.2.1
        omega
    cases s
    · have hv : key false V % 4294967296 = (n : Int) := by rw [key_false]; omega
      rw [hv]
      refine refU_pos _ _ _ (n : Int) w o1' o2 o3 ct cm o4 (conv_u32 _ _ ?_)
      rw [wd_false]
      exact u32_word hN hn (by omega)
    · obtain ⟨M', L', hN', hL'⟩ := norm_small (n := 4294967296 - n) (by omega) (by omega)
      have hv : key true V % 4294967296 = ((4294967296 - n : Nat) : Int) := by rw [key_true]; omega
      rw [hv]
      exact refU_neg _ _ _ (rungI M' L') _ w o1' o2 o3 ct cm o4 (fun ty w => run_float_arith w .add ty .f64 _ _ _ (add_y hN hL32 hN' hL')) (conv_u32 _ _ (u32_word hN' (by omega) hL'))
end Go.Proofs.YtellndmbllmjgaaGreatDoor.Nq
/- Both Uint32s of what is no finite number; both Int32s; the law's walk. -/
set_option linter.unusedVariables false
namespace Go.Proofs.YtellndmbllmjgaaGreatDoor.Nq
open Go.RowKit Go.Shelf Fl

theorem u32_not (x : Nat) (h : Ieee.double.sub x x = none) (w : World) : Calls Tryz.prog 104 #[.float .f64 x] w fun e w' => e = .returned (.int .u32 0) ∧ w' = w.drew := by
  have cf := finite_not x h w
  clear h
  go_enter Tryz.func104, Tryz.ntmps104
  go_wp2_with (first | (go_at_call 109; refine cf.mono ?_; rintro e w' ⟨rfl, rfl⟩) | go_in)
  go_ret
  exact ⟨rfl, rfl⟩
/-- What the document's Uint32 takes for no finite number. -/
def NotNum (x : Nat) : Prop := (FloatKind.f64.format.order x x != some .eq) = true ∨ ((FloatKind.f64.format.order x x != some .eq) = false ∧ (FloatKind.f64.format.order x 9218868437227405311 == some .gt) = true) ∨ ((FloatKind.f64.format.order x x != some .eq) = false ∧ (FloatKind.f64.format.order x 9218868437227405311 == some .gt) = false ∧ (FloatKind.f64.format.order x 18442240474082181119 == some .lt) = true)
set_option maxRecDepth 100000 in
set_option maxHeartbeats 1000000 in
theorem refU_not (x : Nat) (h : NotNum x) (w : World) : Calls Tryz.prog 105 #[.float .f64 x] w fun e w' => e = .returned (.int .u32 0) ∧ w' = w := by
  rcases h with o1 | ⟨o1, o2⟩ | ⟨o1, o2, o3⟩
  all_goals
    go_enter Tryz.func105, Tryz.ntmps105
    go_wp2
    go_ret
    exact ⟨rfl, rfl⟩
theorem int32_of (x : Nat) (v : Int) (w w1 : World) (c : Calls Tryz.prog 104 #[.float .f64 x] w fun e w' => e = .returned (.int .u32 v) ∧ w' = w1) :
    Calls Tryz.prog 53 #[.float .f64 x] w fun e w' => e = .returned (.int .i32 (wrap32 v)) ∧ w' = w1 := by
  go_enter Tryz.func53, Tryz.ntmps53
  go_wp2_with (first | (go_at_call 104; refine c.mono ?_; rintro e w' ⟨rfl, rfl⟩) | go_in)
  go_ret
  exact ⟨rfl, rfl⟩
theorem refInt32_of (x : Nat) (v : Int) (w w1 : World) (c : Calls Tryz.prog 105 #[.float .f64 x] w fun e w' => e = .returned (.int .u32 v) ∧ w' = w1) :
    Calls Tryz.prog 55 #[.float .f64 x] w fun e w' => e = .returned (.int .i32 (wrap32 v)) ∧ w' = w1 := by
  go_enter Tryz.func55, Tryz.ntmps55
  go_wp2_with (first | (go_at_call 105; refine c.mono ?_; rintro e w' ⟨rfl, rfl⟩) | go_in)
  go_ret
  exact ⟨rfl, rfl⟩
end Go.Proofs.YtellndmbllmjgaaGreatDoor.Nq
/- The law, of every word of 64 bits. -/
set_option linter.unusedVariables false
namespace Go.Proofs.YtellndmbllmjgaaGreatDoor.Nq
open Go.RowKit Go.Shelf Fl

theorem word_of (B : Nat) (h : B < 18446744073709551616) : ∃ s r, r < 9223372036854775808 ∧ B = wd s r := by
  by_cases h1 : B < 9223372036854775808
  · exact ⟨false, B, h1, by rw [wd_false]⟩
  · exact ⟨true, B - 9223372036854775808, by omega, by rw [wd_true]; omega⟩
theorem order_inf (s : Bool) : FloatKind.f64.format.order (wd s 9218868437227405312) (wd s 9218868437227405312) = some .eq := by
  cases s
  · rw [wd_false]; decide
  · rw [wd_true]; decide
theorem notNum_inf (s : Bool) : NotNum (wd s 9218868437227405312) := by
  have h : (FloatKind.f64.format.order (wd s 9218868437227405312) (wd s 9218868437227405312) != some .eq) = false := by rw [order_inf]; rfl
  cases s
  · refine Or.inr (Or.inl ⟨h, ?_⟩)
    rw [wd_false]; decide
  · refine Or.inr (Or.inr ⟨h, ?_, ?_⟩)
    · rw [wd_true]; decide
    · rw [wd_true]; decide
theorem notNum_nan (s : Bool) (r : Nat) (h : 9218868437227405312 < r) (h2 : r < 9223372036854775808) : NotNum (wd s r) := by
  have e : FloatKind.f64.format.order (wd s r) (wd s r) = none := order_nan _ s r h h2
  refine Or.inl ?_
  rw [e]; rfl
end Go.Proofs.YtellndmbllmjgaaGreatDoor.Nq
/- Int32 of every word, by both. -/
set_option linter.unusedVariables false
namespace Go.Proofs.YtellndmbllmjgaaGreatDoor
open Go.RowKit Go.Shelf Fl
theorem wrap32_bounds (v : Int) : -2147483648 ≤ wrap32 v ∧ wrap32 v ≤ 2147483647 := by
  unfold wrap32
  omega
/-- **Both take a word for the same number of 32 bits.** -/
theorem int32_both (B : Nat) (hB : B < 18446744073709551616) : ∃ v : Int, -2147483648 ≤ v ∧ v ≤ 2147483647 ∧
    (∀ w, TabAt 4 Lib.deBruijn64tab w → Calls Tryz.prog 53 #[.float .f64 B] w fun e w' => e = .returned (.int .i32 v) ∧ Below w.heap.size w w') ∧
    (∀ w, Calls Tryz.prog 55 #[.float .f64 B] w fun e w' => e = .returned (.int .i32 v) ∧ Below w.heap.size w w') := by
  obtain ⟨s, r, hr, rfl⟩ := Nq.word_of B hB
  rcases Nat.lt_trichotomy r 9218868437227405312 with h | h | h
  · have h1 := fun w hT => Nq.int32_of _ _ w w (Nq.u32_num s r h w hT)
    have h2 := fun w => Nq.refInt32_of _ _ w w (Nq.refU_num s r h w)
    refine ⟨wrap32 (key s (wholeR r) % 4294967296), (wrap32_bounds _).1, (wrap32_bounds _).2, fun w hT => (h1 w hT).mono ?_, fun w => (h2 w).mono ?_⟩
    · rintro e w' ⟨rfl, rfl⟩; exact ⟨rfl, Below.refl _ _⟩
    · rintro e w' ⟨rfl, rfl⟩; exact ⟨rfl, Below.refl _ _⟩
  · subst h
    have hs := sub_inf s
    have hN := Nq.notNum_inf s
    have h1 := fun w => Nq.int32_of _ _ w _ (Nq.u32_not _ hs w)
    have h2 := fun w => Nq.refInt32_of _ _ w _ (Nq.refU_not _ hN w)
    refine ⟨wrap32 0, (wrap32_bounds _).1, (wrap32_bounds _).2, fun w hT => (h1 w).mono ?_, fun w => (h2 w).mono ?_⟩
    · rintro e w' ⟨rfl, rfl⟩; exact ⟨rfl, (Below.refl _ _).drew⟩
    · rintro e w' ⟨rfl, rfl⟩; exact ⟨rfl, Below.refl _ _⟩
  · have hs := sub_nan (wd s r) s r h hr
    have hN := Nq.notNum_nan s r h hr
    have h1 := fun w => Nq.int32_of _ _ w _ (Nq.u32_not _ hs w)
    have h2 := fun w => Nq.refInt32_of _ _ w _ (Nq.refU_not _ hN w)
    refine ⟨wrap32 0, (wrap32_bounds _).1, (wrap32_bounds _).2, fun w hT => (h1 w).mono ?_, fun w => (h2 w).mono ?_⟩
    · rintro e w' ⟨rfl, rfl⟩; exact ⟨rfl, (Below.refl _ _).drew⟩
    · rintro e w' ⟨rfl, rfl⟩; exact ⟨rfl, Below.refl _ _⟩
end Go.Proofs.YtellndmbllmjgaaGreatDoor
/- The program's ReadInt, given what it calls. -/
set_option linter.unusedVariables false
namespace Go.Proofs.YtellndmbllmjgaaGreatDoor
open Go.RowKit Go.Shelf Go.Sort Fs Fl
/-- What stands behind the sign to the base: nothing, or a number. -/
inductive IntEnd (sg : Bool) (b : Nat) (t : List Nat) : Nat → Prop
  | none (x : Nat) (h : runL b t = 0) (hx : NanW x) : IntEnd sg b t x
  | num (R : Nat) (h : 0 < runL b t) (hR : Near (vB b (t.take (runL b t))) 1 R) : IntEnd sg b t (wd sg (min R 9218868437227405312))
theorem run_take (b : Nat) : ∀ (t : List Nat), runL b (t.take (runL b t)) = runL b t
  | [] => rfl
  | c :: t => by
    by_cases h : digV c < b
    · have e : runL b (c :: t) = runL b t + 1 := by unfold runL; rw [List.takeWhile_cons, decide_eq_true h]; rfl
      rw [e, List.take_succ_cons]
      have e2 : runL b (c :: t.take (runL b t)) = runL b (t.take (runL b t)) + 1 := by unfold runL; rw [List.takeWhile_cons, decide_eq_true h]; rfl
      rw [e2, run_take b t]
    · have e : runL b (c :: t) = 0 := by unfold runL; rw [List.takeWhile_cons, decide_eq_false h]; rfl
      rw [e]
      rfl
theorem take_run_len (b : Nat) (t : List Nat) : (t.take (runL b t)).length = runL b t := by
  rw [List.length_take]
  have := runL_le b t
  omega
theorem whole_end {sg : Bool} {b x : Nat} {t : List Nat} (h : WholeIs b (t.take (runL b t)) x) : (runL b t = 0 ∧ x = 9221120237041090561) ∨ ∃ R, 0 < runL b t ∧ Near (vB b (t.take (runL b t))) 1 R ∧ x = min R 9218868437227405312 := by
  have hl := take_run_len b t
  have hr := run_take b t
  rcases h with h | ⟨R, h0, h, hR⟩
  · refine .inl ⟨?_, rfl⟩
    rcases h with h | h
    · rw [h] at hl; exact hl.symm
    · omega
  · refine .inr ⟨R, ?_, hR, rfl⟩
    rw [← hl]
    exact List.length_pos_iff.2 h0
set_option maxRecDepth 100000 in
set_option maxHeartbeats 1000000 in
theorem ri_hex0 (S T U0 U V : ByteArray) (X n N : Nat) (B : Nat) (t : List Nat) (sg : Bool) (w : World) (hN : U.size = N) (hNb : N ≤ 25000) (hn : n ≤ N) (hrn : n = runL B t) (hV : U.extract 0 n = V) (hB : B = 16)
    (ct : Calls Tryz.prog 39 #[.string S] w fun e w' => e = .returned (.string T) ∧ Below w.heap.size w w')
    (cs : ∀ w, Calls Tryz.prog 52 #[.string T] w fun e w' => e = .returned (.tuple #[.string U0, .float .f64 (wd sg 4607182418800017408)]) ∧ w' = w)
    (ci : ∀ W, Below w.heap.size w W → Calls Tryz.prog 53 #[.float .f64 X] W fun e w' => e = .returned (.int .i32 0) ∧ Below W.heap.size W w')
    (ch : ∀ w, Calls Tryz.prog 40 #[.string U0] w fun e w' => e = .returned (.tuple #[.string U, .bool true]) ∧ w' = w)
    (cr : ∀ w, Calls Tryz.prog 54 #[.string U, .int .i64 16] w fun e w' => e = .returned (.int .i64 (n : Int)) ∧ w' = w)
    (cw : ∀ W, Calls Tryz.prog 41 #[.string V, .int .i64 16] W fun e w' => ∃ x, WholeIs B (t.take (runL B t)) x ∧ e = .returned (.float .f64 x) ∧ Below W.heap.size W w') :
    Calls Tryz.prog 16 #[.string S, .float .f64 X] w fun e w' => ∃ x, IntEnd sg B t x ∧ e = .returned (.float .f64 x) ∧ Below w.heap.size w w' := by
  have hm0 := mul_nan (wd sg 4607182418800017408) 9221120237041090561 (mul_sone_nan sg)
  have hnn := nb_nan (wd sg 4607182418800017408) 9221120237041090561
  have HNN := (show Hid _ from hnn)
  have hm2 : ∀ F, F ≤ 9218868437227405312 → ∀ ty w, (binOp .mul ty (.float .f64 (wd sg 4607182418800017408)) (.float .f64 F)).run Tryz.prog w = .ok (.float .f64 (wd sg F)) w := fun F hF ty w => run_float_arith w .mul ty .f64 _ _ _ (mul_unit sg F hF)
  have HM2 := (show Hid _ from hm2)
  have HM0 := (show Hid _ from hm0)
  have HRN := (show Hid (n = runL B t) from hrn)
  obtain ⟨us, hus⟩ : ∃ us, us = wd sg 4607182418800017408 := ⟨_, rfl⟩
  rw [← hus] at cs HM2 HM0 HNN
  have HWE : Hid (∀ x, WholeIs B (t.take (runL B t)) x → (runL B t = 0 ∧ x = 9221120237041090561) ∨ ∃ R, 0 < runL B t ∧ Near (vB B (t.take (runL B t))) 1 R ∧ x = min R 9218868437227405312) := fun x h => whole_end (sg := sg) h
  clear hm0 hnn hm2 hus hrn
  have CI := (show Hid _ from ci)
  clear ci
  go_enter Tryz.func16, Tryz.ntmps16
  go_wp2_with (first | (go_at_call 39; refine ct.mono ?_; rintro e w1 ⟨rfl, hw1⟩; clear ct) | (go_at_call 52; refine (cs _).mono ?_; rintro e w2 ⟨rfl, hw2⟩; obtain rfl := hw2.symm; clear cs) | (go_at_call 53; refine (CI.out _ hw1).mono ?_; rintro e w3 ⟨rfl, hw3⟩; clear CI) | (go_at_call 40; refine (ch _).mono ?_; rintro e w4 ⟨rfl, hw4⟩; obtain rfl := hw4.symm; clear ch) | (go_at_call 54; refine (cr _).mono ?_; rintro e w4 ⟨rfl, hw4⟩; obtain rfl := hw4.symm; clear cr) | (go_at_call 41; fail))
  refine (cw _).mono ?_
  rintro e w5 ⟨x, hx, rfl, hw5⟩
  have hw13 := hw1.trans (hw3.mono hw1.size)
  have hw15 := hw13.trans (hw5.mono hw13.size)
  rcases HWE.out x hx with ⟨h0, rfl⟩ | ⟨R, h0, hR, rfl⟩
  · have hm := HM0.out
    have HE := (show Hid (∀ y, NanW y → IntEnd sg B t y) from fun y hy => .none y h0 hy)
    clear hx h0 HM0 HM2
    go_wp2
    go_ret
    exact ⟨_, HE.out _ (HNN.out _), rfl, hw15.drew⟩
  · have hm := HM2.out _ (Nat.min_le_right R 9218868437227405312)
    have HE := (show Hid (∀ y, y = wd sg (min R 9218868437227405312) → IntEnd sg B t y) from fun y hy => by rw [hy]; exact .num R h0 hR)
    obtain ⟨F, hF⟩ : ∃ F, F = min R 9218868437227405312 := ⟨_, rfl⟩
    rw [← hF] at hm HE ⊢
    clear hx h0 hR hF HM0 HM2
    obtain ⟨z, hz⟩ : ∃ z, z = wd sg F := ⟨_, rfl⟩
    rw [← hz] at hm
    have HZ := (show Hid (z = wd sg F) from hz)
    clear hz
    go_wp2
    go_ret
    exact ⟨_, HE.out _ HZ.out, rfl, hw15⟩
set_option maxRecDepth 100000 in
set_option maxHeartbeats 1000000 in
theorem ri_hex16 (S T U0 U V : ByteArray) (X n N : Nat) (B : Nat) (t : List Nat) (sg : Bool) (w : World) (hN : U.size = N) (hNb : N ≤ 25000) (hn : n ≤ N) (hrn : n = runL B t) (hV : U.extract 0 n = V) (hB : B = 16)
    (ct : Calls Tryz.prog 39 #[.string S] w fun e w' => e = .returned (.string T) ∧ Below w.heap.size w w')
    (cs : ∀ w, Calls Tryz.prog 52 #[.string T] w fun e w' => e = .returned (.tuple #[.string U0, .float .f64 (wd sg 4607182418800017408)]) ∧ w' = w)
    (ci : ∀ W, Below w.heap.size w W → Calls Tryz.prog 53 #[.float .f64 X] W fun e w' => e = .returned (.int .i32 16) ∧ Below W.heap.size W w')
    (ch : ∀ w, Calls Tryz.prog 40 #[.string U0] w fun e w' => e = .returned (.tuple #[.string U, .bool true]) ∧ w' = w)
    (cr : ∀ w, Calls Tryz.prog 54 #[.string U, .int .i64 16] w fun e w' => e = .returned (.int .i64 (n : Int)) ∧ w' = w)
    (cw : ∀ W, Calls Tryz.prog 41 #[.string V, .int .i64 16] W fun e w' => ∃ x, WholeIs B (t.take (runL B t)) x ∧ e = .returned (.float .f64 x) ∧ Below W.heap.size W w') :
    Calls Tryz.prog 16 #[.string S, .float .f64 X] w fun e w' => ∃ x, IntEnd sg B t x ∧ e = .returned (.float .f64 x) ∧ Below w.heap.size w w' := by
  have hm0 := mul_nan (wd sg 4607182418800017408) 9221120237041090561 (mul_sone_nan sg)
  have hnn := nb_nan (wd sg 4607182418800017408) 9221120237041090561
  have HNN := (show Hid _ from hnn)
  have hm2 : ∀ F, F ≤ 9218868437227405312 → ∀ ty w, (binOp .mul ty (.float .f64 (wd sg 4607182418800017408)) (.float .f64 F)).run Tryz.prog w = .ok (.float .f64 (wd sg F)) w := fun F hF ty w => run_float_arith w .mul ty .f64 _ _ _ (mul_unit sg F hF)
  have HM2 := (show Hid _ from hm2)
  have HM0 := (show Hid _ from hm0)
  have HRN := (show Hid (n = runL B t) from hrn)
  obtain ⟨us, hus⟩ : ∃ us, us = wd sg 4607182418800017408 := ⟨_, rfl⟩
  rw [← hus] at cs HM2 HM0 HNN
  have HWE : Hid (∀ x, WholeIs B (t.take (runL B t)) x → (runL B t = 0 ∧ x = 9221120237041090561) ∨ ∃ R, 0 < runL B t ∧ Near (vB B (t.take (runL B t))) 1 R ∧ x = min R 9218868437227405312) := fun x h => whole_end (sg := sg) h
  clear hm0 hnn hm2 hus hrn
  have CI := (show Hid _ from ci)
  clear ci
  go_enter Tryz.func16, Tryz.ntmps16
  go_wp2_with (first | (go_at_call 39; refine ct.mono ?_; rintro e w1 ⟨rfl, hw1⟩; clear ct) | (go_at_call 52; refine (cs _).mono ?_; rintro e w2 ⟨rfl, hw2⟩; obtain rfl := hw2.symm; clear cs) | (go_at_call 53; refine (CI.out _ hw1).mono ?_; rintro e w3 ⟨rfl, hw3⟩; clear CI) | (go_at_call 40; refine (ch _).mono ?_; rintro e w4 ⟨rfl, hw4⟩; obtain rfl := hw4.symm; clear ch) | (go_at_call 54; refine (cr _).mono ?_; rintro e w4 ⟨rfl, hw4⟩; obtain rfl := hw4.symm; clear cr) | (go_at_call 41; fail))
  refine (cw _).mono ?_
  rintro e w5 ⟨x, hx, rfl, hw5⟩
  have hw13 := hw1.trans (hw3.mono hw1.size)
  have hw15 := hw13.trans (hw5.mono hw13.size)
  rcases HWE.out x hx with ⟨h0, rfl⟩ | ⟨R, h0, hR, rfl⟩
  · have hm := HM0.out
    have HE := (show Hid (∀ y, NanW y → IntEnd sg B t y) from fun y hy => .none y h0 hy)
    clear hx h0 HM0 HM2
    go_wp2
    go_ret
    exact ⟨_, HE.out _ (HNN.out _), rfl, hw15.drew⟩
  · have hm := HM2.out _ (Nat.min_le_right R 9218868437227405312)
    have HE := (show Hid (∀ y, y = wd sg (min R 9218868437227405312) → IntEnd sg B t y) from fun y hy => by rw [hy]; exact .num R h0 hR)
    obtain ⟨F, hF⟩ : ∃ F, F = min R 9218868437227405312 := ⟨_, rfl⟩
    rw [← hF] at hm HE ⊢
    clear hx h0 hR hF HM0 HM2
    obtain ⟨z, hz⟩ : ∃ z, z = wd sg F := ⟨_, rfl⟩
    rw [← hz] at hm
    have HZ := (show Hid (z = wd sg F) from hz)
    clear hz
    go_wp2
    go_ret
    exact ⟨_, HE.out _ HZ.out, rfl, hw15⟩
set_option maxRecDepth 100000 in
set_option maxHeartbeats 1000000 in
theorem ri_dec0 (S T U0 U V : ByteArray) (X n N : Nat) (B : Nat) (t : List Nat) (sg : Bool) (w : World) (hN : U.size = N) (hNb : N ≤ 25000) (hn : n ≤ N) (hrn : n = runL B t) (hV : U.extract 0 n = V) (hU : U0 = U) (hB : B = 10)
    (ct : Calls Tryz.prog 39 #[.string S] w fun e w' => e = .returned (.string T) ∧ Below w.heap.size w w')
    (cs : ∀ w, Calls Tryz.prog 52 #[.string T] w fun e w' => e = .returned (.tuple #[.string U0, .float .f64 (wd sg 4607182418800017408)]) ∧ w' = w)
    (ci : ∀ W, Below w.heap.size w W → Calls Tryz.prog 53 #[.float .f64 X] W fun e w' => e = .returned (.int .i32 0) ∧ Below W.heap.size W w')
    (ch : ∀ w, Calls Tryz.prog 40 #[.string U0] w fun e w' => e = .returned (.tuple #[.string U0, .bool false]) ∧ w' = w)
    (cr : ∀ w, Calls Tryz.prog 54 #[.string U, .int .i64 10] w fun e w' => e = .returned (.int .i64 (n : Int)) ∧ w' = w)
    (cw : ∀ W, Calls Tryz.prog 41 #[.string V, .int .i64 10] W fun e w' => ∃ x, WholeIs B (t.take (runL B t)) x ∧ e = .returned (.float .f64 x) ∧ Below W.heap.size W w') :
    Calls Tryz.prog 16 #[.string S, .float .f64 X] w fun e w' => ∃ x, IntEnd sg B t x ∧ e = .returned (.float .f64 x) ∧ Below w.heap.size w w' := by
  have hm0 := mul_nan (wd sg 4607182418800017408) 9221120237041090561 (mul_sone_nan sg)
  have hnn := nb_nan (wd sg 4607182418800017408) 9221120237041090561
  have HNN := (show Hid _ from hnn)
  have hm2 : ∀ F, F ≤ 9218868437227405312 → ∀ ty w, (binOp .mul ty (.float .f64 (wd sg 4607182418800017408)) (.float .f64 F)).run Tryz.prog w = .ok (.float .f64 (wd sg F)) w := fun F hF ty w => run_float_arith w .mul ty .f64 _ _ _ (mul_unit sg F hF)
  have HM2 := (show Hid _ from hm2)
  have HM0 := (show Hid _ from hm0)
  have HRN := (show Hid (n = runL B t) from hrn)
  obtain ⟨us, hus⟩ : ∃ us, us = wd sg 4607182418800017408 := ⟨_, rfl⟩
  rw [← hus] at cs HM2 HM0 HNN
  have HWE : Hid (∀ x, WholeIs B (t.take (runL B t)) x → (runL B t = 0 ∧ x = 9221120237041090561) ∨ ∃ R, 0 < runL B t ∧ Near (vB B (t.take (runL B t))) 1 R ∧ x = min R 9218868437227405312) := fun x h => whole_end (sg := sg) h
  clear hm0 hnn hm2 hus hrn
  subst hU
  have CI := (show Hid _ from ci)
  clear ci
  go_enter Tryz.func16, Tryz.ntmps16
  go_wp2_with (first | (go_at_call 39; refine ct.mono ?_; rintro e w1 ⟨rfl, hw1⟩; clear ct) | (go_at_call 52; refine (cs _).mono ?_; rintro e w2 ⟨rfl, hw2⟩; obtain rfl := hw2.symm; clear cs) | (go_at_call 53; refine (CI.out _ hw1).mono ?_; rintro e w3 ⟨rfl, hw3⟩; clear CI) | (go_at_call 40; refine (ch _).mono ?_; rintro e w4 ⟨rfl, hw4⟩; obtain rfl := hw4.symm; clear ch) | (go_at_call 54; refine (cr _).mono ?_; rintro e w4 ⟨rfl, hw4⟩; obtain rfl := hw4.symm; clear cr) | (go_at_call 41; fail))
  refine (cw _).mono ?_
  rintro e w5 ⟨x, hx, rfl, hw5⟩
  have hw13 := hw1.trans (hw3.mono hw1.size)
  have hw15 := hw13.trans (hw5.mono hw13.size)
  rcases HWE.out x hx with ⟨h0, rfl⟩ | ⟨R, h0, hR, rfl⟩
  · have hm := HM0.out
    have HE := (show Hid (∀ y, NanW y → IntEnd sg B t y) from fun y hy => .none y h0 hy)
    clear hx h0 HM0 HM2
    go_wp2
    go_ret
    exact ⟨_, HE.out _ (HNN.out _), rfl, hw15.drew⟩
  · have hm := HM2.out _ (Nat.min_le_right R 9218868437227405312)
    have HE := (show Hid (∀ y, y = wd sg (min R 9218868437227405312) → IntEnd sg B t y) from fun y hy => by rw [hy]; exact .num R h0 hR)
    obtain ⟨F, hF⟩ : ∃ F, F = min R 9218868437227405312 := ⟨_, rfl⟩
    rw [← hF] at hm HE ⊢
    clear hx h0 hR hF HM0 HM2
    obtain ⟨z, hz⟩ : ∃ z, z = wd sg F := ⟨_, rfl⟩
    rw [← hz] at hm
    have HZ := (show Hid (z = wd sg F) from hz)
    clear hz
    go_wp2
    go_ret
    exact ⟨_, HE.out _ HZ.out, rfl, hw15⟩
set_option maxRecDepth 100000 in
set_option maxHeartbeats 1000000 in
theorem ri_dec16 (S T U0 U V : ByteArray) (X n N : Nat) (B : Nat) (t : List Nat) (sg : Bool) (w : World) (hN : U.size = N) (hNb : N ≤ 25000) (hn : n ≤ N) (hrn : n = runL B t) (hV : U.extract 0 n = V) (hU : U0 = U) (hB : B = 16)
    (ct : Calls Tryz.prog 39 #[.string S] w fun e w' => e = .returned (.string T) ∧ Below w.heap.size w w')
    (cs : ∀ w, Calls Tryz.prog 52 #[.string T] w fun e w' => e = .returned (.tuple #[.string U0, .float .f64 (wd sg 4607182418800017408)]) ∧ w' = w)
    (ci : ∀ W, Below w.heap.size w W → Calls Tryz.prog 53 #[.float .f64 X] W fun e w' => e = .returned (.int .i32 16) ∧ Below W.heap.size W w')
    (ch : ∀ w, Calls Tryz.prog 40 #[.string U0] w fun e w' => e = .returned (.tuple #[.string U0, .bool false]) ∧ w' = w)
    (cr : ∀ w, Calls Tryz.prog 54 #[.string U, .int .i64 16] w fun e w' => e = .returned (.int .i64 (n : Int)) ∧ w' = w)
    (cw : ∀ W, Calls Tryz.prog 41 #[.string V, .int .i64 16] W fun e w' => ∃ x, WholeIs B (t.take (runL B t)) x ∧ e = .returned (.float .f64 x) ∧ Below W.heap.size W w') :
    Calls Tryz.prog 16 #[.string S, .float .f64 X] w fun e w' => ∃ x, IntEnd sg B t x ∧ e = .returned (.float .f64 x) ∧ Below w.heap.size w w' := by
  have hm0 := mul_nan (wd sg 4607182418800017408) 9221120237041090561 (mul_sone_nan sg)
  have hnn := nb_nan (wd sg 4607182418800017408) 9221120237041090561
  have HNN := (show Hid _ from hnn)
  have hm2 : ∀ F, F ≤ 9218868437227405312 → ∀ ty w, (binOp .mul ty (.float .f64 (wd sg 4607182418800017408)) (.float .f64 F)).run Tryz.prog w = .ok (.float .f64 (wd sg F)) w := fun F hF ty w => run_float_arith w .mul ty .f64 _ _ _ (mul_unit sg F hF)
  have HM2 := (show Hid _ from hm2)
  have HM0 := (show Hid _ from hm0)
  have HRN := (show Hid (n = runL B t) from hrn)
  obtain ⟨us, hus⟩ : ∃ us, us = wd sg 4607182418800017408 := ⟨_, rfl⟩
  rw [← hus] at cs HM2 HM0 HNN
  have HWE : Hid (∀ x, WholeIs B (t.take (runL B t)) x → (runL B t = 0 ∧ x = 9221120237041090561) ∨ ∃ R, 0 < runL B t ∧ Near (vB B (t.take (runL B t))) 1 R ∧ x = min R 9218868437227405312) := fun x h => whole_end (sg := sg) h
  clear hm0 hnn hm2 hus hrn
  subst hU
  have CI := (show Hid _ from ci)
  clear ci
  go_enter Tryz.func16, Tryz.ntmps16
  go_wp2_with (first | (go_at_call 39; refine ct.mono ?_; rintro e w1 ⟨rfl, hw1⟩; clear ct) | (go_at_call 52; refine (cs _).mono ?_; rintro e w2 ⟨rfl, hw2⟩; obtain rfl := hw2.symm; clear cs) | (go_at_call 53; refine (CI.out _ hw1).mono ?_; rintro e w3 ⟨rfl, hw3⟩; clear CI) | (go_at_call 40; refine (ch _).mono ?_; rintro e w4 ⟨rfl, hw4⟩; obtain rfl := hw4.symm; clear ch) | (go_at_call 54; refine (cr _).mono ?_; rintro e w4 ⟨rfl, hw4⟩; obtain rfl := hw4.symm; clear cr) | (go_at_call 41; fail))
  refine (cw _).mono ?_
  rintro e w5 ⟨x, hx, rfl, hw5⟩
  have hw13 := hw1.trans (hw3.mono hw1.size)
  have hw15 := hw13.trans (hw5.mono hw13.size)
  rcases HWE.out x hx with ⟨h0, rfl⟩ | ⟨R, h0, hR, rfl⟩
  · have hm := HM0.out
    have HE := (show Hid (∀ y, NanW y → IntEnd sg B t y) from fun y hy => .none y h0 hy)
    clear hx h0 HM0 HM2
    go_wp2
    go_ret
    exact ⟨_, HE.out _ (HNN.out _), rfl, hw15.drew⟩
  · have hm := HM2.out _ (Nat.min_le_right R 9218868437227405312)
    have HE := (show Hid (∀ y, y = wd sg (min R 9218868437227405312) → IntEnd sg B t y) from fun y hy => by rw [hy]; exact .num R h0 hR)
    obtain ⟨F, hF⟩ : ∃ F, F = min R 9218868437227405312 := ⟨_, rfl⟩
    rw [← hF] at hm HE ⊢
    clear hx h0 hR hF HM0 HM2
    obtain ⟨z, hz⟩ : ∃ z, z = wd sg F := ⟨_, rfl⟩
    rw [← hz] at hm
    have HZ := (show Hid (z = wd sg F) from hz)
    clear hz
    go_wp2
    go_ret
    exact ⟨_, HE.out _ HZ.out, rfl, hw15⟩
set_option maxRecDepth 100000 in
set_option maxHeartbeats 1000000 in
theorem ri_base (S T U0 U V : ByteArray) (X n N : Nat) (B : Nat) (t : List Nat) (sg : Bool) (w : World) (hN : U.size = N) (hNb : N ≤ 25000) (hn : n ≤ N) (hrn : n = runL B t) (hV : U.extract 0 n = V) (hU : U0 = U) (h0 : ((B : Int) == 0) = false) (h16 : ((B : Int) == 16) = false) (hB1 : 2 ≤ B) (hB2 : B ≤ 36)
    (ct : Calls Tryz.prog 39 #[.string S] w fun e w' => e = .returned (.string T) ∧ Below w.heap.size w w')
    (cs : ∀ w, Calls Tryz.prog 52 #[.string T] w fun e w' => e = .returned (.tuple #[.string U0, .float .f64 (wd sg 4607182418800017408)]) ∧ w' = w)
    (ci : ∀ W, Below w.heap.size w W → Calls Tryz.prog 53 #[.float .f64 X] W fun e w' => e = .returned (.int .i32 (B : Int)) ∧ Below W.heap.size W w')
    (cr : ∀ w, Calls Tryz.prog 54 #[.string U, .int .i64 (B : Int)] w fun e w' => e = .returned (.int .i64 (n : Int)) ∧ w' = w)
    (cw : ∀ W, Calls Tryz.prog 41 #[.string V, .int .i64 (B : Int)] W fun e w' => ∃ x, WholeIs B (t.take (runL B t)) x ∧ e = .returned (.float .f64 x) ∧ Below W.heap.size W w') :
    Calls Tryz.prog 16 #[.string S, .float .f64 X] w fun e w' => ∃ x, IntEnd sg B t x ∧ e = .returned (.float .f64 x) ∧ Below w.heap.size w w' := by
  have hm0 := mul_nan (wd sg 4607182418800017408) 9221120237041090561 (mul_sone_nan sg)
  have hnn := nb_nan (wd sg 4607182418800017408) 9221120237041090561
  have HNN := (show Hid _ from hnn)
  have hm2 : ∀ F, F ≤ 9218868437227405312 → ∀ ty w, (binOp .mul ty (.float .f64 (wd sg 4607182418800017408)) (.float .f64 F)).run Tryz.prog w = .ok (.float .f64 (wd sg F)) w := fun F hF ty w => run_float_arith w .mul ty .f64 _ _ _ (mul_unit sg F hF)
  have HM2 := (show Hid _ from hm2)
  have HM0 := (show Hid _ from hm0)
  have HRN := (show Hid (n = runL B t) from hrn)
  obtain ⟨us, hus⟩ : ∃ us, us = wd sg 4607182418800017408 := ⟨_, rfl⟩
  rw [← hus] at cs HM2 HM0 HNN
  have HWE : Hid (∀ x, WholeIs B (t.take (runL B t)) x → (runL B t = 0 ∧ x = 9221120237041090561) ∨ ∃ R, 0 < runL B t ∧ Near (vB B (t.take (runL B t))) 1 R ∧ x = min R 9218868437227405312) := fun x h => whole_end (sg := sg) h
  clear hm0 hnn hm2 hus hrn
  subst hU
  have CI := (show Hid _ from ci)
  clear ci
  go_enter Tryz.func16, Tryz.ntmps16
  go_wp2_with (first | (go_at_call 39; refine ct.mono ?_; rintro e w1 ⟨rfl, hw1⟩; clear ct) | (go_at_call 52; refine (cs _).mono ?_; rintro e w2 ⟨rfl, hw2⟩; obtain rfl := hw2.symm; clear cs) | (go_at_call 53; refine (CI.out _ hw1).mono ?_; rintro e w3 ⟨rfl, hw3⟩; clear CI) | (go_at_call 54; refine (cr _).mono ?_; rintro e w4 ⟨rfl, hw4⟩; obtain rfl := hw4.symm; clear cr) | (go_at_call 41; fail))
  refine (cw _).mono ?_
  rintro e w5 ⟨x, hx, rfl, hw5⟩
  have hw13 := hw1.trans (hw3.mono hw1.size)
  have hw15 := hw13.trans (hw5.mono hw13.size)
  rcases HWE.out x hx with ⟨h0, rfl⟩ | ⟨R, h0, hR, rfl⟩
  · have hm := HM0.out
    have HE := (show Hid (∀ y, NanW y → IntEnd sg B t y) from fun y hy => .none y h0 hy)
    clear hx h0 HM0 HM2
    go_wp2
    go_ret
    exact ⟨_, HE.out _ (HNN.out _), rfl, hw15.drew⟩
  · have hm := HM2.out _ (Nat.min_le_right R 9218868437227405312)
    have HE := (show Hid (∀ y, y = wd sg (min R 9218868437227405312) → IntEnd sg B t y) from fun y hy => by rw [hy]; exact .num R h0 hR)
    obtain ⟨F, hF⟩ : ∃ F, F = min R 9218868437227405312 := ⟨_, rfl⟩
    rw [← hF] at hm HE ⊢
    clear hx h0 hR hF HM0 HM2
    obtain ⟨z, hz⟩ : ∃ z, z = wd sg F := ⟨_, rfl⟩
    rw [← hz] at hm
    have HZ := (show Hid (z = wd sg F) from hz)
    clear hz
    go_wp2
    go_ret
    exact ⟨_, HE.out _ HZ.out, rfl, hw15⟩
set_option maxRecDepth 100000 in
set_option maxHeartbeats 1000000 in
theorem ri_bad (S T U : ByteArray) (X : Nat) (v : Int) (sg : Bool) (w : World) (h0 : (v == 0) = false) (h16 : (v == 16) = false) (hb1 : -2147483648 ≤ v) (hb2 : v ≤ 2147483647) (hv : v < 2 ∨ 36 < v)
    (ct : Calls Tryz.prog 39 #[.string S] w fun e w' => e = .returned (.string T) ∧ Below w.heap.size w w')
    (cs : ∀ w, Calls Tryz.prog 52 #[.string T] w fun e w' => e = .returned (.tuple #[.string U, .float .f64 (wd sg 4607182418800017408)]) ∧ w' = w)
    (ci : ∀ W, Below w.heap.size w W → Calls Tryz.prog 53 #[.float .f64 X] W fun e w' => e = .returned (.int .i32 v) ∧ Below W.heap.size W w') :
    Calls Tryz.prog 16 #[.string S, .float .f64 X] w fun e w' => e = .returned (.float .f64 9221120237041090561) ∧ Below w.heap.size w w' := by
  have cnn := nan_any
  have CI := (show Hid _ from ci)
  clear ci
  generalize wd sg 4607182418800017408 = us at *
  rcases hv with hv | hv
  · go_enter Tryz.func16, Tryz.ntmps16
    go_wp2_with (first | (go_at_call 39; refine ct.mono ?_; rintro e w1 ⟨rfl, hw1⟩; clear ct) | (go_at_call 52; refine (cs _).mono ?_; rintro e w2 ⟨rfl, hw2⟩; obtain rfl := hw2.symm; clear cs) | (go_at_call 53; refine (CI.out _ hw1).mono ?_; rintro e w3 ⟨rfl, hw3⟩; clear CI) | (go_at_call 43; refine (cnn _).mono ?_; rintro e w4 ⟨rfl, hw4⟩; obtain rfl := hw4.symm))
    go_ret
    exact ⟨rfl, hw1.trans (hw3.mono hw1.size)⟩
  · have k1 : ¬ v < 2 := by omega
    go_enter Tryz.func16, Tryz.ntmps16
    go_wp2_with (first | (go_at_call 39; refine ct.mono ?_; rintro e w1 ⟨rfl, hw1⟩; clear ct) | (go_at_call 52; refine (cs _).mono ?_; rintro e w2 ⟨rfl, hw2⟩; obtain rfl := hw2.symm; clear cs) | (go_at_call 53; refine (CI.out _ hw1).mono ?_; rintro e w3 ⟨rfl, hw3⟩; clear CI) | (go_at_call 43; refine (cnn _).mono ?_; rintro e w4 ⟨rfl, hw4⟩; obtain rfl := hw4.symm))
    go_ret
    exact ⟨rfl, hw1.trans (hw3.mono hw1.size)⟩
end Go.Proofs.YtellndmbllmjgaaGreatDoor
