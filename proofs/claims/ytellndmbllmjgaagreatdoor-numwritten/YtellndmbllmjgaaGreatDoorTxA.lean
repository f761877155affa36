/- The walk of num.Text. -/
import Derived.Test.YtellndmbllmjgaaGreatDoorPtA
import Derived.Deep.RegionWith
set_option linter.unusedVariables false
namespace Go.Proofs.YtellndmbllmjgaaGreatDoor
open Go.RowKit Go.Shelf Go.Sort Fs Fl

/-- How digits and a point are written. -/
def textD (D : List Nat) (n : Int) : List Nat :=
  if (D.length : Int) ≤ n ∧ n ≤ 21 then D ++ List.replicate (n - (D.length : Int)).toNat 48
  else if -6 < n ∧ n ≤ 21 then ptd D ((D.length : Int) - n).toNat
  else pwd D (n - 1)
theorem isInf_one (x : Nat) (w : World) : Calls Tryz.prog 25 #[.float .f64 x, .int .i64 1] w fun e w' => e = .returned (.bool (FloatKind.f64.format.order x 9218868437227405311 == some .gt)) ∧ w' = w := by
  go_enter Tryz.func25, Tryz.ntmps25
  go_wp2
  go_ret
  exact ⟨rfl, rfl⟩
set_option maxRecDepth 100000 in
set_option maxHeartbeats 2000000 in
theorem text_pos (r : Nat) (h0 : 0 < r) (h1 : r < 9218868437227405312) (w : World) (hlaid : Laid w) (o1 : (FloatKind.f64.format.order r r != some .eq) = false) (o2 : (FloatKind.f64.format.order r 0 == some .lt) = false) (o3 : (FloatKind.f64.format.order r 0 == some .eq) = false) (o4 : (FloatKind.f64.format.order r 9218868437227405311 == some .gt) = false) :
    Calls Tryz.prog 8 #[.float .f64 r] w fun rr w' => ∃ d0 J, Fs.Told (magR r) (expR r) d0 J ∧ 0 < d0 ∧ d0 < 1152921504606846976 ∧ J < 1000 ∧ rr = .returned (.string (txt (textD (decN d0) ((Lib.nDigits d0 : Int) + (J : Int) - 400)))) ∧ Below w.heap.size w w' := by
  have ci := isInf_one r
  rw [o4] at ci
  have cs := shortest_any r h0 h1 w hlaid
  have HL : Hid (Laid w) := hlaid
  clear hlaid o4 h0 h1
  go_enter Tryz.func8, Tryz.ntmps8
  go_wp2_with (first | (go_at_call 25; refine (ci _).mono ?_; rintro e wq ⟨rfl, hwq⟩; rw [hwq]; clear hwq wq))
  refine cs.mono ?_
  rintro ee w1 ⟨d0, J, hT, hd0, hd1, hJ, rfl, hb⟩
  have hnl : Lib.nDigits d0 ≤ 19 := nDigits_le d0 19 (by omega) (by omega)
  have hnp := Lib.nDigits_pos d0
  have hlen := decN_length d0
  have hsz := txt_size (decN d0)
  have hlaid1 := HL.out.below hb
  obtain ⟨n, hn⟩ : ∃ n : Int, n = (Lib.nDigits d0 : Int) + (J : Int) - 400 := ⟨_, rfl⟩
  obtain ⟨k, hk⟩ : ∃ k, k = Lib.nDigits d0 := ⟨_, rfl⟩
  have hna : -400 ≤ n := by omega
  have hnb : n ≤ 1000 := by omega
  have HT : Hid (Fs.Told (magR r) (expR r) d0 J ∧ 0 < d0 ∧ d0 < 1152921504606846976 ∧ J < 1000) := ⟨hT, hd0, hd1, hJ⟩
  have HN : Hid (n = (Lib.nDigits d0 : Int) + (J : Int) - 400) := hn
  rw [← hn]
  rw [← hk] at hnl hnp hlen
  rw [hlen] at hsz
  have post : ∀ t w', t = txt (textD (decN d0) n) → Below w.heap.size w w' → ∃ d0 J, Fs.Told (magR r) (expR r) d0 J ∧ 0 < d0 ∧ d0 < 1152921504606846976 ∧ J < 1000 ∧ Ending.returned (.string t) = .returned (.string (txt (textD (decN d0) ((Lib.nDigits d0 : Int) + (J : Int) - 400)))) ∧ Below w.heap.size w w' := by
    rintro t w' rfl hb'
    obtain ⟨a1, a2, a3, a4⟩ := HT.out
    exact ⟨d0, J, a1, a2, a3, a4, by rw [← HN.out], hb'⟩
  have POST := (show Hid _ from post)
  have HB : Hid (Below w.heap.size w w1) := hb
  clear hT hd0 hd1 hJ hn hk post cs hb
  by_cases c1 : (k : Int) ≤ n ∧ n ≤ 21
  · obtain ⟨c, hc⟩ : ∃ c : Nat, n - (k : Int) = (c : Int) := ⟨(n - (k : Int)).toNat, by omega⟩
    have cr := Tryz.strings_Repeat ⟨#[48]⟩ c (w1.alloc (.cells #[.string (txt (decN d0)), .int .i64 n] 46)).drew (by omega) (by simp [ByteArray.size]; omega)
    have keep : ∀ w2, Below (w1.alloc (.cells #[.string (txt (decN d0)), .int .i64 n] 46)).drew.heap.size (w1.alloc (.cells #[.string (txt (decN d0)), .int .i64 n] 46)).drew w2 → w2.cell? ⟨w1.heap.size, 0, none⟩ = some (.string (txt (decN d0))) ∧ w2.cell? ⟨w1.heap.size, 1, none⟩ = some (.int .i64 n) ∧ Below w.heap.size w w2 := by
      intro w2 hb
      have hs : (w1.alloc (.cells #[.string (txt (decN d0)), .int .i64 n] 46)).drew.heap.size = w1.heap.size + 1 := by simp
      refine ⟨?_, ?_, ?_⟩
      · rw [hb.cell (p := ⟨w1.heap.size, 0, none⟩) (by rw [hs]; exact Nat.lt_succ_self _)]; simp
      · rw [hb.cell (p := ⟨w1.heap.size, 1, none⟩) (by rw [hs]; exact Nat.lt_succ_self _)]; simp
      · have h1 : Below w.heap.size w (w1.alloc (.cells #[.string (txt (decN d0)), .int .i64 n] 46)).drew := (HB.out.alloc HB.out.size _).drew
        exact h1.trans (hb.mono h1.size)
    have hcw : IntKind.i64.wrap (c : Int) = (c : Int) := by rw [IntKind.wrap_i64]; omega
    have KEEP := (show Hid _ from keep)
    clear keep
    rw [repeat_zero] at cr
    have et : txt (decN d0) ++ txt (List.replicate c 48) = txt (textD (decN d0) n) := by
      unfold textD
      rw [hlen, if_pos c1, txt_append, hc, Int.toNat_natCast]
    have hz : (txt (List.replicate c 48)).size ≤ 100 := by rw [txt_size, List.length_replicate]; omega
    have HE : Hid (txt (decN d0) ++ txt (List.replicate c 48) = txt (textD (decN d0) n)) := et
    clear et hlen
    obtain ⟨c1a, c1b⟩ := c1
    go_wp2_with (first | (go_at_call 27; fail))
    go_region_with (first | (go_at_call 27; go_fit cr; rintro ee w2 ⟨rfl, hb2⟩; obtain ⟨l0, l1, hb3⟩ := KEEP.out w2 hb2))
    all_goals
      go_wp2
      go_ret
      exact POST.out _ _ HE.out hb3
  · by_cases c2 : -6 < n ∧ n ≤ 21
    · obtain ⟨m, hm⟩ : ∃ m : Nat, (k : Int) - n = (m : Int) := ⟨((k : Int) - n).toNat, by omega⟩
      have hW : Below w.heap.size w (w1.alloc (.cells #[.string (txt (decN d0)), .int .i64 n] 46)) := HB.out.alloc HB.out.size _
      have cp := fun W => pointed_any (decN d0) m (by omega) (by omega) (by omega) W
      have et : txt (ptd (decN d0) m) = txt (textD (decN d0) n) := by
        unfold textD
        rw [hlen, if_neg c1, if_pos c2, hm, Int.toNat_natCast]
      have HE : Hid (txt (ptd (decN d0) m) = txt (textD (decN d0) n)) := et
      have HW : Hid (Below w.heap.size w (w1.alloc (.cells #[.string (txt (decN d0)), .int .i64 n] 46))) := hW
      have hmw : IntKind.i64.wrap (m : Int) = (m : Int) := by rw [IntKind.wrap_i64]; omega
      obtain ⟨c2a, c2b⟩ := c2
      have c1' : ¬ (k : Int) ≤ n := fun h => c1 ⟨h, c2b⟩
      clear et hW c1 hlen
      go_wp2_with (first | (go_at_call 28; refine (cp _).mono ?_; rintro ee w2 ⟨rfl, hb2⟩))
      go_ret
      exact POST.out _ _ HE.out (HW.out.trans (hb2.mono HW.out.size))
    · have cw := fun W hW => powered_any (decN d0) (n - 1) (by omega) (by omega) (by omega) (by omega) W hW
      rw [show n - 1 + 1 = n by omega] at cw
      have hW : Below w.heap.size w (w1.alloc (.cells #[.string (txt (decN d0)), .int .i64 n] 46)) := HB.out.alloc HB.out.size _
      have et : txt (pwd (decN d0) (n - 1)) = txt (textD (decN d0) n) := by
        unfold textD
        rw [hlen, if_neg c1, if_neg c2]
      have HE : Hid (txt (pwd (decN d0) (n - 1)) = txt (textD (decN d0) n)) := et
      have HW : Hid (Below w.heap.size w (w1.alloc (.cells #[.string (txt (decN d0)), .int .i64 n] 46))) := hW
      have hlw := HL.out.below hW
      have cw' := cw _ hlw
      rcases (by omega : 21 < n ∨ n ≤ -6) with h | h
      · have d1 : ¬ n ≤ 21 := by omega
        clear et hW c1 c2 hlen cw h
        go_wp2_with (first | (go_at_call 29; refine cw'.mono ?_; rintro ee w2 ⟨rfl, hb2⟩))
        go_ret
        exact POST.out _ _ HE.out (HW.out.trans (hb2.mono HW.out.size))
      · have d1 : ¬ (k : Int) ≤ n := by omega
        have d2 : ¬ -6 < n := by omega
        clear et hW c1 c2 hlen cw h
        go_wp2_with (first | (go_at_call 29; refine cw'.mono ?_; rintro ee w2 ⟨rfl, hb2⟩))
        go_ret
        exact POST.out _ _ HE.out (HW.out.trans (hb2.mono HW.out.size))
end Go.Proofs.YtellndmbllmjgaaGreatDoor
/- num.Text, at every word. -/
set_option linter.unusedVariables false
namespace Go.Proofs.YtellndmbllmjgaaGreatDoor
open Go.RowKit Go.Shelf Go.Sort Fs Fl

theorem xor_top (r : Nat) (h : r < 2 ^ 63) : r ^^^ 2 ^ 63 = 2 ^ 63 + r := by
  apply Nat.eq_of_testBit_eq
  intro i
  rw [Nat.testBit_xor, Nat.testBit_two_pow]
  rcases Nat.lt_trichotomy i 63 with hi | hi | hi
  · rw [Nat.testBit_two_pow_add_gt hi, decide_eq_false (by omega), Bool.xor_false]
  · subst hi
    rw [Nat.testBit_two_pow_add_eq, decide_eq_true rfl, Bool.xor_true]
  · have h1 : r < 2 ^ i := Nat.lt_of_lt_of_le h (Nat.pow_le_pow_right (by omega) (by omega))
    have h2 : 2 ^ 63 + r < 2 ^ i := Nat.lt_of_lt_of_le (by omega : 2 ^ 63 + r < 2 ^ 64) (Nat.pow_le_pow_right (by omega) (by omega))
    rw [Nat.testBit_lt_two_pow h1, Nat.testBit_lt_two_pow h2, decide_eq_false (by omega)]
    rfl
theorem neg_wd (s : Bool) (r : Nat) (h : r < 9223372036854775808) : Go.Op.negFloat .f64 (wd s r) = wd (!s) r := by
  have e : Go.Op.negFloat .f64 (wd s r) = wd s r ^^^ 2 ^ 63 := rfl
  rw [e]
  have hx := xor_top r h
  cases s
  · rw [wd_false, hx, Bool.not_false, wd_true]
  · have h2 : wd true r = r ^^^ 2 ^ 63 := by rw [hx, wd_true]
    rw [h2, Nat.xor_assoc, Nat.xor_self, Nat.xor_zero, Bool.not_true, wd_false]
theorem run_neg (s : Bool) (r : Nat) (h : r < 9223372036854775808) (w : World) : (Go.Op.unary .neg (.float .f64 (wd s r))).run Tryz.prog w = .ok (.float .f64 (wd (!s) r)) w := by
  have : Go.Op.unary .neg (.float .f64 (wd s r)) = pure (.float .f64 (Go.Op.negFloat .f64 (wd s r))) := rfl
  rw [this, neg_wd s r h]
  rfl
/-- What is written of a word: 'T' tells of what is above 0 and finite. -/
def writ (T : List Nat) (s : Bool) (r : Nat) : List Nat :=
  if 9218868437227405312 < r then [78, 97, 78]
  else if r = 0 then [48]
  else (if s then [45] else []) ++ (if r = 9218868437227405312 then [73, 110, 102, 105, 110, 105, 116, 121] else T)
theorem text_nan (x : Nat) (o1 : (FloatKind.f64.format.order x x != some .eq) = true) (w : World) : Calls Tryz.prog 8 #[.float .f64 x] w fun rr w' => rr = .returned (.string (txt [78, 97, 78])) ∧ w' = w := by
  go_enter Tryz.func8, Tryz.ntmps8
  go_wp2
  go_ret
  exact ⟨rfl, rfl⟩
theorem text_zero (x : Nat) (o1 : (FloatKind.f64.format.order x x != some .eq) = false) (o2 : (FloatKind.f64.format.order x 0 == some .lt) = false) (o3 : (FloatKind.f64.format.order x 0 == some .eq) = true) (w : World) : Calls Tryz.prog 8 #[.float .f64 x] w fun rr w' => rr = .returned (.string (txt [48])) ∧ w' = w := by
  go_enter Tryz.func8, Tryz.ntmps8
  go_wp2
  go_ret
  exact ⟨rfl, rfl⟩
theorem text_inf (x : Nat) (o1 : (FloatKind.f64.format.order x x != some .eq) = false) (o2 : (FloatKind.f64.format.order x 0 == some .lt) = false) (o3 : (FloatKind.f64.format.order x 0 == some .eq) = false) (o4 : (FloatKind.f64.format.order x 9218868437227405311 == some .gt) = true) (w : World) : Calls Tryz.prog 8 #[.float .f64 x] w fun rr w' => rr = .returned (.string (txt [73, 110, 102, 105, 110, 105, 116, 121])) ∧ w' = w := by
  have ci := isInf_one x
  rw [o4] at ci
  clear o4
  go_enter Tryz.func8, Tryz.ntmps8
  go_wp2_with (first | (go_at_call 25; refine (ci _).mono ?_; rintro e w' ⟨rfl, rfl⟩))
  go_ret
  exact ⟨rfl, rfl⟩
theorem txt_minus : (⟨#[45]⟩ : ByteArray) = txt [45] := rfl
set_option maxRecDepth 100000 in
theorem text_neg (x y : Nat) (P : ByteArray → Prop) (hP : ∀ t, P t → t.size ≤ 100000) (o1 : (FloatKind.f64.format.order x x != some .eq) = false) (o2 : (FloatKind.f64.format.order x 0 == some .lt) = true) (hn : ∀ w, (Go.Op.unary .neg (.float .f64 x)).run Tryz.prog w = .ok (.float .f64 y) w) (w : World)
    (c : Calls Tryz.prog 8 #[.float .f64 y] w fun rr w' => ∃ t, P t ∧ rr = .returned (.string t) ∧ Below w.heap.size w w') :
    Calls Tryz.prog 8 #[.float .f64 x] w fun rr w' => ∃ t, P t ∧ rr = .returned (.string (⟨#[45]⟩ ++ t)) ∧ Below w.heap.size w w' := by
  go_enter Tryz.func8, Tryz.ntmps8
  go_wp2_with (first | (go_at_call 8; refine c.mono ?_; rintro e w1 ⟨t, ht, rfl, hb⟩; have hts := hP t ht))
  go_ret
  exact ⟨t, ht, rfl, hb⟩
end Go.Proofs.YtellndmbllmjgaaGreatDoor
/- num.Text, at every word, all in one. -/
set_option linter.unusedVariables false
namespace Go.Proofs.YtellndmbllmjgaaGreatDoor
open Go.RowKit Go.Shelf Go.Sort Fs Fl

theorem lt_zero (s : Bool) (r : Nat) (h : r < 9218868437227405312) : (FloatKind.f64.format.order (wd s r) 0 == some .lt) = (s && decide (r ≠ 0)) := by
  have h1 : FloatKind.f64.format.order (wd s r) 0 = some (compare (key s r) 0) := order_zero s r h
  rw [h1]
  cases s
  · rw [key_false, Bool.false_and]
    by_cases h0 : r = 0
    · subst h0; rfl
    · rw [cmp_gt (by omega)]; rfl
  · rw [key_true, Bool.true_and]
    by_cases h0 : r = 0
    · subst h0; rfl
    · rw [cmp_lt (by omega), decide_eq_true h0]; rfl
theorem eq_zero (s : Bool) (r : Nat) (h : r < 9218868437227405312) : (FloatKind.f64.format.order (wd s r) 0 == some .eq) = decide (r = 0) := by
  have h1 : FloatKind.f64.format.order (wd s r) 0 = some (compare (key s r) 0) := order_zero s r h
  rw [h1]
  by_cases h0 : r = 0
  · subst h0
    cases s <;> rfl
  · rw [decide_eq_false h0]
    cases s
    · rw [key_false, cmp_gt (by omega)]; rfl
    · rw [key_true, cmp_lt (by omega)]; rfl
theorem num_self (s : Bool) (r : Nat) (h : r < 9218868437227405312) : (FloatKind.f64.format.order (wd s r) (wd s r) != some .eq) = false := by
  have e1 : FloatKind.f64.format.order (wd s r) (wd s r) = some (compare (key s r) (key s r)) := order_key s s r r h h
  rw [e1, cmp_eq]
  rfl
theorem num_max (r : Nat) (h : r < 9218868437227405312) : (FloatKind.f64.format.order r 9218868437227405311 == some .gt) = false := by
  have e2 : FloatKind.f64.format.order r 9218868437227405311 = some (compare (r : Int) (9218868437227405311 : Nat)) := order_pos r 9218868437227405311 h (by omega)
  rw [e2]
  rcases Nat.lt_or_eq_of_le (show r ≤ 9218868437227405311 by omega) with h1 | h1
  · rw [cmp_lt (by omega)]; rfl
  · rw [h1, cmp_eq]; rfl
theorem inf_facts (s : Bool) : (FloatKind.f64.format.order (wd s 9218868437227405312) (wd s 9218868437227405312) != some .eq) = false ∧ (FloatKind.f64.format.order (wd s 9218868437227405312) 0 == some .lt) = s ∧ (FloatKind.f64.format.order (wd s 9218868437227405312) 0 == some .eq) = false := by
  cases s
  · rw [wd_false]; decide
  · rw [wd_true]; decide
theorem inf_max : (FloatKind.f64.format.order 9218868437227405312 9218868437227405311 == some .gt) = true := by decide
theorem nan_self (s : Bool) (r : Nat) (h : 9218868437227405312 < r) (h2 : r < 9223372036854775808) : (FloatKind.f64.format.order (wd s r) (wd s r) != some .eq) = true := by
  have e : FloatKind.f64.format.order (wd s r) (wd s r) = none := order_nan _ s r h h2
  rw [e]
  rfl
theorem textD_len (D : List Nat) (n : Int) (h : D.length ≤ 100) (h1 : -400 ≤ n) (h2 : n ≤ 1000) : (textD D n).length ≤ 5000 := by
  unfold textD
  split
  · rw [List.length_append, List.length_replicate]; omega
  · split
    · have := ptd_len D ((D.length : Int) - n).toNat
      omega
    · unfold pwd
      have := ptd_len D (D.length - 1)
      have h3 := decN_length (n - 1).natAbs
      have h4 := nDigits_le (n - 1).natAbs 4 (by omega) (by omega)
      simp only [List.length_append, List.length_singleton]
      omega
/-- **num.Text, at every word.** -/
theorem text_any (s : Bool) (r : Nat) (h : r < 9223372036854775808) (w : World) (hlaid : Laid w) :
    Calls Tryz.prog 8 #[.float .f64 (wd s r)] w fun rr w' => ∃ T, (0 < r → r < 9218868437227405312 → ∃ d0 J, Fs.Told (magR r) (expR r) d0 J ∧ 0 < d0 ∧ d0 < 1152921504606846976 ∧ J < 1000 ∧ T = textD (decN d0) ((Lib.nDigits d0 : Int) + (J : Int) - 400)) ∧ rr = .returned (.string (txt (writ T s r))) ∧ Below w.heap.size w w' := by
  rcases Nat.lt_trichotomy r 9218868437227405312 with h1 | h1 | h1
  · have o1 := num_self s r h1
    have o2 := lt_zero s r h1
    have o3 := eq_zero s r h1
    rcases Nat.eq_zero_or_pos r with h0 | h0
    · subst h0
      refine (text_zero _ o1 (by rw [o2]; simp) (by rw [o3]; rfl) w).mono ?_
      rintro e w' ⟨rfl, rfl⟩
      exact ⟨[], fun h => absurd h (by omega), rfl, Below.refl _ _⟩
    · -- the number without its sign
      have p1 := num_self false r h1
      have p2 := lt_zero false r h1
      have p3 := eq_zero false r h1
      rw [wd_false] at p1 p2 p3
      have cp := text_pos r h0 h1 w hlaid p1 (by rw [p2]; rfl) (by rw [p3]; exact decide_eq_false (by omega)) (num_max r h1)
      cases s
      · rw [wd_false]
        refine cp.mono ?_
        rintro e w' ⟨d0, J, a1, a2, a3, a4, rfl, hb⟩
        refine ⟨_, fun _ _ => ⟨d0, J, a1, a2, a3, a4, rfl⟩, ?_, hb⟩
        unfold writ
        rw [if_neg (by omega), if_neg (by omega), if_neg (show ¬ r = 9218868437227405312 by omega)]
        rfl
      · have hn := run_neg true r h
        rw [Bool.not_true, wd_false] at hn
        have hr : decide (r ≠ 0) = true := decide_eq_true (by omega)
        refine (text_neg (wd true r) r (fun t => ∃ d0 J, Fs.Told (magR r) (expR r) d0 J ∧ 0 < d0 ∧ d0 < 1152921504606846976 ∧ J < 1000 ∧ t = txt (textD (decN d0) ((Lib.nDigits d0 : Int) + (J : Int) - 400))) ?_ o1 (by rw [o2, hr]; rfl) hn w (cp.mono ?_)).mono ?_
        · rintro t ⟨d0, J, a1, a2, a3, a4, rfl⟩
          rw [txt_size]
          have hnl : Lib.nDigits d0 ≤ 19 := nDigits_le d0 19 (by omega) (by omega)
          have := textD_len (decN d0) ((Lib.nDigits d0 : Int) + (J : Int) - 400) (by rw [decN_length]; omega) (by omega) (by omega)
          omega
        · rintro e w' ⟨d0, J, a1, a2, a3, a4, rfl, hb⟩
          exact ⟨_, ⟨d0, J, a1, a2, a3, a4, rfl⟩, rfl, hb⟩
        · rintro e w' ⟨t, ⟨d0, J, a1, a2, a3, a4, rfl⟩, rfl, hb⟩
          refine ⟨_, fun _ _ => ⟨d0, J, a1, a2, a3, a4, rfl⟩, ?_, hb⟩
          rw [txt_minus, txt_append]
          unfold writ
          rw [if_neg (by omega), if_neg (by omega), if_neg (show ¬ r = 9218868437227405312 by omega)]
          rfl
  · subst h1
    obtain ⟨o1, o2, o3⟩ := inf_facts s
    obtain ⟨p1, p2, p3⟩ := inf_facts false
    rw [wd_false] at p1 p2 p3
    have ci := text_inf 9218868437227405312 p1 p2 p3 inf_max w
    cases s
    · rw [wd_false]
      refine ci.mono ?_
      rintro e w' ⟨rfl, rfl⟩
      exact ⟨[], fun _ h => absurd h (by omega), rfl, Below.refl _ _⟩
    · have hn := run_neg true 9218868437227405312 h
      rw [Bool.not_true, wd_false] at hn
      refine (text_neg (wd true 9218868437227405312) 9218868437227405312 (fun t => t = txt [73, 110, 102, 105, 110, 105, 116, 121]) ?_ o1 o2 hn w (ci.mono ?_)).mono ?_
      · rintro t rfl
        rw [txt_size]
        simp
      · rintro e w' ⟨rfl, rfl⟩
        exact ⟨_, rfl, rfl, Below.refl _ _⟩
      · rintro e w' ⟨t, rfl, rfl, hb⟩
        refine ⟨[], fun _ h => absurd h (by omega), ?_, hb⟩
        rw [txt_minus, txt_append]
        rfl
  · refine (text_nan _ (nan_self s r h1 h) w).mono ?_
    rintro e w' ⟨rfl, rfl⟩
    refine ⟨[], fun _ h => absurd h (by omega), ?_, Below.refl _ _⟩
    unfold writ
    rw [if_pos h1]
end Go.Proofs.YtellndmbllmjgaaGreatDoor
