/- NumShort: what the law's calls answer. -/
import Derived.Test.YtellndmbllmjgaaGreatDoorCRsA
import Derived.Test.YtellndmbllmjgaaGreatDoorCDg9
import Derived.Test.YtellndmbllmjgaaGreatDoorCMoA
import Derived.Test.YtellndmbllmjgaaGreatDoorCSpA
set_option linter.unusedVariables false
namespace Go.Proofs.YtellndmbllmjgaaGreatDoor
open Go.RowKit Go.Shelf Go.Sort Fs Fl

/-- What the walks need of the world. -/
structure Lies (w : World) : Prop where
  r : RLaid w
  u : Lib.Utf8Tabs 1 2 w
  z : Lib.RVar 3 Ut.zsT w
theorem Lies.below {w w' : World} (h : Lies w) (hb : Below w.heap.size w w') : Lies w' := ⟨h.r.below hb, Ut.tabs_below h.u hb, Go.Proofs.RVar_below h.z hb⟩
theorem sgn_dfold (s : Bool) (X : List Nat) : dfold ds0 ((if s then [45] else []) ++ X) = dfold ds0 X := by
  cases s
  · rfl
  · rfl
theorem expo_chars {tl : List Nat} {e : Int} (h : Expo tl e) : ∀ c ∈ tl, c = 101 ∨ c = 45 ∨ c = 46 ∨ c = 43 ∨ (48 ≤ c ∧ c ≤ 57) := by
  intro c hc
  rcases h with ⟨h1, _⟩ | ⟨g, X, rfl, hX, _, _, hg⟩
  · rw [h1] at hc; simp at hc
  · simp only [List.mem_cons, List.mem_append] at hc
    rcases hc with h1 | h1 | h1
    · exact .inl h1
    · rcases hg with ⟨rfl, _⟩ | ⟨rfl, _⟩ | ⟨rfl, _⟩
      · simp at h1
      · simp at h1; omega
      · simp at h1; omega
    · have := hX c h1; omega
theorem shape_chars {T A B tl : List Nat} {dot : Bool} {e : Int} (h : Shape T A B dot tl e) : ∀ c ∈ T, c = 101 ∨ c = 45 ∨ c = 46 ∨ c = 43 ∨ (48 ≤ c ∧ c ≤ 57) := by
  intro c hc
  rw [h.text] at hc
  simp only [List.mem_append] at hc
  rcases hc with h1 | h1 | h1
  · have := h.digA c h1; omega
  · cases dot
    · simp at h1
    · simp at h1
      rcases h1 with h1 | h1
      · omega
      · have := h.digB c h1; omega
  · exact expo_chars h.exp c h1
/-- **digitsOf, at what Text has written.** -/
theorem digitsOf_written (s : Bool) (d0 J : Nat) (hd0 : 0 < d0) (hd1 : d0 < 1152921504606846976) (hl : d0 % 10 ≠ 0) (hJ1 : 59 ≤ J) (hJ2 : J ≤ 708) (w : World) :
    Calls Tryz.prog 23 #[.string (txt ((if s then [45] else []) ++ textD (decN d0) ((Lib.nDigits d0 : Int) + (J : Int) - 400)))] w fun r w' => r = .returned (.tuple #[.string (txt (decN d0)), .int .i64 ((Lib.nDigits d0 : Int) + (J : Int) - 400)]) ∧ Below w.heap.size w w' := by
  have hnl : Lib.nDigits d0 ≤ 19 := nDigits_le d0 19 (by omega) (by omega)
  have hnp := Lib.nDigits_pos d0
  have hlen := decN_length d0
  obtain ⟨n, hn⟩ : ∃ n : Int, n = (Lib.nDigits d0 : Int) + (J : Int) - 400 := ⟨_, rfl⟩
  rw [← hn]
  obtain ⟨A, B, dot, tl, e, hSh, z, t, hab, hrel, he1, he2, ht, hz⟩ := textD_shape (decN d0) n (dig_decN d0) (by omega) (by omega) (by omega)
  obtain ⟨c, l, hcl, hc1, hc2⟩ := decN_head d0 hd0
  have hdig := dig_decN d0
  have habl : A.length + B.length = z + (Lib.nDigits d0 + t) := by
    have := congrArg List.length hab
    simp at this
    omega
  obtain ⟨hx1, hx2⟩ := expo_lt hSh.exp
  have hTl : ((if s then [45] else []) ++ textD (decN d0) n).length ≤ 1000 := by
    have : (textD (decN d0) n).length ≤ 900 := by
      rw [hSh.text]
      have ht2 : t ≤ 21 := by omega
      cases dot <;> simp <;> omega
    cases s <;> simp <;> omega
  have hch : ∀ c ∈ (if s then [45] else []) ++ textD (decN d0) n, c = 101 ∨ c = 45 ∨ c = 46 ∨ c = 43 ∨ (48 ≤ c ∧ c ≤ 57) := by
    intro c hc
    rcases List.mem_append.1 hc with h1 | h1
    · cases s
      · simp at h1
      · simp at h1; omega
    · exact shape_chars hSh c h1
  obtain ⟨t2, hs1, hs2, hs3⟩ : ∃ t, (dfold ds0 (textD (decN d0) n)).d = decN d0 ++ List.replicate t 48 ∧ (dfold ds0 (textD (decN d0) n)).point + (if (dfold ds0 (textD (decN d0) n)).minus then -(dfold ds0 (textD (decN d0) n)).e else (dfold ds0 (textD (decN d0) n)).e) = n ∧ (dfold ds0 (textD (decN d0) n)).e ≤ 1500 := by
    rw [hcl]
    rw [hcl] at hdig
    exact digits_sum c l n hdig (by omega) (by omega) (by omega)
  have hw := digitsOf_walk ((if s then [45] else []) ++ textD (decN d0) n) hTl hch (by rw [sgn_dfold]; exact hs3) w
  rw [sgn_dfold, hs1, hs2, rz_decN d0 t2 hl] at hw
  exact hw
theorem foi_neg (a M L : Nat) (ha : 0 < a) (hN : Norm a M L) (hL : L ≤ 1023) : floatOfInt .f64 (-(a : Int)) = wd true (rungI M L) := by
  have e : floatOfInt .f64 (-(a : Int)) = Ieee.double.nearest true a 0 := by
    unfold floatOfInt FloatKind.nearest
    have e1 : decide ((-(a : Int)) < 0) = true := decide_eq_true (by omega)
    have e2 : (-(a : Int)).natAbs = a := by omega
    rw [e1, e2]
    rfl
  rw [e, nearest_whole hN hL]
theorem one_dig (X : List Nat) (a : Nat) (h : X = decN a) (ha : a < 10000) : Dig X ∧ 0 < X.length ∧ X.length ≤ 4 ∧ vD X = a := by
  subst h
  exact ⟨dig_decN a, by rw [decN_length]; exact Lib.nDigits_pos a, by rw [decN_length]; exact nDigits_le a 4 (by omega) (by omega), vD_decN a⟩
/-- **Text of a small whole number.** -/
theorem exp_text (e : Int) (h1 : -1000 ≤ e) (h2 : e ≤ 1000) (w : World) (hL : Laid w) :
    Calls Tryz.prog 8 #[.float .f64 (floatOfInt .f64 e)] w fun rr w' => ∃ g X, Expo (101 :: (g ++ X)) e ∧ rr = .returned (.string (txt (g ++ X))) ∧ Below w.heap.size w w' := by
  rcases Int.lt_trichotomy e 0 with hlt | heq | hgt
  · obtain ⟨a, ha⟩ : ∃ a : Nat, e = -(a : Int) := ⟨e.natAbs, by omega⟩
    subst ha
    obtain ⟨M, L, hN, hL2⟩ := norm_small (n := a) (by omega) (by omega)
    rw [foi_neg a M L (by omega) hN (by omega)]
    have hM1 := hN.M_le
    have hM2 := hN.M_lt
    have hr1 : rungI M L < 9218868437227405312 := rungI_lt hM2 (by omega)
    have hr0 : 4607182418800017408 ≤ rungI M L := rungI_ge hM1
    refine (text_any true (rungI M L) (by omega) w hL).mono ?_
    rintro rr w' ⟨T, hT, rfl, hb⟩
    obtain ⟨d0, J, a1, a2, a3, a4, rfl⟩ := hT (by omega) hr1
    obtain ⟨x1, x2, x3, x4⟩ := one_dig _ a rfl (by omega)
    refine ⟨[45], decN a, .inr ⟨[45], decN a, rfl, x1, x2, x3, .inr (.inr ⟨rfl, by rw [x4]⟩)⟩, ?_, hb⟩
    unfold writ
    rw [if_neg (by omega), if_neg (by omega), if_neg (show ¬ rungI M L = 9218868437227405312 by omega), small_text (by omega) (by omega) hN a1 a2]
    rfl
  · subst heq
    have e0 : floatOfInt .f64 0 = wd false 0 := by decide +kernel
    rw [e0]
    refine (text_any false 0 (by omega) w hL).mono ?_
    rintro rr w' ⟨T, hT, rfl, hb⟩
    refine ⟨[], [48], .inr ⟨[], [48], rfl, by intro x hx; simp at hx; omega, by simp, by simp, .inl ⟨rfl, by decide⟩⟩, rfl, hb⟩
  · obtain ⟨a, ha⟩ : ∃ a : Nat, e = (a : Int) := ⟨e.natAbs, by omega⟩
    subst ha
    obtain ⟨M, L, hN, hL2⟩ := norm_small (n := a) (by omega) (by omega)
    rw [foi a M L hN (by omega), ← wd_false (rungI M L)]
    have hM1 := hN.M_le
    have hM2 := hN.M_lt
    have hr1 : rungI M L < 9218868437227405312 := rungI_lt hM2 (by omega)
    have hr0 : 4607182418800017408 ≤ rungI M L := rungI_ge hM1
    refine (text_any false (rungI M L) (by omega) w hL).mono ?_
    rintro rr w' ⟨T, hT, rfl, hb⟩
    obtain ⟨d0, J, a1, a2, a3, a4, rfl⟩ := hT (by omega) hr1
    obtain ⟨x1, x2, x3, x4⟩ := one_dig _ a rfl (by omega)
    refine ⟨[], decN a, .inr ⟨[], decN a, rfl, x1, x2, x3, .inl ⟨rfl, by rw [x4]⟩⟩, ?_, hb⟩
    unfold writ
    rw [if_neg (by omega), if_neg (by omega), if_neg (show ¬ rungI M L = 9218868437227405312 by omega), small_text (by omega) (by omega) hN a1 a2]
    rfl
theorem word_at (B : Nat) (h : B < 18446744073709551616) : ∃ s r, r < 9223372036854775808 ∧ B = wd s r := by
  by_cases hb : B < 9223372036854775808
  · exact ⟨false, B, hb, (wd_false B).symm⟩
  · exact ⟨true, B - 9223372036854775808, by omega, by rw [wd_true]; omega⟩
theorem ne_word (s : Bool) (R r : Nat) (hR : R ≤ 9218868437227405312) (hr : r < 9218868437227405312) (h : R ≠ r) : (FloatKind.f64.format.order (wd s R) (wd s r) != some .eq) = true := by
  rcases Nat.lt_or_eq_of_le hR with h1 | h1
  · have e1 : FloatKind.f64.format.order (wd s R) (wd s r) = some (compare (key s R) (key s r)) := order_key s s R r h1 hr
    rw [e1]
    have hk : key s R ≠ key s r := by
      unfold key
      cases s <;> simp <;> omega
    rcases Int.lt_trichotomy (key s R) (key s r) with h2 | h2 | h2
    · rw [cmp_lt h2]; rfl
    · exact absurd h2 hk
    · rw [cmp_gt h2]; rfl
  · subst h1
    have e1 : FloatKind.f64.format.order (wd s 9218868437227405312) (wd s r) = some (if s then .lt else .gt) := by
      show Ieee.double.order _ _ = _
      unfold Ieee.Format.order
      rw [read_inf s, read_wd s r hr]
      rfl
    rw [e1]
    cases s <;> rfl
theorem lt_min (s : Bool) (r : Nat) (h : r < 9218868437227405312) : (FloatKind.f64.format.order (wd s r) 18442240474082181119 == some .lt) = false := by
  have e0 : (18442240474082181119 : Nat) = wd true 9218868437227405311 := by rw [wd_true]
  have e1 : FloatKind.f64.format.order (wd s r) (wd true 9218868437227405311) = some (compare (key s r) (key true 9218868437227405311)) := order_key s true r 9218868437227405311 h (by omega)
  rw [e0, e1]
  have hk : key true 9218868437227405311 ≤ key s r := by
    unfold key
    cases s <;> simp <;> omega
  rcases Int.lt_or_eq_of_le hk with h2 | h2
  · rw [cmp_gt h2]; rfl
  · rw [h2, cmp_eq]; rfl
theorem gt_max (s : Bool) (r : Nat) (h : r < 9218868437227405312) : (FloatKind.f64.format.order (wd s r) 9218868437227405311 == some .gt) = false := by
  have e0 : (9218868437227405311 : Nat) = wd false 9218868437227405311 := by rw [wd_false]
  have e1 : FloatKind.f64.format.order (wd s r) (wd false 9218868437227405311) = some (compare (key s r) (key false 9218868437227405311)) := order_key s false r 9218868437227405311 h (by omega)
  rw [e0, e1]
  have hk : key s r ≤ key false 9218868437227405311 := by
    unfold key
    cases s <;> simp <;> omega
  rcases Int.lt_or_eq_of_le hk with h2 | h2
  · rw [cmp_lt h2]; rfl
  · rw [h2, cmp_eq]; rfl
end Go.Proofs.YtellndmbllmjgaaGreatDoor
/- NumShort, walked. -/
set_option linter.unusedVariables false
namespace Go.Proofs.YtellndmbllmjgaaGreatDoor
open Go.RowKit Go.Shelf Go.Sort Fs Fl

set_option maxRecDepth 100000 in
set_option maxHeartbeats 1000000 in
theorem short_nan (x : Nat) (o1 : (FloatKind.f64.format.order x x != some .eq) = true) (w : World) (ct : Calls Tryz.prog 8 #[.float .f64 x] w fun e w' => e = .returned (.string (txt [78, 97, 78])) ∧ Below w.heap.size w w')
    (cr : ∀ W, Below w.heap.size w W → Calls Tryz.prog 11 #[.string (txt [78, 97, 78])] W fun e w' => e = .returned (.float .f64 9221120237041090561) ∧ Below W.heap.size W w') :
    Calls Tryz.prog 6 #[.int .u64 (x : Int)] w fun e w' => e = .returned (.bool true) ∧ Below w.heap.size w w' := by
  have x1 := frombits_7 (x : Int)
  rw [Int.toNat_natCast] at x1
  have CR := (show Hid _ from cr)
  clear cr
  have o2 : (FloatKind.f64.format.order 9221120237041090561 9221120237041090561 != some .eq) = true := by decide +kernel
  obtain ⟨S, hS⟩ : ∃ S, S = txt [78, 97, 78] := ⟨_, rfl⟩
  have hS2 : S = ⟨#[78, 97, 78]⟩ := hS.trans rfl
  rw [← hS] at ct CR
  have HS : Hid (S = ⟨#[78, 97, 78]⟩) := hS2
  clear hS hS2
  go_enter Tryz.func6, Tryz.ntmps6
  go_wp2_with (first | (go_at_call 8; refine ct.mono ?_; rintro e w1 ⟨rfl, hb1⟩; have cr := CR.out _ hb1; clear CR ct) | (go_at_call 11; refine cr.mono ?_; rintro e w2 ⟨rfl, hb2⟩; clear cr))
  all_goals
    go_ret
    have hS := HS.out
    subst hS
    refine ⟨?_, hb1.trans (hb2.mono hb1.size)⟩
    first | rfl | simp
set_option maxRecDepth 100000 in
set_option maxHeartbeats 1000000 in
theorem short_edge (x y : Nat) (S : ByteArray) (o1 : (FloatKind.f64.format.order x x != some .eq) = false) (o2 : (FloatKind.f64.format.order x y != some .eq) = false)
    (b3 b4 b5 : Bool) (o3 : (FloatKind.f64.format.order x 0 == some .eq) = b3) (o4 : (FloatKind.f64.format.order x 9218868437227405311 == some .gt) = b4) (o5 : (FloatKind.f64.format.order x 18442240474082181119 == some .lt) = b5) (hb : b3 = true ∨ b4 = true ∨ b5 = true)
    (w : World) (ct : Calls Tryz.prog 8 #[.float .f64 x] w fun e w' => e = .returned (.string S) ∧ Below w.heap.size w w')
    (cr : ∀ W, Below w.heap.size w W → Calls Tryz.prog 11 #[.string S] W fun e w' => e = .returned (.float .f64 y) ∧ Below W.heap.size W w') :
    Calls Tryz.prog 6 #[.int .u64 (x : Int)] w fun e w' => e = .returned (.bool true) ∧ Below w.heap.size w w' := by
  have x1 := frombits_7 (x : Int)
  rw [Int.toNat_natCast] at x1
  have CR := (show Hid _ from cr)
  clear cr
  cases b3 with
  | true =>
    clear hb o4 o5
    go_enter Tryz.func6, Tryz.ntmps6
    go_wp2_with (first | (go_at_call 8; refine ct.mono ?_; rintro e w1 ⟨rfl, hb1⟩; have cr := CR.out _ hb1; clear CR ct) | (go_at_call 11; refine cr.mono ?_; rintro e w2 ⟨rfl, hb2⟩; clear cr))
    all_goals
      go_ret
      exact ⟨rfl, hb1.trans (hb2.mono hb1.size)⟩
  | false =>
    cases b4 with
    | true =>
      clear hb o5
      go_enter Tryz.func6, Tryz.ntmps6
      go_wp2_with (first | (go_at_call 8; refine ct.mono ?_; rintro e w1 ⟨rfl, hb1⟩; have cr := CR.out _ hb1; clear CR ct) | (go_at_call 11; refine cr.mono ?_; rintro e w2 ⟨rfl, hb2⟩; clear cr))
      all_goals
        go_ret
        exact ⟨rfl, hb1.trans (hb2.mono hb1.size)⟩
    | false =>
      obtain rfl : b5 = true := by simpa using hb
      clear hb
      go_enter Tryz.func6, Tryz.ntmps6
      go_wp2_with (first | (go_at_call 8; refine ct.mono ?_; rintro e w1 ⟨rfl, hb1⟩; have cr := CR.out _ hb1; clear CR ct) | (go_at_call 11; refine cr.mono ?_; rintro e w2 ⟨rfl, hb2⟩; clear cr))
      all_goals
        go_ret
        exact ⟨rfl, hb1.trans (hb2.mono hb1.size)⟩
/-- The sign. -/
def sgB (s : Bool) : ByteArray := if s then ⟨#[45]⟩ else ⟨#[]⟩
/-- A text of one digit. -/
def SOne (w : World) (x : Nat) (S : ByteArray) : Prop :=
  (∀ W, Below w.heap.size w W → Calls Tryz.prog 11 #[.string S] W fun e w' => e = .returned (.float .f64 x) ∧ Below W.heap.size W w') ∧
  ∃ (D : ByteArray) (p : Int), D.size = 1 ∧ ∀ W, Calls Tryz.prog 23 #[.string S] W fun r w' => r = .returned (.tuple #[.string D, .int .i64 p]) ∧ Below W.heap.size W w'
/-- A text of several. -/
def SMany (w : World) (s : Bool) (x : Nat) (S : ByteArray) : Prop :=
  (∀ W, Below w.heap.size w W → Calls Tryz.prog 11 #[.string S] W fun e w' => e = .returned (.float .f64 x) ∧ Below W.heap.size W w') ∧
  ∃ (D Sh U : ByteArray) (N : Nat) (p e : Int) (PT : ByteArray → Prop), D.size = N ∧ 2 ≤ N ∧ N ≤ 19 ∧ D.extract 0 (N - 1) = Sh ∧ U.size ≤ 100 ∧ (∀ T, PT T → T.size ≤ 100) ∧ -2000 ≤ p ∧ p ≤ 2000 ∧ p - ((N - 1 : Nat) : Int) = e ∧
    (∀ W, Calls Tryz.prog 23 #[.string S] W fun r w' => r = .returned (.tuple #[.string D, .int .i64 p]) ∧ Below W.heap.size W w') ∧
    (∀ W, Below w.heap.size w W → Calls Tryz.prog 8 #[.float .f64 (floatOfInt .f64 e)] W fun r w' => ∃ T, PT T ∧ r = .returned (.string T) ∧ Below W.heap.size W w') ∧
    (∀ W T, PT T → Below w.heap.size w W → Calls Tryz.prog 11 #[.string (sgB s ++ Sh ++ ⟨#[101]⟩ ++ T)] W fun r w' => ∃ R, (FloatKind.f64.format.order R x != some .eq) = true ∧ r = .returned (.float .f64 R) ∧ Below W.heap.size W w') ∧
    (∀ W, Calls Tryz.prog 24 #[.string Sh] W fun r w' => r = .returned (.string U) ∧ Below W.heap.size W w') ∧
    (∀ W T, PT T → Below w.heap.size w W → Calls Tryz.prog 11 #[.string (sgB s ++ U ++ ⟨#[101]⟩ ++ T)] W fun r w' => ∃ R, (FloatKind.f64.format.order R x != some .eq) = true ∧ r = .returned (.float .f64 R) ∧ Below W.heap.size W w')
set_option maxRecDepth 100000 in
set_option maxHeartbeats 1000000 in
theorem short_fin (s : Bool) (x : Nat) (PS : ByteArray → Prop)
    (o1 : (FloatKind.f64.format.order x x != some .eq) = false)
    (o3 : (FloatKind.f64.format.order x 0 == some .eq) = false) (o4 : (FloatKind.f64.format.order x 9218868437227405311 == some .gt) = false) (o5 : (FloatKind.f64.format.order x 18442240474082181119 == some .lt) = false)
    (o6 : (FloatKind.f64.format.order x 0 == some .lt) = s)
    (w : World) (ct : Calls Tryz.prog 8 #[.float .f64 x] w fun e w' => ∃ S, PS S ∧ e = .returned (.string S) ∧ Below w.heap.size w w')
    (cK : ∀ S, PS S → SOne w x S ∨ SMany w s x S) :
    Calls Tryz.prog 6 #[.int .u64 (x : Int)] w fun e w' => e = .returned (.bool true) ∧ Below w.heap.size w w' := by
  have x1 := frombits_7 (x : Int)
  rw [Int.toNat_natCast] at x1
  have CK := (show Hid _ from cK)
  clear cK
  go_enter Tryz.func6, Tryz.ntmps6
  go_wp2_with (first | (go_at_call 8; fail))
  refine ct.mono ?_
  rintro e w1 ⟨S, hS, rfl, hb1⟩
  have hK := CK.out S hS
  clear ct hS CK
  rcases hK with ⟨cr0, D, p, hD, cd⟩ | ⟨cr0, D, Sh, U, N, p, e, PT, hD, hN2, hN, hSh, hU, hPT, hp1, hp2, he, cd, ce, cl, cm, ch⟩
  · have cr := cr0 _ hb1
    clear cr0 o6
    go_wp2_with (first | (go_at_call 11; refine cr.mono ?_; rintro e w2 ⟨rfl, hb2⟩; clear cr) | (go_at_call 23; refine (cd _).mono ?_; rintro e w3 ⟨rfl, hb3⟩; clear cd))
    all_goals
      go_ret
      exact ⟨by first | rfl | simp, hb1.trans ((hb2.trans (hb3.mono hb2.size)).mono hb1.size)⟩
  · have cr := cr0 _ hb1
    have CE := (show Hid _ from ce)
    have CL := (show Hid _ from cl)
    have CH := (show Hid _ from ch)
    have HSh : Hid (D.extract 0 (N - 1) = Sh) := hSh
    have HPT := (show Hid _ from hPT)
    clear cr0 ce cl ch hSh hPT
    have n2 : ¬ (N : Int) < 2 := by omega
    have hSs : Hid (Sh.size = N - 1) := by
      show Sh.size = N - 1
      rw [← HSh.out]
      simp
      omega
    subst he
    cases s with
    | false =>
      go_wp2_with (first | (go_at_call 11; refine cr.mono ?_; rintro e w2 ⟨rfl, hb2⟩; clear cr) | (go_at_call 23; refine (cd _).mono ?_; rintro e w3 ⟨rfl, hb3⟩; clear cd) | (go_at_call 8; fail))
      have hb13 : Below w.heap.size w w3 := hb1.trans ((hb2.trans (hb3.mono hb2.size)).mono hb1.size)
      have ce := CE.out w3 hb13
      go_fit ce
      rintro ee w4 ⟨T, hT, rfl, hb4⟩
      have hb14 : Below w.heap.size w w4 := hb13.trans (hb4.mono hb13.size)
      have cl := CL.out w4 T hT hb14
      rw [show sgB false = ⟨#[]⟩ from rfl] at cl
      have hTs := HPT.out T hT
      have CH2 := (show Hid _ from fun W (hW : Below w.heap.size w W) => CH.out W T hT hW)
      have hsh := HSh.out
      rw [hsh]
      clear ce CE CL CH hT hsh HSh hb1 hb2 hb3 hb4 hb13
      have hSs2 := hSs.out
      have z0 : (ByteArray.mk #[]).size = 0 := rfl
      have z1 : (ByteArray.mk #[45]).size = 1 := rfl
      have z2 : (ByteArray.mk #[101]).size = 1 := rfl
      go_wp2_with (first | (go_at_call 11; fail))
      go_fit cl
      rintro ee w5 ⟨R, hR, rfl, hb5⟩
      have hb15 : Below w.heap.size w w5 := hb14.trans (hb5.mono hb14.size)
      clear cl hb14 hb5
      go_wp2_with (first | (go_at_call 24; refine (cm _).mono ?_; rintro e w6 ⟨rfl, hb6⟩; clear cm) | (go_at_call 11; fail))
      have hb16 : Below w.heap.size w w6 := hb15.trans (hb6.mono hb15.size)
      have ch := CH2.out w6 hb16
      rw [show sgB false = ⟨#[]⟩ from rfl] at ch
      go_fit ch
      rintro ee w7 ⟨R2, hR2, rfl, hb7⟩
      have hb17 : Below w.heap.size w w7 := hb16.trans (hb7.mono hb16.size)
      clear ch CH2 hb15 hb6 hb16 hb7
      go_wp2
      all_goals
        go_ret
        exact ⟨rfl, hb17⟩
    | true =>
      go_wp2_with (first | (go_at_call 11; refine cr.mono ?_; rintro e w2 ⟨rfl, hb2⟩; clear cr) | (go_at_call 23; refine (cd _).mono ?_; rintro e w3 ⟨rfl, hb3⟩; clear cd) | (go_at_call 8; fail))
      have hb13 : Below w.heap.size w w3 := hb1.trans ((hb2.trans (hb3.mono hb2.size)).mono hb1.size)
      have ce := CE.out w3 hb13
      go_fit ce
      rintro ee w4 ⟨T, hT, rfl, hb4⟩
      have hb14 : Below w.heap.size w w4 := hb13.trans (hb4.mono hb13.size)
      have cl := CL.out w4 T hT hb14
      rw [show sgB true = ⟨#[45]⟩ from rfl] at cl
      have hTs := HPT.out T hT
      have CH2 := (show Hid _ from fun W (hW : Below w.heap.size w W) => CH.out W T hT hW)
      have hsh := HSh.out
      rw [hsh]
      clear ce CE CL CH hT hsh HSh hb1 hb2 hb3 hb4 hb13
      have hSs2 := hSs.out
      have z0 : (ByteArray.mk #[]).size = 0 := rfl
      have z1 : (ByteArray.mk #[45]).size = 1 := rfl
      have z2 : (ByteArray.mk #[101]).size = 1 := rfl
      go_wp2_with (first | (go_at_call 11; fail))
      go_fit cl
      rintro ee w5 ⟨R, hR, rfl, hb5⟩
      have hb15 : Below w.heap.size w w5 := hb14.trans (hb5.mono hb14.size)
      clear cl hb14 hb5
      go_wp2_with (first | (go_at_call 24; refine (cm _).mono ?_; rintro e w6 ⟨rfl, hb6⟩; clear cm) | (go_at_call 11; fail))
      have hb16 : Below w.heap.size w w6 := hb15.trans (hb6.mono hb15.size)
      have ch := CH2.out w6 hb16
      rw [show sgB true = ⟨#[45]⟩ from rfl] at ch
      go_fit ch
      rintro ee w7 ⟨R2, hR2, rfl, hb7⟩
      have hb17 : Below w.heap.size w w7 := hb16.trans (hb7.mono hb16.size)
      clear ch CH2 hb15 hb6 hb16 hb7
      go_wp2
      all_goals
        go_ret
        exact ⟨rfl, hb17⟩
end Go.Proofs.YtellndmbllmjgaaGreatDoor
/- NumShort, at every word. -/
set_option linter.unusedVariables false
namespace Go.Proofs.YtellndmbllmjgaaGreatDoor
open Go.RowKit Go.Shelf Go.Sort Fs Fl

theorem sgn_txt (s : Bool) : sgB s = txt (if s then [45] else []) := by cases s <;> rfl
theorem cat_txt (s : Bool) (D g X : List Nat) : sgB s ++ txt D ++ ⟨#[101]⟩ ++ txt (g ++ X) = txt ((if s then [45] else []) ++ (D ++ (101 :: (g ++ X)))) := by
  have a2 : (⟨#[101]⟩ : ByteArray) = txt [101] := rfl
  rw [sgn_txt, a2, txt_append, txt_append, txt_append]
  simp
/-- A number that is neither 0 nor infinite. -/
theorem short_pos (s : Bool) (r : Nat) (h0 : 0 < r) (h1 : r < 9218868437227405312) (w : World) (hL : Lies w) :
    Calls Tryz.prog 6 #[.int .u64 ((wd s r : Nat) : Int)] w fun e w' => e = .returned (.bool true) ∧ Below w.heap.size w w' := by
  refine short_fin s (wd s r) (fun S => ∃ d0 J, Fs.Told (magR r) (expR r) d0 J ∧ 0 < d0 ∧ d0 < 1152921504606846976 ∧ S = txt ((if s then [45] else []) ++ textD (decN d0) ((Lib.nDigits d0 : Int) + (J : Int) - 400))) (num_self s r h1) ((eq_zero s r h1).trans (decide_eq_false (by omega))) (gt_max s r h1) (lt_min s r h1) ((lt_zero s r h1).trans (by rw [decide_eq_true (show r ≠ 0 by omega), Bool.and_true])) w ?_ ?_
  · refine (text_any s r (by omega) w hL.r.laid).mono ?_
    rintro e w' ⟨T, hT, rfl, hb⟩
    obtain ⟨d0, J, a1, a2, a3, a4, rfl⟩ := hT h0 h1
    refine ⟨_, ⟨d0, J, a1, a2, a3, rfl⟩, ?_, hb⟩
    unfold writ
    rw [if_neg (by omega), if_neg (by omega), if_neg (show ¬ r = 9218868437227405312 by omega)]
  · rintro S ⟨d0, J, hT, hd0, hd1, rfl⟩
    obtain ⟨hJ1, hJ2⟩ := dec_bounds h0 h1 hd0 hd1 (told_near hT)
    have cr : ∀ W, Below w.heap.size w W → Calls Tryz.prog 11 #[.string (txt ((if s then [45] else []) ++ textD (decN d0) ((Lib.nDigits d0 : Int) + (J : Int) - 400)))] W fun e w' => e = .returned (.float .f64 (wd s r)) ∧ Below W.heap.size W w' := fun W hW => read_written s r d0 J h0 h1 hT hd0 hd1 W (hL.below hW).r (hL.below hW).u (hL.below hW).z
    have cd := digitsOf_written s d0 J hd0 hd1 hT.last hJ1 hJ2
    have hnl : Lib.nDigits d0 ≤ 19 := nDigits_le d0 19 (by omega) (by omega)
    have hlen := decN_length d0
    by_cases h9 : d0 < 10
    · refine .inl ⟨cr, txt (decN d0), _, ?_, cd⟩
      rw [txt_size, decN_small h9]
      rfl
    · have hbig := decN_big h9
      have hlen2 := congrArg List.length hbig
      rw [List.length_append, hlen, decN_length] at hlen2
      simp only [List.length_singleton] at hlen2
      have hnp := Lib.nDigits_pos (d0 / 10)
      refine .inr ⟨cr, txt (decN d0), txt (decN (d0 / 10)), txt (decN (d0 / 10 + 1)), Lib.nDigits d0, _, (J : Int) + 1 - 400, fun T => ∃ g X, Expo (101 :: (g ++ X)) ((J : Int) + 1 - 400) ∧ T = txt (g ++ X), by rw [txt_size, hlen], by omega, hnl, ?_, ?_, ?_, by omega, by omega, by omega, cd, fun W hW => ?_, ?_, fun W => more_any (d0 / 10) (by omega) (by omega) W, ?_⟩
      · rw [hbig, show Lib.nDigits d0 - 1 = (decN (d0 / 10)).length by rw [decN_length]; omega]
        exact ext_take _ _
      · have := nDigits_le (d0 / 10 + 1) 19 (by omega) (by omega)
        rw [txt_size, decN_length]
        omega
      · rintro T ⟨g, X, hE, rfl⟩
        have h2 := (expo_lt hE).2
        rw [List.length_cons] at h2
        rw [txt_size]
        omega
      · refine (exp_text ((J : Int) + 1 - 400) (by omega) (by omega) W (hL.below hW).r.laid).mono ?_
        rintro rr w' ⟨g, X, hE, rfl, hb⟩
        exact ⟨_, ⟨g, X, hE, rfl⟩, rfl, hb⟩
      · rintro W T ⟨g, X, hE, rfl⟩ hW
        rw [cat_txt]
        refine (read_short s r d0 J (d0 / 10) X g _ h0 h1 hT hd0 hd1 (by omega) (by omega) hE rfl W (hL.below hW).r (hL.below hW).u (hL.below hW).z).mono ?_
        rintro rr w' ⟨⟨R, hR, hR2, rfl⟩, hb⟩
        exact ⟨_, ne_word s R r hR2 h1 hR, rfl, hb⟩
      · rintro W T ⟨g, X, hE, rfl⟩ hW
        rw [cat_txt]
        refine (read_short s r d0 J (d0 / 10 + 1) X g _ h0 h1 hT hd0 hd1 (by omega) (by omega) hE rfl W (hL.below hW).r (hL.below hW).u (hL.below hW).z).mono ?_
        rintro rr w' ⟨⟨R, hR, hR2, rfl⟩, hb⟩
        exact ⟨_, ne_word s R r hR2 h1 hR, rfl, hb⟩
/-- **NumShort.** -/
theorem numShort_any (B : Nat) (hB : B < 18446744073709551616) (w : World) (hL : Lies w) :
    Calls Tryz.prog 6 #[.int .u64 (B : Int)] w fun e w' => e = .returned (.bool true) ∧ Below w.heap.size w w' := by
  obtain ⟨s, r, hr, rfl⟩ := word_at B hB
  rcases Nat.lt_trichotomy r 9218868437227405312 with h1 | h1 | h1
  · rcases Nat.eq_zero_or_pos r with h0 | h0
    · subst h0
      have ct : Calls Tryz.prog 8 #[.float .f64 (wd s 0)] w fun e w' => e = .returned (.string (txt [48])) ∧ Below w.heap.size w w' := by
        refine (text_any s 0 hr w hL.r.laid).mono ?_
        rintro e w' ⟨T, _, rfl, hb⟩
        exact ⟨rfl, hb⟩
      exact short_edge (wd s 0) 0 (txt [48]) (num_self s 0 h1) (by have := eq_zero s 0 h1; revert this; cases FloatKind.f64.format.order (wd s 0) 0 <;> simp) true _ _ ((eq_zero s 0 h1).trans rfl) rfl rfl (.inl rfl) w ct (fun W hW => read_zero W (hL.below hW).r (hL.below hW).u (hL.below hW).z)
    · exact short_pos s r h0 h1 w hL
  · subst h1
    have ct : Calls Tryz.prog 8 #[.float .f64 (wd s 9218868437227405312)] w fun e w' => e = .returned (.string (txt ((if s then [45] else []) ++ infL))) ∧ Below w.heap.size w w' := by
      refine (text_any s 9218868437227405312 hr w hL.r.laid).mono ?_
      rintro e w' ⟨T, _, rfl, hb⟩
      exact ⟨rfl, hb⟩
    have o1 : (FloatKind.f64.format.order (wd s 9218868437227405312) (wd s 9218868437227405312) != some .eq) = false := by cases s <;> decide +kernel
    refine short_edge (wd s 9218868437227405312) (wd s 9218868437227405312) _ o1 o1 _ _ _ rfl rfl rfl ?_ w ct (fun W hW => read_infinity s W (hL.below hW).u (hL.below hW).z)
    cases s
    · exact .inr (.inl (by decide +kernel))
    · exact .inr (.inr (by decide +kernel))
  · have ct : Calls Tryz.prog 8 #[.float .f64 (wd s r)] w fun e w' => e = .returned (.string (txt [78, 97, 78])) ∧ Below w.heap.size w w' := by
      refine (text_any s r hr w hL.r.laid).mono ?_
      rintro e w' ⟨T, _, rfl, hb⟩
      refine ⟨?_, hb⟩
      unfold writ
      rw [if_pos h1]
    exact short_nan (wd s r) (nan_self s r h1 hr) w ct (fun W hW => read_none W (hL.below hW).u (hL.below hW).z)
end Go.Proofs.YtellndmbllmjgaaGreatDoor
