/- Fixed of the document put together; Fixed at nought. -/
import Derived.Test.YtellndmbllmjgaaGreatDoorCDn2x
set_option linter.unusedVariables false
namespace Go.Proofs.YtellndmbllmjgaaGreatDoor
open Go.RowKit Go.Shelf Go.Sort Fs Fl Fl2

set_option maxRecDepth 100000 in
set_option maxHeartbeats 1000000 in
theorem fixR_neg (x r n : Nat) (S : ByteArray) (hS : S.size ≤ 100000) (hn : n ≤ 20) (w : World)
    (o1 : (FloatKind.f64.format.order x x != some .eq) = false)
    (o2 : (FloatKind.f64.format.order x 4921056587992461136 == some .gt || FloatKind.f64.format.order x 4921056587992461136 == some .eq) = false)
    (o3 : (FloatKind.f64.format.order x 14144428624847236944 == some .lt || FloatKind.f64.format.order x 14144428624847236944 == some .eq) = false)
    (o4 : (FloatKind.f64.format.order x 0 == some .lt) = true) (hng : ∀ w, (Go.Op.unary .neg (.float .f64 x)).run Tryz.prog w = .ok (.float .f64 r) w)
    (c : Calls Tryz.prog 19 #[.float .f64 r, .int .i64 (n : Int)] w fun e w' => e = .returned (.tuple #[.string S, .bool true]) ∧ Below w.heap.size w w') :
    Calls Tryz.prog 19 #[.float .f64 x, .int .i64 (n : Int)] w fun e w' => e = .returned (.tuple #[.string (⟨#[45]⟩ ++ S), .bool true]) ∧ Below w.heap.size w w' := by
  have k1 : ¬ (n : Int) < 0 := by omega
  have k2 : ¬ (20 : Int) < (n : Int) := by omega
  go_enter Tryz.func19, Tryz.ntmps19
  go_wp2_with (first | (go_at_call 19; refine c.mono ?_; rintro e w2 ⟨rfl, hb⟩))
  go_ret2
  exact ⟨rfl, hb⟩
/-- How a word lies to 10 to the 21. -/
theorem far_up (s : Bool) (r : Nat) (h : r < 9218868437227405312) : (FloatKind.f64.format.order (wd s r) 4921056587992461136 == some .gt || FloatKind.f64.format.order (wd s r) 4921056587992461136 == some .eq) = (!s && decide (4921056587992461136 ≤ r)) := by
  have e1 : FloatKind.f64.format.order (wd s r) 4921056587992461136 = some (compare (key s r) (key false 4921056587992461136)) := by
    have := order_key s false r 4921056587992461136 h (by omega)
    rw [wd_false] at this
    exact this
  rw [e1, key_false]
  cases s
  · rw [key_false]
    rcases Nat.lt_trichotomy r 4921056587992461136 with h1 | h1 | h1
    · rw [cmp_lt (by omega), decide_eq_false (by omega)]; rfl
    · rw [h1, cmp_eq, decide_eq_true (by omega)]; rfl
    · rw [cmp_gt (by omega), decide_eq_true (by omega)]; rfl
  · rw [key_true, cmp_lt (by omega)]; rfl
theorem far_down (s : Bool) (r : Nat) (h : r < 9218868437227405312) : (FloatKind.f64.format.order (wd s r) 14144428624847236944 == some .lt || FloatKind.f64.format.order (wd s r) 14144428624847236944 == some .eq) = (s && decide (4921056587992461136 ≤ r)) := by
  have e1 : FloatKind.f64.format.order (wd s r) 14144428624847236944 = some (compare (key s r) (key true 4921056587992461136)) := by
    have := order_key s true r 4921056587992461136 h (by omega)
    rw [wd_true 4921056587992461136] at this
    exact this
  rw [e1, key_true]
  cases s
  · rw [key_false, cmp_gt (by omega)]; rfl
  · rw [key_true]
    rcases Nat.lt_trichotomy r 4921056587992461136 with h1 | h1 | h1
    · rw [cmp_gt (by omega), decide_eq_false (by omega)]; rfl
    · rw [h1, cmp_eq, decide_eq_true (by omega)]; rfl
    · rw [cmp_lt (by omega), decide_eq_true (by omega)]; rfl
theorem gt_zero (s : Bool) (r : Nat) (h : r < 9218868437227405312) : (FloatKind.f64.format.order (wd s r) 0 == some .gt) = (!s && decide (r ≠ 0)) := by
  have e1 : FloatKind.f64.format.order (wd s r) 0 = some (compare (key s r) 0) := order_zero s r h
  rw [e1]
  rcases Nat.eq_zero_or_pos r with h1 | h1
  · subst h1
    cases s
    · rw [key_false, show ((0 : Nat) : Int) = 0 from rfl, cmp_eq]; rfl
    · rw [key_true, show (-((0 : Nat) : Int)) = 0 from rfl, cmp_eq]; rfl
  · cases s
    · rw [key_false, cmp_gt (by omega), decide_eq_true (by omega)]; rfl
    · rw [key_true, cmp_lt (by omega)]; rfl
/-- **Fixed of the document, at what is not great.** -/
theorem fixD_pos (r n : Nat) (h0 : 0 < r) (h : r < 4921056587992461136) (hn : n ≤ 20) (w : World) :
    Calls Tryz.prog 19 #[.float .f64 r, .int .i64 (n : Int)] w fun e w' => e = .returned (.tuple #[.string (txt (ptd (decN (rnR r n)) n)), .bool true]) ∧ Below w.heap.size w w' := by
  have hf : r < 9218868437227405312 := by omega
  have o1 := num_self false r hf
  have o2 := far_up false r hf
  have o3 := far_down false r hf
  have o4 := lt_zero false r hf
  have o5 := gt_zero false r hf
  rw [wd_false] at o1 o2 o3 o4 o5
  rw [decide_eq_false (by omega)] at o2
  rw [decide_eq_true (show r ≠ 0 by omega)] at o5
  have hel : expR r ≤ 2045 := by unfold expR; omega
  have hnp := Lib.nDigits_pos (rnR r n)
  have hnd := rn_digits h n hn
  have bR : rnR r n < pw 100 := Nat.lt_of_le_of_lt (rn_21 h n hn) (Nat.lt_of_le_of_lt (ten_pw4 (n := 21) (by omega)) (pw_strict (by omega)))
  refine fixR_mid r n true (decN (rnR r n)) (by rw [decN_length]; exact hnp) (by rw [decN_length]; omega) hn (fun e => by cases e) w o1 o2 o3 o4 o5 (fun _ => ?_)
  refine (nearR_any r (n : Int) hf (by omega) (by omega) (pS_pw4 (mag53 r) hel (by omega)) (qS_pw4 (by omega)) (qS_pos _ _) w).mono ?_
  rintro e w' ⟨v, rfl, hv, hb⟩
  refine ⟨v, rfl, ?_, hb⟩
  have cd := digB_any v (rnR r n) 10 (by omega) (by omega) w' hv bR
  rw [toB_ten _ _ (Nat.le_refl _)] at cd
  exact cd
theorem fixD_mid (s : Bool) (r n : Nat) (h0 : 0 < r) (h : r < 4921056587992461136) (hn : n ≤ 20) (w : World) :
    Calls Tryz.prog 19 #[.float .f64 (wd s r), .int .i64 (n : Int)] w fun e w' => e = .returned (.tuple #[.string (txt ((if s then [45] else []) ++ ptd (decN (rnR r n)) n)), .bool true]) ∧ Below w.heap.size w w' := by
  have hf : r < 9218868437227405312 := by omega
  cases s
  · rw [wd_false]
    exact fixD_pos r n h0 h hn w
  · have o1 := num_self true r hf
    have o2 := far_up true r hf
    have o3 := far_down true r hf
    have o4 := lt_zero true r hf
    rw [decide_eq_false (by omega)] at o3
    rw [decide_eq_true (show r ≠ 0 by omega)] at o4
    have hng := run_neg true r (by omega)
    rw [Bool.not_true, wd_false] at hng
    have hl := ptd_len (decN (rnR r n)) n
    have hnd := rn_digits h n hn
    rw [decN_length] at hl
    refine (fixR_neg (wd true r) r n _ (by rw [txt_size]; omega) hn w o1 o2 o3 o4 hng (fixD_pos r n h0 h hn w)).mono ?_
    rintro e w' ⟨rfl, hb⟩
    refine ⟨?_, hb⟩
    rw [txt_m, txt_append]
    rfl
/-- Fixed at nought, of the document. -/
theorem fixD_zero (s : Bool) (n : Nat) (hn : n ≤ 20) (w : World) :
    Calls Tryz.prog 19 #[.float .f64 (wd s 0), .int .i64 (n : Int)] w fun e w' => e = .returned (.tuple #[.string (txt (ptd [48] n)), .bool true]) ∧ Below w.heap.size w w' := by
  have o1 := num_self s 0 (by omega)
  have o2 := far_up s 0 (by omega)
  have o3 := far_down s 0 (by omega)
  have o4 := lt_zero s 0 (by omega)
  have o5 := gt_zero s 0 (by omega)
  rw [decide_eq_false (show ¬ (4921056587992461136 ≤ 0) by omega), Bool.and_false] at o2 o3
  rw [decide_eq_false (show ¬ ((0 : Nat) ≠ 0) by simp), Bool.and_false] at o4 o5
  exact fixR_mid (wd s 0) n false [48] (by simp) (by simp) hn (fun _ => rfl) w o1 o2 o3 o4 o5 (fun e => by cases e)
/-- Fixed at nought, of the program. -/
theorem fixP_zero (hC : PartC) (s : Bool) (n : Nat) (hn : n ≤ 20) (w : World) (hT : TabAt 4 Lib.deBruijn64tab w) :
    Calls Tryz.prog 56 #[.float .f64 (wd s 0), .int .i64 (n : Int)] w fun e w' => e = .returned (.tuple #[.string (txt (ptd [48] n)), .nilIface]) ∧ Below w.heap.size w w' := by
  have hlz := lt_zero s 0 (by omega)
  rw [decide_eq_false (show ¬ ((0 : Nat) ≠ 0) by simp), Bool.and_false] at hlz
  have cm := minus_any (wd s 0) false hlz
  have c := fixW_of (wd s 0) 0 (txt []) n hn (by rw [txt_size]; simp)
    (fun S m => S = txt [48] ∧ m = 1) (fun S m hS => by obtain ⟨_, rfl⟩ := hS; omega)
    (fun U => U = txt (List.replicate (n + 1) 48)) (fun T => T = txt (ptd [48] n)) w
    (by rw [ord_lt (by omega) (by omega) (by omega)]; rfl) cm (abs_any s 0 (by omega))
    (fun W hW => (exactD_any hC 0 (by omega) W (tab_below hT hW)).mono (by
      rintro e w' ⟨X, k, a1, a2, a3, a4, a5, rfl, hb⟩
      obtain ⟨rfl, rfl⟩ := a4 rfl
      refine ⟨_, _, ⟨by rw [decN_zero], ?_⟩, rfl, hb⟩
      have : Lib.nDigits 0 = 1 := Lib.nDigits_small (by omega)
      rw [this]
      rfl))
    (fun S m hS W => by
      obtain ⟨rfl, rfl⟩ := hS
      have := near_zero 1 (n + 1) (by omega) (by omega) W
      have e : (1 : Int) + (n : Int) = ((n + 1 : Nat) : Int) := by omega
      rw [e]
      refine this.mono ?_
      rintro e w' ⟨rfl, hb⟩
      exact ⟨_, rfl, rfl, hb⟩)
    (fun U hU W => by
      subst hU
      refine (pointed_any (List.replicate (n + 1) 48) n (by simp) (by simp; omega) (by omega) W).mono ?_
      rintro e w' ⟨rfl, hb⟩
      refine ⟨_, by rw [ptd_zeros], ?_, rfl, hb⟩
      rw [txt_size]
      have := ptd_len (List.replicate (n + 1) 48) n
      rw [List.length_replicate] at this
      omega)
  refine c.mono ?_
  rintro e w' ⟨T, rfl, rfl, hb⟩
  rw [txt_append]
  exact ⟨rfl, hb⟩
end Go.Proofs.YtellndmbllmjgaaGreatDoor
/- Exponential of the document. -/
set_option linter.unusedVariables false
namespace Go.Proofs.YtellndmbllmjgaaGreatDoor
open Go.RowKit Go.Shelf Go.Sort Fs Fl Fl2

set_option maxRecDepth 100000 in
set_option maxHeartbeats 1000000 in
theorem expR_odd (x : Nat) (n : Int) (S : ByteArray) (w : World) (o2 : (FloatKind.f64.format.order x 0 != some .eq) = true)
    (co : ∀ w, Calls Tryz.prog 30 #[.float .f64 x] w fun e w' => e = .returned (.tuple #[.string S, .bool true]) ∧ w' = w) :
    Calls Tryz.prog 20 #[.float .f64 x, .int .i64 n] w fun e w' => e = .returned (.tuple #[.string S, .bool true]) ∧ w' = w := by
  go_enter Tryz.func20, Tryz.ntmps20
  go_wp2_with (first | (go_at_call 30; refine (co _).mono ?_; rintro e w1 ⟨rfl, rfl⟩))
  go_ret2
  exact ⟨rfl, rfl⟩
set_option maxRecDepth 100000 in
set_option maxHeartbeats 1000000 in
theorem expR_no (x : Nat) (n : Int) (b z : Bool) (S : ByteArray) (hn : 20 < n) (w : World) (o2 : (FloatKind.f64.format.order x 0 != some .eq) = z) (hbz : b = true → z = false)
    (co : ∀ w, Calls Tryz.prog 30 #[.float .f64 x] w fun e w' => e = .returned (.tuple #[.string S, .bool b]) ∧ w' = w) :
    Calls Tryz.prog 20 #[.float .f64 x, .int .i64 n] w fun e w' => e = .returned (.tuple #[.string ⟨#[]⟩, .bool false]) ∧ w' = w := by
  cases b
  · clear o2 hbz
    go_enter Tryz.func20, Tryz.ntmps20
    go_wp2_with (first | (go_at_call 30; refine (co _).mono ?_; rintro e w1 ⟨rfl, rfl⟩))
    go_ret2
    exact ⟨rfl, rfl⟩
  · have hz := hbz rfl
    subst hz
    clear hbz
    go_enter Tryz.func20, Tryz.ntmps20
    go_wp2_with (first | (go_at_call 30; refine (co _).mono ?_; rintro e w1 ⟨rfl, rfl⟩))
    go_ret2
    exact ⟨rfl, rfl⟩
set_option maxRecDepth 100000 in
set_option maxHeartbeats 1000000 in
theorem expR_neg (x r : Nat) (n : Int) (S : ByteArray) (hS : S.size ≤ 100000) (hn : n ≤ 20) (w : World)
    (o2 : (FloatKind.f64.format.order x 0 == some .lt) = true) (hng : ∀ w, (Go.Op.unary .neg (.float .f64 x)).run Tryz.prog w = .ok (.float .f64 r) w)
    (co : ∀ w, Calls Tryz.prog 30 #[.float .f64 x] w fun e w' => e = .returned (.tuple #[.string ⟨#[]⟩, .bool false]) ∧ w' = w)
    (c : Calls Tryz.prog 20 #[.float .f64 r, .int .i64 n] w fun e w' => e = .returned (.tuple #[.string S, .bool true]) ∧ Below w.heap.size w w') :
    Calls Tryz.prog 20 #[.float .f64 x, .int .i64 n] w fun e w' => e = .returned (.tuple #[.string (⟨#[45]⟩ ++ S), .bool true]) ∧ Below w.heap.size w w' := by
  have k1 : ¬ 20 < n := by omega
  go_enter Tryz.func20, Tryz.ntmps20
  go_wp2_with (first | (go_at_call 30; refine (co _).mono ?_; rintro e w1 ⟨rfl, rfl⟩) | (go_at_call 20; refine c.mono ?_; rintro e w2 ⟨rfl, hb⟩))
  go_ret2
  exact ⟨rfl, hb⟩
/-- What is laid behind the digits. -/
theorem pwd_eq (D : List Nat) (p : Int) : txt (ptd D (D.length - 1)) ++ ⟨#[101]⟩ ++ txt ((if p - 1 < 0 then 45 else 43) :: decN (p - 1).natAbs) = txt (pwd D (p - 1)) := by
  unfold pwd
  rw [txt_e, txt_append, txt_append]
  congr 1
  simp
set_option maxRecDepth 100000 in
set_option maxHeartbeats 1000000 in
/-- Exponential, where digits are asked for. -/
theorem expR_mid (r n : Nat) (z : Bool) (S0 : ByteArray) (D : List Nat) (p : Int) (hD0 : 0 < D.length) (hD : D.length ≤ 100) (hp1 : -500 ≤ p) (hp2 : p ≤ 500) (hn : n ≤ 20) (hz : z = false → D = List.replicate (n + 1) 48 ∧ p = 1) (w : World)
    (o2 : (FloatKind.f64.format.order r 0 != some .eq) = z)
    (o4 : (FloatKind.f64.format.order r 0 == some .lt) = false) (o5 : (FloatKind.f64.format.order r 0 == some .gt) = z)
    (co : ∀ w, Calls Tryz.prog 30 #[.float .f64 r] w fun e w' => e = .returned (.tuple #[.string S0, .bool (!z)]) ∧ w' = w)
    (cn : z = true → Calls Tryz.prog 62 #[.float .f64 r, .int .i64 ((n : Int) + 1)] w fun e w' => e = .returned (.tuple #[.string (txt D), .int .i64 p]) ∧ Below w.heap.size w w') :
    Calls Tryz.prog 20 #[.float .f64 r, .int .i64 (n : Int)] w fun e w' => e = .returned (.tuple #[.string (txt (pwd D (p - 1))), .bool true]) ∧ Below w.heap.size w w' := by
  have k2 : ¬ (20 : Int) < (n : Int) := by omega
  have k0 : (0 : Int) ≤ (n : Int) := by omega
  obtain ⟨U1, c1⟩ : ∃ U1 : ByteArray, ∀ w, Calls Tryz.prog 35 #[.int .i64 1] w fun e w' => e = .returned (.string U1) ∧ w' = w := ⟨_, fun w => zeros_any 1 (by omega) w⟩
  have c2 := fun w => zeros_any (n + 1) (by omega) w
  have e2 : ((n + 1 : Nat) : Int) = (n : Int) + 1 := rfl
  rw [e2] at c2
  obtain ⟨U2, hU2⟩ : ∃ U2, U2 = txt (List.replicate (n + 1) 48) := ⟨_, rfl⟩
  rw [← hU2] at c2
  have HU2 : Hid (U2 = txt (List.replicate (n + 1) 48)) := hU2
  have C1 := (show Hid _ from c1)
  have C2 := (show Hid _ from c2)
  clear hU2 c1 c2
  have CD := (show Hid _ from fun w => dotted_any D hD0 (by omega) w)
  have CS := (show Hid _ from fun w => smallN_text (p - 1) (by omega) (by omega) w)
  have HE := (show Hid _ from pwd_eq D p)
  have hs1 := txt_size (ptd D (D.length - 1))
  have hl1 := ptd_len D (D.length - 1)
  have hs2 := txt_size ((if p - 1 < 0 then 45 else 43) :: decN (p - 1).natAbs)
  have hl2 : Lib.nDigits (p - 1).natAbs ≤ 4 := nDigits_le _ 4 (by omega) (by omega)
  rw [List.length_cons, decN_length] at hs2
  obtain ⟨A, hA⟩ : ∃ A, A = txt (pwd D (p - 1)) := ⟨_, rfl⟩
  obtain ⟨T, hT⟩ : ∃ T, T = txt (ptd D (D.length - 1)) := ⟨_, rfl⟩
  obtain ⟨E, hE⟩ : ∃ E, E = txt ((if p - 1 < 0 then 45 else 43) :: decN (p - 1).natAbs) := ⟨_, rfl⟩
  rw [← hA, ← hT, ← hE] at HE
  rw [← hT] at hs1
  rw [← hE] at hs2
  rw [← hA]
  rw [← hT] at CD
  rw [← hE] at CS
  have hTs : T.size ≤ 300 := by omega
  have hEs : E.size ≤ 10 := by omega
  have HN := (show Hid _ from cn)
  obtain ⟨U, hU⟩ : ∃ U, U = txt D := ⟨_, rfl⟩
  rw [← hU] at HN CD
  have HU : Hid (U = txt D) := hU
  have HZ := (show Hid _ from hz)
  clear cn hz hs1 hs2 hl1 hl2 hA hT hE hU e2
  cases z
  · obtain ⟨hD1, hp⟩ := HZ.out rfl
    subst hp
    have hU1 : U2 = U := by rw [HU2.out, HU.out, hD1]
    subst hU1
    have co' : ∀ w, Calls Tryz.prog 30 #[.float .f64 r] w fun e w' => e = .returned (.tuple #[.string S0, .bool true]) ∧ w' = w := co
    clear HZ HN hD1 HU2 HU co
    go_enter Tryz.func20, Tryz.ntmps20
    go_wp2_with (first | (go_at_call 30; refine (co' _).mono ?_; rintro e w1 ⟨rfl, rfl⟩) | (go_at_call 35; fail))
    have c1 := C1.out w1
    go_fit c1
    rintro e w2 ⟨rfl, rfl⟩
    have c2 := C2.out w2
    clear c1 C1 C2
    go_wp2_with (first | (go_at_call 35; fail))
    go_fit c2
    rintro e w3 ⟨rfl, rfl⟩
    have c3 := CD.out w3
    clear c2 CD
    go_wp2_with (first | (go_at_call 36; fail))
    go_fit c3
    rintro e w4 ⟨rfl, hb4⟩
    have c4 := CS.out w4
    clear c3 CS
    go_wp2_with (first | (go_at_call 37; fail))
    go_fit c4
    rintro e w5 ⟨rfl, hb5⟩
    clear c4
    go_wp2
    go_ret2
    exact ⟨by rw [← HE.out]; rfl, hb4.trans (hb5.mono hb4.size)⟩
  · have cn := HN.out rfl
    have co' : ∀ w, Calls Tryz.prog 30 #[.float .f64 r] w fun e w' => e = .returned (.tuple #[.string S0, .bool false]) ∧ w' = w := co
    have CN : Hid (Calls Tryz.prog 62 #[.float .f64 r, .int .i64 ((n : Int) + 1)] w fun e w' => e = .returned (.tuple #[.string U, .int .i64 p]) ∧ Below w.heap.size w w') := cn
    have hwp : IntKind.i64.wrap (p - 1) = p - 1 := by rw [IntKind.wrap_i64]; omega
    clear HZ HN HU2 HU co cn
    go_enter Tryz.func20, Tryz.ntmps20
    go_wp2_with (first | (go_at_call 30; refine (co' _).mono ?_; rintro e w1 ⟨rfl, rfl⟩) | (go_at_call 35; fail))
    have c1 := C1.out w1
    go_fit c1
    rintro e w2 ⟨rfl, rfl⟩
    have c2 := C2.out w2
    clear c1 C1 C2
    go_wp2_with (first | (go_at_call 35; fail))
    go_fit c2
    rintro e w3 ⟨rfl, rfl⟩
    have cn := CN.out
    clear c2 CN
    go_wp2_with (first | (go_at_call 62; fail))
    go_fit cn
    rintro e w3' ⟨rfl, hb3⟩
    have c3 := CD.out w3'
    clear cn CD
    go_wp2_with (first | (go_at_call 36; fail))
    go_fit c3
    rintro e w4 ⟨rfl, hb4⟩
    have c4 := CS.out w4
    clear c3 CS
    go_wp2_with (first | (go_at_call 37; fail))
    go_fit c4
    rintro e w5 ⟨rfl, hb5⟩
    clear c4
    go_wp2
    go_ret2
    exact ⟨by rw [← HE.out]; rfl, hb3.trans ((hb4.trans (hb5.mono hb4.size)).mono hb3.size)⟩
set_option maxRecDepth 100000 in
set_option maxHeartbeats 1000000 in
/-- Exponential, where as many digits as tell it are asked for. -/
theorem expR_few (r : Nat) (n : Int) (z : Bool) (S0 : ByteArray) (D : List Nat) (p : Int) (hD0 : 0 < D.length) (hD : D.length ≤ 100) (hp1 : -900 ≤ p) (hp2 : p ≤ 900) (hn : n < 0) (hz : z = false → D = [48] ∧ p = 1) (w : World)
    (o2 : (FloatKind.f64.format.order r 0 != some .eq) = z)
    (o4 : (FloatKind.f64.format.order r 0 == some .lt) = false) (o5 : (FloatKind.f64.format.order r 0 == some .gt) = z)
    (co : ∀ w, Calls Tryz.prog 30 #[.float .f64 r] w fun e w' => e = .returned (.tuple #[.string S0, .bool (!z)]) ∧ w' = w)
    (cn : z = true → Calls Tryz.prog 34 #[.float .f64 r] w fun e w' => e = .returned (.tuple #[.string (txt D), .int .i64 p]) ∧ Below w.heap.size w w') :
    Calls Tryz.prog 20 #[.float .f64 r, .int .i64 n] w fun e w' => e = .returned (.tuple #[.string (txt (pwd D (p - 1))), .bool true]) ∧ Below w.heap.size w w' := by
  have k2 : ¬ (20 : Int) < n := by omega
  have k0 : ¬ (0 : Int) ≤ n := by omega
  have c1 : ∀ w, Calls Tryz.prog 35 #[.int .i64 1] w fun e w' => e = .returned (.string (txt (List.replicate 1 48))) ∧ w' = w := fun w => zeros_any 1 (by omega) w
  obtain ⟨U2, hU2⟩ : ∃ U2, U2 = txt (List.replicate 1 48) := ⟨_, rfl⟩
  rw [← hU2] at c1
  have HU2 : Hid (U2 = txt (List.replicate 1 48)) := hU2
  have C1 := (show Hid _ from c1)
  clear hU2 c1
  have CD := (show Hid _ from fun w => dotted_any D hD0 (by omega) w)
  have CS := (show Hid _ from fun w => smallN_text (p - 1) (by omega) (by omega) w)
  have HE := (show Hid _ from pwd_eq D p)
  have hs1 := txt_size (ptd D (D.length - 1))
  have hl1 := ptd_len D (D.length - 1)
  have hs2 := txt_size ((if p - 1 < 0 then 45 else 43) :: decN (p - 1).natAbs)
  have hl2 : Lib.nDigits (p - 1).natAbs ≤ 4 := nDigits_le _ 4 (by omega) (by omega)
  rw [List.length_cons, decN_length] at hs2
  obtain ⟨A, hA⟩ : ∃ A, A = txt (pwd D (p - 1)) := ⟨_, rfl⟩
  obtain ⟨T, hT⟩ : ∃ T, T = txt (ptd D (D.length - 1)) := ⟨_, rfl⟩
  obtain ⟨E, hE⟩ : ∃ E, E = txt ((if p - 1 < 0 then 45 else 43) :: decN (p - 1).natAbs) := ⟨_, rfl⟩
  rw [← hA, ← hT, ← hE] at HE
  rw [← hT] at hs1
  rw [← hE] at hs2
  rw [← hA]
  rw [← hT] at CD
  rw [← hE] at CS
  have hTs : T.size ≤ 300 := by omega
  have hEs : E.size ≤ 10 := by omega
  have HN := (show Hid _ from cn)
  obtain ⟨U, hU⟩ : ∃ U, U = txt D := ⟨_, rfl⟩
  rw [← hU] at HN CD
  have HU : Hid (U = txt D) := hU
  have HZ := (show Hid _ from hz)
  clear cn hz hs1 hs2 hl1 hl2 hA hT hE hU
  cases z
  · obtain ⟨hD1, hp⟩ := HZ.out rfl
    subst hp
    have hU1 : U2 = U := by rw [HU2.out, HU.out, hD1]; rfl
    subst hU1
    have co' : ∀ w, Calls Tryz.prog 30 #[.float .f64 r] w fun e w' => e = .returned (.tuple #[.string S0, .bool true]) ∧ w' = w := co
    clear HZ HN hD1 HU2 HU co
    go_enter Tryz.func20, Tryz.ntmps20
    go_wp2_with (first | (go_at_call 30; refine (co' _).mono ?_; rintro e w1 ⟨rfl, rfl⟩) | (go_at_call 35; fail))
    have c1 := C1.out w1
    go_fit c1
    rintro e w2 ⟨rfl, rfl⟩
    have c3 := CD.out w2
    clear c1 C1 CD
    go_wp2_with (first | (go_at_call 36; fail))
    go_fit c3
    rintro e w4 ⟨rfl, hb4⟩
    have c4 := CS.out w4
    clear c3 CS
    go_wp2_with (first | (go_at_call 37; fail))
    go_fit c4
    rintro e w5 ⟨rfl, hb5⟩
    clear c4
    go_wp2
    go_ret2
    exact ⟨by rw [← HE.out]; rfl, hb4.trans (hb5.mono hb4.size)⟩
  · have cn := HN.out rfl
    have co' : ∀ w, Calls Tryz.prog 30 #[.float .f64 r] w fun e w' => e = .returned (.tuple #[.string S0, .bool false]) ∧ w' = w := co
    have CN : Hid (Calls Tryz.prog 34 #[.float .f64 r] w fun e w' => e = .returned (.tuple #[.string U, .int .i64 p]) ∧ Below w.heap.size w w') := cn
    have hwp : IntKind.i64.wrap (p - 1) = p - 1 := by rw [IntKind.wrap_i64]; omega
    clear HZ HN HU2 HU co cn
    go_enter Tryz.func20, Tryz.ntmps20
    go_wp2_with (first | (go_at_call 30; refine (co' _).mono ?_; rintro e w1 ⟨rfl, rfl⟩) | (go_at_call 35; fail))
    have c1 := C1.out w1
    go_fit c1
    rintro e w2 ⟨rfl, rfl⟩
    have cn := CN.out
    clear c1 C1 CN
    go_wp2_with (first | (go_at_call 34; fail))
    go_fit cn
    rintro e w3' ⟨rfl, hb3⟩
    have c3 := CD.out w3'
    clear cn CD
    go_wp2_with (first | (go_at_call 36; fail))
    go_fit c3
    rintro e w4 ⟨rfl, hb4⟩
    have c4 := CS.out w4
    clear c3 CS
    go_wp2_with (first | (go_at_call 37; fail))
    go_fit c4
    rintro e w5 ⟨rfl, hb5⟩
    clear c4
    go_wp2
    go_ret2
    exact ⟨by rw [← HE.out]; rfl, hb3.trans ((hb4.trans (hb5.mono hb4.size)).mono hb3.size)⟩
end Go.Proofs.YtellndmbllmjgaaGreatDoor
/- Precision of the document. -/
set_option linter.unusedVariables false
namespace Go.Proofs.YtellndmbllmjgaaGreatDoor
open Go.RowKit Go.Shelf Go.Sort Fs Fl Fl2

set_option maxRecDepth 100000 in
set_option maxHeartbeats 1000000 in
theorem precR_odd (x : Nat) (n : Int) (S : ByteArray) (w : World) (o2 : (FloatKind.f64.format.order x 0 != some .eq) = true)
    (co : ∀ w, Calls Tryz.prog 30 #[.float .f64 x] w fun e w' => e = .returned (.tuple #[.string S, .bool true]) ∧ w' = w) :
    Calls Tryz.prog 21 #[.float .f64 x, .int .i64 n] w fun e w' => e = .returned (.tuple #[.string S, .bool true]) ∧ w' = w := by
  go_enter Tryz.func21, Tryz.ntmps21
  go_wp2_with (first | (go_at_call 30; refine (co _).mono ?_; rintro e w1 ⟨rfl, rfl⟩))
  go_ret2
  exact ⟨rfl, rfl⟩
set_option maxRecDepth 100000 in
set_option maxHeartbeats 1000000 in
theorem precR_no (x : Nat) (n : Int) (b z : Bool) (S : ByteArray) (hn : n < 1 ∨ 21 < n) (w : World) (o2 : (FloatKind.f64.format.order x 0 != some .eq) = z) (hbz : b = true → z = false)
    (co : ∀ w, Calls Tryz.prog 30 #[.float .f64 x] w fun e w' => e = .returned (.tuple #[.string S, .bool b]) ∧ w' = w) :
    Calls Tryz.prog 21 #[.float .f64 x, .int .i64 n] w fun e w' => e = .returned (.tuple #[.string ⟨#[]⟩, .bool false]) ∧ w' = w := by
  rcases hn with hn | hn
  · cases b
    · clear o2 hbz
      go_enter Tryz.func21, Tryz.ntmps21
      go_wp2_with (first | (go_at_call 30; refine (co _).mono ?_; rintro e w1 ⟨rfl, rfl⟩))
      go_ret2
      exact ⟨rfl, rfl⟩
    · have hz := hbz rfl
      subst hz
      clear hbz
      go_enter Tryz.func21, Tryz.ntmps21
      go_wp2_with (first | (go_at_call 30; refine (co _).mono ?_; rintro e w1 ⟨rfl, rfl⟩))
      go_ret2
      exact ⟨rfl, rfl⟩
  · have hn1 : ¬ n < 1 := by omega
    cases b
    · clear o2 hbz
      go_enter Tryz.func21, Tryz.ntmps21
      go_wp2_with (first | (go_at_call 30; refine (co _).mono ?_; rintro e w1 ⟨rfl, rfl⟩))
      go_ret2
      exact ⟨rfl, rfl⟩
    · have hz := hbz rfl
      subst hz
      clear hbz
      go_enter Tryz.func21, Tryz.ntmps21
      go_wp2_with (first | (go_at_call 30; refine (co _).mono ?_; rintro e w1 ⟨rfl, rfl⟩))
      go_ret2
      exact ⟨rfl, rfl⟩
set_option maxRecDepth 100000 in
set_option maxHeartbeats 1000000 in
theorem precR_neg (x r : Nat) (n : Int) (S : ByteArray) (hS : S.size ≤ 100000) (hn0 : 1 ≤ n) (hn : n ≤ 21) (w : World)
    (o2 : (FloatKind.f64.format.order x 0 == some .lt) = true) (hng : ∀ w, (Go.Op.unary .neg (.float .f64 x)).run Tryz.prog w = .ok (.float .f64 r) w)
    (co : ∀ w, Calls Tryz.prog 30 #[.float .f64 x] w fun e w' => e = .returned (.tuple #[.string ⟨#[]⟩, .bool false]) ∧ w' = w)
    (c : Calls Tryz.prog 21 #[.float .f64 r, .int .i64 n] w fun e w' => e = .returned (.tuple #[.string S, .bool true]) ∧ Below w.heap.size w w') :
    Calls Tryz.prog 21 #[.float .f64 x, .int .i64 n] w fun e w' => e = .returned (.tuple #[.string (⟨#[45]⟩ ++ S), .bool true]) ∧ Below w.heap.size w w' := by
  have k1 : ¬ n < 1 := by omega
  have k2 : ¬ 21 < n := by omega
  go_enter Tryz.func21, Tryz.ntmps21
  go_wp2_with (first | (go_at_call 30; refine (co _).mono ?_; rintro e w1 ⟨rfl, rfl⟩) | (go_at_call 21; refine c.mono ?_; rintro e w2 ⟨rfl, hb⟩))
  go_ret2
  exact ⟨rfl, hb⟩
set_option maxRecDepth 100000 in
set_option maxHeartbeats 1000000 in
/-- Precision, with a power. -/
theorem precR_pow (r n : Nat) (z : Bool) (S0 : ByteArray) (D : List Nat) (p : Int) (hD : D.length = n) (hp1 : -500 ≤ p) (hp2 : p ≤ 500) (hn0 : 1 ≤ n) (hn : n ≤ 21) (hz : z = false → D = List.replicate n 48 ∧ p = 1) (w : World) (hc : p - 1 < -6 ∨ (n : Int) ≤ p - 1)
    (o2 : (FloatKind.f64.format.order r 0 != some .eq) = z)
    (o4 : (FloatKind.f64.format.order r 0 == some .lt) = false) (o5 : (FloatKind.f64.format.order r 0 == some .gt) = z)
    (co : ∀ w, Calls Tryz.prog 30 #[.float .f64 r] w fun e w' => e = .returned (.tuple #[.string S0, .bool (!z)]) ∧ w' = w)
    (cn : z = true → Calls Tryz.prog 62 #[.float .f64 r, .int .i64 (n : Int)] w fun e w' => e = .returned (.tuple #[.string (txt D), .int .i64 p]) ∧ Below w.heap.size w w') :
    Calls Tryz.prog 21 #[.float .f64 r, .int .i64 (n : Int)] w fun e w' => e = .returned (.tuple #[.string (txt (pwd D (p - 1))), .bool true]) ∧ Below w.heap.size w w' := by
  have k2 : ¬ (21 : Int) < (n : Int) := by omega
  have k0 : ¬ (n : Int) < 1 := by omega
  have hzt : z = true := by
    cases z
    · have := (hz rfl).2; omega
    · rfl
  subst hzt
  have c2 := fun w => zeros_any n (by omega) w
  obtain ⟨U2, hU2⟩ : ∃ U2, U2 = txt (List.replicate n 48) := ⟨_, rfl⟩
  rw [← hU2] at c2
  have CD := (show Hid _ from fun w => dotted_any D (by omega) (by omega) w)
  have CS := (show Hid _ from fun w => smallN_text (p - 1) (by omega) (by omega) w)
  have HE := (show Hid _ from pwd_eq D p)
  have hs1 := txt_size (ptd D (D.length - 1))
  have hl1 := ptd_len D (D.length - 1)
  have hs2 := txt_size ((if p - 1 < 0 then 45 else 43) :: decN (p - 1).natAbs)
  have hl2 : Lib.nDigits (p - 1).natAbs ≤ 4 := nDigits_le _ 4 (by omega) (by omega)
  rw [List.length_cons, decN_length] at hs2
  obtain ⟨A, hA⟩ : ∃ A, A = txt (pwd D (p - 1)) := ⟨_, rfl⟩
  obtain ⟨T, hT⟩ : ∃ T, T = txt (ptd D (D.length - 1)) := ⟨_, rfl⟩
  obtain ⟨E, hE⟩ : ∃ E, E = txt ((if p - 1 < 0 then 45 else 43) :: decN (p - 1).natAbs) := ⟨_, rfl⟩
  rw [← hA, ← hT, ← hE] at HE
  rw [← hT] at hs1
  rw [← hE] at hs2
  rw [← hA]
  rw [← hT] at CD
  rw [← hE] at CS
  have hTs : T.size ≤ 300 := by omega
  have hEs : E.size ≤ 10 := by omega
  have cn := cn rfl
  obtain ⟨U, hU⟩ : ∃ U, U = txt D := ⟨_, rfl⟩
  rw [← hU] at cn CD
  have CN : Hid (Calls Tryz.prog 62 #[.float .f64 r, .int .i64 (n : Int)] w fun e w' => e = .returned (.tuple #[.string U, .int .i64 p]) ∧ Below w.heap.size w w') := cn
  have co' : ∀ w, Calls Tryz.prog 30 #[.float .f64 r] w fun e w' => e = .returned (.tuple #[.string S0, .bool false]) ∧ w' = w := co
  have hwp : IntKind.i64.wrap (p - 1) = p - 1 := by rw [IntKind.wrap_i64]; omega
  clear cn hz hs1 hs2 hl1 hl2 hA hT hE hU hU2 co
  rcases hc with hc | hc
  · go_enter Tryz.func21, Tryz.ntmps21
    go_wp2_with (first | (go_at_call 30; refine (co' _).mono ?_; rintro e w1 ⟨rfl, rfl⟩) | (go_at_call 35; refine (c2 _).mono ?_; rintro e w1 ⟨rfl, rfl⟩) | (go_at_call 62; fail))
    have cn := CN.out
    clear CN
    go_fit cn
    rintro e w3' ⟨rfl, hb3⟩
    have c3 := CD.out w3'
    clear cn CD
    go_wp2_with (first | (go_at_call 36; fail))
    go_fit c3
    rintro e w4 ⟨rfl, hb4⟩
    have c4 := CS.out w4
    clear c3 CS
    go_wp2_with (first | (go_at_call 37; fail))
    go_fit c4
    rintro e w5 ⟨rfl, hb5⟩
    clear c4
    go_wp2
    go_ret2
    exact ⟨by rw [← HE.out]; rfl, hb3.trans ((hb4.trans (hb5.mono hb4.size)).mono hb3.size)⟩
  · have hc6 : ¬ p - 1 < -6 := by omega
    go_enter Tryz.func21, Tryz.ntmps21
    go_wp2_with (first | (go_at_call 30; refine (co' _).mono ?_; rintro e w1 ⟨rfl, rfl⟩) | (go_at_call 35; refine (c2 _).mono ?_; rintro e w1 ⟨rfl, rfl⟩) | (go_at_call 62; fail))
    have cn := CN.out
    clear CN
    go_fit cn
    rintro e w3' ⟨rfl, hb3⟩
    have c3 := CD.out w3'
    clear cn CD
    go_wp2_with (first | (go_at_call 36; fail))
    go_fit c3
    rintro e w4 ⟨rfl, hb4⟩
    have c4 := CS.out w4
    clear c3 CS
    go_wp2_with (first | (go_at_call 37; fail))
    go_fit c4
    rintro e w5 ⟨rfl, hb5⟩
    clear c4
    go_wp2
    go_ret2
    exact ⟨by rw [← HE.out]; rfl, hb3.trans ((hb4.trans (hb5.mono hb4.size)).mono hb3.size)⟩
end Go.Proofs.YtellndmbllmjgaaGreatDoor
