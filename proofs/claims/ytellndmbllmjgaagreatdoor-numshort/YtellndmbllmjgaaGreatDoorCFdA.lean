/- The walk of fromDecimal. -/
import Derived.Test.YtellndmbllmjgaaGreatDoorCPf3
import Derived.Test.YtellndmbllmjgaaGreatDoorCNb1
set_option linter.unusedVariables false
namespace Go.Proofs.YtellndmbllmjgaaGreatDoor
open Go.RowKit Go.Shelf Go.Sort Fs Fl

set_option maxRecDepth 100000 in
set_option maxHeartbeats 1000000 in
theorem fromDec_walk (S : ByteArray) (T : ByteArray) (I : ByteArray) (n n' : Int) (hs : S.size ≤ 10000) (hT0 : 0 < T.size) (hTs : T.size ≤ S.size) (hI : I.size ≤ 100) (hn' : n - ((S.size : Int) - (T.size : Int)) = n') (hn1 : -400 ≤ n') (hn2 : n' ≤ 400) (w : World) (hL : RLaid w) (F : Nat) (P : Nat → Prop)
    (ct : ∀ w, Calls Tryz.prog 93 #[.string S, .string ⟨#[48]⟩] w fun e w' => e = .returned (.string T) ∧ w' = w)
    (cf : ∀ w, RLaid w → Calls Tryz.prog 194 #[.int .i64 n', .int .i64 10] w fun e w' => e = .returned (.string I) ∧ Below w.heap.size w w')
    (cp : ∀ w, RLaid w → Calls Tryz.prog 193 #[.string (⟨#[48, 46]⟩ ++ T ++ ⟨#[101]⟩ ++ I), .int .i64 64] w fun r w' => ∃ F err, P F ∧ r = .returned (.tuple #[.float .f64 F, err]) ∧ Below w.heap.size w w') :
    Calls Tryz.prog 149 #[.string S, .int .i64 n] w fun r w' => ∃ F, P F ∧ r = .returned (.float .f64 F) ∧ Below w.heap.size w w' := by
  have HL : Hid (RLaid w) := hL
  have CF := (show Hid _ from cf)
  have CP := (show Hid _ from cp)
  clear hL cf cp
  have q1 : ¬ n' < -400 := by omega
  have q2 : ¬ (400 : Int) < n' := by omega
  have hne : T.toList.isEmpty = false := by
    rw [Lib.toList_data]
    cases h : T.data.toList with
    | nil => exact absurd (by rw [Lib.size_eq, h]; rfl) (Nat.ne_of_gt hT0)
    | cons _ _ => rfl
  go_enter Tryz.func149, Tryz.ntmps149
  go_wp2_with (first | (go_at_call 93; refine (ct _).mono ?_; rintro e w1 ⟨rfl, rfl⟩) | (go_at_call 194; fail))
  refine (CF.out _ HL.out).mono ?_
  rintro e w2 ⟨rfl, hb2⟩
  have cp := CP.out w2 (HL.out.below hb2)
  have z1 : (ByteArray.mk #[48, 46]).size = 2 := rfl
  have z2 : (ByteArray.mk #[101]).size = 1 := rfl
  clear CP CF ct hne
  go_wp2_with (first | (go_at_call 193; fail))
  refine cp.mono ?_
  rintro e w3 ⟨F, err, hP, rfl, hb3⟩
  have HP : Hid (P F) := hP
  clear hP cp
  go_wp2
  go_ret
  exact ⟨F, HP.out, rfl, hb2.trans (hb3.mono hb2.size)⟩
theorem trim_zeros (D : List Nat) (hD : Dig D) (hf : D[0]? ≠ some 48) : ∀ z, Lib.trimLeftB (txt (List.replicate z 48 ++ D)).data.toList 48 = (txt D).data.toList
  | 0 => by
    rw [List.replicate_zero, List.nil_append, txt_list]
    unfold Lib.trimLeftB
    cases D with
    | nil => rfl
    | cons c l =>
      have hc := hD c (by simp)
      have hn : c ≠ 48 := fun h => hf (by simp [h])
      have : (UInt8.ofNat c == 48) = false := by
        rw [beq_eq_false_iff_ne]
        exact ofNat_ne (b := 48) (by omega) (by omega) hn
      rw [List.map_cons, List.dropWhile_cons, this]
      rfl
  | z + 1 => by
    have ih := trim_zeros D hD hf z
    rw [txt_list] at ih ⊢
    rw [List.replicate_succ, List.cons_append, List.map_cons]
    unfold Lib.trimLeftB at ih ⊢
    rw [List.dropWhile_cons, if_pos (by decide)]
    exact ih
theorem format_int (n : Int) (h0 : -1000 ≤ n) (h1 : n ≤ 1000) (w : World) (hL : Laid w) : Calls Tryz.prog 194 #[.int .i64 n, .int .i64 10] w fun e w' => e = .returned (.string ⟨(Lib.itoa n).toArray⟩) ∧ Below w.heap.size w w' := by
  have cf := Tryz.internal_strconv_FormatInt_10 n (by omega) (by omega) w hL.p10
  clear hL
  go_enter Tryz.func194, Tryz.ntmps194
  go_wp2_with (first | (go_at_call 175; refine cf.mono ?_; rintro e w1 ⟨rfl, k, os, rfl⟩))
  go_ret
  exact ⟨rfl, Lib.below_grow _ _ (Nat.le_refl _) _ _⟩
theorem itoa_txt (n : Int) : ∃ sg, (⟨(Lib.itoa n).toArray⟩ : ByteArray) = txt (sg ++ decN n.natAbs) ∧ ((sg = [] ∧ n = (vD (decN n.natAbs) : Int)) ∨ (sg = [45] ∧ n = -(vD (decN n.natAbs) : Int))) := by
  have back : ∀ l : List UInt8, (l.map UInt8.toNat).map UInt8.ofNat = l := by
    intro l
    induction l with
    | nil => rfl
    | cons x l ih => rw [List.map_cons, List.map_cons, ih, UInt8.ofNat_toNat]
  rw [vD_decN]
  unfold Lib.itoa
  by_cases h : n < 0
  · rw [if_pos h]
    refine ⟨[45], ?_, .inr ⟨rfl, by omega⟩⟩
    unfold txt decN
    rw [List.singleton_append, List.map_cons, back]
    rfl
  · rw [if_neg h]
    refine ⟨[], ?_, .inl ⟨rfl, by omega⟩⟩
    unfold txt decN
    rw [List.nil_append, back, show n.toNat = n.natAbs by omega]
/-- ParseFloat at digits with a point ahead of them. -/
theorem parse_digits (D X sg : List Nat) (n : Int) (j : Nat) (hD : Dig D) (hD0 : 0 < D.length) (hDl : D.length ≤ 40) (hfirst : D[0]? ≠ some 48) (hz : ∀ k c, 19 ≤ k → D[k]? = some c → c = 48) (hX : Dig X) (hX0 : 0 < X.length) (hX3 : X.length ≤ 3) (hsg : (sg = [] ∧ n = (vD X : Int)) ∨ (sg = [45] ∧ n = -(vD X : Int)))
    (hj : n - (min D.length 19 : Nat) = (j : Int) - 400) (hj1 : 55 ≤ j) (hj2 : j ≤ 710) (w : World) (hL : RLaid w) :
    Calls Tryz.prog 193 #[.string (txt (48 :: 46 :: (D ++ 101 :: (sg ++ X)))), .int .i64 64] w fun r w' => ∃ F err, (∃ R, DecNear (vD (D.take 19)) j R ∧ F = min R 9218868437227405312) ∧ r = .returned (.tuple #[.float .f64 F, err]) ∧ Below w.heap.size w w' := by
  have hsz : (txt (48 :: 46 :: (D ++ 101 :: (sg ++ X)))).size = 3 + D.length + sg.length + X.length := by rw [txt_size]; simp; omega
  have hsl : sg.length ≤ 1 := by rcases hsg with ⟨h, _⟩ | ⟨h, _⟩ <;> rw [h] <;> simp
  have hlt : ∀ (k c : Nat), (48 :: 46 :: (D ++ 101 :: (sg ++ X)))[k]? = some c → c < 256 := by
    intro k c h
    have hm := List.mem_of_getElem? h
    simp only [List.mem_cons, List.mem_append] at hm
    rcases hm with h | h | h | h | h | h
    · omega
    · omega
    · have := hD c h; omega
    · omega
    · rcases hsg with ⟨e, _⟩ | ⟨e, _⟩
      · rw [e] at h; simp at h
      · rw [e] at h; simp at h; omega
    · have := hX c h; omega
  have hat : ∀ (k c : Nat), (48 :: 46 :: (D ++ 101 :: (sg ++ X)))[k]? = some c → ∀ h : k < (txt (48 :: 46 :: (D ++ 101 :: (sg ++ X)))).size, ((txt (48 :: 46 :: (D ++ 101 :: (sg ++ X))))[k]'h).toNat = c := fun k c h => txt_get _ k c h (hlt k c h)
  refine public_of _ (by omega) (fun F => ∃ R, DecNear (vD (D.take 19)) j R ∧ F = min R 9218868437227405312) w hL (parse_of _ (by omega) (fun F err => (∃ R, DecNear (vD (D.take 19)) j R ∧ F = min R 9218868437227405312) ∧ (err = .nilIface ∨ err = .iface 182 (.int .i64 1))) w (prefix_of _ _ w ((atof_any _ D X sg n j hsz hat hD hD0 hDl hfirst hz hX hX0 hX3 hsg hj hj1 hj2 w hL).mono ?_)))
  rintro r w' ⟨R, err, h1, rfl, h3, h4⟩
  exact ⟨_, err, ⟨⟨R, h1, rfl⟩, h3⟩, rfl, h4⟩
/-- **fromDecimal: the nearest word.** -/
theorem fromDecimal_any (z : Nat) (D : List Nat) (n : Int) (J : Nat) (hz0 : z ≤ 1000) (hD : Dig D) (hD0 : 0 < D.length) (hDl : D.length ≤ 40) (hfirst : D[0]? ≠ some 48) (hz : ∀ k c, 19 ≤ k → D[k]? = some c → c = 48)
    (hJ : n - (z : Int) - (D.length : Int) = (J : Int) - 400) (hJ1 : 55 ≤ J) (hJ2 : J + (D.length - 19) ≤ 710) (w : World) (hL : RLaid w) :
    Calls Tryz.prog 149 #[.string (txt (List.replicate z 48 ++ D)), .int .i64 n] w fun r w' => ∃ F, (∃ R, DecNear (vD D) J R ∧ F = min R 9218868437227405312) ∧ r = .returned (.float .f64 F) ∧ Below w.heap.size w w' := by
  obtain ⟨n', hn'⟩ : ∃ n' : Int, n' = n - (z : Int) := ⟨_, rfl⟩
  obtain ⟨t, ht⟩ : ∃ t, t = D.length - min D.length 19 := ⟨_, rfl⟩
  obtain ⟨sg, hsg1, hsg2⟩ := itoa_txt n'
  have hXl := nDigits_le n'.natAbs 3 (by omega) (by decide)
  have hvd : vD D = vD (D.take 19) * 10 ^ t := by
    have h1 : D.drop 19 = List.replicate (D.drop 19).length 48 := by
      apply List.eq_replicate_of_mem
      intro c hc
      obtain ⟨k, hk⟩ := List.mem_iff_getElem?.1 hc
      rw [List.getElem?_drop] at hk
      exact hz _ c (by omega) hk
    have h2 : vD (D.take 19 ++ D.drop 19) = vD (D.take 19) * 10 ^ (D.drop 19).length + vD (D.drop 19) := vD_append _ _
    rw [List.take_append_drop] at h2
    have h3 : vD (D.drop 19) = 0 := by rw [h1]; exact vD_zeros _
    rw [h2, h3, Nat.add_zero, List.length_drop, ht]
    congr 2
    omega
  have ct : ∀ w, Calls Tryz.prog 93 #[.string (txt (List.replicate z 48 ++ D)), .string ⟨#[48]⟩] w fun e w' => e = .returned (.string (txt D)) ∧ w' = w := by
    intro w
    have := Tryz.strings_TrimLeft_one (txt (List.replicate z 48 ++ D)) 48 (by decide) w
    rw [trim_zeros D hD hfirst z] at this
    exact this
  have hs1 := txt_size (List.replicate z 48 ++ D)
  have hs2 := txt_size D
  have hs3 := txt_size (sg ++ decN n'.natAbs)
  rw [List.length_append, List.length_replicate] at hs1
  rw [List.length_append, decN_length] at hs3
  have hsl : sg.length ≤ 1 := by rcases hsg2 with ⟨h, _⟩ | ⟨h, _⟩ <;> rw [h] <;> simp
  refine (fromDec_walk (txt (List.replicate z 48 ++ D)) (txt D) (txt (sg ++ decN n'.natAbs)) n n' (by omega) (by omega) (by omega) (by omega) (by rw [hs1, hs2]; omega) (by omega) (by omega) w hL 0 (fun F => ∃ R, DecNear (vD D) J R ∧ F = min R 9218868437227405312) ct (fun w hw => by have := format_int n' (by omega) (by omega) w hw.laid; rwa [hsg1] at this) ?_)
  intro w hw
  have e1 : (⟨#[48, 46]⟩ : ByteArray) ++ txt D ++ ⟨#[101]⟩ ++ txt (sg ++ decN n'.natAbs) = txt (48 :: 46 :: (D ++ 101 :: (sg ++ decN n'.natAbs))) := by
    have a1 : (⟨#[48, 46]⟩ : ByteArray) = txt [48, 46] := rfl
    have a2 : (⟨#[101]⟩ : ByteArray) = txt [101] := rfl
    rw [a1, a2, txt_append, txt_append, txt_append]
    simp
  rw [e1]
  refine (parse_digits D (decN n'.natAbs) sg n' (J + t) hD hD0 hDl hfirst hz (dig_decN _) (by rw [decN_length]; exact Lib.nDigits_pos _) (by rw [decN_length]; exact hXl) hsg2 (by omega) (by omega) (by omega) w hw).mono ?_
  rintro r w' ⟨F, err, ⟨R, h1, h2⟩, h3, h4⟩
  refine ⟨F, err, ⟨R, ?_, h2⟩, h3, h4⟩
  rw [hvd, decNear_shift]
  exact h1
end Go.Proofs.YtellndmbllmjgaaGreatDoor
/- The walk of frontExponent. -/
set_option linter.unusedVariables false
namespace Go.Proofs.YtellndmbllmjgaaGreatDoor
open Go.RowKit Go.Shelf Go.Sort Fs Fl

inductive Rf3 (X : List Nat) : Value → Value → Prop
  | mk (t v : Nat) (ht : t ≤ X.length) (hv : v = vD (X.take t)) (hv2 : v < 100000) : Rf3 X (.int .i64 (v : Int)) (.int .i64 (t : Int))
theorem conv_one : floatToIntVal .f64 4607182418800017408 .i64 = some 1 := by decide +kernel
theorem conv_min : floatToIntVal .f64 13830554455654793216 .i64 = some (-1) := by decide +kernel
theorem conv_f64 (b : Nat) (v : Int) (h : floatToIntVal .f64 b .i64 = some v) (w : World) : (convert 23 2 (.float .f64 b)).run Tryz.prog w = .ok (.int .i64 v) w :=
  run_convert_float_int w 23 2 .f64 .i64 b v (by kernel_rfl) (by kernel_rfl) h
set_option maxRecDepth 100000 in
set_option maxHeartbeats 1000000 in
theorem fe_none (S : ByteArray) (hs : S.toList.isEmpty = true) (w : World) : Calls Tryz.prog 148 #[.string S] w fun e w' => e = .returned (.tuple #[.int .i64 0, .int .i64 0]) ∧ w' = w := by
  go_enter Tryz.func148, Tryz.ntmps148
  go_wp2
  go_ret2
  exact ⟨rfl, rfl⟩
set_option maxRecDepth 100000 in
set_option maxHeartbeats 1000000 in
theorem fe_some (S T : ByteArray) (X : List Nat) (f : Nat) (sn : Int) (hne : S.toList.isEmpty = false) (hs0 : 0 < S.size) (hs : S.size ≤ 100000) (h0 : (S[0]'hs0).toNat = 101) (hX : Dig X) (hX0 : 0 < X.length) (hX3 : X.length ≤ 4) (hT : T.size = X.length) (hat : ∀ k c, X[k]? = some c → ∀ h : k < T.size, (T[k]'h).toNat = c) (hsn : sn = 1 ∨ sn = -1) (hf : floatToIntVal .f64 f .i64 = some sn) (w : World)
    (cs : ∀ w, Calls Tryz.prog 52 #[.string (S.extract 1 S.size)] w fun e w' => e = .returned (.tuple #[.string T, .float .f64 f]) ∧ w' = w)
    (cr : ∀ w, Calls Tryz.prog 54 #[.string T, .int .i64 10] w fun e w' => e = .returned (.int .i64 (X.length : Int)) ∧ w' = w)
    (cd : ∀ c w, 48 ≤ c → c < 58 → Calls Tryz.prog 95 #[.int .u8 ((c : Nat) : Int)] w fun e w' => e = .returned (.int .i64 ((c : Int) - 48)) ∧ w' = w) :
    Calls Tryz.prog 148 #[.string S] w fun e w' => e = .returned (.tuple #[.int .i64 (sn * (vD X : Int)), .int .i64 (S.size : Int)]) ∧ Below w.heap.size w w' := by
  have cv := conv_f64 f sn hf
  clear hf
  go_enter Tryz.func148, Tryz.ntmps148
  go_wp2_with (first | (go_at_call 52; refine (cs _).mono ?_; rintro e w1 ⟨rfl, rfl⟩) | (go_at_call 54; refine (cr _).mono ?_; rintro e w1 ⟨rfl, rfl⟩))
  have HAT := (show Hid _ from hat)
  have HX : Hid (Dig X) := hX
  have CD := (show Hid _ from cd)
  have hNT : T.size = X.length := hT
  obtain ⟨N, hN⟩ : ∃ N, X.length = N := ⟨_, rfl⟩
  have HN : Hid (X.length = N) := hN
  rw [hN] at hX0 hX3 hT ⊢
  clear hat hX cd cs cr hNT hN
  go_loopw [7, 32] (fun ve vi wr => Rf3 X ve vi ∧ wr = w1) (fun _ vi _ => N - (intOf vi).toNat)
  case atStart => exact ⟨Rf3.mk 0 0 (Nat.zero_le _) rfl (by decide), rfl⟩
  case round =>
    obtain ⟨hR, rfl⟩ := hrel
    obtain ⟨t, v, ht, hv, hv2⟩ := hR
    have HV : Hid (v = vD (X.take t)) := hv
    have hXN := HN.out
    clear hv
    rcases Nat.lt_or_eq_of_le ht with hlt | heq
    · obtain ⟨c, hc⟩ : ∃ c, X[t]? = some c := ⟨_, List.getElem?_eq_getElem hlt⟩
      have hg := HX.out c (List.mem_of_getElem? hc)
      have htT : t < T.size := by omega
      have hac := HAT.out t c hc htT
      have htN : t < N := by omega
      have cd := fun w => CD.out c w hg.1 hg.2
      have k1 : (v : Int) < 1125899906842624 := by omega
      have fin : (Rf3 X (.int .i64 (10 * (v : Int) + ((c : Int) - 48))) (.int .i64 ((t : Int) + 1)) ∧ True) ∧ N - (intOf (.int .i64 ((t : Int) + 1))).toNat < N - (intOf (.int .i64 (t : Int))).toNat := by
        have htk : X.take (t + 1) = X.take t ++ [c] := by rw [List.take_add_one, hc]; rfl
        have hb3 := vD_lt (X.take (t + 1)) (HX.out.take _)
        have hl3 : (X.take (t + 1)).length ≤ 4 := by simp; omega
        have hp3 : 10 ^ (X.take (t + 1)).length ≤ 10 ^ 4 := Nat.pow_le_pow_right (by decide) hl3
        have hvv : vD (X.take (t + 1)) = v * 10 + (c - 48) := by rw [htk, vD_snoc, ← HV.out]
        have e1 : 10 * (v : Int) + ((c : Int) - 48) = ((v * 10 + (c - 48) : Nat) : Int) := by omega
        refine ⟨⟨?_, trivial⟩, by simp [intOf]; omega⟩
        rw [e1]
        exact Rf3.mk (t + 1) _ hlt hvv.symm (by omega)
      have FIN := (show Hid _ from fin)
      have g1 : 48 ≤ (c : Int) := by omega
      have g2 : (c : Int) ≤ 57 := by omega
      clear fin hc hg hXN ht
      go_wp2_with (first | (go_at_call 95; refine (cd _).mono ?_; rintro e w2 ⟨rfl, rfl⟩))
      exact FIN.out
    · have htN : ¬ (t : Int) < (N : Int) := by omega
      have e2 : v = vD X := by rw [HV.out, heq, List.take_of_length_le (Nat.le_refl _)]
      have E2 : Hid (v = vD X) := e2
      clear heq ht hXN e2
      rcases hsn with rfl | rfl
      all_goals
        go_wp2
        go_ret2
        exact ⟨by rw [← E2.out]; simp, Below.refl _ _⟩
end Go.Proofs.YtellndmbllmjgaaGreatDoor
