/- NumText, of a number above 0 that is great. -/
import Derived.Test.YtellndmbllmjgaaGreatDoorNtA
set_option linter.unusedVariables false
namespace Go.Proofs.YtellndmbllmjgaaGreatDoor
open Go.RowKit Go.Shelf Go.Sort Fs Fl Fl2

set_option maxRecDepth 100000 in
set_option maxHeartbeats 2000000 in
theorem numtext_big (r d J : Nat) (h0 : 0 < r) (h : r < 9218868437227405312) (hT : Fs.Told (magR r) (expR r) d J) (hd : d < 1152921504606846976) (hJ : J < 1000) (h53 : ¬ r < 4845873199050653696) (w : World) :
    Calls Tryz.prog 9 #[.float .f64 r] w fun e w' => e = .returned (.string (txt (textD (decN d) ((Lib.nDigits d : Int) + (J : Int) - 400)))) ∧ Below w.heap.size w w' := by
  have co := odd_pos r h0 h
  have cf := fewest_any r d J h0 h hT hd w
  have oL := lt_zero false r h
  rw [wd_false, Bool.false_and] at oL
  have o53 := order_ltb r 4845873199050653696 h (by omega)
  rw [decide_eq_false h53] at o53
  clear h h53
  have hnl : Lib.nDigits d ≤ 19 := nDigits_le d 19 (by omega) (by omega)
  have hnp := Lib.nDigits_pos d
  have hlen := decN_length d
  have hsz := txt_size (decN d)
  obtain ⟨n, hn⟩ : ∃ n : Int, n = (Lib.nDigits d : Int) + (J : Int) - 400 := ⟨_, rfl⟩
  obtain ⟨k, hk⟩ : ∃ k, k = Lib.nDigits d := ⟨_, rfl⟩
  have hna : -400 ≤ n := by omega
  have hnb : n ≤ 1000 := by omega
  rw [← hn] at cf ⊢
  rw [← hk] at hnl hnp hlen
  rw [hlen] at hsz
  generalize decN d = D at *
  clear hT hd hJ hn hk h0
  by_cases cA : (k : Int) ≤ n ∧ n ≤ 21
  · obtain ⟨c, hc⟩ : ∃ c : Nat, n - (k : Int) = (c : Int) := ⟨(n - (k : Int)).toNat, by omega⟩
    have HE : Hid (textD D n = D ++ List.replicate c 48) := by
      show textD D n = _
      unfold textD
      rw [hlen, if_pos cA, hc, Int.toNat_natCast]
    obtain ⟨k1, k2⟩ := cA
    have cz := zeros_any c (by omega)
    have hzz := txt_size (List.replicate c 48)
    rw [List.length_replicate] at hzz
    have hc9 : c ≤ 30 := by omega
    have HT : Hid (txt D ++ txt (List.replicate c 48) = txt (textD D n)) := by
      show _ = txt (textD D n)
      rw [HE.out, txt_append]
    generalize txt (List.replicate c 48) = Z at *
    generalize txt D = S at *
    go_enter Tryz.func9, Tryz.ntmps9
    go_wp2_with (first | (go_at_call 30; refine (co _).mono ?_; rintro e wq ⟨rfl, hwq⟩; rw [hwq]; clear hwq wq) | (go_at_call 34; refine cf.mono ?_; rintro e w1 ⟨rfl, hw1⟩; clear cf) | (go_at_call 35; refine (cz _).mono ?_; rintro e wq ⟨rfl, hwq⟩; rw [hwq]; clear hwq wq))
    go_ret
    rw [← HT.out]
    exact ⟨rfl, hw1⟩
  · by_cases cB : 0 < n ∧ n ≤ 21
    · obtain ⟨a, ha⟩ : ∃ a : Nat, n = (a : Int) := ⟨n.toNat, by omega⟩
      subst ha
      obtain ⟨k1, k2⟩ := cB
      have hak : a < k := by omega
      have HT : Hid ((txt D).extract 0 a ++ ⟨#[46]⟩ ++ (txt D).extract a (txt D).size = txt (textD D (a : Int))) := by
        show _ = txt (textD D (a : Int))
        have e1 : textD D (a : Int) = D.take a ++ 46 :: D.drop a := by
          unfold textD ptd padD
          rw [hlen, if_neg cA, if_pos ⟨by omega, k2⟩, show ((k : Int) - (a : Int)).toNat = k - a by omega, if_neg (by omega), if_neg (by omega), hlen, show k - (k - a) = a by omega]
        rw [e1, txt_extract, txt_extract, txt_dot, txt_append, txt_append, txt_size]
        have e3 : List.take (D.length - a) (D.drop a) = D.drop a := List.take_of_length_le (by rw [List.length_drop]; omega)
        rw [e3]
        simp [List.append_assoc]
      have t1 : ¬ (k : Int) ≤ (a : Int) := by omega
      have t3 : (a : Int) ≤ (k : Int) := by omega
      generalize txt D = S at *
      clear cA
      go_enter Tryz.func9, Tryz.ntmps9
      go_wp2_with (first | (go_at_call 30; refine (co _).mono ?_; rintro e wq ⟨rfl, hwq⟩; rw [hwq]; clear hwq wq) | (go_at_call 34; refine cf.mono ?_; rintro e w1 ⟨rfl, hw1⟩; clear cf))
      go_quiet (fail)
      go_wp2
      go_ret
      rw [← HT.out, hsz]
      exact ⟨rfl, below_drewN hw1⟩
    · by_cases cC : -6 < n ∧ n ≤ 0
      · obtain ⟨c, hc⟩ : ∃ c : Nat, n = -(c : Int) := ⟨(-n).toNat, by omega⟩
        subst hc
        obtain ⟨k1, k2⟩ := cC
        have hc9 : c ≤ 5 := by omega
        have cz := zeros_any c (by omega)
        have hzz := txt_size (List.replicate c 48)
        rw [List.length_replicate] at hzz
        have HT : Hid (⟨#[48, 46]⟩ ++ txt (List.replicate c 48) ++ txt D = txt (textD D (-(c : Int)))) := by
          show _ = txt (textD D (-(c : Int)))
          have e1 : textD D (-(c : Int)) = [48, 46] ++ List.replicate c 48 ++ D := by
            unfold textD ptd padD
            rw [hlen, if_neg cA, if_pos ⟨k1, by omega⟩, show ((k : Int) - -(c : Int)).toNat = k + c by omega, if_neg (by omega), if_pos (by omega), show k + c + 1 - k = c + 1 by omega]
            have e2 : (List.replicate (c + 1) 48 ++ D).length - (k + c) = 1 := by rw [List.length_append, List.length_replicate, hlen]; omega
            rw [e2, List.replicate_succ]
            simp
          rw [e1, show (⟨#[48, 46]⟩ : ByteArray) = txt [48, 46] from rfl, txt_append, txt_append]
        have t1 : ¬ (k : Int) ≤ -(c : Int) := by omega
        have t2 : ¬ (0 : Int) < -(c : Int) := by omega
        have hz2 : (⟨#[48, 46]⟩ ++ txt (List.replicate c 48) : ByteArray).size = 2 + c := by rw [ByteArray.size_append, hzz]; rfl
        generalize txt (List.replicate c 48) = Z at *
        generalize txt D = S at *
        clear cA cB
        go_enter Tryz.func9, Tryz.ntmps9
        go_wp2_with (first | (go_at_call 30; refine (co _).mono ?_; rintro e wq ⟨rfl, hwq⟩; rw [hwq]; clear hwq wq) | (go_at_call 34; refine cf.mono ?_; rintro e w1 ⟨rfl, hw1⟩; clear cf) | (go_at_call 35; refine (cz _).mono ?_; rintro e wq ⟨rfl, hwq⟩; rw [hwq]; clear hwq wq))
        go_ret
        rw [← HT.out]
        exact ⟨rfl, hw1⟩
      · have DO := (show Hid _ from fun (w1 : World) => dotted_any D (by omega) (by omega) w1)
        have SM := (show Hid _ from fun (w1 : World) => small_text (n - 1) (by omega) (by omega) w1)
        have hpl := ptd_len D (D.length - 1)
        have hnd := nDigits_le (n - 1).natAbs 4 (by omega) (by omega)
        have hp1 := txt_size (ptd D (D.length - 1))
        have hq1 := txt_size ((if n - 1 < 0 then 45 else 43) :: decN (n - 1).natAbs)
        rw [List.length_cons, decN_length] at hq1
        have HT : Hid (txt (ptd D (D.length - 1)) ++ ⟨#[101]⟩ ++ txt ((if n - 1 < 0 then 45 else 43) :: decN (n - 1).natAbs) = txt (textD D n)) := by
          show _ = txt (textD D n)
          have e1 : textD D n = ptd D (D.length - 1) ++ [101] ++ ((if n - 1 < 0 then 45 else 43) :: decN (n - 1).natAbs) := by
            unfold textD pwd
            rw [hlen, if_neg cA, if_neg (by omega)]
            simp
          rw [e1, txt_e, txt_append, txt_append]
        have t1 : ¬ ((k : Int) ≤ n ∧ n ≤ 21) := cA
        have hP : (txt (ptd D (D.length - 1))).size ≤ 100 := by omega
        have hQ : (txt ((if n - 1 < 0 then 45 else 43) :: decN (n - 1).natAbs)).size ≤ 100 := by omega
        have hPQ : (txt (ptd D (D.length - 1)) ++ ⟨#[101]⟩ : ByteArray).size ≤ 200 := by
          rw [ByteArray.size_append]
          have : (⟨#[101]⟩ : ByteArray).size = 1 := rfl
          omega
        generalize txt (ptd D (D.length - 1)) = P at *
        generalize txt ((if n - 1 < 0 then 45 else 43) :: decN (n - 1).natAbs) = Q at *
        generalize txt D = S at *
        clear hp1 hq1 hpl hnd hlen
        by_cases n21 : n ≤ 21
        · have m1 : ¬ (k : Int) ≤ n := by omega
          have m2 : ¬ (0 : Int) < n := by omega
          have m3 : ¬ (-6 : Int) < n := by omega
          clear cA cB cC t1
          go_enter Tryz.func9, Tryz.ntmps9
          go_wp2_with (first | (go_at_call 30; refine (co _).mono ?_; rintro e wq ⟨rfl, hwq⟩; rw [hwq]; clear hwq wq) | (go_at_call 34; refine cf.mono ?_; rintro e w1 ⟨rfl, hw1⟩; clear cf; have dd := DO.out w1; clear DO) | (go_at_call 36; refine dd.mono ?_; rintro e w2 ⟨rfl, hw2⟩; clear dd; have sm := SM.out w2; clear SM) | (go_at_call 37; refine sm.mono ?_; rintro e w3 ⟨rfl, hw3⟩; clear sm))
          go_ret
          rw [← HT.out]
          have hw12 := hw1.trans (hw2.mono hw1.size)
          exact ⟨rfl, hw12.trans (hw3.mono hw12.size)⟩
        · have m1 : (0 : Int) < n := by omega
          have m4 : (-6 : Int) < n := by omega
          have m5 : ¬ n ≤ 0 := by omega
          have m6 : (k : Int) ≤ n := by omega
          clear cA cB cC t1
          go_enter Tryz.func9, Tryz.ntmps9
          go_wp2_with (first | (go_at_call 30; refine (co _).mono ?_; rintro e wq ⟨rfl, hwq⟩; rw [hwq]; clear hwq wq) | (go_at_call 34; refine cf.mono ?_; rintro e w1 ⟨rfl, hw1⟩; clear cf; have dd := DO.out w1; clear DO) | (go_at_call 36; refine dd.mono ?_; rintro e w2 ⟨rfl, hw2⟩; clear dd; have sm := SM.out w2; clear SM) | (go_at_call 37; refine sm.mono ?_; rintro e w3 ⟨rfl, hw3⟩; clear sm))
          go_ret
          rw [← HT.out]
          have hw12 := hw1.trans (hw2.mono hw1.size)
          exact ⟨rfl, hw12.trans (hw3.mono hw12.size)⟩
end Go.Proofs.YtellndmbllmjgaaGreatDoor
