/- Radix of the document, at great numbers. -/
import Derived.Test.YtellndmbllmjgaaGreatDoorCDn7
import Derived.Test.YtellndmbllmjgaaGreatDoorCDn6x
import Derived.Test.YtellndmbllmjgaaGreatDoorCDe3x
set_option linter.unusedVariables false
namespace Go.Proofs.YtellndmbllmjgaaGreatDoor
open Go.RowKit Go.Shelf Go.Sort Fs Fl Fl2

set_option maxRecDepth 100000 in
set_option maxHeartbeats 2000000 in
theorem radR_big (r b : Nat) (S0 : ByteArray) (hb1 : 2 ≤ b) (hb2 : b ≤ 36) (hb10 : b ≠ 10) (h0 : 0 < r) (h : r < 9218868437227405312) (hE : 1074 ≤ expR r) (w : World)
    (o4 : (FloatKind.f64.format.order r 0 == some .lt) = false)
    (co : ∀ w, Calls Tryz.prog 30 #[.float .f64 r] w fun e w' => e = .returned (.tuple #[.string S0, .bool false]) ∧ w' = w) :
    Calls Tryz.prog 22 #[.float .f64 r, .int .i64 (b : Int)] w fun e w' => e = .returned (.tuple #[.string (txt (radL b (magR r * 2 ^ (expR r - 1074)) 1)), .bool true]) ∧ Below w.heap.size w w' := by
  have k1 : ¬ (b : Int) < 2 := by omega
  have k2 : ¬ 36 < (b : Int) := by omega
  have k3 : ((b : Int) == 10) = false := by rw [beq_eq_false_iff_ne]; omega
  have cp := parts_any r h w
  have hM := magR_lt r
  obtain ⟨k, hk⟩ : ∃ k, k = expR r - 1074 := ⟨_, rfl⟩
  have hek : (expR r : Int) - 1074 = (k : Int) := by omega
  have hel : expR r ≤ 2045 := by unfold expR; omega
  rw [hek] at cp
  rw [← hk]
  have hk74 : k ≤ 971 := by omega
  generalize magR r = M at *
  clear hk hek hE h h0 hel
  have HC : Hid (M < 9007199254740992 ∧ M < pw 4) := ⟨hM, Nat.lt_trans hM (by decide)⟩
  have C32 := (show Hid _ from fun (m : Nat) (hm : m < 18446744073709551616) (w : World) => nat_any m hm w)
  have lQ : 2 ^ k < pw 62 := Nat.lt_of_le_of_lt (two_pw3 (n := 61) (by omega)) (pw_strict (by omega))
  have CQ : Hid (∀ w, Calls Tryz.prog 64 #[.int .u64 2, .int .i64 (k : Int)] w fun e w' => ∃ v, e = .returned v ∧ NatIs w' v (2 ^ k) ∧ Below w.heap.size w w') := by
    intro w
    have := power_any 2 (k : Int) (by omega) (by omega) (by omega) (by omega) (by rw [Int.toNat_natCast]; exact pw_lt lQ (by omega)) w
    rw [Int.toNat_natCast] at this
    exact this
  obtain ⟨Q, hQ⟩ : ∃ Q, Q = 1 := ⟨_, rfl⟩
  rw [← hQ]
  have HQ : Hid (Q = 1 ∧ Q < pw 69 ∧ 0 < Q) := ⟨hQ, by rw [hQ]; exact Nat.lt_of_lt_of_le (by decide : 1 < pw 1) (pw_mono (by omega)), by omega⟩
  obtain ⟨M2, hM2⟩ : ∃ M2, M2 = M * 2 ^ k := ⟨_, rfl⟩
  rw [← hM2]
  have HM2 : Hid (M2 = M * 2 ^ k ∧ M2 < pw 70 ∧ 2 ^ k < pw 62) := ⟨hM2, by rw [hM2]; exact pw_lt_mul (Nat.le_of_lt HC.out.2) lQ (by omega), lQ⟩
  obtain ⟨A, hA⟩ : ∃ A, A = txt (radL b M2 Q) := ⟨_, rfl⟩
  rw [← hA]
  have HA : Hid (A = txt (radL b M2 Q)) := hA
  have kk : (0 : Int) ≤ (k : Int) := by omega
  clear hQ lQ hA hM hM2
  go_enter Tryz.func22, Tryz.ntmps22
  go_wp2_with (first | (go_at_call 30; refine (co _).mono ?_; rintro e w1 ⟨rfl, rfl⟩) | (go_at_call 63; refine cp.mono ?_; rintro e w1 ⟨rfl, rfl⟩) | (go_at_call 32; fail))
  have c1 := C32.out M (by have := HC.out.1; omega) w1
  clear cp
  go_fit c1
  rintro e w2 ⟨v2, rfl, hv2, hb2'⟩
  obtain ⟨pa, pl, pc, rfl, _, _⟩ := hv2.form (pw_lt HC.out.2 (by omega))
  have c2 : Calls Tryz.prog 32 #[.int .u64 1] w2 fun e w' => ∃ v, e = .returned v ∧ NatIs w' v 1 ∧ Below w2.heap.size w2 w' := C32.out 1 (by omega) w2
  clear c1
  go_wp2_with (first | (go_at_call 32; fail))
  go_fit c2
  rintro e w3 ⟨v3, rfl, hv3, hb3⟩
  have c3 := CQ.out w3
  clear c2 CQ
  obtain ⟨qa, ql, qc, rfl, _, _⟩ := hv3.form (Nat.lt_of_lt_of_le (by decide : 1 < pw 1) (pw_mono (by omega)))
  go_wp2_with (first | (go_at_call 64; fail))
  go_fit c3
  rintro e w4 ⟨v4, rfl, hv4, hb4⟩
  have c4 := mul_any (.slice pa pl pc) v4 M (2 ^ k) w4 ((hv2.below hb3).below hb4) hv4 (pw_lt HC.out.2 (by omega)) (pw_lt HM2.out.2.2 (by omega))
  rw [← HM2.out.1] at c4
  clear c3
  go_wp2_with (first | (go_at_call 65; fail))
  go_fit c4
  rintro e w5 ⟨v5, rfl, hp5, hb5⟩
  obtain ⟨pa, pl, pc, rfl, _, _⟩ := hp5.form (pw_lt HM2.out.2.1 (by omega))
  have hb35 : Below w3.heap.size w3 w5 := hb4.trans (hb5.mono hb4.size)
  have hb25 : Below w2.heap.size w2 w5 := hb3.trans (hb35.mono hb3.size)
  have hv5' := hv3.below hb35
  have hv5 : NatIs w5 (.slice qa ql qc) Q := by rw [HQ.out.1]; exact hv5'
  have hbw5 : Below w1.heap.size w1 w5 := hb2'.trans (hb25.mono hb2'.size)
  have cb1 := bits_any _ _ _ hp5 (pw_lt HM2.out.2.1 (by omega))
  have CB2 := (show Hid _ from fun w1 (hb : Below w5.heap.size w5 w1) => bits_any _ _ _ (hv5.below hb) (pw_lt HQ.out.2.1 (by omega)))
  clear c4 hv2 hv3 hv4 hv5' hb2' hb3 hb4 hb5 hb25 hb35
  go_wp2_with (first | (go_at_call 66; refine cb1.mono ?_; rintro e w6 ⟨t1, rfl, ht1, ht1b, hw6⟩; clear cb1; have cb2 := CB2.out w6 hw6; clear CB2) | (go_at_call 66; go_fit cb2; rintro e w7 ⟨t2, rfl, ht2, ht2b, hw7⟩; clear cb2))
  obtain ⟨P, hPM⟩ : ∃ P, P = M2 := ⟨_, rfl⟩
  rw [← hPM] at hp5 ht1
  have lP : P < pw 70 := by rw [hPM]; exact HM2.out.2.1
  have HAP : Hid (A = txt (radL b P Q)) := by rw [hPM]; exact HA
  clear hPM HA HC HM2
  have hw7' : Below w5.heap.size w5 w7 := hw6.trans (hw7.mono hw6.size)
  have hbw7 : Below w1.heap.size w1 w7 := hbw5.trans (hw7'.mono hbw5.size)
  have hpB := hp5.below hw7'
  have hqB := hv5.below hw7'
  obtain ⟨g1, g3⟩ : t1 ≤ 1120 ∧ P < 2 ^ t1 := by
    rcases ht1 with ⟨h1, h2⟩ | ⟨h1, h2, h3⟩
    · exact ⟨by omega, by rw [h1, h2]; omega⟩
    · refine ⟨?_, h3⟩
      have := pw_bits lP h2
      omega
  obtain ⟨f1, f2⟩ : 1 ≤ t2 ∧ 2 ^ (t2 - 1) ≤ Q := by
    rcases ht2 with ⟨h1, h2⟩ | ⟨h1, h2, h3⟩
    · have := HQ.out.2.2; omega
    · exact ⟨h1, h2⟩
  have HST : Hid (P < 2 ^ ((t1 : Int) - t2 + 1).toNat * Q) := by
    show P < 2 ^ ((t1 : Int) - t2 + 1).toNat * Q
    rcases Nat.lt_or_ge t1 t2 with h1 | h1
    · rw [show ((t1 : Int) - t2 + 1).toNat = 0 by omega, Nat.pow_zero, Nat.one_mul]
      exact Nat.lt_of_lt_of_le (Nat.lt_of_lt_of_le g3 (Nat.pow_le_pow_right (by omega) (by omega))) f2
    · refine Nat.lt_of_lt_of_le g3 ?_
      rw [show ((t1 : Int) - t2 + 1).toNat = t1 - t2 + 1 by omega]
      refine Nat.le_trans (Nat.le_of_eq ?_) (Nat.mul_le_mul_left _ f2)
      rw [← Nat.pow_add]
      congr 1
      omega
  have HL : Hid (P < pw 70 ∧ Q < pw 69 ∧ 0 < Q) := ⟨lP, HQ.out.2⟩
  clear ht1 ht2 g3 f2 hp5 hv5 hw6 hw7 hw7' hbw5 lP
  go_loopw [10, 12, 13, 14] (fun vp _ vo vi wr => NqR w1 w7 P Q t1 vp vo vi wr) (fun _ _ _ vi _ => (RowKit.intOf vi + 1).toNat)
  case atStart => exact ⟨(t1 : Int) - t2, P, 0, rfl, by omega, by omega, hpB, natIs_nil _, by omega, HST.out, Below.refl _ _⟩
  case round =>
    obtain ⟨i, cur, o, rfl, hi1, hi2, hcur, ho, hP, hc, hbw⟩ := hrel
    have HC : Hid (P = o * Q + cur ∧ cur < 2 ^ (i + 1).toNat * Q) := ⟨hP, hc⟩
    have bcur : cur < pw 70 := Nat.lt_of_le_of_lt (by rw [hP]; exact Nat.le_add_left _ _) HL.out.1
    have bo : o < pw 70 := by
      refine Nat.lt_of_le_of_lt ?_ HL.out.1
      rw [hP]
      exact Nat.le_trans (Nat.le_mul_of_pos_right _ HL.out.2.2) (Nat.le_add_right _ _)
    have HBC : Hid (cur < pw 70 ∧ o < pw 70) := ⟨bcur, bo⟩
    obtain ⟨pa5, pl5, pc5, hpe, hpz, hpl⟩ := hcur.form (pw_lt bcur (by omega))
    obtain ⟨oa5, ol5, oc5, hoe, _, _⟩ := ho.form (pw_lt bo (by omega))
    subst hpe hoe
    have hqr := hqB.below hbw
    have hbwr : Below w1.heap.size w1 wr := hbw7.trans (hbw.mono hbw7.size)
    clear hP hc bcur bo
    rcases Int.lt_or_le i 0 with h0 | h0
    · have HF : Hid (o = P / Q ∧ cur = P % Q ∧ cur < Q) := by
        obtain ⟨a1, a2⟩ := HC.out
        rw [show (i + 1).toNat = 0 by omega, Nat.pow_zero, Nat.one_mul] at a2
        refine ⟨?_, ?_, a2⟩
        · rw [a1, Nat.mul_comm o, Nat.mul_add_div HL.out.2.2, Nat.div_eq_of_lt a2, Nat.add_zero]
        · rw [a1, Nat.mul_comm o, Nat.mul_add_mod, Nat.mod_eq_of_lt a2]
      have k0 : ¬ (0 : Int) ≤ i := by omega
      have cd := digB_any _ o b hb1 hb2 wr ho (pw_lt HBC.out.2 (by omega))
      have hTs : (txt (toB b o)).size ≤ 1700 := by
        rw [txt_size]
        exact Nat.le_trans (toB_pw hb1 HBC.out.2) (by omega)
      obtain ⟨T, hT⟩ : ∃ T, T = txt (toB b o) := ⟨_, rfl⟩
      rw [← hT] at cd hTs
      have HT : Hid (T = txt (toB b o)) := hT
      clear hT HST HC hbw7 hpB hqB hbw ho
      by_cases hcz : cur = 0
      · have hpl0 : pl5 = 0 := hpz.2 hcz
        subst hpl0
        have HE : Hid (A = T) := by
          show A = T
          rw [HAP.out, HT.out, HF.out.1]
          unfold radL
          rw [if_pos (by rw [← HF.out.2.1]; exact hcz), List.append_nil]
        clear hpz hcur hcz hqr
        go_wp2_with (first | (go_at_call 33; go_fit cd; rintro e w9 ⟨rfl, hb9⟩; clear cd))
        go_ret2
        exact ⟨by rw [HE.out]; rfl, hbwr.trans (hb9.mono hbwr.size)⟩
      · have hpl0 : pl5 ≠ 0 := fun h => hcz (hpz.1 h)
        have kpl : ((pl5 : Int) == 0) = false := by rw [beq_eq_false_iff_ne]; omega
        have CB : Hid (∀ w, Calls Tryz.prog 32 #[.int .u64 (b : Int)] w fun e w' => ∃ v, e = .returned v ∧ NatIs w' v b ∧ Below w.heap.size w w') := fun w => nat_any b (by omega) w
        have HCZ : Hid (cur ≠ 0) := hcz
        clear hpz hcz hpl0
        go_wp2_with (first | (go_at_call 33; go_fit cd; rintro e w9 ⟨rfl, hb9⟩; clear cd) | (go_at_call 32; fail))
        have cb := CB.out w9
        clear CB
        go_fit cb
        rintro e w10 ⟨vb, rfl, hvb, hb10'⟩
        clear cb
        go_wp2
        have hb910 := hb9.trans (hb10'.mono hb9.size)
        have hcur10 := hcur.below hb910
        have hq10 := hqr.below hb910
        have hbw10 : Below w1.heap.size w1 w10 := hbwr.trans (hb910.mono hbwr.size)
        have HP10 : Hid (NatIs w10 (.slice pa5 pl5 pc5) cur) := hcur10
        obtain ⟨ba, bl, bc, hbe, _, _⟩ := hvb.form (Nat.lt_of_le_of_lt hb2 (Nat.lt_of_lt_of_le (by decide : 36 < pw 1) (pw_mono (by omega))))
        subst hbe
        have hWs : (toB b o).length ≤ 1700 := by rw [HT.out, txt_size] at hTs; exact hTs
        have HWs : Hid ((toB b o).length ≤ 1700) := hWs
        clear hcur hqr hb9 hb10' hb910 hbwr hcur10 hWs hTs
        go_loopw [6, 10, 18] (fun vs vp vi w11 => RaR w10 (toB b o) b Q cur vs vp vi w11) (fun _ _ vi _ => 52 - (RowKit.intOf vi).toNat)
        case atStart =>
          refine .mk 0 cur [] _ _ _ _ _ (by omega) rfl ?_ HP10.out ⟨fun h => absurd h (by intro h; rw [h] at kpl; exact absurd kpl (by decide)), fun h => absurd h HCZ.out⟩ hpl HF.out.2.2 rfl (Below.refl _ _)
          rw [HT.out, txt_dot, txt_append]
        case round =>
          obtain ⟨j, cu, D, S, a2, l2, c2, wq, hj, hDl, hS, hcu, hl2, hl2b, hcQ, hFD, hbq⟩ := hrel
          have HS : Hid (S = txt (toB b o ++ 46 :: D)) := hS
          have hSs : S.size ≤ 1800 := by
            rw [hS, txt_size, List.length_append, List.length_cons]
            have := HWs.out
            omega
          have HFD : Hid (D ++ frD b Q (52 - j) cu = frD b Q 52 cur) := hFD
          have HDl : Hid (D.length = j) := hDl
          clear hS hFD HP10
          have fin : ∀ F, D = F → F = frD b Q 52 cur → S = A := by
            intro F e1 e2
            rw [HS.out, HAP.out, e1, e2]
            unfold radL
            rw [← HF.out.1, ← HF.out.2.1, if_neg HCZ.out]
          have FIN := (show Hid _ from fin)
          clear fin
          rcases Nat.lt_or_ge j 52 with hlt | hge
          · have kj : (j : Int) < 52 := by omega
            rcases Nat.eq_zero_or_pos l2 with hl0 | hl0
            · have hc0 : cu = 0 := hl2.1 hl0
              subst hl0
              have HE : Hid (S = A) := FIN.out D rfl (by have := HFD.out; rw [hc0, frD_zero, List.append_nil] at this; exact this)
              clear hl2 hcu FIN
              go_wp2
              go_ret2
              exact ⟨by rw [← HE.out]; rfl, hbw10.trans (hbq.mono hbw10.size)⟩
            · have kl : (0 : Int) < (l2 : Int) := by omega
              have hc0 : cu ≠ 0 := fun h => by have := hl2.2 h; omega
              have lcu : cu < pw 69 := Nat.lt_trans hcQ HL.out.2.1
              have hqq := hq10.below hbq
              have hbb := hvb.below hbq
              have cm := mul_any (.slice a2 l2 c2) (.slice ba bl bc) cu b _ hcu hbb (pw_lt lcu (by omega)) (Nat.lt_of_le_of_lt hb2 (Nat.lt_of_lt_of_le (by decide : 36 < pw 1) (pw_mono (by omega))))
              have lcb : cu * b < pw 71 := by
                rw [Nat.mul_comm]
                exact pw_lt_mul (m := 1) (Nat.le_trans hb2 (by decide)) lcu (by omega)
              have hcb : cu * b < 2 ^ 61 * Q := by
                have h1 : cu * b < Q * b := Nat.mul_lt_mul_of_pos_right hcQ (by omega)
                have h2 : Q * b ≤ Q * 36 := Nat.mul_le_mul_left _ hb2
                have h3 : Q * 36 ≤ 2 ^ 61 * Q := by rw [Nat.mul_comm Q]; exact Nat.mul_le_mul_right _ (by decide)
                omega
              have CQ := (show Hid _ from fun (w1 : World) (x : Value) (hx : NatIs w1 x (cu * b)) (hb : Below wr.heap.size wr w1) => quo_any x (.slice qa ql qc) (cu * b) Q w1 hx (hqq.below hb) (pw_lt lcb (by omega)) (pw_lt HL.out.2.1 (by omega)) HL.out.2.2 hcb)
              obtain ⟨d, hd⟩ : ∃ d, d = cu * b / Q := ⟨_, rfl⟩
              have hd36 : d < 36 := by
                rw [hd, Nat.div_lt_iff_lt_mul HL.out.2.2]
                have h1 : cu * b < Q * b := Nat.mul_lt_mul_of_pos_right hcQ (by omega)
                have h2 : Q * b ≤ Q * 36 := Nat.mul_le_mul_left _ hb2
                omega
              rw [← hd] at CQ
              have HDD : Hid (d = cu * b / Q) := hd
              have HC0 : Hid (cu ≠ 0) := hc0
              have kd : (d : Int) + 1 ≤ 36 := by omega
              clear hd hl2 hcu hqq hbb lcb hcb lcu hc0 FIN
              go_wp2_with (first | (go_at_call 65; go_fit cm; rintro e w12 ⟨v12, rfl, hv12, hb12⟩; have cq := CQ.out w12 v12 hv12 hb12; clear cm CQ) | (go_at_call 70; go_fit cq; rintro e w13 ⟨v13, rfl, hv13, hb13⟩; clear cq))
              have hcm : cu * b = b * cu := Nat.mul_comm _ _
              have hmQ : cu * b % Q < Q := Nat.mod_lt _ HL.out.2.2
              obtain ⟨a3, l3, c3, hve, hz3, hl3⟩ := hv13.form (pw_lt (Nat.lt_trans hmQ HL.out.2.1) (by omega))
              subst hve
              have ei : (j : Int) + 1 = ((j + 1 : Nat) : Int) := rfl
              have hb13' : Below wr.heap.size wr w13 := hb12.trans (hb13.mono hb12.size)
              rw [ei]
              refine ⟨.mk (j + 1) (cu * b % Q) (D ++ [dgc d]) _ a3 l3 c3 w13 hlt (by rw [List.length_append, HDl.out]; rfl) ?_ hv13 hz3 hl3 hmQ ?_ (hbq.trans (hb13'.mono hbq.size)), ?_⟩
              · have e6 : S ++ tabZ.extract d (d + 1) = txt (toB b o ++ 46 :: (D ++ [dgc d])) := by
                  rw [tab_ext d hd36, HS.out, txt_append]
                  congr 1
                  simp
                exact e6
              · rw [← HFD.out, List.append_assoc]
                congr 1
                obtain ⟨f, hf⟩ : ∃ f, 52 - j = f + 1 := ⟨51 - j, by omega⟩
                rw [hf, show 52 - (j + 1) = f by omega, frD, if_neg HC0.out, ← hcm, ← HDD.out]
                rfl
              · simp only [RowKit.intOf, Int.toNat_natCast]
                omega
          · have hj52 : j = 52 := by omega
            subst hj52
            have HE : Hid (S = A) := FIN.out D rfl (by have := HFD.out; rw [Nat.sub_self, frD, List.append_nil] at this; exact this)
            clear hl2 hcu FIN
            go_wp2
            go_ret2
            exact ⟨by rw [← HE.out]; rfl, hbw10.trans (hbq.mono hbw10.size)⟩
    · obtain ⟨j, rfl⟩ : ∃ j : Nat, i = (j : Int) := ⟨i.toNat, by omega⟩
      have l1 : 2 ^ j < pw 71 := Nat.lt_of_le_of_lt (two_pw3 (n := 70) (by omega)) (pw_strict (by omega))
      have cp : Calls Tryz.prog 64 #[.int .u64 2, .int .i64 (j : Int)] wr fun e w' => ∃ v, e = .returned v ∧ NatIs w' v (2 ^ j) ∧ Below wr.heap.size wr w' := by
        have := power_any 2 (j : Int) (by omega) (by omega) (by omega) (by omega) (by rw [Int.toNat_natCast]; exact pw_lt l1 (by omega)) wr
        rw [Int.toNat_natCast] at this
        exact this
      have CM := (show Hid _ from fun (w1 : World) (x : Value) (hx : NatIs w1 x (2 ^ j)) (hb : Below wr.heap.size wr w1) => mul_any x _ (2 ^ j) Q w1 hx (hqr.below hb) (pw_lt l1 (by omega)) (pw_lt HL.out.2.1 (by omega)))
      have l2 : 2 ^ j * Q < pw 1000 := pw_lt_mul (Nat.le_of_lt l1) HL.out.2.1 (by omega)
      have CC := (show Hid _ from fun (w1 : World) (x : Value) (hx : NatIs w1 x (2 ^ j * Q)) (hb : Below wr.heap.size wr w1) => cmp_any (.slice pa5 pl5 pc5) x cur (2 ^ j * Q) w1 (hcur.below hb) hx (pw_lt HBC.out.1 (by omega)) l2)
      have CS := (show Hid _ from fun (w1 : World) (x : Value) (hx : NatIs w1 x (2 ^ j * Q)) (hb : Below wr.heap.size wr w1) (hle : 2 ^ j * Q ≤ cur) => sub_any (.slice pa5 pl5 pc5) x cur (2 ^ j * Q) w1 (hcur.below hb) hx (pw_lt HBC.out.1 (by omega)) hle)
      have CA := (show Hid _ from fun (w1 : World) (x : Value) (hx : NatIs w1 x (2 ^ j)) (hb : Below wr.heap.size wr w1) => add_any (.slice oa5 ol5 oc5) x o (2 ^ j) w1 (ho.below hb) hx (pw_lt HBC.out.2 (by omega)) (pw_lt l1 (by omega)))
      have kj : (0 : Int) ≤ (j : Int) := by omega
      clear l1 l2
      by_cases hge : 2 ^ j * Q ≤ cur
      · have HGE : Hid (2 ^ j * Q ≤ cur) := hge
        clear hge
        go_wp2_with (first | (go_at_call 64; refine cp.mono ?_; rintro e w1 ⟨x1, rfl, hx1, hw1⟩; have cm1 := CM.out w1 x1 hx1 hw1; clear cp) | (go_at_call 65; refine cm1.mono ?_; rintro e w2 ⟨x2, rfl, hx2, hw2⟩; have hw12 := hw1.trans (hw2.mono hw1.size); have hx12 := hx1.below hw2; have cc1 := CC.out w2 x2 hx2 hw12; clear cm1) | (go_at_call 67; refine cc1.mono ?_; rintro e w3 ⟨c, rfl, hcmp, nn, rfl⟩; have kc : (0 : Int) ≤ c := cmp_ge hcmp HGE.out; have cs1 := CS.out (w2.drewN nn) x2 hx2.drewN (below_drewN hw12) HGE.out; clear cc1 hcmp) | (go_at_call 68; refine cs1.mono ?_; rintro e w4 ⟨x4, rfl, hx4, hw4⟩; have hd12 : Below wr.heap.size wr (w2.drewN nn) := below_drewN hw12; have hw14 := hd12.trans (hw4.mono hd12.size); have hxd : NatIs (w2.drewN nn) x1 (2 ^ j) := hx12.drewN; have ca1 := CA.out w4 x1 (hxd.below hw4) hw14; clear cs1) | (go_at_call 69; refine ca1.mono ?_; rintro e w5 ⟨x5, rfl, hx5, hw5⟩; clear ca1))
        have hw15 := hw14.trans (hw5.mono hw14.size)
        obtain ⟨a1, a2⟩ := HC.out
        rw [show ((j : Int) + 1).toNat = j + 1 by omega, Nat.pow_succ] at a2
        have hge := HGE.out
        refine ⟨⟨(j : Int) - 1, cur - 2 ^ j * Q, o + 2 ^ j, rfl, by omega, by omega, hx4.below hw5, hx5, ?_, ?_, hbw.trans (hw15.mono hbw.size)⟩, ?_⟩
        · rw [Nat.add_mul]
          omega
        · rw [show ((j : Int) - 1 + 1).toNat = j by omega]
          have : 2 ^ j * 2 * Q = 2 ^ j * Q + 2 ^ j * Q := by grind
          omega
        · simp only [RowKit.intOf]
          omega
      · have HGE : Hid (cur < 2 ^ j * Q) := Nat.lt_of_not_le hge
        clear hge
        go_wp2_with (first | (go_at_call 64; refine cp.mono ?_; rintro e w1 ⟨x1, rfl, hx1, hw1⟩; have cm1 := CM.out w1 x1 hx1 hw1; clear cp) | (go_at_call 65; refine cm1.mono ?_; rintro e w2 ⟨x2, rfl, hx2, hw2⟩; have hw12 := hw1.trans (hw2.mono hw1.size); have cc1 := CC.out w2 x2 hx2 hw12; clear cm1) | (go_at_call 67; refine cc1.mono ?_; rintro e w3 ⟨c, rfl, hcmp, nn, rfl⟩; have kc : ¬ (0 : Int) ≤ c := Int.not_le.2 (cmp_neg hcmp HGE.out); clear cc1 hcmp))
        have hw3' : Below wr.heap.size wr (w2.drewN nn) := below_drewN hw12
        obtain ⟨a1, a2⟩ := HC.out
        have hge := HGE.out
        refine ⟨⟨(j : Int) - 1, cur, o, rfl, by omega, by omega, (hcur.below hw12).drewN, (ho.below hw12).drewN, a1, by rw [show ((j : Int) - 1 + 1).toNat = j by omega]; exact hge, hbw.trans (hw3'.mono hbw.size)⟩, ?_⟩
        simp only [RowKit.intOf]
        omega
end Go.Proofs.YtellndmbllmjgaaGreatDoor
/- Radix, put together. -/
set_option linter.unusedVariables false
namespace Go.Proofs.YtellndmbllmjgaaGreatDoor
open Go.RowKit Go.Shelf Go.Sort Fs Fl Fl2

theorem ctz_odd (m : Nat) (h0 : m ≠ 0) (h : m < 18446744073709551616) : m / 2 ^ Lib.ctz 64 m % 2 = 1 := by
  have e : Lib.ctz 64 m = Lib.ctzFrom 64 m := by unfold Lib.ctz; rw [if_neg h0]
  obtain ⟨q, hq, _⟩ := Lib.ctzFrom_spec 64 m (by omega) h
  rw [← e] at hq
  have hp := Nat.two_pow_pos (Lib.ctz 64 m)
  generalize Lib.ctz 64 m = z at *
  have : m / 2 ^ z = 2 * q + 1 := by
    rw [hq, Nat.mul_div_cancel_left _ hp]
  omega
/-- What Radix says of a positive word. -/
def radT (r b : Nat) : List Nat := if 1074 ≤ expR r then radL b (magR r * 2 ^ (expR r - 1074)) 1 else radL b (magR r) (2 ^ (1074 - expR r))
theorem radL_whole (b N Q : Nat) (hQ : 0 < Q) : radL b (N * Q) Q = toB b N := by
  unfold radL
  rw [Nat.mul_div_cancel _ hQ, Nat.mul_mod_left, if_pos rfl, List.append_nil]
theorem radL_frac (b m k c : Nat) (hc : 0 < c) (hm : m % 2 ^ k ≠ 0) : radL b (c * m) (c * 2 ^ k) = toB b (m / 2 ^ k) ++ 46 :: frD b (2 ^ k) 52 (m % 2 ^ k) := by
  unfold radL
  rw [Nat.mul_div_mul_left _ _ hc, Nat.mul_mod_mul_left, if_neg (by intro h; rcases Nat.mul_eq_zero.1 h with h1 | h1 <;> omega), frD_scale _ _ _ hc]
/-- **Radix of the program.** -/
theorem radP_mid (hC : PartC) (s : Bool) (r b : Nat) (h0 : 0 < r) (hf : r < 9218868437227405312) (hb1 : 2 ≤ b) (hb2 : b ≤ 36) (hb10 : b ≠ 10) (w : World) (hT : TabAt 4 Lib.deBruijn64tab w) :
    Calls Tryz.prog 59 #[.float .f64 (wd s r), .int .i64 (b : Int)] w fun e w' => e = .returned (.tuple #[.string (txt ((if s then [45] else []) ++ radT r b)), .nilIface]) ∧ Below w.heap.size w w' := by
  have hlz := lt_zero s r hf
  rw [decide_eq_true (show r ≠ 0 by omega), Bool.and_true] at hlz
  have hez := eq_zero s r hf
  rw [decide_eq_false (show ¬ r = 0 by omega)] at hez
  have hml := magR_lt r
  have hm0 : magR r ≠ 0 := fun e => by have := magR_zero (r := r); omega
  have cp := partsD_any r (by omega) hf w hT
  have hod := ctz_odd (magR r) hm0 (by omega)
  have hsp := ctz_split (magR r) hm0 (by omega)
  have hz64 := pa_ctz_lt (magR r) hm0 (by omega)
  have hel : expR r ≤ 2045 := by unfold expR; omega
  have hM1 : (txt (if s then [45] else [])).size ≤ 1 := by rw [txt_size]; split <;> simp
  have cm := minus_any (wd s r) s hlz
  have ca := abs_any s r (by omega)
  have cf := finite_yes s r hf
  unfold radT
  generalize Lib.ctz 64 (magR r) = z at *
  obtain ⟨m, hm⟩ : ∃ m, m = magR r / 2 ^ z := ⟨_, rfl⟩
  rw [← hm] at cp hod hsp
  have hmm : m < 18446744073709551616 := by
    have : m ≤ magR r := by rw [hm]; exact Nat.div_le_self _ _
    omega
  have hzp := Nat.two_pow_pos z
  rcases Nat.lt_or_ge (expR r + z) 1074 with hlt | hge
  · obtain ⟨k, hk⟩ : ∃ k, 1074 = expR r + z + k := ⟨1074 - expR r - z, by omega⟩
    rw [show ((expR r : Nat) : Int) - 1074 + (z : Int) = -(k : Int) by omega] at cp
    have hmk : m % 2 ^ k ≠ 0 := by
      intro h
      have h1 := Nat.dvd_of_mod_eq_zero h
      obtain ⟨j, rfl⟩ : ∃ j, k = j + 1 := ⟨k - 1, by omega⟩
      rw [Nat.pow_succ] at h1
      have h2 : 2 ∣ m := Nat.dvd_trans (Nat.dvd_mul_left _ _) h1
      omega
    have e1 : (if 1074 ≤ expR r then radL b (magR r * 2 ^ (expR r - 1074)) 1 else radL b (magR r) (2 ^ (1074 - expR r))) = toB b (m / 2 ^ k) ++ 46 :: frD b (2 ^ k) 52 (m % 2 ^ k) := by
      rw [if_neg (by omega), show 1074 - expR r = z + k by omega, Nat.pow_add, hsp, Nat.mul_comm m]
      exact radL_frac b m k (2 ^ z) hzp hmk
    rw [e1]
    refine (radW_frac hC (wd s r) r m k b ((k + 31) / 32) _ hb1 hb2 hb10 hmm hod (by omega) (by omega) rfl hM1 w hez cf cm ca cp).mono ?_
    rintro e w' ⟨rfl, hb⟩
    refine ⟨?_, hb⟩
    rw [txt_append, txt_append, txt_append]
    simp
  · obtain ⟨k, hk⟩ : ∃ k, expR r + z = 1074 + k := ⟨expR r + z - 1074, by omega⟩
    rw [show ((expR r : Nat) : Int) - 1074 + (z : Int) = (k : Int) by omega] at cp
    have e1 : (if 1074 ≤ expR r then radL b (magR r * 2 ^ (expR r - 1074)) 1 else radL b (magR r) (2 ^ (1074 - expR r))) = toB b (2 ^ k * m) := by
      split
      · rename_i h1
        have e2 : magR r * 2 ^ (expR r - 1074) = 2 ^ k * m * 1 := by
          rw [hsp, Nat.mul_one, Nat.mul_assoc, ← Nat.pow_add, show z + (expR r - 1074) = k by omega, Nat.mul_comm]
        rw [e2]
        exact radL_whole b (2 ^ k * m) 1 (by omega)
      · rename_i h1
        have e2 : magR r = 2 ^ k * m * 2 ^ (1074 - expR r) := by
          rw [hsp, Nat.mul_comm (2 ^ k) m, Nat.mul_assoc, ← Nat.pow_add]
          congr 2
          omega
        have e3 := radL_whole b (2 ^ k * m) (2 ^ (1074 - expR r)) (Nat.two_pow_pos _)
        rw [← e2] at e3
        exact e3
    rw [e1]
    refine (radW_whole hC (wd s r) r m k b _ hb1 hb2 hb10 hmm (by omega) (by omega) hM1 w hez cf cm ca cp).mono ?_
    rintro e w' ⟨rfl, hb⟩
    rw [txt_append]
    exact ⟨rfl, hb⟩
/-- **Radix of the document.** -/
theorem radD_mid (s : Bool) (r b : Nat) (h0 : 0 < r) (hf : r < 9218868437227405312) (hb1 : 2 ≤ b) (hb2 : b ≤ 36) (hb10 : b ≠ 10) (hlen : (radT r b).length ≤ 90000) (w : World) :
    Calls Tryz.prog 22 #[.float .f64 (wd s r), .int .i64 (b : Int)] w fun e w' => e = .returned (.tuple #[.string (txt ((if s then [45] else []) ++ radT r b)), .bool true]) ∧ Below w.heap.size w w' := by
  have pos : Calls Tryz.prog 22 #[.float .f64 r, .int .i64 (b : Int)] w fun e w' => e = .returned (.tuple #[.string (txt (radT r b)), .bool true]) ∧ Below w.heap.size w w' := by
    have o4 := lt_zero false r hf
    rw [wd_false] at o4
    unfold radT
    split
    · rename_i h1
      exact radR_big r b ⟨#[]⟩ hb1 hb2 hb10 h0 hf h1 w o4 (fun w => odd_pos r h0 hf w)
    · rename_i h1
      exact radR_mid r b ⟨#[]⟩ hb1 hb2 hb10 h0 hf h1 w o4 (fun w => odd_pos r h0 hf w)
  cases s
  · rw [wd_false]
    exact pos
  · have o4 := lt_zero true r hf
    rw [decide_eq_true (show r ≠ 0 by omega)] at o4
    have hng := run_neg true r (by omega)
    rw [Bool.not_true, wd_false] at hng
    refine (radR_neg (wd true r) r b ⟨#[]⟩ _ (by rw [txt_size]; omega) hb1 hb2 hb10 w o4 hng (fun w => odd_neg r h0 hf w) pos).mono ?_
    rintro e w' ⟨rfl, hb⟩
    refine ⟨?_, hb⟩
    rw [txt_m, txt_append]
    rfl
end Go.Proofs.YtellndmbllmjgaaGreatDoor
/- Radix's length; Exponential and Precision at nought. -/
set_option linter.unusedVariables false
namespace Go.Proofs.YtellndmbllmjgaaGreatDoor
open Go.RowKit Go.Shelf Go.Sort Fs Fl Fl2

theorem radL_len (b P Q n : Nat) (hb : 2 ≤ b) (h : P < pw n) : (radL b P Q).length ≤ 16 * n + 60 := by
  unfold radL
  have h1 := toB_pw hb (Nat.lt_of_le_of_lt (Nat.div_le_self P Q) h)
  have h2 := frD_len b Q 52 (P % Q)
  rw [List.length_append]
  split
  · simp only [List.length_nil]; omega
  · simp only [List.length_cons]; omega
theorem radT_len (r b : Nat) (hf : r < 9218868437227405312) (hb : 2 ≤ b) : (radT r b).length ≤ 90000 := by
  have hel : expR r ≤ 2045 := by unfold expR; omega
  have hm := mag53 r
  unfold radT
  split
  · have h1 : magR r * 2 ^ (expR r - 1074) < pw 70 := pw_lt_mul (Nat.le_of_lt hm) (Nat.lt_of_le_of_lt (two_pw3 (n := 61) (by omega)) (pw_strict (show 61 < 62 by omega))) (by omega)
    have := radL_len b _ 1 70 hb h1
    omega
  · have := radL_len b (magR r) (2 ^ (1074 - expR r)) 4 hb hm
    omega
theorem exZ_any (hC : PartC) (w W : World) (hT : TabAt 4 Lib.deBruijn64tab w) (hW : Below w.heap.size w W) :
    Calls Tryz.prog 106 #[.float .f64 0] W fun e w' => ∃ S m, (S = txt [48] ∧ m = 1) ∧ e = .returned (.agg #[.string S, .int .i64 m]) ∧ Below W.heap.size W w' := by
  refine (exactD_any hC 0 (by omega) W (tab_below hT hW)).mono ?_
  rintro e w' ⟨X, k, a1, a2, a3, a4, a5, rfl, hb⟩
  obtain ⟨rfl, rfl⟩ := a4 rfl
  refine ⟨_, _, ⟨by rw [decN_zero], ?_⟩, rfl, hb⟩
  have : Lib.nDigits 0 = 1 := Lib.nDigits_small (by omega)
  rw [this]
  rfl
/-- Exponential at nought, of the program. -/
theorem expP_zero (hC : PartC) (s : Bool) (n : Nat) (hn : n ≤ 20) (w : World) (hT : TabAt 4 Lib.deBruijn64tab w) (hL : Laid w) :
    Calls Tryz.prog 57 #[.float .f64 (wd s 0), .int .i64 (n : Int)] w fun e w' => e = .returned (.tuple #[.string (txt (pwd (List.replicate (n + 1) 48) 0)), .nilIface]) ∧ Below w.heap.size w w' := by
  have hlz := lt_zero s 0 (by omega)
  rw [decide_eq_false (show ¬ ((0 : Nat) ≠ 0) by simp), Bool.and_false] at hlz
  have cm := minus_any (wd s 0) false hlz
  have c := expW_of (wd s 0) 0 (txt []) n hn (by rw [txt_size]; simp) (fun S m => S = txt [48] ∧ m = 1) (fun S m => S = txt (List.replicate (n + 1) 48) ∧ m = 1)
    (fun T => T = txt (pwd (List.replicate (n + 1) 48) 0)) w
    (finite_yes s 0 (by omega)) cm (abs_any s 0 (by omega)) (exZ_any hC w w hT (Below.refl _ _))
    (fun S m hS W => by
      obtain ⟨rfl, rfl⟩ := hS
      refine (rounded_zero (n + 1) (by omega) (by omega) W).mono ?_
      rintro e w' ⟨rfl, hb⟩
      exact ⟨_, _, ⟨rfl, rfl⟩, rfl, hb⟩)
    (fun S m hS W hW => by
      obtain ⟨rfl, rfl⟩ := hS
      refine (powered_at (List.replicate (n + 1) 48) 1 (by simp) (by simp; omega) (by omega) (by omega) W (hL.below hW)).mono ?_
      rintro e w' ⟨rfl, hb⟩
      refine ⟨_, rfl, ?_, rfl, hb⟩
      rw [txt_size]
      have := pwd_len (List.replicate (n + 1) 48) 0 (by simp; omega) (by omega) (by omega)
      omega)
  refine c.mono ?_
  rintro e w' ⟨T, rfl, rfl, hb⟩
  rw [txt_append]
  exact ⟨rfl, hb⟩
theorem odd_nought (s : Bool) (w : World) : Calls Tryz.prog 30 #[.float .f64 (wd s 0)] w fun e w' => e = .returned (.tuple #[.string (txt [48]), .bool true]) ∧ w' = w := by
  have o1 := num_self s 0 (by omega)
  have o3 := eq_zero s 0 (by omega)
  exact odd_zero _ o1 (by rw [o3]; rfl) w
/-- Exponential at nought, of the document. -/
theorem expD_zero (s : Bool) (n : Nat) (hn : n ≤ 20) (w : World) :
    Calls Tryz.prog 20 #[.float .f64 (wd s 0), .int .i64 (n : Int)] w fun e w' => e = .returned (.tuple #[.string (txt (pwd (List.replicate (n + 1) 48) 0)), .bool true]) ∧ Below w.heap.size w w' := by
  have o2 := ne_zero s 0 (by omega)
  have o4 := lt_zero s 0 (by omega)
  have o5 := gt_zero s 0 (by omega)
  rw [decide_eq_false (show ¬ ((0 : Nat) ≠ 0) by simp)] at o2 o4 o5
  rw [Bool.and_false] at o4 o5
  exact expR_mid (wd s 0) n false (txt [48]) (List.replicate (n + 1) 48) 1 (by simp) (by simp; omega) (by omega) (by omega) hn (fun _ => ⟨rfl, rfl⟩) w o2 o4 o5 (fun w => odd_nought s w) (fun e => by cases e)
/-- Precision at nought, of the document. -/
theorem precD_zero (s : Bool) (n : Nat) (hn0 : 1 ≤ n) (hn : n ≤ 21) (w : World) :
    Calls Tryz.prog 21 #[.float .f64 (wd s 0), .int .i64 (n : Int)] w fun e w' => e = .returned (.tuple #[.string (txt (precL (List.replicate n 48) n 1)), .bool true]) ∧ Below w.heap.size w w' := by
  have o2 := ne_zero s 0 (by omega)
  have o4 := lt_zero s 0 (by omega)
  have o5 := gt_zero s 0 (by omega)
  rw [decide_eq_false (show ¬ ((0 : Nat) ≠ 0) by simp)] at o2 o4 o5
  rw [Bool.and_false] at o4 o5
  unfold precL
  rw [if_neg (by omega)]
  exact precR_flat (wd s 0) n false (txt [48]) (List.replicate n 48) 1 (by simp) hn0 hn (fun _ => ⟨rfl, rfl⟩) w (by omega) (by omega) o2 o4 o5 (fun w => odd_nought s w) (fun e => by cases e)
/-- Precision at nought, of the program. -/
theorem precP_zero (hC : PartC) (s : Bool) (n : Nat) (hn0 : 1 ≤ n) (hn : n ≤ 21) (w : World) (hT : TabAt 4 Lib.deBruijn64tab w) :
    Calls Tryz.prog 58 #[.float .f64 (wd s 0), .int .i64 (n : Int)] w fun e w' => e = .returned (.tuple #[.string (txt (precL (List.replicate n 48) n 1)), .nilIface]) ∧ Below w.heap.size w w' := by
  have hlz := lt_zero s 0 (by omega)
  rw [decide_eq_false (show ¬ ((0 : Nat) ≠ 0) by simp), Bool.and_false] at hlz
  have cm := minus_any (wd s 0) false hlz
  have c := precW_of (wd s 0) 0 (txt []) n hn0 hn (by rw [txt_size]; simp) (fun S m => S = txt [48] ∧ m = 1) (fun S m => S = txt (List.replicate n 48) ∧ m = 1)
    (fun S m hS => by obtain ⟨_, rfl⟩ := hS; omega)
    (fun T => T = txt (precL (List.replicate n 48) n 1)) w
    (finite_yes s 0 (by omega)) cm (abs_any s 0 (by omega)) (fun W hW => exZ_any hC w W hT hW)
    (fun S m hS W => by
      obtain ⟨rfl, rfl⟩ := hS
      refine (rounded_zero n hn0 (by omega) W).mono ?_
      rintro e w' ⟨rfl, hb⟩
      exact ⟨_, _, ⟨rfl, rfl⟩, rfl, hb⟩)
    (fun S m hS hc W hW => by
      obtain ⟨rfl, rfl⟩ := hS
      omega)
    (fun S m hS hc W => by
      obtain ⟨rfl, rfl⟩ := hS
      obtain ⟨j, hj⟩ : ∃ j : Nat, (n : Int) - 1 = (j : Int) := ⟨n - 1, by omega⟩
      rw [hj]
      refine (pointed_any (List.replicate n 48) j (by simp; omega) (by simp; omega) (by omega) W).mono ?_
      rintro e w' ⟨rfl, hb⟩
      refine ⟨_, ?_, ?_, rfl, hb⟩
      · unfold precL
        rw [if_neg hc, hj, Int.toNat_natCast]
      · rw [txt_size]
        have := ptd_len (List.replicate n 48) j
        rw [List.length_replicate] at this
        omega)
  refine c.mono ?_
  rintro e w' ⟨T, rfl, rfl, hb⟩
  rw [txt_append]
  exact ⟨rfl, hb⟩
end Go.Proofs.YtellndmbllmjgaaGreatDoor
