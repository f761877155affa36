/- Fewest's walk. -/
import Derived.Test.YtellndmbllmjgaaGreatDoorCPo1x
set_option linter.unusedVariables false
namespace Go.Proofs.YtellndmbllmjgaaGreatDoor
open Go.RowKit Go.Shelf Go.Sort Fs Fl Fl2

set_option maxRecDepth 100000 in
set_option maxHeartbeats 8000000 in
/-- **Fewest.** -/
theorem fewest_any (r d J : Nat) (h0 : 0 < r) (h : r < 9218868437227405312) (hT : Fs.Told (magR r) (expR r) d J) (hd : d < 1152921504606846976) (w : World) :
    Calls Tryz.prog 34 #[.float .f64 r] w fun e w' => e = .returned (.tuple #[.string (txt (decN d)), .int .i64 ((Lib.nDigits d : Int) + (J : Int) - 400)]) ∧ Below w.heap.size w w' := by
  have cp := point_any r h0 h w
  have FEW := (show Hid _ from fun (n : Int) (h1 : L10 (magR r) (expR r) n) (h2 : ¬ L10 (magR r) (expR r) (n - 1)) => few_of h0 h hT hd h1 h2)
  have SC := (show Hid _ from fun (k : Int) (h1 : -2100 ≤ k) (h2 : k ≤ 2100) (w1 : World) => scaled_any r k h h1 h2 w1)
  have HM : Hid (magR r < pw 4) := mag53 r
  have hE : expR r ≤ 2045 := by unfold expR; omega
  have WE := (show Hid _ from fun R => word_eq R r h)
  have WN := (show Hid _ from fun R => word_ne R r h)
  have DI := (show Hid _ from fun s j R (hh : DecIs s j R) => hh r)
  clear hT hd
  generalize magR r = M at *
  generalize expR r = E at *
  go_enter Tryz.func34, Tryz.ntmps34
  go_wp2_with (first | (go_at_call 86; refine cp.mono ?_; rintro e w1 ⟨n, rfl, hl1, hl2, hw1⟩; clear cp))
  obtain ⟨nn, hnn, hF⟩ := FEW.out n hl1 hl2
  clear FEW hl1 hl2
  have HF : Hid (Few M E d J nn) := hF
  have hn8 := hF.nn8
  have hn1 := hF.pos
  clear hF h0
  go_loopw [5] (fun vk wr => ∃ k : Nat, vk = .int .i64 (k : Int) ∧ 1 ≤ k ∧ k ≤ stopK J nn ∧ Below w.heap.size w wr) (fun vk _ => stopK J nn + 1 - (RowKit.intOf vk).toNat)
  case atStart => exact ⟨1, rfl, Nat.le_refl _, by unfold stopK; split <;> omega, hw1⟩
  case round =>
    obtain ⟨k, rfl, hk1, hk2, hbw⟩ := hrel
    obtain ⟨l1, l2, l3⟩ := HF.out.low hk1 hk2
    obtain ⟨j, hj⟩ : ∃ j, j = nn - k := ⟨_, rfl⟩
    have hjn : (j : Int) = n + 400 - k := by omega
    have hrel := scale_rel M E j ((k : Int) - n) (by omega)
    have hq := qS_pos E ((k : Int) - n)
    obtain ⟨d1, d2, d3⟩ := div_rel hq (BB_pos j) hrel
    have cs := SC.out ((k : Int) - n) (by omega) (by omega) wr
    have p9 := pS_pw9 (k := (k : Int) - n) HM.out hE (by omega)
    have q9 := qS_pw9 (E := E) (k := (k : Int) - n) (by omega)
    rw [← hj] at l1 l2
    obtain ⟨lw, hlw⟩ : ∃ lw, lw = XX M E / BB j := ⟨_, rfl⟩
    rw [← hlw] at l1 l2 d1
    have QU := (show Hid _ from fun (w1 : World) (x y : Value) (hx : NatIs w1 x (pS M E ((k : Int) - n))) (hy : NatIs w1 y (qS E ((k : Int) - n))) => quo_any x y _ _ w1 hx hy p9 q9 hq (by
      rw [← Nat.div_lt_iff_lt_mul hq, d1]
      have e : (2 : Nat) ^ 61 = 2305843009213693952 := by decide
      rw [e]; omega))
    rw [d1] at QU
    have l9 : pS M E ((k : Int) - n) % qS E ((k : Int) - n) < pw 900 := Nat.lt_trans (Nat.mod_lt _ hq) q9
    have AD := (show Hid _ from fun (w1 : World) (x : Value) (hx : NatIs w1 x (pS M E ((k : Int) - n) % qS E ((k : Int) - n))) => add_any x x _ _ w1 hx hx (pw_lt l9 (by omega)) (pw_lt l9 (by omega)))
    have l10 : pS M E ((k : Int) - n) % qS E ((k : Int) - n) + pS M E ((k : Int) - n) % qS E ((k : Int) - n) < pw 1000 := by
      have := pw_lt_mul (a := 2) (m := 1) (n := 900) (k := 1000) (by decide) l9 (by omega)
      omega
    have CM := (show Hid _ from fun (w1 : World) (x y : Value) (hx : NatIs w1 x (pS M E ((k : Int) - n) % qS E ((k : Int) - n) + pS M E ((k : Int) - n) % qS E ((k : Int) - n))) (hy : NatIs w1 y (qS E ((k : Int) - n))) => cmp_any x y _ _ w1 hx hy l10 (pw_lt q9 (by omega)))
    have NA : Hid (∀ w1, Calls Tryz.prog 32 #[.int .u64 (lw : Int)] w1 fun e w' => ∃ v, e = .returned v ∧ NatIs w' v lw ∧ Below w1.heap.size w1 w') := fun w1 => nat_any lw (by omega) w1
    have NB : Hid (∀ w1, Calls Tryz.prog 32 #[.int .u64 ((lw : Int) + 1)] w1 fun e w' => ∃ v, e = .returned v ∧ NatIs w' v (lw + 1) ∧ Below w1.heap.size w1 w') := fun w1 => nat_any (lw + 1) (by omega) w1
    have lwp : lw + 1 < pw 5 := Nat.lt_of_le_of_lt (by omega : lw + 1 ≤ 1152921504606846976) (by decide)
    have DA := (show Hid _ from fun (w1 : World) (x : Value) (hx : NatIs w1 x lw) => dec_any x lw j w1 hx l2 (Nat.lt_of_le_of_lt (Nat.le_succ _) lwp) (by omega) (n - (k : Int)) (by omega))
    have DB := (show Hid _ from fun (w1 : World) (x : Value) (hx : NatIs w1 x (lw + 1)) => dec_any x (lw + 1) j w1 hx (Nat.succ_pos _) lwp (by omega) (n - (k : Int)) (by omega))
    have GA := (show Hid _ from fun (w1 : World) (x : Value) (hx : NatIs w1 x lw) => digits_any x lw w1 hx (Nat.lt_of_le_of_lt (Nat.le_succ _) lwp))
    have GB := (show Hid _ from fun (w1 : World) (x : Value) (hx : NatIs w1 x (lw + 1)) => digits_any x (lw + 1) w1 hx lwp)
    have kn : -1000 ≤ n ∧ n ≤ 1000 := by omega
    have kk : k ≤ 1000 := by omega
    obtain ⟨kn1, kn2⟩ := kn
    obtain ⟨left, hleft⟩ : ∃ left, left = pS M E ((k : Int) - n) % qS E ((k : Int) - n) := ⟨_, rfl⟩
    obtain ⟨qv, hqv⟩ : ∃ qv, qv = qS E ((k : Int) - n) := ⟨_, rfl⟩
    obtain ⟨pv, hpv⟩ : ∃ pv, pv = pS M E ((k : Int) - n) := ⟨_, rfl⟩
    rw [← hpv, ← hqv] at cs QU AD CM hleft d2 d3
    rw [← hleft] at QU AD CM d2 d3
    have DR : Hid ((qv < left + left ↔ BB j < 2 * (XX M E % BB j)) ∧ (left + left = qv ↔ 2 * (XX M E % BB j) = BB j)) := ⟨by rw [← d2]; omega, by rw [← d3]; omega⟩
    have HLW : Hid (lw = XX M E / BB j ∧ j = nn - k ∧ (nn : Int) = n + 400 ∧ k ≤ stopK J nn ∧ 1 ≤ k) := ⟨hlw, hj, hnn, hk2, hk1⟩
    have lz : lw < 18446744073709551615 := by omega
    clear hlw hj hjn hrel hq d1 d2 d3 p9 q9 l9 l10 l1 lwp hleft hqv hpv l3
    rcases Nat.lt_or_ge k (stopK J nn) with hgo | hgo
    · -- none tells it yet
      have I1 : Hid (¬ Inn (LL M E) (UU M E) (M % 2) (lw * BB j)) := by
        show ¬ _
        rw [HLW.out.2.1]; exact HF.out.go HLW.out.2.2.2.2 hgo lw
      have I2 : Hid (¬ Inn (LL M E) (UU M E) (M % 2) ((lw + 1) * BB j)) := by
        show ¬ _
        rw [HLW.out.2.1]; exact HF.out.go HLW.out.2.2.2.2 hgo (lw + 1)
      clear CM GA GB
      go_wp2_with (first | (go_at_call 87; refine cs.mono ?_; rintro e w2 ⟨x1, x2, rfl, hx1, hx2, hw2⟩; clear cs; have b2 : Below w.heap.size w w2 := hbw.trans (hw2.mono hbw.size); have cq := QU.out w2 x1 x2 hx1 hx2; clear QU) | (go_at_call 70; refine cq.mono ?_; rintro e w3 ⟨x3, rfl, hx3, hw3⟩; clear cq; have b3 : Below w.heap.size w w3 := b2.trans (hw3.mono b2.size); have na := NA.out w3; clear NA) | (go_at_call 32; refine na.mono ?_; rintro e w4 ⟨x4, rfl, hx4, hw4⟩; clear na; have b4 : Below w.heap.size w w4 := b3.trans (hw4.mono b3.size); have nb := NB.out w4; clear NB) | (go_at_call 32; refine nb.mono ?_; rintro e w5 ⟨x5, rfl, hx5, hw5⟩; clear nb; have b5 : Below w.heap.size w w5 := b4.trans (hw5.mono b4.size); have da := DA.out w5 x4 (hx4.below hw5); clear DA) | (go_at_call 88; refine da.mono ?_; rintro e w6 ⟨R1, hR1, rfl, hw6⟩; clear da; have b6 : Below w.heap.size w w6 := b5.trans (hw6.mono b5.size); have db := DB.out w6 x5 (hx5.below hw6); clear DB; have f1 := (WN.out R1 (fun hh => I1.out ((DI.out lw j R1 hR1).1 hh))); obtain ⟨f1a, f1b⟩ := f1; generalize min R1 9218868437227405312 = q1 at *) | (go_at_call 88; refine db.mono ?_; rintro e w7 ⟨R2, hR2, rfl, hw7⟩; clear db; have b7 : Below w.heap.size w w7 := b6.trans (hw7.mono b6.size); have f2 := (WN.out R2 (fun hh => I2.out ((DI.out (lw + 1) j R2 hR2).1 hh))); obtain ⟨f2a, f2b⟩ := f2; generalize min R2 9218868437227405312 = q2 at *; have ad := AD.out w7 x3 (((((hx3.below hw4).below hw5).below hw6)).below hw7); clear AD))
      refine ⟨⟨k + 1, by simp, by omega, by omega, b7⟩, ?_⟩
      simp only [RowKit.intOf]
      omega
    · have hks : k = stopK J nn := by have := HLW.out.2.2.2.1; omega
      rcases Nat.lt_or_ge J nn with hJ | hJ
      · have STOP0 := HF.out.stop hJ
        have hjJ : j = J := by have := HLW.out.2.1; have h1 := STOP0.1; omega
        have hkJ : k = nn - J := by have h1 := STOP0.1; omega
        have STOP : Hid (stopK J nn = nn - J ∧ nn - (nn - J) = J ∧ (Inn (LL M E) (UU M E) (M % 2) (XX M E / BB j * BB j) ∨ Inn (LL M E) (UU M E) (M % 2) ((XX M E / BB j + 1) * BB j)) ∧ (Up M E j → d = XX M E / BB j + 1) ∧ (¬ Up M E j → d = XX M E / BB j) ∧ Lib.nDigits d = k) := by rw [hjJ, hkJ]; exact STOP0
        have HNJ : Hid ((Lib.nDigits d : Int) + (J : Int) - 400 = n) := by
          have h1 := STOP.out.2.2.2.2.2
          have h2 := HLW.out.2.2.1
          show (Lib.nDigits d : Int) + (J : Int) - 400 = n
          omega
        clear STOP0 hjJ hkJ hks hgo hJ
        have PK := STOP.out.2.2.1
        rw [← HLW.out.1] at PK
        by_cases i1 : Inn (LL M E) (UU M E) (M % 2) (lw * BB j)
        · by_cases i2 : Inn (LL M E) (UU M E) (M % 2) ((lw + 1) * BB j)
          · have I1 : Hid (Inn (LL M E) (UU M E) (M % 2) (lw * BB j)) := i1
            have I2 : Hid (Inn (LL M E) (UU M E) (M % 2) ((lw + 1) * BB j)) := i2
            clear i1 i2 PK
            rcases Nat.lt_trichotomy (left + left) qv with hc | hc | hc
            · have CMPF : Hid (left + left < qv) := hc
              have UPF : Hid (¬ Up M E j) := by
                rintro ⟨u1, u2⟩
                have a1 := DR.out.1
                have a2 := DR.out.2
                rcases u2 with u2 | u2 | u2
                · exact u2 (by rw [← HLW.out.1]; exact I1.out)
                · have := a1.2 u2; omega
                · have := a2.2 u2.1; omega
              clear hc
              have HDD : Hid (d = lw ∧ Lib.nDigits d = k) := ⟨by have := HLW.out.1; rw [this]; exact STOP.out.2.2.2.2.1 UPF.out, STOP.out.2.2.2.2.2⟩
              have hsz : (txt (decN lw)).size = k := by rw [txt_size, decN_length, ← HDD.out.1]; exact HDD.out.2
              go_wp2_with (first | (go_at_call 87; refine cs.mono ?_; rintro e w2 ⟨x1, x2, rfl, hx1, hx2, hw2⟩; clear cs; have b2 : Below w.heap.size w w2 := hbw.trans (hw2.mono hbw.size); have cq := QU.out w2 x1 x2 hx1 hx2; clear QU) | (go_at_call 70; refine cq.mono ?_; rintro e w3 ⟨x3, rfl, hx3, hw3⟩; clear cq; have b3 : Below w.heap.size w w3 := b2.trans (hw3.mono b2.size); have na := NA.out w3; clear NA) | (go_at_call 32; refine na.mono ?_; rintro e w4 ⟨x4, rfl, hx4, hw4⟩; clear na; have b4 : Below w.heap.size w w4 := b3.trans (hw4.mono b3.size); have nb := NB.out w4; clear NB) | (go_at_call 32; refine nb.mono ?_; rintro e w5 ⟨x5, rfl, hx5, hw5⟩; clear nb; have b5 : Below w.heap.size w w5 := b4.trans (hw5.mono b4.size); have da := DA.out w5 x4 (hx4.below hw5); clear DA) | (go_at_call 88; refine da.mono ?_; rintro e w6 ⟨R1, hR1, rfl, hw6⟩; clear da; have b6 : Below w.heap.size w w6 := b5.trans (hw6.mono b5.size); have db := DB.out w6 x5 (hx5.below hw6); clear DB; have f1 := (WE.out R1 ((DI.out lw j R1 hR1).2 I1.out)); obtain ⟨f1a, f1b⟩ := f1; generalize min R1 9218868437227405312 = q1 at *) | (go_at_call 88; refine db.mono ?_; rintro e w7 ⟨R2, hR2, rfl, hw7⟩; clear db; have b7 : Below w.heap.size w w7 := b6.trans (hw7.mono b6.size); have f2 := (WE.out R2 ((DI.out (lw + 1) j R2 hR2).2 I2.out)); obtain ⟨f2a, f2b⟩ := f2; generalize min R2 9218868437227405312 = q2 at *; have ad := AD.out w7 x3 (((((hx3.below hw4).below hw5).below hw6)).below hw7); clear AD) | (go_at_call 69; refine ad.mono ?_; rintro e w8 ⟨x8, rfl, hx8, hw8⟩; clear ad; have b8 : Below w.heap.size w w8 := b7.trans (hw8.mono b7.size); have cm := CM.out w8 x8 x2 hx8 ((((((hx2.below hw3).below hw4).below hw5).below hw6).below hw7).below hw8); clear CM) | (go_at_call 67; refine cm.mono ?_; rintro e w9 ⟨c, rfl, hcmp, cn, rfl⟩; clear cm; have kc : c < 0 := hcmp.2.2 CMPF.out; have kc2 : ¬ (0 : Int) < c := (by omega); have kc3 : (c == 0) = false := (beq_eq_false_iff_ne.2 (by omega)); clear hcmp; have b9 : Below w.heap.size w (w8.drewN cn) := below_drewN b8; have ga := GA.out (w8.drewN cn) x4 (((((hx4.below hw5).below hw6).below hw7).below hw8).drewN); clear GA) | (go_at_call 33; refine ga.mono ?_; rintro e wa ⟨rfl, hwa⟩; clear ga; have ba : Below w.heap.size w wa := b9.trans (hwa.mono b9.size); have gb := GB.out wa x5 ((((((hx5.below hw6).below hw7).below hw8).drewN)).below hwa); clear GB) | (go_at_call 33; refine gb.mono ?_; rintro e wb ⟨rfl, hwb⟩; clear gb; have bb : Below w.heap.size w wb := ba.trans (hwb.mono ba.size)))
              go_ret2
              refine ⟨?_, ba⟩
              rw [HNJ.out, HDD.out.1]
              rfl
            · have CMPF : Hid (left + left = qv) := hc
              clear hc
              rcases Nat.mod_two_eq_zero_or_one lw with hp | hp
              · have UPF : Hid (¬ Up M E j) := by
                  rintro ⟨u1, u2⟩
                  have a1 := DR.out.1
                  have a3 := CMPF.out
                  rcases u2 with u2 | u2 | u2
                  · exact u2 (by rw [← HLW.out.1]; exact I1.out)
                  · have := a1.2 u2; omega
                  · have := u2.2; rw [← HLW.out.1] at this; omega
                have kp : ((lw : Int) % 2 == 1) = false := by rw [beq_eq_false_iff_ne]; omega
                have HDD : Hid (d = lw ∧ Lib.nDigits d = k) := ⟨by have := HLW.out.1; rw [this]; exact STOP.out.2.2.2.2.1 UPF.out, STOP.out.2.2.2.2.2⟩
                have hsz : (txt (decN lw)).size = k := by rw [txt_size, decN_length, ← HDD.out.1]; exact HDD.out.2
                go_wp2_with (first | (go_at_call 87; refine cs.mono ?_; rintro e w2 ⟨x1, x2, rfl, hx1, hx2, hw2⟩; clear cs; have b2 : Below w.heap.size w w2 := hbw.trans (hw2.mono hbw.size); have cq := QU.out w2 x1 x2 hx1 hx2; clear QU) | (go_at_call 70; refine cq.mono ?_; rintro e w3 ⟨x3, rfl, hx3, hw3⟩; clear cq; have b3 : Below w.heap.size w w3 := b2.trans (hw3.mono b2.size); have na := NA.out w3; clear NA) | (go_at_call 32; refine na.mono ?_; rintro e w4 ⟨x4, rfl, hx4, hw4⟩; clear na; have b4 : Below w.heap.size w w4 := b3.trans (hw4.mono b3.size); have nb := NB.out w4; clear NB) | (go_at_call 32; refine nb.mono ?_; rintro e w5 ⟨x5, rfl, hx5, hw5⟩; clear nb; have b5 : Below w.heap.size w w5 := b4.trans (hw5.mono b4.size); have da := DA.out w5 x4 (hx4.below hw5); clear DA) | (go_at_call 88; refine da.mono ?_; rintro e w6 ⟨R1, hR1, rfl, hw6⟩; clear da; have b6 : Below w.heap.size w w6 := b5.trans (hw6.mono b5.size); have db := DB.out w6 x5 (hx5.below hw6); clear DB; have f1 := (WE.out R1 ((DI.out lw j R1 hR1).2 I1.out)); obtain ⟨f1a, f1b⟩ := f1; generalize min R1 9218868437227405312 = q1 at *) | (go_at_call 88; refine db.mono ?_; rintro e w7 ⟨R2, hR2, rfl, hw7⟩; clear db; have b7 : Below w.heap.size w w7 := b6.trans (hw7.mono b6.size); have f2 := (WE.out R2 ((DI.out (lw + 1) j R2 hR2).2 I2.out)); obtain ⟨f2a, f2b⟩ := f2; generalize min R2 9218868437227405312 = q2 at *; have ad := AD.out w7 x3 (((((hx3.below hw4).below hw5).below hw6)).below hw7); clear AD) | (go_at_call 69; refine ad.mono ?_; rintro e w8 ⟨x8, rfl, hx8, hw8⟩; clear ad; have b8 : Below w.heap.size w w8 := b7.trans (hw8.mono b7.size); have cm := CM.out w8 x8 x2 hx8 ((((((hx2.below hw3).below hw4).below hw5).below hw6).below hw7).below hw8); clear CM) | (go_at_call 67; refine cm.mono ?_; rintro e w9 ⟨c, rfl, hcmp, cn, rfl⟩; clear cm; obtain rfl : c = 0 := cmp_zero hcmp CMPF.out; clear hcmp; have b9 : Below w.heap.size w (w8.drewN cn) := below_drewN b8; have ga := GA.out (w8.drewN cn) x4 (((((hx4.below hw5).below hw6).below hw7).below hw8).drewN); clear GA) | (go_at_call 33; refine ga.mono ?_; rintro e wa ⟨rfl, hwa⟩; clear ga; have ba : Below w.heap.size w wa := b9.trans (hwa.mono b9.size); have gb := GB.out wa x5 ((((((hx5.below hw6).below hw7).below hw8).drewN)).below hwa); clear GB) | (go_at_call 33; refine gb.mono ?_; rintro e wb ⟨rfl, hwb⟩; clear gb; have bb : Below w.heap.size w wb := ba.trans (hwb.mono ba.size)))
                go_ret2
                refine ⟨?_, ba⟩
                rw [HNJ.out, HDD.out.1]
                rfl
              · have UPF : Hid (Up M E j) := ⟨by rw [← HLW.out.1]; exact I2.out, Or.inr (Or.inr ⟨DR.out.2.1 CMPF.out, by rw [← HLW.out.1]; exact hp⟩)⟩
                have kp : ((lw : Int) % 2 == 1) = true := by rw [beq_iff_eq]; omega
                have HDD : Hid (d = (lw + 1) ∧ Lib.nDigits d = k) := ⟨by have := HLW.out.1; rw [this]; exact STOP.out.2.2.2.1 UPF.out, STOP.out.2.2.2.2.2⟩
                have hsz : (txt (decN (lw + 1))).size = k := by rw [txt_size, decN_length, ← HDD.out.1]; exact HDD.out.2
                go_wp2_with (first | (go_at_call 87; refine cs.mono ?_; rintro e w2 ⟨x1, x2, rfl, hx1, hx2, hw2⟩; clear cs; have b2 : Below w.heap.size w w2 := hbw.trans (hw2.mono hbw.size); have cq := QU.out w2 x1 x2 hx1 hx2; clear QU) | (go_at_call 70; refine cq.mono ?_; rintro e w3 ⟨x3, rfl, hx3, hw3⟩; clear cq; have b3 : Below w.heap.size w w3 := b2.trans (hw3.mono b2.size); have na := NA.out w3; clear NA) | (go_at_call 32; refine na.mono ?_; rintro e w4 ⟨x4, rfl, hx4, hw4⟩; clear na; have b4 : Below w.heap.size w w4 := b3.trans (hw4.mono b3.size); have nb := NB.out w4; clear NB) | (go_at_call 32; refine nb.mono ?_; rintro e w5 ⟨x5, rfl, hx5, hw5⟩; clear nb; have b5 : Below w.heap.size w w5 := b4.trans (hw5.mono b4.size); have da := DA.out w5 x4 (hx4.below hw5); clear DA) | (go_at_call 88; refine da.mono ?_; rintro e w6 ⟨R1, hR1, rfl, hw6⟩; clear da; have b6 : Below w.heap.size w w6 := b5.trans (hw6.mono b5.size); have db := DB.out w6 x5 (hx5.below hw6); clear DB; have f1 := (WE.out R1 ((DI.out lw j R1 hR1).2 I1.out)); obtain ⟨f1a, f1b⟩ := f1; generalize min R1 9218868437227405312 = q1 at *) | (go_at_call 88; refine db.mono ?_; rintro e w7 ⟨R2, hR2, rfl, hw7⟩; clear db; have b7 : Below w.heap.size w w7 := b6.trans (hw7.mono b6.size); have f2 := (WE.out R2 ((DI.out (lw + 1) j R2 hR2).2 I2.out)); obtain ⟨f2a, f2b⟩ := f2; generalize min R2 9218868437227405312 = q2 at *; have ad := AD.out w7 x3 (((((hx3.below hw4).below hw5).below hw6)).below hw7); clear AD) | (go_at_call 69; refine ad.mono ?_; rintro e w8 ⟨x8, rfl, hx8, hw8⟩; clear ad; have b8 : Below w.heap.size w w8 := b7.trans (hw8.mono b7.size); have cm := CM.out w8 x8 x2 hx8 ((((((hx2.below hw3).below hw4).below hw5).below hw6).below hw7).below hw8); clear CM) | (go_at_call 67; refine cm.mono ?_; rintro e w9 ⟨c, rfl, hcmp, cn, rfl⟩; clear cm; obtain rfl : c = 0 := cmp_zero hcmp CMPF.out; clear hcmp; have b9 : Below w.heap.size w (w8.drewN cn) := below_drewN b8; have ga := GA.out (w8.drewN cn) x4 (((((hx4.below hw5).below hw6).below hw7).below hw8).drewN); clear GA) | (go_at_call 33; refine ga.mono ?_; rintro e wa ⟨rfl, hwa⟩; clear ga; have ba : Below w.heap.size w wa := b9.trans (hwa.mono b9.size); have gb := GB.out wa x5 ((((((hx5.below hw6).below hw7).below hw8).drewN)).below hwa); clear GB) | (go_at_call 33; refine gb.mono ?_; rintro e wb ⟨rfl, hwb⟩; clear gb; have bb : Below w.heap.size w wb := ba.trans (hwb.mono ba.size)))
                go_ret2
                refine ⟨?_, bb⟩
                rw [HNJ.out, HDD.out.1]
                rfl
            · have CMPF : Hid (qv < left + left) := hc
              have UPF : Hid (Up M E j) := ⟨by rw [← HLW.out.1]; exact I2.out, Or.inr (Or.inl (DR.out.1.1 CMPF.out))⟩
              clear hc
              have HDD : Hid (d = (lw + 1) ∧ Lib.nDigits d = k) := ⟨by have := HLW.out.1; rw [this]; exact STOP.out.2.2.2.1 UPF.out, STOP.out.2.2.2.2.2⟩
              have hsz : (txt (decN (lw + 1))).size = k := by rw [txt_size, decN_length, ← HDD.out.1]; exact HDD.out.2
              go_wp2_with (first | (go_at_call 87; refine cs.mono ?_; rintro e w2 ⟨x1, x2, rfl, hx1, hx2, hw2⟩; clear cs; have b2 : Below w.heap.size w w2 := hbw.trans (hw2.mono hbw.size); have cq := QU.out w2 x1 x2 hx1 hx2; clear QU) | (go_at_call 70; refine cq.mono ?_; rintro e w3 ⟨x3, rfl, hx3, hw3⟩; clear cq; have b3 : Below w.heap.size w w3 := b2.trans (hw3.mono b2.size); have na := NA.out w3; clear NA) | (go_at_call 32; refine na.mono ?_; rintro e w4 ⟨x4, rfl, hx4, hw4⟩; clear na; have b4 : Below w.heap.size w w4 := b3.trans (hw4.mono b3.size); have nb := NB.out w4; clear NB) | (go_at_call 32; refine nb.mono ?_; rintro e w5 ⟨x5, rfl, hx5, hw5⟩; clear nb; have b5 : Below w.heap.size w w5 := b4.trans (hw5.mono b4.size); have da := DA.out w5 x4 (hx4.below hw5); clear DA) | (go_at_call 88; refine da.mono ?_; rintro e w6 ⟨R1, hR1, rfl, hw6⟩; clear da; have b6 : Below w.heap.size w w6 := b5.trans (hw6.mono b5.size); have db := DB.out w6 x5 (hx5.below hw6); clear DB; have f1 := (WE.out R1 ((DI.out lw j R1 hR1).2 I1.out)); obtain ⟨f1a, f1b⟩ := f1; generalize min R1 9218868437227405312 = q1 at *) | (go_at_call 88; refine db.mono ?_; rintro e w7 ⟨R2, hR2, rfl, hw7⟩; clear db; have b7 : Below w.heap.size w w7 := b6.trans (hw7.mono b6.size); have f2 := (WE.out R2 ((DI.out (lw + 1) j R2 hR2).2 I2.out)); obtain ⟨f2a, f2b⟩ := f2; generalize min R2 9218868437227405312 = q2 at *; have ad := AD.out w7 x3 (((((hx3.below hw4).below hw5).below hw6)).below hw7); clear AD) | (go_at_call 69; refine ad.mono ?_; rintro e w8 ⟨x8, rfl, hx8, hw8⟩; clear ad; have b8 : Below w.heap.size w w8 := b7.trans (hw8.mono b7.size); have cm := CM.out w8 x8 x2 hx8 ((((((hx2.below hw3).below hw4).below hw5).below hw6).below hw7).below hw8); clear CM) | (go_at_call 67; refine cm.mono ?_; rintro e w9 ⟨c, rfl, hcmp, cn, rfl⟩; clear cm; have kc : (0 : Int) < c := hcmp.1.2 CMPF.out; clear hcmp; have b9 : Below w.heap.size w (w8.drewN cn) := below_drewN b8; have ga := GA.out (w8.drewN cn) x4 (((((hx4.below hw5).below hw6).below hw7).below hw8).drewN); clear GA) | (go_at_call 33; refine ga.mono ?_; rintro e wa ⟨rfl, hwa⟩; clear ga; have ba : Below w.heap.size w wa := b9.trans (hwa.mono b9.size); have gb := GB.out wa x5 ((((((hx5.below hw6).below hw7).below hw8).drewN)).below hwa); clear GB) | (go_at_call 33; refine gb.mono ?_; rintro e wb ⟨rfl, hwb⟩; clear gb; have bb : Below w.heap.size w wb := ba.trans (hwb.mono ba.size)))
              go_ret2
              refine ⟨?_, bb⟩
              rw [HNJ.out, HDD.out.1]
              rfl
          · have I1 : Hid (Inn (LL M E) (UU M E) (M % 2) (lw * BB j)) := i1
            have I2 : Hid (¬ Inn (LL M E) (UU M E) (M % 2) ((lw + 1) * BB j)) := i2
            have UPF : Hid (¬ Up M E j) := by
              rintro ⟨u1, _⟩
              exact I2.out (by rw [HLW.out.1]; exact u1)
            clear i1 i2 PK
            have HDD : Hid (d = lw ∧ Lib.nDigits d = k) := ⟨by have := HLW.out.1; rw [this]; exact STOP.out.2.2.2.2.1 UPF.out, STOP.out.2.2.2.2.2⟩
            have hsz : (txt (decN lw)).size = k := by rw [txt_size, decN_length, ← HDD.out.1]; exact HDD.out.2
            go_wp2_with (first | (go_at_call 87; refine cs.mono ?_; rintro e w2 ⟨x1, x2, rfl, hx1, hx2, hw2⟩; clear cs; have b2 : Below w.heap.size w w2 := hbw.trans (hw2.mono hbw.size); have cq := QU.out w2 x1 x2 hx1 hx2; clear QU) | (go_at_call 70; refine cq.mono ?_; rintro e w3 ⟨x3, rfl, hx3, hw3⟩; clear cq; have b3 : Below w.heap.size w w3 := b2.trans (hw3.mono b2.size); have na := NA.out w3; clear NA) | (go_at_call 32; refine na.mono ?_; rintro e w4 ⟨x4, rfl, hx4, hw4⟩; clear na; have b4 : Below w.heap.size w w4 := b3.trans (hw4.mono b3.size); have nb := NB.out w4; clear NB) | (go_at_call 32; refine nb.mono ?_; rintro e w5 ⟨x5, rfl, hx5, hw5⟩; clear nb; have b5 : Below w.heap.size w w5 := b4.trans (hw5.mono b4.size); have da := DA.out w5 x4 (hx4.below hw5); clear DA) | (go_at_call 88; refine da.mono ?_; rintro e w6 ⟨R1, hR1, rfl, hw6⟩; clear da; have b6 : Below w.heap.size w w6 := b5.trans (hw6.mono b5.size); have db := DB.out w6 x5 (hx5.below hw6); clear DB; have f1 := (WE.out R1 ((DI.out lw j R1 hR1).2 I1.out)); obtain ⟨f1a, f1b⟩ := f1; generalize min R1 9218868437227405312 = q1 at *) | (go_at_call 88; refine db.mono ?_; rintro e w7 ⟨R2, hR2, rfl, hw7⟩; clear db; have b7 : Below w.heap.size w w7 := b6.trans (hw7.mono b6.size); have f2 := (WN.out R2 (fun hh => I2.out ((DI.out (lw + 1) j R2 hR2).1 hh))); obtain ⟨f2a, f2b⟩ := f2; generalize min R2 9218868437227405312 = q2 at *; have ad := AD.out w7 x3 (((((hx3.below hw4).below hw5).below hw6)).below hw7); clear AD) | (go_at_call 69; refine ad.mono ?_; rintro e w8 ⟨x8, rfl, hx8, hw8⟩; clear ad; have b8 : Below w.heap.size w w8 := b7.trans (hw8.mono b7.size); have cm := CM.out w8 x8 x2 hx8 ((((((hx2.below hw3).below hw4).below hw5).below hw6).below hw7).below hw8); clear CM) | (go_at_call 67; refine cm.mono ?_; rintro e w9 ⟨c, rfl, hcmp, cn, rfl⟩; clear cm; skip; clear hcmp; have b9 : Below w.heap.size w (w8.drewN cn) := below_drewN b8; have ga := GA.out (w8.drewN cn) x4 (((((hx4.below hw5).below hw6).below hw7).below hw8).drewN); clear GA) | (go_at_call 33; refine ga.mono ?_; rintro e wa ⟨rfl, hwa⟩; clear ga; have ba : Below w.heap.size w wa := b9.trans (hwa.mono b9.size); have gb := GB.out wa x5 ((((((hx5.below hw6).below hw7).below hw8).drewN)).below hwa); clear GB) | (go_at_call 33; refine gb.mono ?_; rintro e wb ⟨rfl, hwb⟩; clear gb; have bb : Below w.heap.size w wb := ba.trans (hwb.mono ba.size)))
            go_ret2
            refine ⟨?_, ba⟩
            rw [HNJ.out, HDD.out.1]
            rfl
        · have I1 : Hid (¬ Inn (LL M E) (UU M E) (M % 2) (lw * BB j)) := i1
          have I2 : Hid (Inn (LL M E) (UU M E) (M % 2) ((lw + 1) * BB j)) := PK.resolve_left i1
          have UPF : Hid (Up M E j) := ⟨by rw [← HLW.out.1]; exact I2.out, Or.inl (by rw [← HLW.out.1]; exact I1.out)⟩
          clear i1 PK
          have HDD : Hid (d = (lw + 1) ∧ Lib.nDigits d = k) := ⟨by have := HLW.out.1; rw [this]; exact STOP.out.2.2.2.1 UPF.out, STOP.out.2.2.2.2.2⟩
          have hsz : (txt (decN (lw + 1))).size = k := by rw [txt_size, decN_length, ← HDD.out.1]; exact HDD.out.2
          go_wp2_with (first | (go_at_call 87; refine cs.mono ?_; rintro e w2 ⟨x1, x2, rfl, hx1, hx2, hw2⟩; clear cs; have b2 : Below w.heap.size w w2 := hbw.trans (hw2.mono hbw.size); have cq := QU.out w2 x1 x2 hx1 hx2; clear QU) | (go_at_call 70; refine cq.mono ?_; rintro e w3 ⟨x3, rfl, hx3, hw3⟩; clear cq; have b3 : Below w.heap.size w w3 := b2.trans (hw3.mono b2.size); have na := NA.out w3; clear NA) | (go_at_call 32; refine na.mono ?_; rintro e w4 ⟨x4, rfl, hx4, hw4⟩; clear na; have b4 : Below w.heap.size w w4 := b3.trans (hw4.mono b3.size); have nb := NB.out w4; clear NB) | (go_at_call 32; refine nb.mono ?_; rintro e w5 ⟨x5, rfl, hx5, hw5⟩; clear nb; have b5 : Below w.heap.size w w5 := b4.trans (hw5.mono b4.size); have da := DA.out w5 x4 (hx4.below hw5); clear DA) | (go_at_call 88; refine da.mono ?_; rintro e w6 ⟨R1, hR1, rfl, hw6⟩; clear da; have b6 : Below w.heap.size w w6 := b5.trans (hw6.mono b5.size); have db := DB.out w6 x5 (hx5.below hw6); clear DB; have f1 := (WN.out R1 (fun hh => I1.out ((DI.out lw j R1 hR1).1 hh))); obtain ⟨f1a, f1b⟩ := f1; generalize min R1 9218868437227405312 = q1 at *) | (go_at_call 88; refine db.mono ?_; rintro e w7 ⟨R2, hR2, rfl, hw7⟩; clear db; have b7 : Below w.heap.size w w7 := b6.trans (hw7.mono b6.size); have f2 := (WE.out R2 ((DI.out (lw + 1) j R2 hR2).2 I2.out)); obtain ⟨f2a, f2b⟩ := f2; generalize min R2 9218868437227405312 = q2 at *; have ad := AD.out w7 x3 (((((hx3.below hw4).below hw5).below hw6)).below hw7); clear AD) | (go_at_call 69; refine ad.mono ?_; rintro e w8 ⟨x8, rfl, hx8, hw8⟩; clear ad; have b8 : Below w.heap.size w w8 := b7.trans (hw8.mono b7.size); have cm := CM.out w8 x8 x2 hx8 ((((((hx2.below hw3).below hw4).below hw5).below hw6).below hw7).below hw8); clear CM) | (go_at_call 67; refine cm.mono ?_; rintro e w9 ⟨c, rfl, hcmp, cn, rfl⟩; clear cm; skip; clear hcmp; have b9 : Below w.heap.size w (w8.drewN cn) := below_drewN b8; have ga := GA.out (w8.drewN cn) x4 (((((hx4.below hw5).below hw6).below hw7).below hw8).drewN); clear GA) | (go_at_call 33; refine ga.mono ?_; rintro e wa ⟨rfl, hwa⟩; clear ga; have ba : Below w.heap.size w wa := b9.trans (hwa.mono b9.size); have gb := GB.out wa x5 ((((((hx5.below hw6).below hw7).below hw8).drewN)).below hwa); clear GB) | (go_at_call 33; refine gb.mono ?_; rintro e wb ⟨rfl, hwb⟩; clear gb; have bb : Below w.heap.size w wb := ba.trans (hwb.mono ba.size)))
          go_ret2
          refine ⟨?_, bb⟩
          rw [HNJ.out, HDD.out.1]
          rfl
      · obtain ⟨s1, s2, s3, s4, s5, s6⟩ := HF.out.ten hJ
        have hk1' : k = 1 := by omega
        have hjn : j = nn - 1 := by have := HLW.out.2.1; omega
        rw [← hjn] at s4 s5 s6
        have LW9 : Hid (lw = 9) := by have := HLW.out.1; rw [s4] at this; exact this
        have I2 : Hid (Inn (LL M E) (UU M E) (M % 2) ((lw + 1) * BB j)) := by rw [HLW.out.1]; exact s5
        have CMPF : Hid (qv < left + left) := DR.out.1.2 s6
        have HD1 : Hid (d = 1) := s3
        have HNJ : Hid ((Lib.nDigits d : Int) + (J : Int) - 400 = n + 1) := by
          have h1 : Lib.nDigits 1 = 1 := Lib.nDigits_small (by omega)
          have h2 := HLW.out.2.2.1
          show (Lib.nDigits d : Int) + (J : Int) - 400 = n + 1
          rw [s3, h1]
          omega
        have hk3 : k ≤ 1 := by omega
        clear s1 s2 s3 s4 s5 s6 hk1' hjn hks hgo hJ
        by_cases i1 : Inn (LL M E) (UU M E) (M % 2) (lw * BB j)
        · have I1 : Hid (Inn (LL M E) (UU M E) (M % 2) (lw * BB j)) := i1
          clear i1
          have hsz : (txt (decN (lw + 1))).size = 2 := by rw [txt_size, decN_length, LW9.out]; decide +kernel
          go_wp2_with (first | (go_at_call 87; refine cs.mono ?_; rintro e w2 ⟨x1, x2, rfl, hx1, hx2, hw2⟩; clear cs; have b2 : Below w.heap.size w w2 := hbw.trans (hw2.mono hbw.size); have cq := QU.out w2 x1 x2 hx1 hx2; clear QU) | (go_at_call 70; refine cq.mono ?_; rintro e w3 ⟨x3, rfl, hx3, hw3⟩; clear cq; have b3 : Below w.heap.size w w3 := b2.trans (hw3.mono b2.size); have na := NA.out w3; clear NA) | (go_at_call 32; refine na.mono ?_; rintro e w4 ⟨x4, rfl, hx4, hw4⟩; clear na; have b4 : Below w.heap.size w w4 := b3.trans (hw4.mono b3.size); have nb := NB.out w4; clear NB) | (go_at_call 32; refine nb.mono ?_; rintro e w5 ⟨x5, rfl, hx5, hw5⟩; clear nb; have b5 : Below w.heap.size w w5 := b4.trans (hw5.mono b4.size); have da := DA.out w5 x4 (hx4.below hw5); clear DA) | (go_at_call 88; refine da.mono ?_; rintro e w6 ⟨R1, hR1, rfl, hw6⟩; clear da; have b6 : Below w.heap.size w w6 := b5.trans (hw6.mono b5.size); have db := DB.out w6 x5 (hx5.below hw6); clear DB; have f1 := (WE.out R1 ((DI.out lw j R1 hR1).2 I1.out)); obtain ⟨f1a, f1b⟩ := f1; generalize min R1 9218868437227405312 = q1 at *) | (go_at_call 88; refine db.mono ?_; rintro e w7 ⟨R2, hR2, rfl, hw7⟩; clear db; have b7 : Below w.heap.size w w7 := b6.trans (hw7.mono b6.size); have f2 := (WE.out R2 ((DI.out (lw + 1) j R2 hR2).2 I2.out)); obtain ⟨f2a, f2b⟩ := f2; generalize min R2 9218868437227405312 = q2 at *; have ad := AD.out w7 x3 (((((hx3.below hw4).below hw5).below hw6)).below hw7); clear AD) | (go_at_call 69; refine ad.mono ?_; rintro e w8 ⟨x8, rfl, hx8, hw8⟩; clear ad; have b8 : Below w.heap.size w w8 := b7.trans (hw8.mono b7.size); have cm := CM.out w8 x8 x2 hx8 ((((((hx2.below hw3).below hw4).below hw5).below hw6).below hw7).below hw8); clear CM) | (go_at_call 67; refine cm.mono ?_; rintro e w9 ⟨c, rfl, hcmp, cn, rfl⟩; clear cm; have kc : (0 : Int) < c := hcmp.1.2 CMPF.out; clear hcmp; have b9 : Below w.heap.size w (w8.drewN cn) := below_drewN b8; have ga := GA.out (w8.drewN cn) x4 (((((hx4.below hw5).below hw6).below hw7).below hw8).drewN); clear GA) | (go_at_call 33; refine ga.mono ?_; rintro e wa ⟨rfl, hwa⟩; clear ga; have ba : Below w.heap.size w wa := b9.trans (hwa.mono b9.size); have gb := GB.out wa x5 ((((((hx5.below hw6).below hw7).below hw8).drewN)).below hwa); clear GB) | (go_at_call 33; refine gb.mono ?_; rintro e wb ⟨rfl, hwb⟩; clear gb; have bb : Below w.heap.size w wb := ba.trans (hwb.mono ba.size)))
          go_ret2
          refine ⟨?_, bb⟩
          rw [HNJ.out, HD1.out, decN_one]
          rfl
        · have I1 : Hid (¬ Inn (LL M E) (UU M E) (M % 2) (lw * BB j)) := i1
          clear i1
          have hsz : (txt (decN (lw + 1))).size = 2 := by rw [txt_size, decN_length, LW9.out]; decide +kernel
          go_wp2_with (first | (go_at_call 87; refine cs.mono ?_; rintro e w2 ⟨x1, x2, rfl, hx1, hx2, hw2⟩; clear cs; have b2 : Below w.heap.size w w2 := hbw.trans (hw2.mono hbw.size); have cq := QU.out w2 x1 x2 hx1 hx2; clear QU) | (go_at_call 70; refine cq.mono ?_; rintro e w3 ⟨x3, rfl, hx3, hw3⟩; clear cq; have b3 : Below w.heap.size w w3 := b2.trans (hw3.mono b2.size); have na := NA.out w3; clear NA) | (go_at_call 32; refine na.mono ?_; rintro e w4 ⟨x4, rfl, hx4, hw4⟩; clear na; have b4 : Below w.heap.size w w4 := b3.trans (hw4.mono b3.size); have nb := NB.out w4; clear NB) | (go_at_call 32; refine nb.mono ?_; rintro e w5 ⟨x5, rfl, hx5, hw5⟩; clear nb; have b5 : Below w.heap.size w w5 := b4.trans (hw5.mono b4.size); have da := DA.out w5 x4 (hx4.below hw5); clear DA) | (go_at_call 88; refine da.mono ?_; rintro e w6 ⟨R1, hR1, rfl, hw6⟩; clear da; have b6 : Below w.heap.size w w6 := b5.trans (hw6.mono b5.size); have db := DB.out w6 x5 (hx5.below hw6); clear DB; have f1 := (WN.out R1 (fun hh => I1.out ((DI.out lw j R1 hR1).1 hh))); obtain ⟨f1a, f1b⟩ := f1; generalize min R1 9218868437227405312 = q1 at *) | (go_at_call 88; refine db.mono ?_; rintro e w7 ⟨R2, hR2, rfl, hw7⟩; clear db; have b7 : Below w.heap.size w w7 := b6.trans (hw7.mono b6.size); have f2 := (WE.out R2 ((DI.out (lw + 1) j R2 hR2).2 I2.out)); obtain ⟨f2a, f2b⟩ := f2; generalize min R2 9218868437227405312 = q2 at *; have ad := AD.out w7 x3 (((((hx3.below hw4).below hw5).below hw6)).below hw7); clear AD) | (go_at_call 69; refine ad.mono ?_; rintro e w8 ⟨x8, rfl, hx8, hw8⟩; clear ad; have b8 : Below w.heap.size w w8 := b7.trans (hw8.mono b7.size); have cm := CM.out w8 x8 x2 hx8 ((((((hx2.below hw3).below hw4).below hw5).below hw6).below hw7).below hw8); clear CM) | (go_at_call 67; refine cm.mono ?_; rintro e w9 ⟨c, rfl, hcmp, cn, rfl⟩; clear cm; skip; clear hcmp; have b9 : Below w.heap.size w (w8.drewN cn) := below_drewN b8; have ga := GA.out (w8.drewN cn) x4 (((((hx4.below hw5).below hw6).below hw7).below hw8).drewN); clear GA) | (go_at_call 33; refine ga.mono ?_; rintro e wa ⟨rfl, hwa⟩; clear ga; have ba : Below w.heap.size w wa := b9.trans (hwa.mono b9.size); have gb := GB.out wa x5 ((((((hx5.below hw6).below hw7).below hw8).drewN)).below hwa); clear GB) | (go_at_call 33; refine gb.mono ?_; rintro e wb ⟨rfl, hwb⟩; clear gb; have bb : Below w.heap.size w wb := ba.trans (hwb.mono ba.size)))
          go_ret2
          refine ⟨?_, bb⟩
          rw [HNJ.out, HD1.out, decN_one]
          rfl
end Go.Proofs.YtellndmbllmjgaaGreatDoor
