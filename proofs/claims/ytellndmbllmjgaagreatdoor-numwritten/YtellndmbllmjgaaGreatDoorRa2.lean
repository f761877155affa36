/- Ratio's walk. -/
import Derived.Test.YtellndmbllmjgaaGreatDoorRa1
set_option linter.unusedVariables false
namespace Go.Proofs.YtellndmbllmjgaaGreatDoor
open Go.RowKit Go.Shelf Go.Sort Fs Fl Fl2

/-- What holds ahead of each round of Ratio. -/
def RatR (w : World) (p q t1 t2 : Nat) (ve : Value) (wr : World) : Prop :=
  ∃ (e : Int) (a : Nat), ve = .int .i64 e ∧ max e (-1074) = (a : Int) - 1074 ∧ -20000 ≤ e ∧ e < max ((t1 : Int) - t2 - 54) (-1074) + 3 ∧ Try p q a ∧ Below w.heap.size w wr
theorem cmp_zero {c : Int} {x y : Nat} (h : CmpIs c x y) (e : x = y) : c = 0 := by
  have h1 := h.1
  have h2 := h.2
  omega
theorem min_over {a n : Nat} (ha : 2046 ≤ a) (hn : 4503599627370496 ≤ n) : min (a * 4503599627370496 + n) 9218868437227405312 = 9218868437227405312 := Nat.min_eq_right (by omega)
theorem min_under {a n : Nat} (ha : a ≤ 2045) (hn : n ≤ 9007199254740992) : min (a * 4503599627370496 + n) 9218868437227405312 = a * 4503599627370496 + n := Nat.min_eq_left (by omega)
theorem rat_next {w w' : World} {p q t1 t2 a : Nat} {e e' : Int} (h : e' = (a : Int) - 1074) (he1 : -20000 ≤ e) (he2 : e < max ((t1 : Int) - t2 - 54) (-1074) + 3) (n1 : Try p q (a + 1)) (n2 : (a : Int) < (t1 : Int) - t2 + 1022) (hb : Below w.heap.size w w') (hle : e ≤ (a : Int) - 1074) :
    RatR w p q t1 t2 (.int .i64 (e' + 1)) w' ∧ (max ((t1 : Int) - t2 - 54) (-1074) + 3 - RowKit.intOf (.int .i64 (e' + 1))).toNat < (max ((t1 : Int) - t2 - 54) (-1074) + 3 - RowKit.intOf (.int .i64 e)).toNat := by
  subst h
  refine ⟨⟨_, a + 1, rfl, by omega, by omega, by omega, n1, hb⟩, ?_⟩
  simp only [RowKit.intOf]
  omega
theorem float_of (n : Nat) : floatOfInt .f64 (n : Int) = Ieee.double.nearest false n 0 := by
  have h : decide ((n : Int) < 0) = false := decide_eq_false (by omega)
  show Ieee.double.nearest (decide ((n : Int) < 0)) (n : Int).natAbs 0 = _
  rw [h, Int.natAbs_natCast]
set_option maxRecDepth 100000 in
set_option maxHeartbeats 8000000 in
theorem ratio_pos (u v : Value) (p q : Nat) (w : World) (hu : NatIs w u p) (hv : NatIs w v q) (bp : p < pw 490) (bq : q < pw 490) (hp : 0 < p) (hq : 0 < q) :
    Calls Tryz.prog 102 #[u, v] w fun e w' => ∃ R, Near p q R ∧ e = .returned (.float .f64 (min R 9218868437227405312)) ∧ Below w.heap.size w w' := by
  have cb1 := bits_any u p w hu (pw_lt bp (by omega))
  have CB2 : Hid (∀ w1, Below w.heap.size w w1 → Calls Tryz.prog 66 #[v] w1 fun e w' => ∃ t : Nat, e = .returned (.int .i64 (t : Int)) ∧ BitsIs q t ∧ t ≤ 16000 ∧ Below w1.heap.size w1 w') := fun w1 hb => bits_any v q w1 (hv.below hb) (pw_lt bq (by omega))
  have HP : Hid (p < pw 490 ∧ q < pw 490 ∧ 0 < p ∧ 0 < q) := ⟨bp, bq, hp, hq⟩
  obtain ⟨sa, sl, sc, rfl, hsl, hsl2⟩ : ∃ sa sl sc, u = .slice sa sl sc ∧ sl ≠ 0 ∧ sl ≤ 1000 := by
    obtain ⟨l, h1, h2, h3⟩ := hu
    obtain ⟨a, c, e⟩ := h1.slice
    refine ⟨a, l.length, c, e, ?_, len_le h2 (by rw [h3]; exact pw_lt bp (by omega))⟩
    intro h0
    have : l = [] := List.eq_nil_of_length_eq_zero h0
    rw [this] at h3
    simp [val] at h3
    omega
  have t0 : ((sl : Int) == 0) = false := by rw [beq_eq_false_iff_ne]; omega
  clear bp bq hp hq hsl
  go_enter Tryz.func102, Tryz.ntmps102
  go_wp2_with (first | (go_at_call 66; refine cb1.mono ?_; rintro e w1 ⟨t1, rfl, hb1, ht1, hw1⟩; clear cb1; have cb2 := CB2.out w1 hw1; clear CB2) | (go_at_call 66; refine cb2.mono ?_; rintro e w2 ⟨t2, rfl, hb2, ht2, hw2⟩; clear cb2))
  have hw12 : Below w.heap.size w w2 := hw1.trans (hw2.mono hw1.size)
  obtain ⟨g1, g2, g3⟩ : 1 ≤ t1 ∧ 2 ^ (t1 - 1) ≤ p ∧ p < 2 ^ t1 := by
    rcases hb1 with h | h
    · have := HP.out.2.2.1; omega
    · exact h
  obtain ⟨f1, f2, f3⟩ : 1 ≤ t2 ∧ 2 ^ (t2 - 1) ≤ q ∧ q < 2 ^ t2 := by
    rcases hb2 with h | h
    · have := HP.out.2.2.2; omega
    · exact h
  have HG : Hid (2 ^ (t1 - 1) ≤ p ∧ p < 2 ^ t1 ∧ 2 ^ (t2 - 1) ≤ q ∧ q < 2 ^ t2) := ⟨g2, g3, f2, f3⟩
  clear g2 g3 f2 f3 hb1 hb2
  go_loopw [5] (fun ve wr => RatR w p q t1 t2 ve wr) (fun ve _ => (max ((t1 : Int) - t2 - 54) (-1074) + 3 - RowKit.intOf ve).toNat)
  case atStart => exact ⟨_, (max ((t1 : Int) - t2 + 1020) 0).toNat, rfl, by omega, by omega, by omega, try_first HG.out.1 HG.out.2.1 HG.out.2.2.1 HG.out.2.2.2 g1 f1 _ (by omega), hw12⟩
  case round =>
    obtain ⟨e, a, rfl, hmax, he1, he2, htry, hbw⟩ := hrel
    obtain ⟨p1, p2, p3, p4⟩ := try_pw HP.out.2.2.2 HP.out.1 HP.out.2.1 htry
    have hal := try_end2 HP.out.2.2.2 HP.out.1 htry
    have hBpos := BQ_pos a HP.out.2.2.2
    have HN := (show Hid _ from fun n (h1 : 9007199254740992 > AA p a / BQ q a) => near_of (p := p) (e := a) (n := n) HP.out.2.2.2 hBpos (Nat.div_add_mod' (AA p a) (BQ q a)).symm (Nat.mod_lt _ hBpos) (ab_rel p q a) h1 (try_low HP.out.2.2.2 htry))
    have hur := hu.below hbw
    have hvr := hv.below hbw
    -- what is called, at this power
    have QU := (show Hid _ from fun (w1 : World) (x y : Value) (hx : NatIs w1 x (AA p a)) (hy : NatIs w1 y (BQ q a)) => quo_any x y (AA p a) (BQ q a) w1 hx hy p1 p2 hBpos (try_quo HP.out.2.2.2 htry))
    have hl9 : AA p a % BQ q a < pw 900 := Nat.lt_trans (Nat.mod_lt _ hBpos) p2
    have AD := (show Hid _ from fun (w1 : World) (x : Value) (hx : NatIs w1 x (AA p a % BQ q a)) => add_any x x _ _ w1 hx hx (pw_lt hl9 (by omega)) (pw_lt hl9 (by omega)))
    have h2l : AA p a % BQ q a + AA p a % BQ q a < pw 1000 := by
      have := pw_lt_mul (a := 2) (m := 1) (n := 900) (k := 1000) (by decide) hl9 (by omega)
      omega
    have CM := (show Hid _ from fun (w1 : World) (x y : Value) (hx : NatIs w1 x (AA p a % BQ q a + AA p a % BQ q a)) (hy : NatIs w1 y (BQ q a)) => cmp_any x y _ _ w1 hx hy h2l (pw_lt p2 (by omega)))
    have LD := (show Hid _ from fun n (h1 : n ≤ 9007199254740992) (h2 : 4503599627370496 ≤ n ∨ a = 0) (h3 : a ≤ 2045) (w1 : World) => Ldexp_whole n a h1 h2 h3 w1)
    have c48 := inf_any
    have GO := (show Hid _ from fun (h : 9007199254740992 ≤ AA p a / BQ q a) => (⟨htry.next (try_ge HP.out.2.2.2 h), try_end HG.out.2.1 HG.out.2.2.1 f1 (try_ge HP.out.2.2.2 h)⟩ : Try p q (a + 1) ∧ (a : Int) < (t1 : Int) - t2 + 1022))
    have LOW : Hid (4503599627370496 ≤ AA p a / BQ q a ∨ a = 0) := try_low HP.out.2.2.2 htry
    have N61 : AA p a / BQ q a < 36028797018963968 := by
      rw [Nat.div_lt_iff_lt_mul hBpos]
      exact htry.up
    have P3 : Hid (2 ^ (1074 - a) < pw 500 ∧ 2 ^ (a - 1074) < pw 500) := ⟨p3, p4⟩
    have HU : Hid (NatIs w (.slice sa sl sc) p ∧ NatIs w v q) := ⟨hu, hv⟩
    clear p1 p2 p3 p4 htry hl9 h2l hu hv hw12 hw1 hw2 hBpos
    obtain ⟨N, hN⟩ : ∃ N, N = AA p a / BQ q a := ⟨_, rfl⟩
    obtain ⟨left, hleft⟩ : ∃ left, left = AA p a % BQ q a := ⟨_, rfl⟩
    rw [← hN] at HN QU GO LOW N61
    rw [← hleft] at HN QU AD CM
    clear hN hleft
    obtain ⟨z, hz⟩ : ∃ z : Int, (N : Int) = z := ⟨_, rfl⟩
    rw [hz] at QU
    have HZ : Hid ((N : Int) = z) := hz
    have hz0 : 0 ≤ z := by omega
    have hz1 : z < 36028797018963968 := by omega
    clear hz
    rcases Int.lt_or_le e (-1074) with hlt | hge
    · skip
      have ha0 : a = 0 := by omega
      have haL : a ≤ 2045 := by omega
      have k1 : e < -1074 := by omega
      obtain ⟨TT, hTT⟩ : ∃ TT, TT = 2 ^ (1074 - a) := ⟨_, rfl⟩
      have hT5 : TT < pw 500 := by rw [hTT]; exact P3.out.1
      have CPB : Hid (∀ w1, Calls Tryz.prog 64 #[.int .u64 2, .int .i64 (1074)] w1 fun e w' => ∃ v, e = .returned v ∧ NatIs w' v TT ∧ Below w1.heap.size w1 w') := by
        intro w1
        have h := power_any 2 ((1074 - a : Nat) : Int) (by omega) (by omega) (by omega) (by omega) (by rw [Int.toNat_natCast]; exact P3.out.1) w1
        rw [Int.toNat_natCast, ← hTT, show ((1074 - a : Nat) : Int) = 1074 by omega] at h
        exact h
      have cpA := power_any 2 (-1074) (by omega) (by omega) (by omega) (by omega) (by rw [show (-1074 : Int).toNat = 0 by omega, Nat.pow_zero]; exact Nat.lt_of_lt_of_le (by decide : 1 < pw 1) (pw_mono (by omega))) wr
      have eA : AA p a = p * TT := by unfold AA; rw [hTT]
      have eB : BQ q a = q := by unfold BQ; rw [show a - 1074 = 0 by omega, Nat.pow_zero, Nat.mul_one]
      have CMU := (show Hid _ from fun (w1 : World) (x : Value) (hx : NatIs w1 x TT) (h : Below wr.heap.size wr w1) => mul_any (.slice sa sl sc) x p TT w1 (hur.below h) hx (pw_lt HP.out.1 (by omega)) (pw_lt hT5 (by omega)))
      have eE : (a : Int) - 1074 = -1074 := by omega
      rw [eA, eB] at QU
      rw [eB] at CM HN
      rw [eE] at LD
      have HEE : Hid (-1074 = (a : Int) - 1074) := eE.symm
      have HE : Hid (e ≤ (a : Int) - 1074) := (by omega : e ≤ (a : Int) - 1074)
      clear hTT hT5 eE eA eB ha0 hmax
      by_cases h53 : 9007199254740992 ≤ N
      · have k3 : (9007199254740992 : Int) ≤ z := by have := HZ.out; omega
        clear LD HN CM LOW
        go_wp2_with (first | (go_at_call 64; refine cpA.mono ?_; rintro e w3 ⟨x3, rfl, hx3, hw3⟩; clear cpA; have cpB := CPB.out w3; clear CPB) | (go_at_call 64; refine cpB.mono ?_; rintro e w4 ⟨x4, rfl, hx4, hw4⟩; clear cpB; have hw34 : Below wr.heap.size wr w4 := hw3.trans (hw4.mono hw3.size); have cmu := CMU.out w4 x4 hx4 hw34; clear CMU) | (go_at_call 65; refine cmu.mono ?_; rintro e w5 ⟨x5, rfl, hx5, hw5⟩; clear cmu; have hw35 : Below wr.heap.size wr w5 := hw34.trans (hw5.mono hw34.size); have cqu := QU.out w5 x5 v hx5 (hvr.below hw35); clear QU) | (go_at_call 70; refine cqu.mono ?_; rintro e w6 ⟨x6, rfl, hx6, hw6⟩; clear cqu; have hw36 : Below wr.heap.size wr w6 := hw35.trans (hw6.mono hw35.size); have cad := AD.out w6 x6 hx6; clear AD))
        obtain ⟨n1, n2⟩ := GO.out h53
        exact rat_next HEE.out he1 he2 n1 n2 (hbw.trans (hw36.mono hbw.size)) HE.out
      · have k3 : ¬ (9007199254740992 : Int) ≤ z := by have := HZ.out; omega
        rcases Nat.lt_trichotomy (left + left) (q) with HLT | HLT | HLT
        · have HLT : Hid (left + left < q) := HLT
          obtain ⟨R, hR⟩ : ∃ R, R = a * 4503599627370496 + (N) := ⟨_, rfl⟩
          have cld : ∀ w1, Calls Tryz.prog 146 #[.float .f64 (floatOfInt .f64 (z)), .int .i64 (-1074)] w1 fun ee w' => ee = .returned (.float .f64 R) ∧ w' = w1 := by
            have h := LD.out (N) (by omega) (by have := LOW.out; omega) (by omega)
            rw [← hR, ← float_of, show (((N : Nat)) : Int) = z by have := HZ.out; omega] at h
            exact h
          have HNR : Hid (Near p q R) := by
            have h := HN.out (N) (by omega) (by have := HLT.out; omega)
            rw [← hR] at h
            exact h
          have HMIN : Hid (min R 9218868437227405312 = R) := by rw [hR]; exact min_under (by omega) (by omega)
          clear LD HN GO LOW hR
          go_wp2_with (first | (go_at_call 64; refine cpA.mono ?_; rintro e w3 ⟨x3, rfl, hx3, hw3⟩; clear cpA; have cpB := CPB.out w3; clear CPB) | (go_at_call 64; refine cpB.mono ?_; rintro e w4 ⟨x4, rfl, hx4, hw4⟩; clear cpB; have hw34 : Below wr.heap.size wr w4 := hw3.trans (hw4.mono hw3.size); have cmu := CMU.out w4 x4 hx4 hw34; clear CMU) | (go_at_call 65; refine cmu.mono ?_; rintro e w5 ⟨x5, rfl, hx5, hw5⟩; clear cmu; have hw35 : Below wr.heap.size wr w5 := hw34.trans (hw5.mono hw34.size); have cqu := QU.out w5 x5 v hx5 (hvr.below hw35); clear QU) | (go_at_call 70; refine cqu.mono ?_; rintro e w6 ⟨x6, rfl, hx6, hw6⟩; clear cqu; have hw36 : Below wr.heap.size wr w6 := hw35.trans (hw6.mono hw35.size); have cad := AD.out w6 x6 hx6; clear AD) | (go_at_call 69; refine cad.mono ?_; rintro e w7 ⟨x7, rfl, hx7, hw7⟩; clear cad; have hw37 : Below wr.heap.size wr w7 := hw36.trans (hw7.mono hw36.size); have ccm := CM.out w7 x7 v hx7 (hvr.below hw37); clear CM) | (go_at_call 67; refine ccm.mono ?_; rintro e w8 ⟨c, rfl, hcmp, nn, rfl⟩; have kc : c < 0 := hcmp.2.2 HLT.out; have kc2 : ¬ (0 : Int) < c := (by omega); clear ccm hcmp) | (go_at_call 146; refine (cld _).mono ?_; rintro e w9 ⟨rfl, rfl⟩; clear cld))
          go_ret
          have hw38 : Below wr.heap.size wr (w7.drewN nn) := below_drewN hw37
          refine ⟨_, HNR.out, ?_, hbw.trans (hw38.mono hbw.size)⟩
          rw [HMIN.out]
          rfl
        · have HLT : Hid (left + left = q) := HLT
          rcases Nat.mod_two_eq_zero_or_one N with hpar | hpar
          · skip
            have kp : (z % 2 == 1) = false := by have := HZ.out; rw [beq_eq_false_iff_ne]; omega
            obtain ⟨R, hR⟩ : ∃ R, R = a * 4503599627370496 + (N) := ⟨_, rfl⟩
            have cld : ∀ w1, Calls Tryz.prog 146 #[.float .f64 (floatOfInt .f64 (z)), .int .i64 (-1074)] w1 fun ee w' => ee = .returned (.float .f64 R) ∧ w' = w1 := by
              have h := LD.out (N) (by omega) (by have := LOW.out; omega) (by omega)
              rw [← hR, ← float_of, show (((N : Nat)) : Int) = z by have := HZ.out; omega] at h
              exact h
            have HNR : Hid (Near p q R) := by
              have h := HN.out (N) (by omega) (by have := HLT.out; omega)
              rw [← hR] at h
              exact h
            have HMIN : Hid (min R 9218868437227405312 = R) := by rw [hR]; exact min_under (by omega) (by omega)
            clear LD HN GO LOW hR
            go_wp2_with (first | (go_at_call 64; refine cpA.mono ?_; rintro e w3 ⟨x3, rfl, hx3, hw3⟩; clear cpA; have cpB := CPB.out w3; clear CPB) | (go_at_call 64; refine cpB.mono ?_; rintro e w4 ⟨x4, rfl, hx4, hw4⟩; clear cpB; have hw34 : Below wr.heap.size wr w4 := hw3.trans (hw4.mono hw3.size); have cmu := CMU.out w4 x4 hx4 hw34; clear CMU) | (go_at_call 65; refine cmu.mono ?_; rintro e w5 ⟨x5, rfl, hx5, hw5⟩; clear cmu; have hw35 : Below wr.heap.size wr w5 := hw34.trans (hw5.mono hw34.size); have cqu := QU.out w5 x5 v hx5 (hvr.below hw35); clear QU) | (go_at_call 70; refine cqu.mono ?_; rintro e w6 ⟨x6, rfl, hx6, hw6⟩; clear cqu; have hw36 : Below wr.heap.size wr w6 := hw35.trans (hw6.mono hw35.size); have cad := AD.out w6 x6 hx6; clear AD) | (go_at_call 69; refine cad.mono ?_; rintro e w7 ⟨x7, rfl, hx7, hw7⟩; clear cad; have hw37 : Below wr.heap.size wr w7 := hw36.trans (hw7.mono hw36.size); have ccm := CM.out w7 x7 v hx7 (hvr.below hw37); clear CM) | (go_at_call 67; refine ccm.mono ?_; rintro e w8 ⟨c, rfl, hcmp, nn, rfl⟩; obtain rfl : c = 0 := cmp_zero hcmp HLT.out; clear ccm hcmp) | (go_at_call 146; refine (cld _).mono ?_; rintro e w9 ⟨rfl, rfl⟩; clear cld))
            go_ret
            have hw38 : Below wr.heap.size wr (w7.drewN nn) := below_drewN hw37
            refine ⟨_, HNR.out, ?_, hbw.trans (hw38.mono hbw.size)⟩
            rw [HMIN.out]
            rfl
          · skip
            have kp : (z % 2 == 1) = true := by have := HZ.out; rw [beq_iff_eq]; omega
            obtain ⟨R, hR⟩ : ∃ R, R = a * 4503599627370496 + (N + 1) := ⟨_, rfl⟩
            have cld : ∀ w1, Calls Tryz.prog 146 #[.float .f64 (floatOfInt .f64 (z + 1)), .int .i64 (-1074)] w1 fun ee w' => ee = .returned (.float .f64 R) ∧ w' = w1 := by
              have h := LD.out (N + 1) (by omega) (by have := LOW.out; omega) (by omega)
              rw [← hR, ← float_of, show (((N + 1 : Nat)) : Int) = z + 1 by have := HZ.out; omega] at h
              exact h
            have HNR : Hid (Near p q R) := by
              have h := HN.out (N + 1) (by omega) (by have := HLT.out; omega)
              rw [← hR] at h
              exact h
            have HMIN : Hid (min R 9218868437227405312 = R) := by rw [hR]; exact min_under (by omega) (by omega)
            clear LD HN GO LOW hR
            go_wp2_with (first | (go_at_call 64; refine cpA.mono ?_; rintro e w3 ⟨x3, rfl, hx3, hw3⟩; clear cpA; have cpB := CPB.out w3; clear CPB) | (go_at_call 64; refine cpB.mono ?_; rintro e w4 ⟨x4, rfl, hx4, hw4⟩; clear cpB; have hw34 : Below wr.heap.size wr w4 := hw3.trans (hw4.mono hw3.size); have cmu := CMU.out w4 x4 hx4 hw34; clear CMU) | (go_at_call 65; refine cmu.mono ?_; rintro e w5 ⟨x5, rfl, hx5, hw5⟩; clear cmu; have hw35 : Below wr.heap.size wr w5 := hw34.trans (hw5.mono hw34.size); have cqu := QU.out w5 x5 v hx5 (hvr.below hw35); clear QU) | (go_at_call 70; refine cqu.mono ?_; rintro e w6 ⟨x6, rfl, hx6, hw6⟩; clear cqu; have hw36 : Below wr.heap.size wr w6 := hw35.trans (hw6.mono hw35.size); have cad := AD.out w6 x6 hx6; clear AD) | (go_at_call 69; refine cad.mono ?_; rintro e w7 ⟨x7, rfl, hx7, hw7⟩; clear cad; have hw37 : Below wr.heap.size wr w7 := hw36.trans (hw7.mono hw36.size); have ccm := CM.out w7 x7 v hx7 (hvr.below hw37); clear CM) | (go_at_call 67; refine ccm.mono ?_; rintro e w8 ⟨c, rfl, hcmp, nn, rfl⟩; obtain rfl : c = 0 := cmp_zero hcmp HLT.out; clear ccm hcmp) | (go_at_call 146; refine (cld _).mono ?_; rintro e w9 ⟨rfl, rfl⟩; clear cld))
            go_ret
            have hw38 : Below wr.heap.size wr (w7.drewN nn) := below_drewN hw37
            refine ⟨_, HNR.out, ?_, hbw.trans (hw38.mono hbw.size)⟩
            rw [HMIN.out]
            rfl
        · have HLT : Hid (q < left + left) := HLT
          obtain ⟨R, hR⟩ : ∃ R, R = a * 4503599627370496 + (N + 1) := ⟨_, rfl⟩
          have cld : ∀ w1, Calls Tryz.prog 146 #[.float .f64 (floatOfInt .f64 (z + 1)), .int .i64 (-1074)] w1 fun ee w' => ee = .returned (.float .f64 R) ∧ w' = w1 := by
            have h := LD.out (N + 1) (by omega) (by have := LOW.out; omega) (by omega)
            rw [← hR, ← float_of, show (((N + 1 : Nat)) : Int) = z + 1 by have := HZ.out; omega] at h
            exact h
          have HNR : Hid (Near p q R) := by
            have h := HN.out (N + 1) (by omega) (by have := HLT.out; omega)
            rw [← hR] at h
            exact h
          have HMIN : Hid (min R 9218868437227405312 = R) := by rw [hR]; exact min_under (by omega) (by omega)
          clear LD HN GO LOW hR
          go_wp2_with (first | (go_at_call 64; refine cpA.mono ?_; rintro e w3 ⟨x3, rfl, hx3, hw3⟩; clear cpA; have cpB := CPB.out w3; clear CPB) | (go_at_call 64; refine cpB.mono ?_; rintro e w4 ⟨x4, rfl, hx4, hw4⟩; clear cpB; have hw34 : Below wr.heap.size wr w4 := hw3.trans (hw4.mono hw3.size); have cmu := CMU.out w4 x4 hx4 hw34; clear CMU) | (go_at_call 65; refine cmu.mono ?_; rintro e w5 ⟨x5, rfl, hx5, hw5⟩; clear cmu; have hw35 : Below wr.heap.size wr w5 := hw34.trans (hw5.mono hw34.size); have cqu := QU.out w5 x5 v hx5 (hvr.below hw35); clear QU) | (go_at_call 70; refine cqu.mono ?_; rintro e w6 ⟨x6, rfl, hx6, hw6⟩; clear cqu; have hw36 : Below wr.heap.size wr w6 := hw35.trans (hw6.mono hw35.size); have cad := AD.out w6 x6 hx6; clear AD) | (go_at_call 69; refine cad.mono ?_; rintro e w7 ⟨x7, rfl, hx7, hw7⟩; clear cad; have hw37 : Below wr.heap.size wr w7 := hw36.trans (hw7.mono hw36.size); have ccm := CM.out w7 x7 v hx7 (hvr.below hw37); clear CM) | (go_at_call 67; refine ccm.mono ?_; rintro e w8 ⟨c, rfl, hcmp, nn, rfl⟩; have kc : (0 : Int) < c := hcmp.1.2 HLT.out; clear ccm hcmp) | (go_at_call 146; refine (cld _).mono ?_; rintro e w9 ⟨rfl, rfl⟩; clear cld))
          go_ret
          have hw38 : Below wr.heap.size wr (w7.drewN nn) := below_drewN hw37
          refine ⟨_, HNR.out, ?_, hbw.trans (hw38.mono hbw.size)⟩
          rw [HMIN.out]
          rfl
    · rcases Nat.lt_or_ge a 1074 with h74 | h74
      · -- below 0
        obtain ⟨b, hb⟩ : ∃ b : Nat, 1074 - a = b := ⟨_, rfl⟩
        have eb : e = -(b : Int) := by omega
        subst eb
        have hb0 : 0 < b := by omega
        have hbm : b ≤ 1074 := by omega
        have k1 : ¬ -(b : Int) < -1074 := by omega
        have k2 : -(b : Int) < 0 := by omega
        have k4 : ¬ (971 : Int) < -(b : Int) := by omega
        have haL : a ≤ 2045 := by omega
        obtain ⟨TT, hTT⟩ : ∃ TT, TT = 2 ^ (1074 - a) := ⟨_, rfl⟩
        have hT5 : TT < pw 500 := by rw [hTT]; exact P3.out.1
        have CPB : Hid (∀ w1, Calls Tryz.prog 64 #[.int .u64 2, .int .i64 ((b : Int))] w1 fun e w' => ∃ v, e = .returned v ∧ NatIs w' v TT ∧ Below w1.heap.size w1 w') := by
          intro w1
          have h := power_any 2 ((1074 - a : Nat) : Int) (by omega) (by omega) (by omega) (by omega) (by rw [Int.toNat_natCast]; exact P3.out.1) w1
          rw [Int.toNat_natCast, ← hTT, show ((1074 - a : Nat) : Int) = (b : Int) by omega] at h
          exact h
        have cpA := power_any 2 (-(b : Int)) (by omega) (by omega) (by omega) (by omega) (by rw [show (-(b : Int) : Int).toNat = 0 by omega, Nat.pow_zero]; exact Nat.lt_of_lt_of_le (by decide : 1 < pw 1) (pw_mono (by omega))) wr
        have eA : AA p a = p * TT := by unfold AA; rw [hTT]
        have eB : BQ q a = q := by unfold BQ; rw [show a - 1074 = 0 by omega, Nat.pow_zero, Nat.mul_one]
        have CMU := (show Hid _ from fun (w1 : World) (x : Value) (hx : NatIs w1 x TT) (h : Below wr.heap.size wr w1) => mul_any (.slice sa sl sc) x p TT w1 (hur.below h) hx (pw_lt HP.out.1 (by omega)) (pw_lt hT5 (by omega)))
        have eE : (a : Int) - 1074 = -(b : Int) := by omega
        rw [eA, eB] at QU
        rw [eB] at CM HN
        rw [eE] at LD
        have HEE : Hid (-(b : Int) = (a : Int) - 1074) := eE.symm
        have HE : Hid (-(b : Int) ≤ (a : Int) - 1074) := (by omega : -(b : Int) ≤ (a : Int) - 1074)
        clear hTT hT5 eE eA eB hb hmax
        by_cases h53 : 9007199254740992 ≤ N
        · have k3 : (9007199254740992 : Int) ≤ z := by have := HZ.out; omega
          clear LD HN CM LOW
          go_wp2_with (first | (go_at_call 64; refine cpA.mono ?_; rintro e w3 ⟨x3, rfl, hx3, hw3⟩; clear cpA; have cpB := CPB.out w3; clear CPB) | (go_at_call 64; refine cpB.mono ?_; rintro e w4 ⟨x4, rfl, hx4, hw4⟩; clear cpB; have hw34 : Below wr.heap.size wr w4 := hw3.trans (hw4.mono hw3.size); have cmu := CMU.out w4 x4 hx4 hw34; clear CMU) | (go_at_call 65; refine cmu.mono ?_; rintro e w5 ⟨x5, rfl, hx5, hw5⟩; clear cmu; have hw35 : Below wr.heap.size wr w5 := hw34.trans (hw5.mono hw34.size); have cqu := QU.out w5 x5 v hx5 (hvr.below hw35); clear QU) | (go_at_call 70; refine cqu.mono ?_; rintro e w6 ⟨x6, rfl, hx6, hw6⟩; clear cqu; have hw36 : Below wr.heap.size wr w6 := hw35.trans (hw6.mono hw35.size); have cad := AD.out w6 x6 hx6; clear AD))
          obtain ⟨n1, n2⟩ := GO.out h53
          exact rat_next HEE.out he1 he2 n1 n2 (hbw.trans (hw36.mono hbw.size)) HE.out
        · have k3 : ¬ (9007199254740992 : Int) ≤ z := by have := HZ.out; omega
          rcases Nat.lt_trichotomy (left + left) (q) with HLT | HLT | HLT
          · have HLT : Hid (left + left < q) := HLT
            obtain ⟨R, hR⟩ : ∃ R, R = a * 4503599627370496 + (N) := ⟨_, rfl⟩
            have cld : ∀ w1, Calls Tryz.prog 146 #[.float .f64 (floatOfInt .f64 (z)), .int .i64 (-(b : Int))] w1 fun ee w' => ee = .returned (.float .f64 R) ∧ w' = w1 := by
              have h := LD.out (N) (by omega) (by have := LOW.out; omega) (by omega)
              rw [← hR, ← float_of, show (((N : Nat)) : Int) = z by have := HZ.out; omega] at h
              exact h
            have HNR : Hid (Near p q R) := by
              have h := HN.out (N) (by omega) (by have := HLT.out; omega)
              rw [← hR] at h
              exact h
            have HMIN : Hid (min R 9218868437227405312 = R) := by rw [hR]; exact min_under (by omega) (by omega)
            clear LD HN GO LOW hR
            go_wp2_with (first | (go_at_call 64; refine cpA.mono ?_; rintro e w3 ⟨x3, rfl, hx3, hw3⟩; clear cpA; have cpB := CPB.out w3; clear CPB) | (go_at_call 64; refine cpB.mono ?_; rintro e w4 ⟨x4, rfl, hx4, hw4⟩; clear cpB; have hw34 : Below wr.heap.size wr w4 := hw3.trans (hw4.mono hw3.size); have cmu := CMU.out w4 x4 hx4 hw34; clear CMU) | (go_at_call 65; refine cmu.mono ?_; rintro e w5 ⟨x5, rfl, hx5, hw5⟩; clear cmu; have hw35 : Below wr.heap.size wr w5 := hw34.trans (hw5.mono hw34.size); have cqu := QU.out w5 x5 v hx5 (hvr.below hw35); clear QU) | (go_at_call 70; refine cqu.mono ?_; rintro e w6 ⟨x6, rfl, hx6, hw6⟩; clear cqu; have hw36 : Below wr.heap.size wr w6 := hw35.trans (hw6.mono hw35.size); have cad := AD.out w6 x6 hx6; clear AD) | (go_at_call 69; refine cad.mono ?_; rintro e w7 ⟨x7, rfl, hx7, hw7⟩; clear cad; have hw37 : Below wr.heap.size wr w7 := hw36.trans (hw7.mono hw36.size); have ccm := CM.out w7 x7 v hx7 (hvr.below hw37); clear CM) | (go_at_call 67; refine ccm.mono ?_; rintro e w8 ⟨c, rfl, hcmp, nn, rfl⟩; have kc : c < 0 := hcmp.2.2 HLT.out; have kc2 : ¬ (0 : Int) < c := (by omega); clear ccm hcmp) | (go_at_call 146; refine (cld _).mono ?_; rintro e w9 ⟨rfl, rfl⟩; clear cld))
            go_ret
            have hw38 : Below wr.heap.size wr (w7.drewN nn) := below_drewN hw37
            refine ⟨_, HNR.out, ?_, hbw.trans (hw38.mono hbw.size)⟩
            rw [HMIN.out]
            rfl
          · have HLT : Hid (left + left = q) := HLT
            rcases Nat.mod_two_eq_zero_or_one N with hpar | hpar
            · skip
              have kp : (z % 2 == 1) = false := by have := HZ.out; rw [beq_eq_false_iff_ne]; omega
              obtain ⟨R, hR⟩ : ∃ R, R = a * 4503599627370496 + (N) := ⟨_, rfl⟩
              have cld : ∀ w1, Calls Tryz.prog 146 #[.float .f64 (floatOfInt .f64 (z)), .int .i64 (-(b : Int))] w1 fun ee w' => ee = .returned (.float .f64 R) ∧ w' = w1 := by
                have h := LD.out (N) (by omega) (by have := LOW.out; omega) (by omega)
                rw [← hR, ← float_of, show (((N : Nat)) : Int) = z by have := HZ.out; omega] at h
                exact h
              have HNR : Hid (Near p q R) := by
                have h := HN.out (N) (by omega) (by have := HLT.out; omega)
                rw [← hR] at h
                exact h
              have HMIN : Hid (min R 9218868437227405312 = R) := by rw [hR]; exact min_under (by omega) (by omega)
              clear LD HN GO LOW hR
              go_wp2_with (first | (go_at_call 64; refine cpA.mono ?_; rintro e w3 ⟨x3, rfl, hx3, hw3⟩; clear cpA; have cpB := CPB.out w3; clear CPB) | (go_at_call 64; refine cpB.mono ?_; rintro e w4 ⟨x4, rfl, hx4, hw4⟩; clear cpB; have hw34 : Below wr.heap.size wr w4 := hw3.trans (hw4.mono hw3.size); have cmu := CMU.out w4 x4 hx4 hw34; clear CMU) | (go_at_call 65; refine cmu.mono ?_; rintro e w5 ⟨x5, rfl, hx5, hw5⟩; clear cmu; have hw35 : Below wr.heap.size wr w5 := hw34.trans (hw5.mono hw34.size); have cqu := QU.out w5 x5 v hx5 (hvr.below hw35); clear QU) | (go_at_call 70; refine cqu.mono ?_; rintro e w6 ⟨x6, rfl, hx6, hw6⟩; clear cqu; have hw36 : Below wr.heap.size wr w6 := hw35.trans (hw6.mono hw35.size); have cad := AD.out w6 x6 hx6; clear AD) | (go_at_call 69; refine cad.mono ?_; rintro e w7 ⟨x7, rfl, hx7, hw7⟩; clear cad; have hw37 : Below wr.heap.size wr w7 := hw36.trans (hw7.mono hw36.size); have ccm := CM.out w7 x7 v hx7 (hvr.below hw37); clear CM) | (go_at_call 67; refine ccm.mono ?_; rintro e w8 ⟨c, rfl, hcmp, nn, rfl⟩; obtain rfl : c = 0 := cmp_zero hcmp HLT.out; clear ccm hcmp) | (go_at_call 146; refine (cld _).mono ?_; rintro e w9 ⟨rfl, rfl⟩; clear cld))
              go_ret
              have hw38 : Below wr.heap.size wr (w7.drewN nn) := below_drewN hw37
              refine ⟨_, HNR.out, ?_, hbw.trans (hw38.mono hbw.size)⟩
              rw [HMIN.out]
              rfl
            · skip
              have kp : (z % 2 == 1) = true := by have := HZ.out; rw [beq_iff_eq]; omega
              obtain ⟨R, hR⟩ : ∃ R, R = a * 4503599627370496 + (N + 1) := ⟨_, rfl⟩
              have cld : ∀ w1, Calls Tryz.prog 146 #[.float .f64 (floatOfInt .f64 (z + 1)), .int .i64 (-(b : Int))] w1 fun ee w' => ee = .returned (.float .f64 R) ∧ w' = w1 := by
                have h := LD.out (N + 1) (by omega) (by have := LOW.out; omega) (by omega)
                rw [← hR, ← float_of, show (((N + 1 : Nat)) : Int) = z + 1 by have := HZ.out; omega] at h
                exact h
              have HNR : Hid (Near p q R) := by
                have h := HN.out (N + 1) (by omega) (by have := HLT.out; omega)
                rw [← hR] at h
                exact h
              have HMIN : Hid (min R 9218868437227405312 = R) := by rw [hR]; exact min_under (by omega) (by omega)
              clear LD HN GO LOW hR
              go_wp2_with (first | (go_at_call 64; refine cpA.mono ?_; rintro e w3 ⟨x3, rfl, hx3, hw3⟩; clear cpA; have cpB := CPB.out w3; clear CPB) | (go_at_call 64; refine cpB.mono ?_; rintro e w4 ⟨x4, rfl, hx4, hw4⟩; clear cpB; have hw34 : Below wr.heap.size wr w4 := hw3.trans (hw4.mono hw3.size); have cmu := CMU.out w4 x4 hx4 hw34; clear CMU) | (go_at_call 65; refine cmu.mono ?_; rintro e w5 ⟨x5, rfl, hx5, hw5⟩; clear cmu; have hw35 : Below wr.heap.size wr w5 := hw34.trans (hw5.mono hw34.size); have cqu := QU.out w5 x5 v hx5 (hvr.below hw35); clear QU) | (go_at_call 70; refine cqu.mono ?_; rintro e w6 ⟨x6, rfl, hx6, hw6⟩; clear cqu; have hw36 : Below wr.heap.size wr w6 := hw35.trans (hw6.mono hw35.size); have cad := AD.out w6 x6 hx6; clear AD) | (go_at_call 69; refine cad.mono ?_; rintro e w7 ⟨x7, rfl, hx7, hw7⟩; clear cad; have hw37 : Below wr.heap.size wr w7 := hw36.trans (hw7.mono hw36.size); have ccm := CM.out w7 x7 v hx7 (hvr.below hw37); clear CM) | (go_at_call 67; refine ccm.mono ?_; rintro e w8 ⟨c, rfl, hcmp, nn, rfl⟩; obtain rfl : c = 0 := cmp_zero hcmp HLT.out; clear ccm hcmp) | (go_at_call 146; refine (cld _).mono ?_; rintro e w9 ⟨rfl, rfl⟩; clear cld))
              go_ret
              have hw38 : Below wr.heap.size wr (w7.drewN nn) := below_drewN hw37
              refine ⟨_, HNR.out, ?_, hbw.trans (hw38.mono hbw.size)⟩
              rw [HMIN.out]
              rfl
          · have HLT : Hid (q < left + left) := HLT
            obtain ⟨R, hR⟩ : ∃ R, R = a * 4503599627370496 + (N + 1) := ⟨_, rfl⟩
            have cld : ∀ w1, Calls Tryz.prog 146 #[.float .f64 (floatOfInt .f64 (z + 1)), .int .i64 (-(b : Int))] w1 fun ee w' => ee = .returned (.float .f64 R) ∧ w' = w1 := by
              have h := LD.out (N + 1) (by omega) (by have := LOW.out; omega) (by omega)
              rw [← hR, ← float_of, show (((N + 1 : Nat)) : Int) = z + 1 by have := HZ.out; omega] at h
              exact h
            have HNR : Hid (Near p q R) := by
              have h := HN.out (N + 1) (by omega) (by have := HLT.out; omega)
              rw [← hR] at h
              exact h
            have HMIN : Hid (min R 9218868437227405312 = R) := by rw [hR]; exact min_under (by omega) (by omega)
            clear LD HN GO LOW hR
            go_wp2_with (first | (go_at_call 64; refine cpA.mono ?_; rintro e w3 ⟨x3, rfl, hx3, hw3⟩; clear cpA; have cpB := CPB.out w3; clear CPB) | (go_at_call 64; refine cpB.mono ?_; rintro e w4 ⟨x4, rfl, hx4, hw4⟩; clear cpB; have hw34 : Below wr.heap.size wr w4 := hw3.trans (hw4.mono hw3.size); have cmu := CMU.out w4 x4 hx4 hw34; clear CMU) | (go_at_call 65; refine cmu.mono ?_; rintro e w5 ⟨x5, rfl, hx5, hw5⟩; clear cmu; have hw35 : Below wr.heap.size wr w5 := hw34.trans (hw5.mono hw34.size); have cqu := QU.out w5 x5 v hx5 (hvr.below hw35); clear QU) | (go_at_call 70; refine cqu.mono ?_; rintro e w6 ⟨x6, rfl, hx6, hw6⟩; clear cqu; have hw36 : Below wr.heap.size wr w6 := hw35.trans (hw6.mono hw35.size); have cad := AD.out w6 x6 hx6; clear AD) | (go_at_call 69; refine cad.mono ?_; rintro e w7 ⟨x7, rfl, hx7, hw7⟩; clear cad; have hw37 : Below wr.heap.size wr w7 := hw36.trans (hw7.mono hw36.size); have ccm := CM.out w7 x7 v hx7 (hvr.below hw37); clear CM) | (go_at_call 67; refine ccm.mono ?_; rintro e w8 ⟨c, rfl, hcmp, nn, rfl⟩; have kc : (0 : Int) < c := hcmp.1.2 HLT.out; clear ccm hcmp) | (go_at_call 146; refine (cld _).mono ?_; rintro e w9 ⟨rfl, rfl⟩; clear cld))
            go_ret
            have hw38 : Below wr.heap.size wr (w7.drewN nn) := below_drewN hw37
            refine ⟨_, HNR.out, ?_, hbw.trans (hw38.mono hbw.size)⟩
            rw [HMIN.out]
            rfl
      · skip
        obtain ⟨c0, hc0⟩ : ∃ c0 : Nat, a = c0 + 1074 := ⟨a - 1074, by omega⟩
        have eb : e = (c0 : Int) := by omega
        subst eb
        have hcm : c0 ≤ 9000 := by omega
        have k1 : ¬ (c0 : Int) < -1074 := by omega
        have k2 : ¬ (c0 : Int) < 0 := by omega
        obtain ⟨TT, hTT⟩ : ∃ TT, TT = 2 ^ (a - 1074) := ⟨_, rfl⟩
        have hT5 : TT < pw 500 := by rw [hTT]; exact P3.out.2
        have cpA : Calls Tryz.prog 64 #[.int .u64 2, .int .i64 (c0 : Int)] wr fun e w' => ∃ v, e = .returned v ∧ NatIs w' v TT ∧ Below wr.heap.size wr w' := by
          have h := power_any 2 ((a - 1074 : Nat) : Int) (by omega) (by omega) (by omega) (by omega) (by rw [Int.toNat_natCast]; exact P3.out.2) wr
          rw [Int.toNat_natCast, ← hTT, show ((a - 1074 : Nat) : Int) = (c0 : Int) by omega] at h
          exact h
        have eA : AA p a = p := by unfold AA; rw [show 1074 - a = 0 by omega, Nat.pow_zero, Nat.mul_one]
        have eB : BQ q a = q * TT := by unfold BQ; rw [hTT]
        have CMU := (show Hid _ from fun (w1 : World) (x : Value) (hx : NatIs w1 x TT) (h : Below wr.heap.size wr w1) => mul_any v x q TT w1 (hvr.below h) hx (pw_lt HP.out.2.1 (by omega)) (pw_lt hT5 (by omega)))
        have eE : (a : Int) - 1074 = (c0 : Int) := by omega
        rw [eA, eB] at QU
        rw [eB] at CM HN
        rw [eE] at LD
        have HEE : Hid ((c0 : Int) = (a : Int) - 1074) := eE.symm
        have HE : Hid ((c0 : Int) ≤ (a : Int) - 1074) := (by omega : (c0 : Int) ≤ (a : Int) - 1074)
        obtain ⟨QT, hQT⟩ : ∃ QT, QT = q * TT := ⟨_, rfl⟩
        rw [← hQT] at QU CM HN CMU
        have HC0 : Hid (a = c0 + 1074) := hc0
        clear hTT hT5 eE eA eB hQT hmax hc0
        by_cases k5 : (971 : Int) < (c0 : Int)
        · have haL : 2046 ≤ a := by have := HC0.out; omega
          by_cases h53 : 9007199254740992 ≤ N
          · have k3 : (9007199254740992 : Int) ≤ z := by have := HZ.out; omega
            clear LD HN CM LOW
            go_wp2_with (first | (go_at_call 64; refine cpA.mono ?_; rintro e w3 ⟨x3, rfl, hx3, hw3⟩; clear cpA; have cmu := CMU.out w3 x3 hx3 hw3; clear CMU) | (go_at_call 65; refine cmu.mono ?_; rintro e w5 ⟨x5, rfl, hx5, hw5⟩; clear cmu; have hw35 : Below wr.heap.size wr w5 := hw3.trans (hw5.mono hw3.size); have cqu := QU.out w5 (.slice sa sl sc) x5 (hur.below hw35) hx5; clear QU) | (go_at_call 70; refine cqu.mono ?_; rintro e w6 ⟨x6, rfl, hx6, hw6⟩; clear cqu; have hw36 : Below wr.heap.size wr w6 := hw35.trans (hw6.mono hw35.size); have cad := AD.out w6 x6 hx6; clear AD))
            obtain ⟨n1, n2⟩ := GO.out h53
            exact rat_next HEE.out he1 he2 n1 n2 (hbw.trans (hw36.mono hbw.size)) HE.out
          · have k3 : ¬ (9007199254740992 : Int) ≤ z := by have := HZ.out; omega
            rcases Nat.lt_trichotomy (left + left) (QT) with HLT | HLT | HLT
            · have HLT : Hid (left + left < QT) := HLT
              obtain ⟨R, hR⟩ : ∃ R, R = a * 4503599627370496 + (N) := ⟨_, rfl⟩
              have HNR : Hid (Near p q R) := by
                have h := HN.out (N) (by omega) (by have := HLT.out; omega)
                rw [← hR] at h
                exact h
              have HMIN : Hid (min R 9218868437227405312 = 9218868437227405312) := by rw [hR]; exact min_over (by omega) (by have := LOW.out; omega)
              clear LD HN GO LOW hR
              go_wp2_with (first | (go_at_call 64; refine cpA.mono ?_; rintro e w3 ⟨x3, rfl, hx3, hw3⟩; clear cpA; have cmu := CMU.out w3 x3 hx3 hw3; clear CMU) | (go_at_call 65; refine cmu.mono ?_; rintro e w5 ⟨x5, rfl, hx5, hw5⟩; clear cmu; have hw35 : Below wr.heap.size wr w5 := hw3.trans (hw5.mono hw3.size); have cqu := QU.out w5 (.slice sa sl sc) x5 (hur.below hw35) hx5; clear QU) | (go_at_call 70; refine cqu.mono ?_; rintro e w6 ⟨x6, rfl, hx6, hw6⟩; clear cqu; have hw36 : Below wr.heap.size wr w6 := hw35.trans (hw6.mono hw35.size); have cad := AD.out w6 x6 hx6; clear AD) | (go_at_call 69; refine cad.mono ?_; rintro e w7 ⟨x7, rfl, hx7, hw7⟩; clear cad; have hw37 : Below wr.heap.size wr w7 := hw36.trans (hw7.mono hw36.size); have ccm := CM.out w7 x7 x5 hx7 ((hx5.below hw6).below hw7); clear CM) | (go_at_call 67; refine ccm.mono ?_; rintro e w8 ⟨c, rfl, hcmp, nn, rfl⟩; have kc : c < 0 := hcmp.2.2 HLT.out; have kc2 : ¬ (0 : Int) < c := (by omega); clear ccm hcmp) | (go_at_call 48; refine (c48 _).mono ?_; rintro e w9 ⟨rfl, rfl⟩; clear c48))
              go_ret
              have hw38 : Below wr.heap.size wr (w7.drewN nn) := below_drewN hw37
              refine ⟨_, HNR.out, ?_, hbw.trans (hw38.mono hbw.size)⟩
              rw [HMIN.out]
              rfl
            · have HLT : Hid (left + left = QT) := HLT
              rcases Nat.mod_two_eq_zero_or_one N with hpar | hpar
              · skip
                have kp : (z % 2 == 1) = false := by have := HZ.out; rw [beq_eq_false_iff_ne]; omega
                obtain ⟨R, hR⟩ : ∃ R, R = a * 4503599627370496 + (N) := ⟨_, rfl⟩
                have HNR : Hid (Near p q R) := by
                  have h := HN.out (N) (by omega) (by have := HLT.out; omega)
                  rw [← hR] at h
                  exact h
                have HMIN : Hid (min R 9218868437227405312 = 9218868437227405312) := by rw [hR]; exact min_over (by omega) (by have := LOW.out; omega)
                clear LD HN GO LOW hR
                go_wp2_with (first | (go_at_call 64; refine cpA.mono ?_; rintro e w3 ⟨x3, rfl, hx3, hw3⟩; clear cpA; have cmu := CMU.out w3 x3 hx3 hw3; clear CMU) | (go_at_call 65; refine cmu.mono ?_; rintro e w5 ⟨x5, rfl, hx5, hw5⟩; clear cmu; have hw35 : Below wr.heap.size wr w5 := hw3.trans (hw5.mono hw3.size); have cqu := QU.out w5 (.slice sa sl sc) x5 (hur.below hw35) hx5; clear QU) | (go_at_call 70; refine cqu.mono ?_; rintro e w6 ⟨x6, rfl, hx6, hw6⟩; clear cqu; have hw36 : Below wr.heap.size wr w6 := hw35.trans (hw6.mono hw35.size); have cad := AD.out w6 x6 hx6; clear AD) | (go_at_call 69; refine cad.mono ?_; rintro e w7 ⟨x7, rfl, hx7, hw7⟩; clear cad; have hw37 : Below wr.heap.size wr w7 := hw36.trans (hw7.mono hw36.size); have ccm := CM.out w7 x7 x5 hx7 ((hx5.below hw6).below hw7); clear CM) | (go_at_call 67; refine ccm.mono ?_; rintro e w8 ⟨c, rfl, hcmp, nn, rfl⟩; obtain rfl : c = 0 := cmp_zero hcmp HLT.out; clear ccm hcmp) | (go_at_call 48; refine (c48 _).mono ?_; rintro e w9 ⟨rfl, rfl⟩; clear c48))
                go_ret
                have hw38 : Below wr.heap.size wr (w7.drewN nn) := below_drewN hw37
                refine ⟨_, HNR.out, ?_, hbw.trans (hw38.mono hbw.size)⟩
                rw [HMIN.out]
                rfl
              · skip
                have kp : (z % 2 == 1) = true := by have := HZ.out; rw [beq_iff_eq]; omega
                obtain ⟨R, hR⟩ : ∃ R, R = a * 4503599627370496 + (N + 1) := ⟨_, rfl⟩
                have HNR : Hid (Near p q R) := by
                  have h := HN.out (N + 1) (by omega) (by have := HLT.out; omega)
                  rw [← hR] at h
                  exact h
                have HMIN : Hid (min R 9218868437227405312 = 9218868437227405312) := by rw [hR]; exact min_over (by omega) (by have := LOW.out; omega)
                clear LD HN GO LOW hR
                go_wp2_with (first | (go_at_call 64; refine cpA.mono ?_; rintro e w3 ⟨x3, rfl, hx3, hw3⟩; clear cpA; have cmu := CMU.out w3 x3 hx3 hw3; clear CMU) | (go_at_call 65; refine cmu.mono ?_; rintro e w5 ⟨x5, rfl, hx5, hw5⟩; clear cmu; have hw35 : Below wr.heap.size wr w5 := hw3.trans (hw5.mono hw3.size); have cqu := QU.out w5 (.slice sa sl sc) x5 (hur.below hw35) hx5; clear QU) | (go_at_call 70; refine cqu.mono ?_; rintro e w6 ⟨x6, rfl, hx6, hw6⟩; clear cqu; have hw36 : Below wr.heap.size wr w6 := hw35.trans (hw6.mono hw35.size); have cad := AD.out w6 x6 hx6; clear AD) | (go_at_call 69; refine cad.mono ?_; rintro e w7 ⟨x7, rfl, hx7, hw7⟩; clear cad; have hw37 : Below wr.heap.size wr w7 := hw36.trans (hw7.mono hw36.size); have ccm := CM.out w7 x7 x5 hx7 ((hx5.below hw6).below hw7); clear CM) | (go_at_call 67; refine ccm.mono ?_; rintro e w8 ⟨c, rfl, hcmp, nn, rfl⟩; obtain rfl : c = 0 := cmp_zero hcmp HLT.out; clear ccm hcmp) | (go_at_call 48; refine (c48 _).mono ?_; rintro e w9 ⟨rfl, rfl⟩; clear c48))
                go_ret
                have hw38 : Below wr.heap.size wr (w7.drewN nn) := below_drewN hw37
                refine ⟨_, HNR.out, ?_, hbw.trans (hw38.mono hbw.size)⟩
                rw [HMIN.out]
                rfl
            · have HLT : Hid (QT < left + left) := HLT
              obtain ⟨R, hR⟩ : ∃ R, R = a * 4503599627370496 + (N + 1) := ⟨_, rfl⟩
              have HNR : Hid (Near p q R) := by
                have h := HN.out (N + 1) (by omega) (by have := HLT.out; omega)
                rw [← hR] at h
                exact h
              have HMIN : Hid (min R 9218868437227405312 = 9218868437227405312) := by rw [hR]; exact min_over (by omega) (by have := LOW.out; omega)
              clear LD HN GO LOW hR
              go_wp2_with (first | (go_at_call 64; refine cpA.mono ?_; rintro e w3 ⟨x3, rfl, hx3, hw3⟩; clear cpA; have cmu := CMU.out w3 x3 hx3 hw3; clear CMU) | (go_at_call 65; refine cmu.mono ?_; rintro e w5 ⟨x5, rfl, hx5, hw5⟩; clear cmu; have hw35 : Below wr.heap.size wr w5 := hw3.trans (hw5.mono hw3.size); have cqu := QU.out w5 (.slice sa sl sc) x5 (hur.below hw35) hx5; clear QU) | (go_at_call 70; refine cqu.mono ?_; rintro e w6 ⟨x6, rfl, hx6, hw6⟩; clear cqu; have hw36 : Below wr.heap.size wr w6 := hw35.trans (hw6.mono hw35.size); have cad := AD.out w6 x6 hx6; clear AD) | (go_at_call 69; refine cad.mono ?_; rintro e w7 ⟨x7, rfl, hx7, hw7⟩; clear cad; have hw37 : Below wr.heap.size wr w7 := hw36.trans (hw7.mono hw36.size); have ccm := CM.out w7 x7 x5 hx7 ((hx5.below hw6).below hw7); clear CM) | (go_at_call 67; refine ccm.mono ?_; rintro e w8 ⟨c, rfl, hcmp, nn, rfl⟩; have kc : (0 : Int) < c := hcmp.1.2 HLT.out; clear ccm hcmp) | (go_at_call 48; refine (c48 _).mono ?_; rintro e w9 ⟨rfl, rfl⟩; clear c48))
              go_ret
              have hw38 : Below wr.heap.size wr (w7.drewN nn) := below_drewN hw37
              refine ⟨_, HNR.out, ?_, hbw.trans (hw38.mono hbw.size)⟩
              rw [HMIN.out]
              rfl
        · have haL : a ≤ 2045 := by have := HC0.out; omega
          by_cases h53 : 9007199254740992 ≤ N
          · have k3 : (9007199254740992 : Int) ≤ z := by have := HZ.out; omega
            clear LD HN CM LOW
            go_wp2_with (first | (go_at_call 64; refine cpA.mono ?_; rintro e w3 ⟨x3, rfl, hx3, hw3⟩; clear cpA; have cmu := CMU.out w3 x3 hx3 hw3; clear CMU) | (go_at_call 65; refine cmu.mono ?_; rintro e w5 ⟨x5, rfl, hx5, hw5⟩; clear cmu; have hw35 : Below wr.heap.size wr w5 := hw3.trans (hw5.mono hw3.size); have cqu := QU.out w5 (.slice sa sl sc) x5 (hur.below hw35) hx5; clear QU) | (go_at_call 70; refine cqu.mono ?_; rintro e w6 ⟨x6, rfl, hx6, hw6⟩; clear cqu; have hw36 : Below wr.heap.size wr w6 := hw35.trans (hw6.mono hw35.size); have cad := AD.out w6 x6 hx6; clear AD))
            obtain ⟨n1, n2⟩ := GO.out h53
            exact rat_next HEE.out he1 he2 n1 n2 (hbw.trans (hw36.mono hbw.size)) HE.out
          · have k3 : ¬ (9007199254740992 : Int) ≤ z := by have := HZ.out; omega
            rcases Nat.lt_trichotomy (left + left) (QT) with HLT | HLT | HLT
            · have HLT : Hid (left + left < QT) := HLT
              obtain ⟨R, hR⟩ : ∃ R, R = a * 4503599627370496 + (N) := ⟨_, rfl⟩
              have cld : ∀ w1, Calls Tryz.prog 146 #[.float .f64 (floatOfInt .f64 (z)), .int .i64 ((c0 : Int))] w1 fun ee w' => ee = .returned (.float .f64 R) ∧ w' = w1 := by
                have h := LD.out (N) (by omega) (by have := LOW.out; omega) (by omega)
                rw [← hR, ← float_of, show (((N : Nat)) : Int) = z by have := HZ.out; omega] at h
                exact h
              have HNR : Hid (Near p q R) := by
                have h := HN.out (N) (by omega) (by have := HLT.out; omega)
                rw [← hR] at h
                exact h
              have HMIN : Hid (min R 9218868437227405312 = R) := by rw [hR]; exact min_under (by omega) (by omega)
              clear LD HN GO LOW hR
              go_wp2_with (first | (go_at_call 64; refine cpA.mono ?_; rintro e w3 ⟨x3, rfl, hx3, hw3⟩; clear cpA; have cmu := CMU.out w3 x3 hx3 hw3; clear CMU) | (go_at_call 65; refine cmu.mono ?_; rintro e w5 ⟨x5, rfl, hx5, hw5⟩; clear cmu; have hw35 : Below wr.heap.size wr w5 := hw3.trans (hw5.mono hw3.size); have cqu := QU.out w5 (.slice sa sl sc) x5 (hur.below hw35) hx5; clear QU) | (go_at_call 70; refine cqu.mono ?_; rintro e w6 ⟨x6, rfl, hx6, hw6⟩; clear cqu; have hw36 : Below wr.heap.size wr w6 := hw35.trans (hw6.mono hw35.size); have cad := AD.out w6 x6 hx6; clear AD) | (go_at_call 69; refine cad.mono ?_; rintro e w7 ⟨x7, rfl, hx7, hw7⟩; clear cad; have hw37 : Below wr.heap.size wr w7 := hw36.trans (hw7.mono hw36.size); have ccm := CM.out w7 x7 x5 hx7 ((hx5.below hw6).below hw7); clear CM) | (go_at_call 67; refine ccm.mono ?_; rintro e w8 ⟨c, rfl, hcmp, nn, rfl⟩; have kc : c < 0 := hcmp.2.2 HLT.out; have kc2 : ¬ (0 : Int) < c := (by omega); clear ccm hcmp) | (go_at_call 146; refine (cld _).mono ?_; rintro e w9 ⟨rfl, rfl⟩; clear cld))
              go_ret
              have hw38 : Below wr.heap.size wr (w7.drewN nn) := below_drewN hw37
              refine ⟨_, HNR.out, ?_, hbw.trans (hw38.mono hbw.size)⟩
              rw [HMIN.out]
              rfl
            · have HLT : Hid (left + left = QT) := HLT
              rcases Nat.mod_two_eq_zero_or_one N with hpar | hpar
              · skip
                have kp : (z % 2 == 1) = false := by have := HZ.out; rw [beq_eq_false_iff_ne]; omega
                obtain ⟨R, hR⟩ : ∃ R, R = a * 4503599627370496 + (N) := ⟨_, rfl⟩
                have cld : ∀ w1, Calls Tryz.prog 146 #[.float .f64 (floatOfInt .f64 (z)), .int .i64 ((c0 : Int))] w1 fun ee w' => ee = .returned (.float .f64 R) ∧ w' = w1 := by
                  have h := LD.out (N) (by omega) (by have := LOW.out; omega) (by omega)
                  rw [← hR, ← float_of, show (((N : Nat)) : Int) = z by have := HZ.out; omega] at h
                  exact h
                have HNR : Hid (Near p q R) := by
                  have h := HN.out (N) (by omega) (by have := HLT.out; omega)
                  rw [← hR] at h
                  exact h
                have HMIN : Hid (min R 9218868437227405312 = R) := by rw [hR]; exact min_under (by omega) (by omega)
                clear LD HN GO LOW hR
                go_wp2_with (first | (go_at_call 64; refine cpA.mono ?_; rintro e w3 ⟨x3, rfl, hx3, hw3⟩; clear cpA; have cmu := CMU.out w3 x3 hx3 hw3; clear CMU) | (go_at_call 65; refine cmu.mono ?_; rintro e w5 ⟨x5, rfl, hx5, hw5⟩; clear cmu; have hw35 : Below wr.heap.size wr w5 := hw3.trans (hw5.mono hw3.size); have cqu := QU.out w5 (.slice sa sl sc) x5 (hur.below hw35) hx5; clear QU) | (go_at_call 70; refine cqu.mono ?_; rintro e w6 ⟨x6, rfl, hx6, hw6⟩; clear cqu; have hw36 : Below wr.heap.size wr w6 := hw35.trans (hw6.mono hw35.size); have cad := AD.out w6 x6 hx6; clear AD) | (go_at_call 69; refine cad.mono ?_; rintro e w7 ⟨x7, rfl, hx7, hw7⟩; clear cad; have hw37 : Below wr.heap.size wr w7 := hw36.trans (hw7.mono hw36.size); have ccm := CM.out w7 x7 x5 hx7 ((hx5.below hw6).below hw7); clear CM) | (go_at_call 67; refine ccm.mono ?_; rintro e w8 ⟨c, rfl, hcmp, nn, rfl⟩; obtain rfl : c = 0 := cmp_zero hcmp HLT.out; clear ccm hcmp) | (go_at_call 146; refine (cld _).mono ?_; rintro e w9 ⟨rfl, rfl⟩; clear cld))
                go_ret
                have hw38 : Below wr.heap.size wr (w7.drewN nn) := below_drewN hw37
                refine ⟨_, HNR.out, ?_, hbw.trans (hw38.mono hbw.size)⟩
                rw [HMIN.out]
                rfl
              · skip
                have kp : (z % 2 == 1) = true := by have := HZ.out; rw [beq_iff_eq]; omega
                obtain ⟨R, hR⟩ : ∃ R, R = a * 4503599627370496 + (N + 1) := ⟨_, rfl⟩
                have cld : ∀ w1, Calls Tryz.prog 146 #[.float .f64 (floatOfInt .f64 (z + 1)), .int .i64 ((c0 : Int))] w1 fun ee w' => ee = .returned (.float .f64 R) ∧ w' = w1 := by
                  have h := LD.out (N + 1) (by omega) (by have := LOW.out; omega) (by omega)
                  rw [← hR, ← float_of, show (((N + 1 : Nat)) : Int) = z + 1 by have := HZ.out; omega] at h
                  exact h
                have HNR : Hid (Near p q R) := by
                  have h := HN.out (N + 1) (by omega) (by have := HLT.out; omega)
                  rw [← hR] at h
                  exact h
                have HMIN : Hid (min R 9218868437227405312 = R) := by rw [hR]; exact min_under (by omega) (by omega)
                clear LD HN GO LOW hR
                go_wp2_with (first | (go_at_call 64; refine cpA.mono ?_; rintro e w3 ⟨x3, rfl, hx3, hw3⟩; clear cpA; have cmu := CMU.out w3 x3 hx3 hw3; clear CMU) | (go_at_call 65; refine cmu.mono ?_; rintro e w5 ⟨x5, rfl, hx5, hw5⟩; clear cmu; have hw35 : Below wr.heap.size wr w5 := hw3.trans (hw5.mono hw3.size); have cqu := QU.out w5 (.slice sa sl sc) x5 (hur.below hw35) hx5; clear QU) | (go_at_call 70; refine cqu.mono ?_; rintro e w6 ⟨x6, rfl, hx6, hw6⟩; clear cqu; have hw36 : Below wr.heap.size wr w6 := hw35.trans (hw6.mono hw35.size); have cad := AD.out w6 x6 hx6; clear AD) | (go_at_call 69; refine cad.mono ?_; rintro e w7 ⟨x7, rfl, hx7, hw7⟩; clear cad; have hw37 : Below wr.heap.size wr w7 := hw36.trans (hw7.mono hw36.size); have ccm := CM.out w7 x7 x5 hx7 ((hx5.below hw6).below hw7); clear CM) | (go_at_call 67; refine ccm.mono ?_; rintro e w8 ⟨c, rfl, hcmp, nn, rfl⟩; obtain rfl : c = 0 := cmp_zero hcmp HLT.out; clear ccm hcmp) | (go_at_call 146; refine (cld _).mono ?_; rintro e w9 ⟨rfl, rfl⟩; clear cld))
                go_ret
                have hw38 : Below wr.heap.size wr (w7.drewN nn) := below_drewN hw37
                refine ⟨_, HNR.out, ?_, hbw.trans (hw38.mono hbw.size)⟩
                rw [HMIN.out]
                rfl
            · have HLT : Hid (QT < left + left) := HLT
              obtain ⟨R, hR⟩ : ∃ R, R = a * 4503599627370496 + (N + 1) := ⟨_, rfl⟩
              have cld : ∀ w1, Calls Tryz.prog 146 #[.float .f64 (floatOfInt .f64 (z + 1)), .int .i64 ((c0 : Int))] w1 fun ee w' => ee = .returned (.float .f64 R) ∧ w' = w1 := by
                have h := LD.out (N + 1) (by omega) (by have := LOW.out; omega) (by omega)
                rw [← hR, ← float_of, show (((N + 1 : Nat)) : Int) = z + 1 by have := HZ.out; omega] at h
                exact h
              have HNR : Hid (Near p q R) := by
                have h := HN.out (N + 1) (by omega) (by have := HLT.out; omega)
                rw [← hR] at h
                exact h
              have HMIN : Hid (min R 9218868437227405312 = R) := by rw [hR]; exact min_under (by omega) (by omega)
              clear LD HN GO LOW hR
              go_wp2_with (first | (go_at_call 64; refine cpA.mono ?_; rintro e w3 ⟨x3, rfl, hx3, hw3⟩; clear cpA; have cmu := CMU.out w3 x3 hx3 hw3; clear CMU) | (go_at_call 65; refine cmu.mono ?_; rintro e w5 ⟨x5, rfl, hx5, hw5⟩; clear cmu; have hw35 : Below wr.heap.size wr w5 := hw3.trans (hw5.mono hw3.size); have cqu := QU.out w5 (.slice sa sl sc) x5 (hur.below hw35) hx5; clear QU) | (go_at_call 70; refine cqu.mono ?_; rintro e w6 ⟨x6, rfl, hx6, hw6⟩; clear cqu; have hw36 : Below wr.heap.size wr w6 := hw35.trans (hw6.mono hw35.size); have cad := AD.out w6 x6 hx6; clear AD) | (go_at_call 69; refine cad.mono ?_; rintro e w7 ⟨x7, rfl, hx7, hw7⟩; clear cad; have hw37 : Below wr.heap.size wr w7 := hw36.trans (hw7.mono hw36.size); have ccm := CM.out w7 x7 x5 hx7 ((hx5.below hw6).below hw7); clear CM) | (go_at_call 67; refine ccm.mono ?_; rintro e w8 ⟨c, rfl, hcmp, nn, rfl⟩; have kc : (0 : Int) < c := hcmp.1.2 HLT.out; clear ccm hcmp) | (go_at_call 146; refine (cld _).mono ?_; rintro e w9 ⟨rfl, rfl⟩; clear cld))
              go_ret
              have hw38 : Below wr.heap.size wr (w7.drewN nn) := below_drewN hw37
              refine ⟨_, HNR.out, ?_, hbw.trans (hw38.mono hbw.size)⟩
              rw [HMIN.out]
              rfl
end Go.Proofs.YtellndmbllmjgaaGreatDoor
