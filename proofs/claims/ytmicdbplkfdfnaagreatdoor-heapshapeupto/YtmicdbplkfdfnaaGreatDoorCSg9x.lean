/- The library's sort at uint32: pdqsort of fewer than fifty; Sort. -/
import Derived.Test.YtmicdbplkfdfnaaGreatDoorCSg8
import Derived.Sort.AssemblyPlain
import Derived.Test.YtmicdbplkfdfnaaGreatDoorCSq4x
import Derived.Test.YtmicdbplkfdfnaaGreatDoorCSq5x
set_option linter.unusedVariables false
namespace Go.Proofs.YtmicdbplkfdfnaaGreatDoor
open Go.RowKit Go.Sort

/-- What a round of pdqsort comes to, with its own values R. -/
structure RdIs (d : Array Int) (a b lim : Nat) (wb wp : Bool) (R : Rd Int) : Prop where
  lim_le : R.lim ≤ lim
  first : (wb = true → R.d1 = d ∧ R.lim = lim) ∧ (wb = false → R.d1 = breakPatterns d a b ∧ R.lim = lim - 1)
  c : R.c = choosePivot ltInt R.d1 a b
  dec : R.c.2 = .decreasing → R.d2 = reverseRange R.d1 a b ∧ R.pivot = (b - 1) - (R.c.1 - a) ∧ R.hint = .increasing
  not : R.c.2 ≠ .decreasing → R.d2 = R.d1 ∧ R.pivot = R.c.1 ∧ R.hint = R.c.2
  yes : (wb && wp && decide (R.hint = .increasing)) = true → R.pi = partialInsertionSort ltInt R.d2 a b
  no : (wb && wp && decide (R.hint = .increasing)) = false → R.pi = (R.d2, false)
  done : R.pi.2 = true → pdq ltInt d a b lim wb wp = R.pi.1
  eq : ∀ mid d4, R.pi.2 = false → (decide (a > 0) && !ltInt R.pi.1[a - 1]! R.pi.1[R.pivot]!) = true → partitionEqual ltInt R.pi.1 a b R.pivot = (mid, d4) → a < mid ∧ mid ≤ b → pdq ltInt d a b lim wb wp = pdq ltInt d4 mid b R.lim wb wp
  left : ∀ mid ap d4, R.pi.2 = false → (decide (a > 0) && !ltInt R.pi.1[a - 1]! R.pi.1[R.pivot]!) = false → partition ltInt R.pi.1 a b R.pivot = (mid, ap, d4) → a ≤ mid ∧ mid < b → mid - a < b - mid →
    pdq ltInt d a b lim wb wp = pdq ltInt (pdq ltInt d4 a mid R.lim true true) (mid + 1) b R.lim (decide (mid - a ≥ (b - a) / 8)) ap
  right : ∀ mid ap d4, R.pi.2 = false → (decide (a > 0) && !ltInt R.pi.1[a - 1]! R.pi.1[R.pivot]!) = false → partition ltInt R.pi.1 a b R.pivot = (mid, ap, d4) → a ≤ mid ∧ mid < b → ¬ mid - a < b - mid →
    pdq ltInt d a b lim wb wp = pdq ltInt (pdq ltInt d4 (mid + 1) b R.lim true true) a mid R.lim (decide (b - mid ≥ (b - a) / 8)) ap
  size1 : R.d1.size = d.size
  c_in : a ≤ R.c.1 ∧ R.c.1 < b
  size2 : R.d2.size = d.size
  piv_in : a ≤ R.pivot ∧ R.pivot < b
  size3 : R.pi.1.size = d.size
  below : Below ltInt a b R.pi.1
theorem rdIs (d : Array Int) (a b lim : Nat) (wb wp : Bool) (h12 : ¬ b - a ≤ 12) (h0 : ¬ lim = 0) (hb : b ≤ d.size) (hB : Below ltInt a b d) : ∃ R, RdIs d a b lim wb wp R := by
  obtain ⟨s1, B1, c1, s2, B2, pv, s3, B3⟩ := rd_facts (lt := ltInt) (d := d) (limit := lim) (wb := wb) (wp := wp) swo_ltInt partialInsertionSort_holds reverseRange_holds (show a < b by omega) hb hB
  refine ⟨rd ltInt d a b lim wb wp, rd_lim_le, ⟨fun h => by subst h; exact rd_true, fun h => by subst h; exact rd_false⟩, rd_c, rd_dec, rd_not, rd_pi_yes, rd_pi_no, pdq_done h12 h0, ?_, ?_, ?_, s1, c1, s2, pv, s3, B3⟩
  · intro mid d4 h1 h2 h3 h4
    have := pdq_eq h12 h0 h1 h2 (by rw [h3]; exact h4)
    rw [h3] at this
    exact this
  · intro mid ap d4 h1 h2 h3 h4 h5
    have := pdq_left h12 h0 h1 h2 (by rw [h3]; exact h4) (by rw [h3]; exact h5)
    rw [h3] at this
    exact this
  · intro mid ap d4 h1 h2 h3 h4 h5
    have := pdq_right h12 h0 h1 h2 (by rw [h3]; exact h4) (by rw [h3]; exact h5)
    rw [h3] at this
    exact this
theorem hintN_two {h : Hint} (e : hintN h = 2) : h = .decreasing := by cases h <;> simp_all [hintN]
theorem eight {x y p q : Nat} (h1 : q ≤ p) (h2 : y ≤ x) : decide (((x : Int) - (y : Int)) / 8 ≤ (p : Int) - (q : Int)) = decide (p - q ≥ (x - y) / 8) := decide_eq_decide.2 ⟨fun h => by omega, fun h => by omega⟩
set_option maxRecDepth 100000 in
set_option maxHeartbeats 4000000 in
theorem pdq32 : ∀ (N blk off cap a b lim : Nat) (d : Array Int) (w : World), b - a < N → Holds U32 w blk off d → blk < w.heap.size → a ≤ b → b ≤ d.size → d.size < 50 → lim ≤ 100 → Below ltInt a b d →
    Calls Tryz.prog 98 #[.slice (some ⟨blk, off, none⟩) d.size cap, .int .i64 a, .int .i64 b, .int .i64 lim] w fun e w' => e = .returned (.tuple #[]) ∧ At U32 w blk off (pdq ltInt d a b lim true true) w' := by
  intro N
  induction N with
  | zero => intro blk off cap a b lim d w h; omega
  | succ N ih =>
  intro blk off cap a b lim d w hN hH hblk hab hb hsz hlim hB
  have HH := (show Hid (Holds U32 w blk off d) from hH)
  have HA0 := (show Hid (At U32 w blk off d w) from At.refl hH)
  have IH := (show Hid _ from ih)
  clear ih hH
  go_enter Tryz.func98, Tryz.ntmps98
  go_wp2
  go_loopw [1, 2, 3, 8, 9] (fun va vb vl v8 v9 wr => ∃ (a' b' l : Nat) (wb wp : Bool) (dk : Array Int), va = .int .i64 a' ∧ vb = .int .i64 b' ∧ vl = .int .i64 l ∧ v8 = .bool wb ∧ v9 = .bool wp ∧ a ≤ a' ∧ a' ≤ b' ∧ b' ≤ b ∧ l ≤ lim ∧ dk.size = d.size ∧ Hid (Below ltInt a' b' dk ∧ At U32 w blk off dk wr ∧ pdq ltInt dk a' b' l wb wp = pdq ltInt d a b lim true true)) (fun va vb _ _ _ _ => (intOf vb - intOf va).toNat)
  case atStart => exact ⟨a, b, lim, true, true, d, rfl, rfl, rfl, rfl, rfl, Nat.le_refl _, hab, Nat.le_refl _, Nat.le_refl _, rfl, (show _ ∧ _ ∧ _ from ⟨hB, HA0.out, rfl⟩)⟩
  case round =>
    obtain ⟨a', b', l, wb, wp, dk, rfl, rfl, rfl, rfl, rfl, ha1, hab', hb1, hl1, hs, HX⟩ := hrel
    obtain ⟨hBel, hA, hQ⟩ := HX.out
    have HQ := (show Hid (pdq ltInt dk a' b' l wb wp = pdq ltInt d a b lim true true) from hQ)
    obtain ⟨hHk, hbk⟩ := hA.holds HH.out hs hblk
    clear hQ HX HA0
    by_cases h12 : b' - a' ≤ 12
    · have h12z : (b' : Int) - (a' : Int) ≤ 12 := by omega
      have c := ins32 blk off cap a' b' dk wr hHk hab' (by omega) (by omega)
      rw [hs] at c
      go_wp2_with (first | (go_at_call 127; refine c.mono ?_; rintro e w1 ⟨rfl, hw1⟩))
      (try simp only [Exit.inBlock, Exit.then]); refine bodyPost_ret (results_none rfl _ _ _) rfl ?_
      refine ⟨rfl, ?_⟩
      rw [← HQ.out, pdq_small h12]
      exact hA.step hblk (insertionSort_holds swo_ltInt dk a' b' hab' (by omega)).1.1 hw1
    · have h12z : ¬ ((b' : Int) - (a' : Int) ≤ 12) := by omega
      by_cases h0 : l = 0
      · subst h0
        have c := heap32 blk off cap a' b' dk wr hHk hbk hab' (by omega) (by omega)
        rw [hs] at c
        go_wp2_with (first | (go_at_call 128; refine c.mono ?_; rintro e w1 ⟨rfl, hw1⟩))
        (try simp only [Exit.inBlock, Exit.then]); refine bodyPost_ret (results_none rfl _ _ _) rfl ?_
        refine ⟨rfl, ?_⟩
        rw [← HQ.out, pdq_heap h12 rfl]
        exact hA.stepG hblk (heapSort_holds swo_ltInt dk a' b' hab' (by omega)).1.1 hw1
      · have h0z : ((l : Int) == 0) = false := by simp; omega
        obtain ⟨R, hR⟩ := rdIs dk a' b' l wb wp h12 h0 (by omega) hBel
        have HR := (show Hid (RdIs dk a' b' l wb wp R) from hR)
        have q1 := hR.lim_le
        have q2 := hR.piv_in
        have q3 := hR.c_in
        have HA := (show Hid (At U32 w blk off dk wr) from hA)
        have HHk := (show Hid (Holds U32 wr blk off dk) from hHk)
        clear hR hA hHk hBel
        go_upto_if 35 with fail
        go_cut [3] (fun v wx => v = .int .i64 (R.lim : Int) ∧ Hid (At U32 w blk off R.d1 wx))
        case first =>
          cases wb with
          | false =>
            have c := break32 blk off cap a' b' dk wr HHk.out hbk (by omega) (by omega) (by omega)
            rw [hs] at c
            have hf := HR.out.first.2 rfl
            have HF := (show Hid _ from hf)
            clear hf
            go_wp2_with (first | (go_at_call 129; refine c.mono ?_; rintro e w1 ⟨rfl, hw1⟩))
            go_meet
            case rel => exact ⟨by rw [HF.out.2]; congr 1; omega, (show At U32 w blk off R.d1 _ from by rw [HF.out.1]; exact HA.out.stepG hblk (by rw [← HF.out.1]; exact HR.out.size1) hw1)⟩
          | true =>
            have hf := HR.out.first.1 rfl
            have HF := (show Hid _ from hf)
            clear hf
            go_wp2
            go_meet
            case rel => exact ⟨by rw [HF.out.2], (show At U32 w blk off R.d1 _ from by rw [HF.out.1]; exact HA.out)⟩
        case rest =>
          obtain ⟨rfl, HA1⟩ := hcut
          clear HA HHk hbk
          obtain ⟨hH1, hb1'⟩ := HA1.out.holds HH.out (HR.out.size1.trans hs) hblk
          have cp := pivot32 blk off cap a' b' R.d1 wc hH1 hb1' (by omega) (by omega) (by rw [HR.out.size1]; omega) (by rw [HR.out.size1]; omega)
          rw [← HR.out.c, HR.out.size1, hs] at cp
          have hnd : R.c.2 ≠ .decreasing := by
            obtain ⟨m, hm⟩ : ∃ m, b' = a' + m := ⟨b' - a', by omega⟩
            obtain ⟨p, t, _, _, hp⟩ := pivot_mid R.d1 a' m (by omega) (by omega) (by rw [HR.out.size1]; omega)
            rw [HR.out.c, hm, hp]
            dsimp only
            split <;> simp
          have hnot := HR.out.not hnd
          have hh2 : (hintN R.c.2 == 2) = false := by
            cases h : R.c.2 <;> simp_all [hintN]
          have HN := (show Hid (R.d2 = R.d1 ∧ R.pivot = R.c.1 ∧ R.hint = R.c.2) from hnot)
          have HCP := (show Hid (Unit → Calls Tryz.prog 130 _ _ _) from fun _ => cp)
          clear hnd hnot cp hH1
          go_upto_region 15 with (first | (go_at_call 130; refine (HCP.out ()).mono ?_; rintro e w2 ⟨rfl, hw2⟩))
          have HA2 := (show Hid (At U32 w blk off R.d2 w2) from by
            rw [HN.out.1]; exact HA1.out.same HH.out (HR.out.size1.trans hs) hblk hw2)
          clear hw2 HCP HA1 hb1'
          go_cut [12, 68] (fun v12 v wx => v12 = .int .i64 (hintN R.c.2) ∧ v = .bool (wb && wp && decide (R.hint = .increasing)) ∧ wx = w2)
          case first =>
            have hht := HN.out.2.2
            cases wb <;> cases wp <;> cases hh : R.c.2 <;>
              (have hcode := congrArg hintN hh
               simp only [hintN] at hcode
               rw [hh] at hht
               go_wp2
               go_meet
               exact ⟨by simp [hh, hintN], by simp [hht, hintN], rfl⟩)
          case rest =>
            obtain ⟨rfl, rfl, rfl⟩ := hcut
            obtain ⟨B, hBq⟩ : ∃ B, B = (wb && wp && decide (R.hint = .increasing)) := ⟨_, rfl⟩
            rw [← hBq]
            have HBq := (show Hid (B = (wb && wp && decide (R.hint = .increasing))) from hBq)
            clear hBq
            go_upto_if 68 with fail
            go_cut [68] (fun _ wx => R.pi.2 = false ∧ Hid (At U32 w blk off R.pi.1 wx))
            case first =>
              cases B with
              | false =>
                have epi := HR.out.no HBq.out.symm
                have EP := (show Hid (R.pi = (R.d2, false)) from epi)
                clear epi
                go_wp2
                go_meet
                case rel => exact ⟨by rw [EP.out], (show At U32 w blk off R.pi.1 _ from by rw [EP.out]; exact HA2.out)⟩
              | true =>
                have epi := HR.out.yes HBq.out.symm
                obtain ⟨hH2, hb2⟩ := HA2.out.holds HH.out (HR.out.size2.trans hs) hblk
                have cq := part32 blk off cap a' b' R.d2 wc hH2 hb2 (by omega) (by rw [HR.out.size2]; omega) (by rw [HR.out.size2]; omega)
                rw [← epi, HR.out.size2, hs] at cq
                have EP := (show Hid (R.pi = partialInsertionSort ltInt R.d2 a' b') from epi)
                have HCQ := (show Hid (Unit → Calls Tryz.prog 132 _ _ _) from fun _ => cq)
                clear epi hH2 hb2 cq
                by_cases hp2 : R.pi.2 = true
                · rw [hp2] at HCQ
                  go_wp2_with (first | (go_at_call 132; refine (HCQ.out ()).mono ?_; rintro e w4 ⟨rfl, hw4⟩))
                  (try simp only [Exit.inBlock, Exit.then]); refine bodyPost_ret (results_none rfl _ _ _) rfl ?_
                  refine ⟨rfl, ?_⟩
                  rw [← HQ.out, HR.out.done hp2]
                  exact HA2.out.stepG hblk (by rw [HR.out.size3, HR.out.size2]) hw4
                · have hp2 : R.pi.2 = false := by simpa using hp2
                  rw [hp2] at HCQ
                  go_wp2_with (first | (go_at_call 132; refine (HCQ.out ()).mono ?_; rintro e w4 ⟨rfl, hw4⟩))
                  go_meet
                  case rel => exact ⟨hp2, (show At U32 w blk off R.pi.1 _ from HA2.out.stepG hblk (by rw [HR.out.size3, HR.out.size2]) hw4)⟩
            case rest =>
              obtain ⟨hp2, HA3⟩ := hcut
              clear HA2 HBq
              have HRR := (show Hid (R.pivot = R.c.1) from HN.out.2.1)
              clear HN hh2
              obtain ⟨hc, hf⟩ := at_row HA3.out HH.out (HR.out.size3.trans hs) hblk
              obtain ⟨G, hG⟩ : ∃ G : Nat → Int, ∀ t, G t = R.pi.1[t]! := ⟨fun t => R.pi.1[t]!, fun _ => rfl⟩
              have hcw : ∀ t, t < d.size → wc.cell? ⟨blk, off + t, none⟩ = some (.int .u32 (G t)) := fun t ht => by rw [hG]; exact hc t ht
              have HG : Hid (∀ t, G t = R.pi.1[t]!) := hG
              clear hG hc
              rw [← HRR.out] at q3 ⊢
              obtain ⟨pv, hpv⟩ : ∃ pv, pv = R.pivot := ⟨_, rfl⟩
              rw [← hpv] at q2 q3 ⊢
              have HPV := (show Hid (pv = R.pivot) from hpv)
              clear hpv HRR
              go_upto_region 17 with fail
              go_cut [87] (fun v wx => v = .bool (decide (a' > 0) && !ltInt (G (a' - 1)) (G pv)) ∧ Hid (At U32 w blk off R.pi.1 wx))
              case first =>
                rcases Nat.eq_zero_or_pos a' with ha0 | ha0
                · have hz0 : decide ((a' : Int) > 0) = false := decide_eq_false (by omega)
                  go_quiet (first | (go_at_call 133; refine Calls.quiet_of_same (less32 _ _ _)))
                  go_wp2
                  go_meet
                  case rel => exact ⟨by simp [ha0], (show At U32 w blk off R.pi.1 _ from at_draw HA3.out _)⟩
                · have hz0 : (a' : Int) > 0 := by omega
                  go_quiet (first | (go_at_call 133; refine Calls.quiet_of_same (less32 _ _ _)))
                  go_wp2
                  go_meet
                  case rel => exact ⟨by simp [ha0], (show At U32 w blk off R.pi.1 _ from at_draw HA3.out _)⟩
              case rest =>
                obtain ⟨rfl, HA4⟩ := hcut
                clear HA3 hcw hf
                have heB : (decide (a' > 0) && !ltInt (G (a' - 1)) (G pv)) = (decide (a' > 0) && !ltInt R.pi.1[a' - 1]! R.pi.1[R.pivot]!) := by rw [HG.out, HG.out, HPV.out]
                rw [heB]
                have HB3 := (show Hid (Below ltInt a' b' R.pi.1) from HR.out.below)
                obtain ⟨hH4, hb4⟩ := HA4.out.holds HH.out (HR.out.size3.trans hs) hblk
                cases h87 : (decide (a' > 0) && !ltInt R.pi.1[a' - 1]! R.pi.1[R.pivot]!) with
                | true =>
                  have h87' := h87
                  simp only [Bool.and_eq_true, decide_eq_true_eq, Bool.not_eq_true'] at h87'
                  obtain ⟨mid, d4, hx⟩ : ∃ mid d4, partitionEqual ltInt R.pi.1 a' b' R.pivot = (mid, d4) := ⟨_, _, rfl⟩
                  obtain ⟨r1, r2, r3, r4, _⟩ := round_eq swo_ltInt (partitionEqual_holds _) h87'.1 (by rw [← HPV.out]; exact q2.1) (by rw [← HPV.out]; exact q2.2) (show b' ≤ R.pi.1.size by rw [HR.out.size3]; omega) HB3.out h87'.2 hx
                  have c := peq32 blk off cap a' b' pv R.pi.1 wc hH4 hb4 q2.1 q2.2 (by rw [HR.out.size3]; omega) (by rw [HR.out.size3]; omega)
                  rw [HPV.out, hx, HR.out.size3, hs, ← HPV.out] at c
                  have HE := (show Hid (pdq ltInt dk a' b' l wb wp = pdq ltInt d4 mid b' R.lim wb wp) from HR.out.eq mid d4 hp2 h87 hx ⟨r1, r2⟩)
                  have HC := (show Hid (Unit → Calls Tryz.prog 134 _ _ _) from fun _ => c)
                  have HF := (show Hid (Below ltInt mid b' d4 ∧ d4.size = R.pi.1.size) from ⟨r4, r3⟩)
                  clear hx h87 h87' c hH4 hb4 r3 r4 heB
                  go_wp2_with (first | (go_at_call 134; refine (HC.out ()).mono ?_; rintro e w7 ⟨rfl, hw7⟩))
                  go_roundw
                  case rel => exact ⟨mid, b', R.lim, wb, wp, d4, rfl, rfl, rfl, rfl, rfl, by omega, r2, hb1, by omega, by rw [HF.out.2, HR.out.size3, hs], (show _ ∧ _ ∧ _ from ⟨HF.out.1, HA4.out.stepG hblk HF.out.2 hw7, by rw [← HE.out, HQ.out]⟩)⟩
                  case measure => simp [intOf]; omega
                | false =>
                  obtain ⟨mid, ap, d4, hx⟩ : ∃ mid ap d4, partition ltInt R.pi.1 a' b' R.pivot = (mid, ap, d4) := ⟨_, _, _, rfl⟩
                  obtain ⟨r1, r2, r3, r4, r5, r6, r7⟩ := round_part swo_ltInt (partition_holds _) (by rw [← HPV.out]; exact q2.1) (by rw [← HPV.out]; exact q2.2) (show b' ≤ R.pi.1.size by rw [HR.out.size3]; omega) HB3.out hx
                  have c := prt32 blk off cap a' b' pv R.pi.1 wc hH4 hb4 q2.1 q2.2 (by rw [HR.out.size3]; omega) (by rw [HR.out.size3]; omega)
                  rw [HPV.out, hx, HR.out.size3, hs, ← HPV.out] at c
                  have hs4 : d4.size = d.size := by rw [r3, HR.out.size3, hs]
                  have HC := (show Hid (Unit → Calls Tryz.prog 135 _ _ _) from fun _ => c)
                  have HL := (show Hid (mid - a' < b' - mid → pdq ltInt dk a' b' l wb wp = _) from HR.out.left mid ap d4 hp2 h87 hx ⟨r1, r2⟩)
                  have HRt := (show Hid (¬ mid - a' < b' - mid → pdq ltInt dk a' b' l wb wp = _) from HR.out.right mid ap d4 hp2 h87 hx ⟨r1, r2⟩)
                  have H45 := (show Hid (Below ltInt a' mid d4 ∧ Below ltInt (mid + 1) b' d4) from ⟨r4, r5⟩)
                  have H6 := (show Hid _ from r6)
                  have H7 := (show Hid _ from r7)
                  clear hx h87 c hH4 hb4 r4 r5 r6 r7 heB
                  go_upto_if 113 with (first | (go_at_call 135; refine (HC.out ()).mono ?_; rintro e w7 ⟨rfl, hw7⟩))
                  have HA7 := (show Hid (At U32 w blk off d4 w7) from HA4.out.stepG hblk r3 hw7)
                  clear hw7 HC HA4
                  obtain ⟨hH7, hb7⟩ := HA7.out.holds HH.out hs4 hblk
                  by_cases h4 : mid - a' < b' - mid
                  · have h4z : (mid : Int) - (a' : Int) < (b' : Int) - (mid : Int) := by omega
                    have c := IH.out blk off cap a' mid R.lim d4 w7 (by omega) hH7 hb7 (by omega) (by omega) (by omega) (by omega) H45.out.1
                    rw [hs4] at c
                    obtain ⟨pL, sL⟩ := pdq_sorts ltInt swo_ltInt d4 a' mid R.lim true true (by omega) (by omega) H45.out.1
                    have HP := (show Hid (PermIn a' mid d4 (pdq ltInt d4 a' mid R.lim true true) ∧ SortedIn ltInt a' mid (pdq ltInt d4 a' mid R.lim true true)) from ⟨pL, sL⟩)
                    have HC := (show Hid (Unit → Calls Tryz.prog 98 _ _ _) from fun _ => c)
                    clear c pL sL hH7 hb7 HRt H7
                    go_wp2_with (first | (go_at_call 98; refine (HC.out ()).mono ?_; rintro e w8 ⟨rfl, hw8⟩))
                    go_roundw
                    case rel => exact ⟨mid + 1, b', R.lim, decide (mid - a' ≥ (b' - a') / 8), ap, pdq ltInt d4 a' mid R.lim true true, by go_num, rfl, rfl, congrArg Value.bool (eight (by omega) (by omega)), rfl, by omega, by omega, hb1, by omega, by rw [HP.out.1.1, hs4], (show _ ∧ _ ∧ _ from ⟨(H6.out _ HP.out.1 HP.out.2).1, HA7.out.stepG hblk HP.out.1.1 hw8, by rw [← HL.out h4, HQ.out]⟩)⟩
                    case measure => simp [intOf]; omega
                  · have h4z : ¬ ((mid : Int) - (a' : Int) < (b' : Int) - (mid : Int)) := by omega
                    have c := IH.out blk off cap (mid + 1) b' R.lim d4 w7 (by omega) hH7 hb7 (by omega) (by omega) (by omega) (by omega) H45.out.2
                    rw [hs4] at c
                    obtain ⟨pL, sL⟩ := pdq_sorts ltInt swo_ltInt d4 (mid + 1) b' R.lim true true (by omega) (by omega) H45.out.2
                    have HP := (show Hid (PermIn (mid + 1) b' d4 (pdq ltInt d4 (mid + 1) b' R.lim true true) ∧ SortedIn ltInt (mid + 1) b' (pdq ltInt d4 (mid + 1) b' R.lim true true)) from ⟨pL, sL⟩)
                    have HC := (show Hid (Unit → Calls Tryz.prog 98 _ _ _) from fun _ => c)
                    clear c pL sL hH7 hb7 HL H6
                    go_wp2_with (first | (go_at_call 98; refine (HC.out ()).mono ?_; rintro e w8 ⟨rfl, hw8⟩))
                    go_roundw
                    case rel => exact ⟨a', mid, R.lim, decide (b' - mid ≥ (b' - a') / 8), ap, pdq ltInt d4 (mid + 1) b' R.lim true true, rfl, rfl, rfl, congrArg Value.bool (eight (by omega) (by omega)), rfl, by omega, by omega, by omega, by omega, by rw [HP.out.1.1, hs4], (show _ ∧ _ ∧ _ from ⟨(H7.out _ HP.out.1 HP.out.2).1, HA7.out.stepG hblk HP.out.1.1 hw8, by rw [← HRt.out h4, HQ.out]⟩)⟩
                    case measure => simp [intOf]; omega
theorem len_bits (n : Nat) (hn : n ≤ 1000000) (w : World) : Calls Tryz.prog 99 #[.int .u64 (n : Int)] w fun e w' => e = .returned (.int .i64 (bitsLen n : Nat)) ∧ w' = w := by
  have h := Tryz.bits_Len (n : Int) w (by omega) (by omega)
  rwa [Int.toNat_natCast, bitLen_eq _ (by omega)] at h
/-- **slices.Sort of fewer than fifty numbers.** -/
theorem sort32 (blk off cap : Nat) (zs : List Int) (w : World) (hH : Holds U32 w blk off zs.toArray) (hblk : blk < w.heap.size) (hsz : zs.length < 50) :
    Calls Tryz.prog 75 #[.slice (some ⟨blk, off, none⟩) zs.length cap] w fun e w' => e = .returned (.tuple #[]) ∧ At U32 w blk off (zs.mergeSort fun x y => decide (x ≤ y)).toArray w' := by
  have hk : bitsLen zs.length ≤ 62 := (bitsLen_le_iff zs.length 62).2 (by omega)
  have c := pdq32 (zs.length + 1) blk off cap 0 zs.length (bitsLen zs.length) zs.toArray w (by omega) hH hblk (by omega) (by simp) (by simpa using hsz) (by omega) (Or.inl rfl)
  have e1 : pdq ltInt zs.toArray 0 zs.length (bitsLen zs.length) true true = (zs.mergeSort fun x y => decide (x ≤ y)).toArray := by
    rw [← sortInt zs]
    unfold Sort.sort
    simp
  rw [e1] at c
  have cl := fun W => len_bits zs.length (by omega) W
  simp only [List.size_toArray] at c
  clear e1
  go_enter Tryz.func75, Tryz.ntmps75
  go_wp2_with (first | (go_at_call 99; refine (cl _).mono ?_; rintro e w1 ⟨rfl, rfl⟩) | (go_at_call 98; refine c.mono ?_; rintro e w1 ⟨rfl, hA⟩))
  refine bodyPost_end (results_none rfl _ _ _) rfl ?_
  exact ⟨rfl, hA⟩
end Go.Proofs.YtmicdbplkfdfnaaGreatDoor
set_option linter.unusedVariables false
namespace Go.Proofs.YtmicdbplkfdfnaaGreatDoor
open Go.RowKit Go.Shelf Go.Maps Go.Sort

theorem at_kx {W w' : World} {g off : Nat} {d : Array Int} (h : At U32 W g off d w') : Kx [g] W w' := by
  obtain ⟨n, os, rfl⟩ := h
  refine ⟨rfl, rfl, rfl, by simp, fun k hk hn => ?_⟩
  have hkg : g ≠ k := by simpa [eq_comm] using hn
  rw [heap_grow_old _ _ (by simpa using hk)]
  show ((Sort.ahead W n).heap.modify g _)[k]? = _
  rw [Array.getElem?_modify, if_neg hkg]
  rfl
/-- Rising without repetition. -/
def Rises (ks : List Nat) : Prop := ks.Pairwise (· < ·)
theorem sorted_is {ss ks : List Nat} (hn : ss.Nodup) (hr : Rises ks) (hm : ∀ x, x ∈ ss ↔ x ∈ ks) : (ss.map Int.ofNat).mergeSort (fun x y => decide (x ≤ y)) = ks.map Int.ofNat := by
  have hk : ks.Nodup := hr.imp (fun h => Nat.ne_of_lt h)
  have hp : ss.Perm ks := (List.perm_ext_iff_of_nodup hn hk).2 hm
  have tr : ∀ a b c : Int, decide (a ≤ b) = true → decide (b ≤ c) = true → decide (a ≤ c) = true := fun a b c h1 h2 => by simp at *; omega
  have tot : ∀ a b : Int, (decide (a ≤ b) || decide (b ≤ a)) = true := fun a b => by simp; omega
  refine List.Perm.eq_of_pairwise (le := fun a b : Int => decide (a ≤ b) = true) (fun a b _ _ h1 h2 => by simp at h1 h2; omega) (List.pairwise_mergeSort tr tot _) ?_ ((List.mergeSort_perm _ _).trans (hp.map _))
  exact List.pairwise_map.2 (hr.imp (fun h => by simp; omega))
theorem keysAny (M : Nat) (w : World) : Calls Tryz.prog 74 #[.map (some M)] w fun e w' => e = .returned (.func (.func 97) #[] #[.pointer (some ⟨w.heap.size, 0, none⟩)]) ∧ w' = w.alloc (Obj.cells #[.map (some M)] 109) := by
  go_enter Tryz.func74, Tryz.ntmps74
  go_wp2
  go_ret
  exact ⟨rfl, rfl⟩
theorem size_le {w : World} {b n : Nat} {D : DataW Unit} (h : w.ownsMap Tryz.prog 65 prElem b n D) : Maps.size D ≤ n := by
  obtain ⟨es, clock, hb, F, hs, rfl⟩ := h
  rw [Maps.size_eq, length_sorted, List.length_map]
  simpa using hs
/-- A row that is owned holds its numbers. -/
theorem row_holds {w : World} {B g n cap : Nat} {ss : List Nat} (h : w.ownsRow B 65 1 (.slice (some ⟨g, 0, none⟩) n cap) n (ss.map u32v)) (hn : ss.length = n) : Holds U32 w g 0 (ss.map Int.ofNat).toArray := by
  intro j hj
  simp at hj
  have hc := h.cells (g := g) rfl
  have h1 := hc j (u32v ss[j]) (by simp [hj])
  refine ⟨?_, ?_⟩
  · rw [Nat.zero_add]
    rw [getElem!_pos _ j (by simpa using hj)]
    have e : (⟨g, 0, none⟩ : Addr).add j = ⟨g, j, none⟩ := by unfold Addr.add; split <;> simp_all
    rw [e] at h1
    rw [h1]
    simp [u32v]
  · rcases h.2 with ⟨e, _⟩ | ⟨g', cap', cur, e, _, hg, _⟩
    · cases e
    · simp only [Value.slice.injEq, Option.some.injEq, Addr.mk.injEq] at e
      obtain ⟨⟨rfl, -, -⟩, -, -⟩ := e
      exact fr_all hg _
set_option maxRecDepth 100000 in
set_option maxHeartbeats 2000000 in
theorem places_some (b M m : Nat) (a : Option Addr) (c : Nat) (f : Nat → Option Pr) (ks : List Nat) (w : World) (h7 : w.cell? ⟨b, 7, none⟩ = some (.slice a 0 c)) (h8 : w.cell? ⟨b, 8, none⟩ = some (.map (some M))) (hM : SMap w M m f)
    (hr : Rises ks) (hk : ∀ k, k < 4294967296 → (k ∈ ks ↔ (f k).isSome = true)) (hkb : ∀ k ∈ ks, k < 4294967296) (hne : ks ≠ []) (hlen : ks.length < 50) (hm : m ≤ 1000000) :
    Calls Tryz.prog 46 #[.pointer (some ⟨b, 0, none⟩)] w fun e w' => ∃ g cap, e = .returned (.slice (some ⟨g, 0, none⟩) ks.length cap) ∧ w.heap.size ≤ g ∧ (∀ (j k : Nat), ks[j]? = some k → w'.cell? ⟨g, j, none⟩ = some (.int .u32 (k : Int))) ∧ Kx [] w w' := by
  obtain ⟨D, hO, hD, hf⟩ := hM
  have hsz : Maps.size D ≤ 1000000 := Nat.le_trans (size_le hO) hm
  have c1 := keysAny M w
  have c2 := collect_any w.heap.size M m D (w.alloc (Obj.cells #[.map (some M)] 109)) (cell_at (heap_alloc_new w (Obj.cells #[.map (some M)] 109)) 0 rfl) (hO.kept (World.grownBy_alloc w _ none) (by simp)) (by simp) hsz
  have hk7 : ∀ W, Kx [] w W → W.cell? ⟨b, 7, none⟩ = some (.slice a 0 c) := fun W hW => hW.cell h7 (by simp)
  have HK7 := (show Hid _ from hk7)
  have HF := (show Hid (∀ x : Nat, x < 4294967296 → (has D (.int .u32 (x : Int)) = true ↔ x ∈ ks)) from fun x hx => by rw [smap_has hO hf x hx, hk x hx])
  clear hk7 hO hf hsz
  go_enter Tryz.func46, Tryz.ntmps46
  go_wp2_with (first | (go_at_call 74; refine c1.mono ?_; rintro e w1 ⟨rfl, rfl⟩) | (go_at_call 73; refine c2.mono ?_; rintro e w2 ⟨v, ss, rfl, hss, hrow, hb⟩; have hk2 : Kx [] w w2 := (Kx.alloc [] w _).same (Kx.ofBelow hb []); have h72 := HK7.out w2 hk2))
  have hmem : ∀ x, x ∈ ss ↔ x ∈ ks := fun x => by
    constructor
    · intro hx
      have hx2 := hss.2.1 x hx
      exact (HF.out x hx2).1 ((hss.2.2 x hx2).1 hx)
    · intro hx
      have hx2 := hkb x hx
      exact (hss.2.2 x hx2).2 ((HF.out x hx2).2 hx)
  have hsort := sorted_is hss.1 hr hmem
  have hkn : ks.Nodup := hr.imp (fun h => Nat.ne_of_lt h)
  have hll : ss.length = ks.length := ((List.perm_ext_iff_of_nodup hss.1 hkn).2 hmem).length_eq
  have hpos : 0 < ks.length := List.length_pos_iff.2 hne
  rw [hll] at hrow
  obtain ⟨g, cap, rfl⟩ := ownsRow_pos hpos hrow
  have hbase : w.heap.size ≤ g := by
    rcases hrow.2 with ⟨e, _⟩ | ⟨g', cap', cur, e, hb', hg, _⟩
    · cases e
    · simp only [Value.slice.injEq, Option.some.injEq, Addr.mk.injEq] at e
      obtain ⟨⟨rfl, -, -⟩, -, -⟩ := e
      simp at hb'
      omega
  have hgl : g < w2.heap.size := (hrow.lt g rfl).2
  have hH := row_holds hrow hll
  have cs := sort32 g 0 cap (ss.map Int.ofNat) w2 hH hgl (by simp; omega)
  rw [hsort, List.length_map, hll] at cs
  have HSO := (show Hid _ from hH)
  clear hH hsort hmem hss hrow HF HK7 c1 c2 hb
  refine wp_loop_rounds 1 ?_
  rw [rounds_succ]
  go_wp2_with (first | (go_at_call 75; refine cs.mono ?_; rintro e w3 ⟨rfl, hA⟩))
  go_ret
  refine ⟨g, cap, rfl, hbase, fun j k hj => ?_, hk2.trans (at_kx hA) (fun i hi => .inr (by simp at hi; omega))⟩
  have hh := (hA.holds HSO.out (by simp [hll]) hgl).1 j (by simp; exact (List.getElem?_eq_some_iff.1 hj).1)
  have h1 := hh.1
  rw [Nat.zero_add] at h1
  rw [h1]
  obtain ⟨hjl, hjk⟩ := List.getElem?_eq_some_iff.1 hj
  rw [getElem!_pos _ j (by simpa using hjl)]
  simp [hjk]
end Go.Proofs.YtmicdbplkfdfnaaGreatDoor
