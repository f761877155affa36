/- The walk of rightShift. -/
import Derived.Test.YtellndmbllmjgaaGreatDoorCSw4ax
import Derived.Deep.LoopGhost
set_option linter.unusedVariables false
namespace Go.Proofs.YtellndmbllmjgaaGreatDoor
open Go.RowKit Go.Shelf Go.Sort Fs

set_option maxRecDepth 100000 in
set_option maxHeartbeats 1000000 in
theorem rightShift_any (w : World) (b : Nat) (t : TypeId) (f : Nat → Nat) (nd : Nat) (dp : Int) (tr : Bool) (h : DecW w b t f nd dp tr) (hnd : nd ≤ 800) (N : Nat) (hR : Row f nd N) (k : Nat) (hk0 : 0 < k) (hk : k ≤ 60)
    (hdp : -100000 ≤ dp) (hdp2 : dp ≤ 100000) :
    Calls Tryz.prog 264 #[.pointer (some ⟨b, 0, none⟩), .int .u64 (k : Int)] w fun e w' => ∃ g nd' dp' tr', e = .returned (.tuple #[]) ∧ DecW w' b t g nd' dp' tr' ∧ Halved k f nd dp tr g nd' dp' tr' ∧ nd' ≤ 800 ∧ Kx [b] w w' := by
  have HD : Hid (DecW w b t f nd dp tr) := h
  have HR : Hid (Row f nd N) := hR
  have c800 := h.cnd
  have hnd0 := hR.pos
  have hup := hR.up
  have HUP : Hid (N < 10 ^ nd) := hup
  clear h hR hup
  go_enter Tryz.func264, Tryz.ntmps264
  go_wp2
  go_loopw [4, 6] (fun vr vn wr => RsI nd N k vr vn ∧ wr = w) (fun vr _ _ => nd - (intOf vr).toNat)
  case atStart => exact ⟨.mk 0 0 (Nat.zero_le _) (hvP_zero HUP.out).symm (fun h => absurd h (by decide)), rfl⟩
  case round =>
    obtain ⟨hrel, hwr⟩ := hrel
    subst hwr
    obtain ⟨r, n, hr, hn, hp⟩ := hrel
    have HN : Hid (n = hvP N nd r ∧ (0 < r → hvP N nd (r - 1) < 2 ^ k) ∧ r ≤ nd) := ⟨hn, hp, hr⟩
    clear hn hp
    rcases Nat.lt_or_ge n (2 ^ k) with hlt | hge
    · have z1 : (n : Int) / 2 ^ k = 0 := by
        have : ((n / 2 ^ k : Nat) : Int) = 0 := by rw [Nat.div_eq_of_lt hlt]; rfl
        simpa using this
      have hnb : n < 1152921504606846976 := Nat.lt_of_lt_of_le hlt (Nat.le_trans (Nat.pow_le_pow_right (by decide) hk) (by decide))
      rcases Nat.lt_or_eq_of_le hr with hrl | hre
      · have cd := HD.out.dig r (by omega)
        have hget := HR.out.get r hrl
        obtain ⟨x, hx⟩ : ∃ x, f r = x := ⟨_, rfl⟩
        rw [hx] at cd hget
        have HX : Hid (x = 48 + N / 10 ^ (nd - 1 - r) % 10) := hget
        have hx0 : 48 ≤ x := by omega
        have hx1 : x < 58 := by have := Nat.mod_lt (N / 10 ^ (nd - 1 - r)) (show 0 < 10 by decide); omega
        have HLT : Hid (n < 2 ^ k ∧ r < nd) := ⟨hlt, hrl⟩
        have hr8 : r < 800 := by omega
        have hrl' : (r : Int) < (nd : Int) := by omega
        clear hlt hx hget hr
        go_wp2
        have e1 : (n : Int) * 10 + (x : Int) - 48 = ((n * 10 + (x - 48) : Nat) : Int) := by omega
        have h1 := HN.out
        have h2 := HLT.out
        have h3 := HX.out
        refine ⟨⟨?_, trivial⟩, by simp [intOf]; omega⟩
        rw [e1]
        refine .mk (r + 1) _ (by omega) ?_ (fun _ => ?_)
        · rw [hvP_next h2.2, ← h1.1]; omega
        · rw [show r + 1 - 1 = r by omega, ← h1.1]; exact h2.1
      · have hre' := hre.symm
        subst hre'
        have hn0 : 0 < n := by rw [HN.out.1, hvP_in (Nat.le_refl _), Nat.sub_self, Nat.pow_zero, Nat.div_one]; exact HR.out.some
        have hn0' : ((n : Int) == 0) = false := by rw [beq_eq_false_iff_ne]; omega
        have hJ : RsJ nd N k (.int .i64 (nd : Int)) (.int .u64 (n : Int)) := .mk nd n (Nat.le_refl _) (by omega) HN.out.1 HN.out.2.1 (by omega)
        have HJ : Hid (RsJ nd N k (.int .i64 (nd : Int)) (.int .u64 (n : Int))) := hJ
        clear hJ hlt
        go_wp2
        go_loopw [4, 6] (fun vr vn w2 => RsJ nd N k vr vn ∧ w2 = wr) (fun vr _ _ => nd + k - (intOf vr).toNat)
        case atStart => exact ⟨HJ.out, rfl⟩
        case round =>
          obtain ⟨hrel, hw2⟩ := hrel
          subst hw2
          obtain ⟨r1, n1, hr, hr2, hn, hp, hb⟩ := hrel
          have HE0 : Hid (nd ≤ r1 ∧ r1 ≤ nd + k ∧ n1 = hvP N nd r1 ∧ (0 < r1 → hvP N nd (r1 - 1) < 2 ^ k) ∧ n1 < 10 * 2 ^ k) := ⟨hr, hr2, hn, hp, hb⟩
          have hk60 : 2 ^ k ≤ 1152921504606846976 := Nat.le_trans (Nat.pow_le_pow_right (by decide) hk) (by decide)
          rcases Nat.lt_or_ge n1 (2 ^ k) with hlt | hge
          · have z1 : (n1 : Int) / 2 ^ k = 0 := by
              have : ((n1 / 2 ^ k : Nat) : Int) = 0 := by rw [Nat.div_eq_of_lt hlt]; rfl
              simpa using this
            have hnb : n1 < 1152921504606846976 := by omega
            have hrb : r1 ≤ 900 := by omega
            have HLT : Hid (n1 < 2 ^ k) := hlt
            clear hlt hr hr2 hn hp hb hk60
            go_wp2
            have h1 := HE0.out
            have h2 := HLT.out
            have hlt2 : r1 < nd + k := by
              rcases Nat.lt_or_ge r1 (nd + k) with h3 | h3
              · exact h3
              · have h4 := hv_reach (nd := nd) (k := k) HR.out.some
                rw [show nd + k = r1 by omega, ← h1.2.2.1] at h4
                omega
            have e1 : (n1 : Int) * 10 = ((n1 * 10 : Nat) : Int) := by omega
            refine ⟨⟨?_, trivial⟩, by simp [intOf]; omega⟩
            rw [e1]
            refine .mk (r1 + 1) _ (by omega) (by omega) ?_ (fun _ => ?_) (by omega)
            · rw [hvP_over h1.1, ← h1.2.2.1]
            · rw [show r1 + 1 - 1 = r1 by omega, ← h1.2.2.1]; exact h2
          · have z2 : ((n1 : Int) / 2 ^ k == 0) = false := by
              have : 1 ≤ n1 / 2 ^ k := (Nat.le_div_iff_mul_le (p2 k)).2 (by omega)
              have h2 : (n1 : Int) / 2 ^ k = ((n1 / 2 ^ k : Nat) : Int) := by simp
              rw [beq_eq_false_iff_ne, h2]; omega
            have HE : Hid (0 < r1 ∧ 2 ^ k ≤ n1 ∧ n1 = hvP N nd r1 ∧ hvP N nd (r1 - 1) < 2 ^ k ∧ n1 < 10 * 2 ^ k ∧ r1 ≤ nd + k) := ⟨by omega, hge, hn, hp (by omega), hb, hr2⟩
            have hrb : r1 ≤ 900 := by omega
            clear hr hr2 hn hp hb HE0 HN HJ hge
            clear hn0 hn0' z1 hk60
            obtain ⟨w0, hw0⟩ : ∃ w0, w0 = wr := ⟨_, rfl⟩
            subst hw0
            have c801 := HD.out.cdp
            have f801 := HD.out.fz 801
            obtain ⟨m, hm⟩ : ∃ m, m = nd + k - r1 + 1 := ⟨_, rfl⟩
            have HM : Hid (m = nd + k - r1 + 1) := hm
            have K0 : Hid (RsK f nd r1 m (N * 5 ^ k) N k tr b t (dp - ((r1 : Int) - 1)) w0 (.int .i64 (r1 : Int)) (.int .i64 (0 : Int)) (.int .u64 (n1 : Int)) (w0.setCell ⟨b, 801, none⟩ (.int .i64 (dp - ((r1 : Int) - 1))))) := by
              have h1 := HE.out
              refine .mk r1 0 n1 f tr _ (.inr rfl) rfl ?_ (RightI.start _ _ _ _ _ _) (HD.out.setDp _) ((Kx.refl _ _).set (by simp) _)
              unfold hvN
              rw [← h1.2.2.1, Nat.mod_eq_of_lt h1.2.2.2.2.1]
            clear hm
            go_wp2
            obtain ⟨Mk, eM, hMk⟩ := rs_mask k hk
            have HMK : Hid (Mk = 2 ^ k - 1) := hMk
            rw [eM]
            clear eM hMk c801 f801 c800
            go_loopw [4, 5, 6] (fun vr vw vn w2 => RsK f nd r1 m (N * 5 ^ k) N k tr b t (dp - ((r1 : Int) - 1)) w0 vr vw vn w2) (fun vr _ _ _ => nd - (intOf vr).toNat)
            case atStart => exact K0.out
            case round =>
              obtain ⟨r, z, n, g, t', _, hr, hz, hn, hI, hD, hK⟩ := hrel
              have HI := (show Hid _ from hI)
              have HD3 : Hid (DecW wr b t g nd (dp - ((r1 : Int) - 1)) t') := hD
              have HK3 : Hid (Kx [b] w0 wr) := hK
              have hnb : n < 10 * 2 ^ k := by rw [hn]; exact hvN_lt N nd k r
              have d800 := hD.cnd
              obtain ⟨dg, n2, s1, s2, hdg, hn2, edg, en2⟩ := rs_round n k Mk hk hnb HMK.out
              have HZ : Hid (r = r1 + z ∧ n = hvN N nd k r ∧ dg = n / 2 ^ k ∧ n2 = n % 2 ^ k) := ⟨hz, hn, edg, en2⟩
              rcases Nat.lt_or_ge r nd with hlt | hge
              · have cd := hD.dig r (by omega)
                have hold := hI.old r (Nat.le_refl _) hlt
                have hget := HR.out.get r hlt
                rw [hold] at cd
                obtain ⟨x, hx⟩ : ∃ x, f r = x := ⟨_, rfl⟩
                rw [hx] at cd hget
                have HX : Hid (x = 48 + N / 10 ^ (nd - 1 - r) % 10) := hget
                have hx0 : 48 ≤ x := by omega
                have hx1 : x < 58 := by have := Nat.mod_lt (N / 10 ^ (nd - 1 - r)) (show 0 < 10 by decide); omega
                have hr8 : r < 800 := by omega
                have hlt' : (r : Int) < (nd : Int) := by omega
                have hz8 : z < 800 := by omega
                have cz := hD.dig z hz8
                have fz := hD.fz z
                have HLT : Hid (r < nd ∧ z < r ∧ z < 800) := ⟨hlt, by have := HE.out; omega, hz8⟩
                clear hr hz hn hI hD hK hnb edg en2 hold hget hx hlt
                go_wp2
                refine ⟨?_, by have := HLT.out; simp [intOf]; omega⟩
                have h1 := HZ.out
                have h2 := HLT.out
                have h3 := HX.out
                have e1 : (n2 : Int) * 10 + (x : Int) - 48 = ((n2 * 10 + (x - 48) : Nat) : Int) := by omega
                have e2 : (dg : Int) + 48 = ((48 + dg : Nat) : Int) := by omega
                have e3 : (r : Int) + 1 = ((r + 1 : Nat) : Int) := by omega
                have e4 : (z : Int) + 1 = ((z + 1 : Nat) : Int) := by omega
                rw [e1, e2, e3, e4]
                refine .mk (r + 1) (z + 1) _ (putD g z (48 + dg)) t' _ (.inl (by omega)) (by omega) ?_ ?_ (HD3.out.put z (48 + dg) h2.2.2) (HK3.out.set (by simp) _)
                · rw [h1.2.2.2, h1.2.1, h3, Nat.add_sub_cancel_left]; exact hvN_next h2.1
                · have h4 := HI.out.put h2.2.1 h2.2.2
                  rw [h1.2.2.1, h1.2.1, rs_digit HM.out h1.1 (by omega)]
                  exact h4
              · have L0 : Hid (RsL f nd r1 m (N * 5 ^ k) N k tr b t (dp - ((r1 : Int) - 1)) w0 (nd + k + 1 - r) (.int .i64 (z : Int)) (.int .u64 (n : Int)) wr) := by
                  have h1 := HE.out
                  exact .mk _ r z z n g t' wr (by omega) hge hz (by omega) hn hI hD hK
                have hge' : ¬ (r : Int) < (nd : Int) := by omega
                clear hr hz hn hI hD hK hnb edg en2 HI HD3 HK3 s1 s2 hdg hn2 HZ
                go_wp2
                clear d800
                go_loopg [5, 6] (nd + k + 1 - r) (fun j vw vn w2 => RsL f nd r1 m (N * 5 ^ k) N k tr b t (dp - ((r1 : Int) - 1)) w0 j vw vn w2)
                case atStart => exact L0.out
                case round =>
                  obtain ⟨r, z, y, n, g, t', _, hj, hr, hz, hy, hn, hI, hD, hK⟩ := hrel
                  have HI := (show Hid _ from hI)
                  have HD3 : Hid (DecW wr b t g nd (dp - ((r1 : Int) - 1)) t') := hD
                  have HK3 : Hid (Kx [b] w0 wr) := hK
                  have HJ : Hid (gk + r = nd + k + 1 ∧ nd ≤ r ∧ r = r1 + z ∧ y = min z 800 ∧ n = hvN N nd k r) := ⟨hj, hr, hz, hy, hn⟩
                  have hy8 : y ≤ 800 := by omega
                  rcases Nat.eq_zero_or_pos n with h0 | h0
                  · subst h0
                    have d800 := hD.cnd
                    have f800 := hD.fz 800
                    clear hj hr hz hy hn hI hD hK
                    go_wp2_with (first | (go_at_call 262; fail))
                    have D4 := HD3.out.setNd y
                    have K4 := HK3.out.set (p := ⟨b, 800, none⟩) (by simp) (.int .i64 (y : Int))
                    refine (trimD_any _ b t g y (dp - ((r1 : Int) - 1)) t' D4 hy8).mono ?_
                    rintro e w5 ⟨nd', rfl, a1, a2, a3, a4, a5⟩
                    have HF : Hid (DecW w5 b t g nd' (if nd' = 0 then 0 else dp - ((r1 : Int) - 1)) t' ∧ Halved k f nd dp tr g nd' (if nd' = 0 then 0 else dp - ((r1 : Int) - 1)) t' ∧ nd' ≤ 800 ∧ Kx [b] w0 w5) := by
                      have h1 := HJ.out
                      have h2 := HE.out
                      refine ⟨a4, rs_fin HI.out HR.out h2.1 h2.2.2.2.2.2 h2.2.2.2.1 (by rw [← h2.2.2.1]; exact h2.2.1) (by rw [← h2.2.2.1]; exact h2.2.2.2.2.1) HM.out h1.2.2.1 h1.2.1 (by omega) h1.2.2.2.2.symm (by omega) (fun i x y' => a2 i x (by omega)) a3, by omega, K4.same a5⟩
                    clear D4 K4 a1 a2 a3 a4 a5
                    go_wp2
                    refine bodyPost_end (results_none rfl _ _ _) rfl ?_
                    exact ⟨g, nd', _, t', rfl, HF.out⟩
                  · have hnb : n < 10 * 2 ^ k := by rw [hn]; exact hvN_lt N nd k r
                    obtain ⟨dg, n2, s1, s2, hdg, hn2, edg, en2⟩ := rs_round n k Mk hk hnb HMK.out
                    have hrk : r ≤ nd + k := by
                      rcases Nat.lt_or_ge (nd + k) r with h1 | h1
                      · rw [hv_end h1] at hn; omega
                      · exact h1
                    have hn0 : (0 : Int) < (n : Int) := by omega
                    have HZ : Hid (dg = n / 2 ^ k ∧ n2 = n % 2 ^ k ∧ r ≤ nd + k) := ⟨edg, en2, hrk⟩
                    have fz := hD.fz
                    have ct := hD.ctr
                    by_cases h8 : y < 800
                    · have cy := hD.dig y h8
                      have fy := fz y
                      have HY : Hid (z = y ∧ z < 800) := ⟨by omega, by omega⟩
                      have h8' : (y : Int) < 800 := by omega
                      clear hj hr hz hy hn hI hD hK hnb edg en2 hrk h0 ct fz
                      go_wp2
                      go_roundg (gk - 1)
                      case measure => have := HJ.out; have := HZ.out; omega
                      case rel =>
                        have h1 := HJ.out
                        have h2 := HZ.out
                        have h3 := HY.out
                        have e1 : (n2 : Int) * 10 = ((n2 * 10 : Nat) : Int) := by omega
                        have e2 : (dg : Int) + 48 = ((48 + dg : Nat) : Int) := by omega
                        have e4 : (y : Int) + 1 = ((y + 1 : Nat) : Int) := by omega
                        rw [e1, e2, e4]
                        refine .mk (gk - 1) (r + 1) (z + 1) (y + 1) _ (putD g y (48 + dg)) t' _ (by omega) (by omega) (by omega) (by omega) ?_ ?_ (HD3.out.put y (48 + dg) (by omega)) (HK3.out.set (by simp) _)
                        · rw [h2.2.1, h1.2.2.2.2]; exact hvN_over h1.2.1
                        · have h4 := HI.out.put (by have := HE.out; omega) h3.2
                          rw [h2.1, h1.2.2.2.2, rs_digit HM.out h1.2.2.1 h2.2.2, ← h3.1]
                          exact h4
                    · have HY : Hid (y = 800 ∧ 800 ≤ z) := ⟨by omega, by omega⟩
                      have h8' : ¬ (y : Int) < 800 := by omega
                      have fo := fz 803
                      by_cases hd0 : dg = 0
                      · subst hd0
                        clear hj hr hz hy hn hI hD hK hnb edg en2 hrk h0 fz
                        go_wp2
                        go_roundg (gk - 1)
                        case measure => have := HJ.out; have := HZ.out; omega
                        case rel =>
                          have h1 := HJ.out
                          have h2 := HZ.out
                          have h3 := HY.out
                          have e1 : (n2 : Int) * 10 = ((n2 * 10 : Nat) : Int) := by omega
                          rw [e1]
                          refine .mk (gk - 1) (r + 1) (z + 1) y _ g t' _ (by omega) (by omega) (by omega) (by omega) ?_ ?_ HD3.out HK3.out
                          · rw [h2.2.1, h1.2.2.2.2]; exact hvN_over h1.2.1
                          · have h4 := HI.out.drop (by have := HE.out; have := HM.out; omega) h3.2
                            rw [← rs_digit HM.out h1.2.2.1 h2.2.2, ← h1.2.2.2.2, ← h2.1] at h4
                            simpa using h4
                      · have hd1 : (0 : Int) < (dg : Int) := by omega
                        have HD0 : Hid (dg ≠ 0) := hd0
                        clear hj hr hz hy hn hI hD hK hnb edg en2 hrk h0 fz hd0
                        go_wp2
                        go_roundg (gk - 1)
                        case measure => have := HJ.out; have := HZ.out; omega
                        case rel =>
                          have h1 := HJ.out
                          have h2 := HZ.out
                          have h3 := HY.out
                          have e1 : (n2 : Int) * 10 = ((n2 * 10 : Nat) : Int) := by omega
                          rw [e1]
                          refine .mk (gk - 1) (r + 1) (z + 1) y _ g true _ (by omega) (by omega) (by omega) (by omega) ?_ ?_ (HD3.out.setTr true) (HK3.out.set (by simp) _)
                          · rw [h2.2.1, h1.2.2.2.2]; exact hvN_over h1.2.1
                          · have h4 := HI.out.drop (by have := HE.out; have := HM.out; omega) h3.2
                            rw [← rs_digit HM.out h1.2.2.1 h2.2.2, ← h1.2.2.2.2, ← h2.1, decide_eq_true HD0.out, Bool.or_true] at h4
                            exact h4
    · have hrb : r ≤ 900 := by omega
      have z2 : ((n : Int) / 2 ^ k == 0) = false := by
        have : 1 ≤ n / 2 ^ k := (Nat.le_div_iff_mul_le (p2 k)).2 (by omega)
        have h2 : (n : Int) / 2 ^ k = ((n / 2 ^ k : Nat) : Int) := by simp
        rw [beq_eq_false_iff_ne, h2]; omega
      have HE : Hid (0 < r ∧ 2 ^ k ≤ n ∧ n = hvP N nd r ∧ hvP N nd (r - 1) < 2 ^ k ∧ n < 10 * 2 ^ k ∧ r ≤ nd + k) := by
        obtain ⟨h1, h2, h3⟩ := HN.out
        have hp := p2 k
        have h4 : 0 < r := by
          rcases Nat.eq_zero_or_pos r with h5 | h5
          · rw [h5, hvP_zero HUP.out] at h1; omega
          · exact h5
        refine ⟨h4, hge, h1, h2 h4, ?_, by omega⟩
        have h5 := hvP_next (N := N) (nd := nd) (r := r - 1) (by omega)
        rw [show r - 1 + 1 = r by omega, ← h1] at h5
        have h6 := h2 h4
        have h7 := Nat.mod_lt (N / 10 ^ (nd - 1 - (r - 1))) (show 0 < 10 by decide)
        omega
      clear hr HN hge
      obtain ⟨r1, hr1⟩ : ∃ r1, r1 = r := ⟨_, rfl⟩
      obtain ⟨n1, hn1⟩ : ∃ n1, n1 = n := ⟨_, rfl⟩
      subst hr1 hn1
      obtain ⟨w0, hw0⟩ : ∃ w0, w0 = wr := ⟨_, rfl⟩
      subst hw0
      have c801 := HD.out.cdp
      have f801 := HD.out.fz 801
      obtain ⟨m, hm⟩ : ∃ m, m = nd + k - r1 + 1 := ⟨_, rfl⟩
      have HM : Hid (m = nd + k - r1 + 1) := hm
      have K0 : Hid (RsK f nd r1 m (N * 5 ^ k) N k tr b t (dp - ((r1 : Int) - 1)) w0 (.int .i64 (r1 : Int)) (.int .i64 (0 : Int)) (.int .u64 (n1 : Int)) (w0.setCell ⟨b, 801, none⟩ (.int .i64 (dp - ((r1 : Int) - 1))))) := by
        have h1 := HE.out
        refine .mk r1 0 n1 f tr _ (.inr rfl) rfl ?_ (RightI.start _ _ _ _ _ _) (HD.out.setDp _) ((Kx.refl _ _).set (by simp) _)
        unfold hvN
        rw [← h1.2.2.1, Nat.mod_eq_of_lt h1.2.2.2.2.1]
      clear hm
      go_wp2
      obtain ⟨Mk, eM, hMk⟩ := rs_mask k hk
      have HMK : Hid (Mk = 2 ^ k - 1) := hMk
      rw [eM]
      clear eM hMk c801 f801 c800
      go_loopw [4, 5, 6] (fun vr vw vn w2 => RsK f nd r1 m (N * 5 ^ k) N k tr b t (dp - ((r1 : Int) - 1)) w0 vr vw vn w2) (fun vr _ _ _ => nd - (intOf vr).toNat)
      case atStart => exact K0.out
      case round =>
        obtain ⟨r, z, n, g, t', _, hr, hz, hn, hI, hD, hK⟩ := hrel
        have HI := (show Hid _ from hI)
        have HD3 : Hid (DecW wr b t g nd (dp - ((r1 : Int) - 1)) t') := hD
        have HK3 : Hid (Kx [b] w0 wr) := hK
        have hnb : n < 10 * 2 ^ k := by rw [hn]; exact hvN_lt N nd k r
        have d800 := hD.cnd
        obtain ⟨dg, n2, s1, s2, hdg, hn2, edg, en2⟩ := rs_round n k Mk hk hnb HMK.out
        have HZ : Hid (r = r1 + z ∧ n = hvN N nd k r ∧ dg = n / 2 ^ k ∧ n2 = n % 2 ^ k) := ⟨hz, hn, edg, en2⟩
        rcases Nat.lt_or_ge r nd with hlt | hge
        · have cd := hD.dig r (by omega)
          have hold := hI.old r (Nat.le_refl _) hlt
          have hget := HR.out.get r hlt
          rw [hold] at cd
          obtain ⟨x, hx⟩ : ∃ x, f r = x := ⟨_, rfl⟩
          rw [hx] at cd hget
          have HX : Hid (x = 48 + N / 10 ^ (nd - 1 - r) % 10) := hget
          have hx0 : 48 ≤ x := by omega
          have hx1 : x < 58 := by have := Nat.mod_lt (N / 10 ^ (nd - 1 - r)) (show 0 < 10 by decide); omega
          have hr8 : r < 800 := by omega
          have hlt' : (r : Int) < (nd : Int) := by omega
          have hz8 : z < 800 := by omega
          have cz := hD.dig z hz8
          have fz := hD.fz z
          have HLT : Hid (r < nd ∧ z < r ∧ z < 800) := ⟨hlt, by have := HE.out; omega, hz8⟩
          clear hr hz hn hI hD hK hnb edg en2 hold hget hx hlt
          go_wp2
          refine ⟨?_, by have := HLT.out; simp [intOf]; omega⟩
          have h1 := HZ.out
          have h2 := HLT.out
          have h3 := HX.out
          have e1 : (n2 : Int) * 10 + (x : Int) - 48 = ((n2 * 10 + (x - 48) : Nat) : Int) := by omega
          have e2 : (dg : Int) + 48 = ((48 + dg : Nat) : Int) := by omega
          have e3 : (r : Int) + 1 = ((r + 1 : Nat) : Int) := by omega
          have e4 : (z : Int) + 1 = ((z + 1 : Nat) : Int) := by omega
          rw [e1, e2, e3, e4]
          refine .mk (r + 1) (z + 1) _ (putD g z (48 + dg)) t' _ (.inl (by omega)) (by omega) ?_ ?_ (HD3.out.put z (48 + dg) h2.2.2) (HK3.out.set (by simp) _)
          · rw [h1.2.2.2, h1.2.1, h3, Nat.add_sub_cancel_left]; exact hvN_next h2.1
          · have h4 := HI.out.put h2.2.1 h2.2.2
            rw [h1.2.2.1, h1.2.1, rs_digit HM.out h1.1 (by omega)]
            exact h4
        · have L0 : Hid (RsL f nd r1 m (N * 5 ^ k) N k tr b t (dp - ((r1 : Int) - 1)) w0 (nd + k + 1 - r) (.int .i64 (z : Int)) (.int .u64 (n : Int)) wr) := by
            have h1 := HE.out
            exact .mk _ r z z n g t' wr (by omega) hge hz (by omega) hn hI hD hK
          have hge' : ¬ (r : Int) < (nd : Int) := by omega
          clear hr hz hn hI hD hK hnb edg en2 HI HD3 HK3 s1 s2 hdg hn2 HZ
          go_wp2
          clear d800
          go_loopg [5, 6] (nd + k + 1 - r) (fun j vw vn w2 => RsL f nd r1 m (N * 5 ^ k) N k tr b t (dp - ((r1 : Int) - 1)) w0 j vw vn w2)
          case atStart => exact L0.out
          case round =>
            obtain ⟨r, z, y, n, g, t', _, hj, hr, hz, hy, hn, hI, hD, hK⟩ := hrel
            have HI := (show Hid _ from hI)
            have HD3 : Hid (DecW wr b t g nd (dp - ((r1 : Int) - 1)) t') := hD
            have HK3 : Hid (Kx [b] w0 wr) := hK
            have HJ : Hid (gk + r = nd + k + 1 ∧ nd ≤ r ∧ r = r1 + z ∧ y = min z 800 ∧ n = hvN N nd k r) := ⟨hj, hr, hz, hy, hn⟩
            have hy8 : y ≤ 800 := by omega
            rcases Nat.eq_zero_or_pos n with h0 | h0
            · subst h0
              have d800 := hD.cnd
              have f800 := hD.fz 800
              clear hj hr hz hy hn hI hD hK
              go_wp2_with (first | (go_at_call 262; fail))
              have D4 := HD3.out.setNd y
              have K4 := HK3.out.set (p := ⟨b, 800, none⟩) (by simp) (.int .i64 (y : Int))
              refine (trimD_any _ b t g y (dp - ((r1 : Int) - 1)) t' D4 hy8).mono ?_
              rintro e w5 ⟨nd', rfl, a1, a2, a3, a4, a5⟩
              have HF : Hid (DecW w5 b t g nd' (if nd' = 0 then 0 else dp - ((r1 : Int) - 1)) t' ∧ Halved k f nd dp tr g nd' (if nd' = 0 then 0 else dp - ((r1 : Int) - 1)) t' ∧ nd' ≤ 800 ∧ Kx [b] w0 w5) := by
                have h1 := HJ.out
                have h2 := HE.out
                refine ⟨a4, rs_fin HI.out HR.out h2.1 h2.2.2.2.2.2 h2.2.2.2.1 (by rw [← h2.2.2.1]; exact h2.2.1) (by rw [← h2.2.2.1]; exact h2.2.2.2.2.1) HM.out h1.2.2.1 h1.2.1 (by omega) h1.2.2.2.2.symm (by omega) (fun i x y' => a2 i x (by omega)) a3, by omega, K4.same a5⟩
              clear D4 K4 a1 a2 a3 a4 a5
              go_wp2
              refine bodyPost_end (results_none rfl _ _ _) rfl ?_
              exact ⟨g, nd', _, t', rfl, HF.out⟩
            · have hnb : n < 10 * 2 ^ k := by rw [hn]; exact hvN_lt N nd k r
              obtain ⟨dg, n2, s1, s2, hdg, hn2, edg, en2⟩ := rs_round n k Mk hk hnb HMK.out
              have hrk : r ≤ nd + k := by
                rcases Nat.lt_or_ge (nd + k) r with h1 | h1
                · rw [hv_end h1] at hn; omega
                · exact h1
              have hn0 : (0 : Int) < (n : Int) := by omega
              have HZ : Hid (dg = n / 2 ^ k ∧ n2 = n % 2 ^ k ∧ r ≤ nd + k) := ⟨edg, en2, hrk⟩
              have fz := hD.fz
              have ct := hD.ctr
              by_cases h8 : y < 800
              · have cy := hD.dig y h8
                have fy := fz y
                have HY : Hid (z = y ∧ z < 800) := ⟨by omega, by omega⟩
                have h8' : (y : Int) < 800 := by omega
                clear hj hr hz hy hn hI hD hK hnb edg en2 hrk h0 ct fz
                go_wp2
                go_roundg (gk - 1)
                case measure => have := HJ.out; have := HZ.out; omega
                case rel =>
                  have h1 := HJ.out
                  have h2 := HZ.out
                  have h3 := HY.out
                  have e1 : (n2 : Int) * 10 = ((n2 * 10 : Nat) : Int) := by omega
                  have e2 : (dg : Int) + 48 = ((48 + dg : Nat) : Int) := by omega
                  have e4 : (y : Int) + 1 = ((y + 1 : Nat) : Int) := by omega
                  rw [e1, e2, e4]
                  refine .mk (gk - 1) (r + 1) (z + 1) (y + 1) _ (putD g y (48 + dg)) t' _ (by omega) (by omega) (by omega) (by omega) ?_ ?_ (HD3.out.put y (48 + dg) (by omega)) (HK3.out.set (by simp) _)
                  · rw [h2.2.1, h1.2.2.2.2]; exact hvN_over h1.2.1
                  · have h4 := HI.out.put (by have := HE.out; omega) h3.2
                    rw [h2.1, h1.2.2.2.2, rs_digit HM.out h1.2.2.1 h2.2.2, ← h3.1]
                    exact h4
              · have HY : Hid (y = 800 ∧ 800 ≤ z) := ⟨by omega, by omega⟩
                have h8' : ¬ (y : Int) < 800 := by omega
                have fo := fz 803
                by_cases hd0 : dg = 0
                · subst hd0
                  clear hj hr hz hy hn hI hD hK hnb edg en2 hrk h0 fz
                  go_wp2
                  go_roundg (gk - 1)
                  case measure => have := HJ.out; have := HZ.out; omega
                  case rel =>
                    have h1 := HJ.out
                    have h2 := HZ.out
                    have h3 := HY.out
                    have e1 : (n2 : Int) * 10 = ((n2 * 10 : Nat) : Int) := by omega
                    rw [e1]
                    refine .mk (gk - 1) (r + 1) (z + 1) y _ g t' _ (by omega) (by omega) (by omega) (by omega) ?_ ?_ HD3.out HK3.out
                    · rw [h2.2.1, h1.2.2.2.2]; exact hvN_over h1.2.1
                    · have h4 := HI.out.drop (by have := HE.out; have := HM.out; omega) h3.2
                      rw [← rs_digit HM.out h1.2.2.1 h2.2.2, ← h1.2.2.2.2, ← h2.1] at h4
                      simpa using h4
                · have hd1 : (0 : Int) < (dg : Int) := by omega
                  have HD0 : Hid (dg ≠ 0) := hd0
                  clear hj hr hz hy hn hI hD hK hnb edg en2 hrk h0 fz hd0
                  go_wp2
                  go_roundg (gk - 1)
                  case measure => have := HJ.out; have := HZ.out; omega
                  case rel =>
                    have h1 := HJ.out
                    have h2 := HZ.out
                    have h3 := HY.out
                    have e1 : (n2 : Int) * 10 = ((n2 * 10 : Nat) : Int) := by omega
                    rw [e1]
                    refine .mk (gk - 1) (r + 1) (z + 1) y _ g true _ (by omega) (by omega) (by omega) (by omega) ?_ ?_ (HD3.out.setTr true) (HK3.out.set (by simp) _)
                    · rw [h2.2.1, h1.2.2.2.2]; exact hvN_over h1.2.1
                    · have h4 := HI.out.drop (by have := HE.out; have := HM.out; omega) h3.2
                      rw [← rs_digit HM.out h1.2.2.1 h2.2.2, ← h1.2.2.2.2, ← h2.1, decide_eq_true HD0.out, Bool.or_true] at h4
                      exact h4
end Go.Proofs.YtellndmbllmjgaaGreatDoor
/- The walks of Shift. -/
set_option linter.unusedVariables false
namespace Go.Proofs.YtellndmbllmjgaaGreatDoor
open Go.RowKit Go.Shelf Go.Sort Fs

set_option maxRecDepth 100000 in
set_option maxHeartbeats 1000000 in
theorem shiftL_any (w : World) (b : Nat) (t : TypeId) (f : Nat → Nat) (nd : Nat) (dp : Int) (tr : Bool) (h : DecW w b t f nd dp tr) (hnd : nd ≤ 800) (N : Nat) (hR : Row f nd N) (k : Nat) (hk0 : 0 < k) (hk : k ≤ 60)
    (hdp : -100000 ≤ dp) (hdp2 : dp ≤ 100000) (hC : Cheats w) :
    Calls Tryz.prog 223 #[.pointer (some ⟨b, 0, none⟩), .int .i64 (k : Int)] w fun e w' => ∃ g nd' dp' tr', e = .returned (.tuple #[]) ∧ DecW w' b t g nd' dp' tr' ∧ Doubled k f nd dp tr g nd' dp' tr' ∧ nd' ≤ 800 ∧ Kx [b] w w' := by
  have c1 := leftShift_any w b t f nd dp tr h hnd N hR k hk0 hk hdp hdp2 hC
  have c800 := h.cnd
  have hnd0 := hR.pos
  have k1 : ((nd : Int) == 0) = false := by rw [beq_eq_false_iff_ne]; omega
  have k2 : (0 : Int) < (k : Int) := by omega
  have k3 : ¬ (60 : Int) < (k : Int) := by omega
  clear h hR hC
  go_enter Tryz.func223, Tryz.ntmps223
  go_wp2
  refine wp_loop_once ?_
  go_wp2_with (first | (go_at_call 263; fail))
  refine c1.mono ?_
  rintro e w5 ⟨g, nd', dp', tr', rfl, hF⟩
  have HF := (show Hid _ from hF)
  clear hF c1 c800
  go_wp2
  refine bodyPost_end (results_none rfl _ _ _) rfl ?_
  exact ⟨g, nd', dp', tr', rfl, HF.out⟩
set_option maxRecDepth 100000 in
set_option maxHeartbeats 1000000 in
theorem shiftR_small (w : World) (b : Nat) (t : TypeId) (f : Nat → Nat) (nd : Nat) (dp : Int) (tr : Bool) (h : DecW w b t f nd dp tr) (hnd : nd ≤ 800) (N : Nat) (hR : Row f nd N) (k : Nat) (hk0 : 0 < k) (hk : k ≤ 60)
    (hdp : -100000 ≤ dp) (hdp2 : dp ≤ 100000) :
    Calls Tryz.prog 223 #[.pointer (some ⟨b, 0, none⟩), .int .i64 (-(k : Int))] w fun e w' => ∃ g nd' dp' tr', e = .returned (.tuple #[]) ∧ DecW w' b t g nd' dp' tr' ∧ Halved k f nd dp tr g nd' dp' tr' ∧ nd' ≤ 800 ∧ Kx [b] w w' := by
  have c1 := rightShift_any w b t f nd dp tr h hnd N hR k hk0 hk hdp hdp2
  have c800 := h.cnd
  have hnd0 := hR.pos
  have k1 : ((nd : Int) == 0) = false := by rw [beq_eq_false_iff_ne]; omega
  obtain ⟨x, hx⟩ : ∃ x : Int, x = -(k : Int) := ⟨_, rfl⟩
  rw [← hx]
  have k2 : ¬ (0 : Int) < x := by omega
  have k3 : x < 0 := by omega
  have k4 : ¬ x < -60 := by omega
  have k5 : -x = (k : Int) := by omega
  clear h hR hx
  go_enter Tryz.func223, Tryz.ntmps223
  go_wp2
  refine wp_loop_once ?_
  go_wp2_with (first | (go_at_call 264; fail))
  refine c1.mono ?_
  rintro e w5 ⟨g, nd', dp', tr', rfl, hF⟩
  have HF := (show Hid _ from hF)
  clear hF c1 c800
  go_wp2
  refine bodyPost_end (results_none rfl _ _ _) rfl ?_
  exact ⟨g, nd', dp', tr', rfl, HF.out⟩
/-- Halved j times, i are left. -/
inductive ShR (P : (Nat → Nat) → Nat → Int → Bool → Nat → Prop) (n b : Nat) (t : TypeId) (w : World) : Value → World → Prop
  | mk (i j : Nat) (x : Int) (g : Nat → Nat) (nd : Nat) (dp : Int) (tr : Bool) (W : World) (hx : x = -(i : Int)) (hi : 0 < i) (hj : i + j = n) (hP : P g nd dp tr j) (hD : DecW W b t g nd dp tr) (hK : Kx [b] w W) : ShR P n b t w (.int .i64 x) W
set_option maxRecDepth 100000 in
set_option maxHeartbeats 1000000 in
theorem shiftR_any (P : (Nat → Nat) → Nat → Int → Bool → Nat → Prop) (n : Nat) (hn0 : 0 < n) (hn : n ≤ 2000)
    (hP : ∀ g nd dp tr j, P g nd dp tr j → nd ≤ 800 ∧ (∃ N, Row g nd N) ∧ -100000 ≤ dp ∧ dp ≤ 100000)
    (hS : ∀ g nd dp tr j i g' nd' dp' tr', P g nd dp tr j → 0 < i → i ≤ 60 → j + i ≤ n → Halved i g nd dp tr g' nd' dp' tr' → nd' ≤ 800 → P g' nd' dp' tr' (j + i))
    (w : World) (b : Nat) (t : TypeId) (f : Nat → Nat) (nd : Nat) (dp : Int) (tr : Bool) (h : DecW w b t f nd dp tr) (h0 : P f nd dp tr 0) :
    Calls Tryz.prog 223 #[.pointer (some ⟨b, 0, none⟩), .int .i64 (-(n : Int))] w fun e w' => ∃ g nd' dp' tr', e = .returned (.tuple #[]) ∧ DecW w' b t g nd' dp' tr' ∧ P g nd' dp' tr' n ∧ Kx [b] w w' := by
  have HP := (show Hid _ from hP)
  have HS := (show Hid _ from hS)
  have S0 : Hid (ShR P n b t w (.int .i64 (-(n : Int))) w) := .mk n 0 _ f nd dp tr w rfl hn0 (by omega) h0 h (Kx.refl _ _)
  have CR : Hid (∀ W g nd dp tr j i, 0 < i → i ≤ 60 → P g nd dp tr j → DecW W b t g nd dp tr → Calls Tryz.prog 264 #[.pointer (some ⟨b, 0, none⟩), .int .u64 ((i : Nat) : Int)] W fun e w' => ∃ g' nd' dp' tr', e = .returned (.tuple #[]) ∧ DecW w' b t g' nd' dp' tr' ∧ Halved i g nd dp tr g' nd' dp' tr' ∧ nd' ≤ 800 ∧ Kx [b] W w') := by
    intro W g nd dp tr j i hi0 hi hp hd
    obtain ⟨q1, ⟨N, q2⟩, q3, q4⟩ := hP g nd dp tr j hp
    exact rightShift_any W b t g nd dp tr hd q1 N q2 i hi0 hi q3 q4
  have c800 := h.cnd
  obtain ⟨q1, ⟨N, q2⟩, q3, q4⟩ := hP f nd dp tr 0 h0
  have hnd0 := q2.pos
  have k1 : ((nd : Int) == 0) = false := by rw [beq_eq_false_iff_ne]; omega
  clear h h0 hP hS q2 q3 q4
  obtain ⟨x, hx⟩ : ∃ x : Int, x = -(n : Int) := ⟨_, rfl⟩
  rw [← hx] at S0 ⊢
  have k2 : ¬ (0 : Int) < x := by omega
  have k3 : x < 0 := by omega
  clear hx
  go_enter Tryz.func223, Tryz.ntmps223
  go_wp2
  clear k1 k2 k3 c800
  generalize decide (0 < x) = v1
  generalize decide (x < 0) = v2
  go_loopw [1] (fun vk wr => ShR P n b t w vk wr) (fun vk _ => (-(intOf vk)).toNat)
  case atStart => exact S0.out
  case round =>
    obtain ⟨i, j, x, g, nd, dp, tr, _, hx, hi, hj, hp, hD, hK⟩ := hrel
    have HK3 : Hid (Kx [b] w wr) := hK
    have HJ : Hid (x = -(i : Int) ∧ 0 < i ∧ i + j = n ∧ P g nd dp tr j) := ⟨hx, hi, hj, hp⟩
    rcases Nat.lt_or_ge 60 i with h60 | h60
    · have z1 : x < -60 := by omega
      have z2 : -3000 ≤ x := by omega
      have c1 := CR.out wr g nd dp tr j 60 (by decide) (by decide) hp hD
      have HI60 : Hid (60 < i) := h60
      clear hx hi hj hp hD hK h60
      go_wp2_with (first | (go_at_call 264; fail))
      refine c1.mono ?_
      rintro e w5 ⟨g', nd', dp', tr', rfl, a1, a2, a3, a4⟩
      have HF : Hid (ShR P n b t w (.int .i64 (x + 60)) w5) := by
        obtain ⟨h1, h2, h3, h4⟩ := HJ.out
        have h6 := HI60.out
        exact .mk (i - 60) (j + 60) _ g' nd' dp' tr' w5 (by omega) (by omega) (by omega) (HS.out _ _ _ _ _ _ _ _ _ _ h4 (by decide) (by decide) (by omega) a2 a3) a1 (HK3.out.same a4)
      clear a1 a2 a3 a4 c1
      go_wp2
      exact ⟨HF.out, by simp [intOf]; omega⟩
    · have z1 : ¬ x < -60 := by omega
      have z2 : -x = (i : Int) := by omega
      have z3 : i ≤ 60 := h60
      have c1 := CR.out wr g nd dp tr j i hi h60 hp hD
      clear hx hi hj hp hD hK h60
      go_wp2_with (first | (go_at_call 264; fail))
      refine c1.mono ?_
      rintro e w5 ⟨g', nd', dp', tr', rfl, a1, a2, a3, a4⟩
      have HF : Hid (DecW w5 b t g' nd' dp' tr' ∧ P g' nd' dp' tr' n ∧ Kx [b] w w5) := by
        obtain ⟨h1, h2, h3, h4⟩ := HJ.out
        have h5 := HS.out _ _ _ _ _ _ _ _ _ _ h4 h2 z3 (by omega) a2 a3
        rw [show j + i = n by omega] at h5
        exact ⟨a1, h5, HK3.out.same a4⟩
      clear a1 a2 a3 a4 c1
      go_wp2
      refine bodyPost_end (results_none rfl _ _ _) rfl ?_
      exact ⟨g', nd', dp', tr', rfl, HF.out⟩
end Go.Proofs.YtellndmbllmjgaaGreatDoor
