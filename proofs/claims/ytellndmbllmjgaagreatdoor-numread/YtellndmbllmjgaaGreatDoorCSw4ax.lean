/- Numbers of a step of leftShift: no walk. -/
import Derived.Test.YtellndmbllmjgaaGreatDoorCSo7x
set_option linter.unusedVariables false
namespace Go.Proofs.YtellndmbllmjgaaGreatDoor
open Go.RowKit Go.Shelf Go.Sort Fs

theorem sl240 (b nd : Nat) (h : nd ≤ 800) (w : World) : (Instr.sliceAt 241 (.pointer (some ⟨b, 0, none⟩)) (some (.int .i64 0)) (some (.int .i64 (nd : Int))) none).run Tryz.prog w = .ok (.slice (some ⟨b, 0, none⟩) nd 800) w := by
  have e1 : Tryz.prog.arrayLen 241 = 800 := by kernel_rfl
  have e2 : Tryz.prog.underlying 241 = some (.array (Tryz.prog.arrayLen 241) (Tryz.prog.elem 241)) := by kernel_rfl
  have e3 : ∀ w, (sizeOf (Tryz.prog.elem 241)).run Tryz.prog w = .ok 1 w := by
    intro w
    have : Tryz.prog.elem 241 = 5 := by kernel_rfl
    rw [this]
    go_simp
  rw [run_sliceAt_array_lh w 241 ⟨b, 0, none⟩ e2 .i64 .i64 0 (nd : Int) (by omega) (by omega) (by rw [e1]; omega), e3, e1]
  simp [Result.andThen, slicedAt]
  rfl
/-- Doubling, c digits written. -/
inductive LsI (f : Nat → Nat) (nd m N k : Nat) (tr : Bool) (b : Nat) (t : TypeId) (dp : Int) (w : World) : Value → Value → Value → World → Prop
  | mk (c n : Nat) (r ω : Int) (g : Nat → Nat) (t' : Bool) (W : World) (hc : c ≤ nd) (hr : r = (nd : Int) - 1 - c) (hω : ω = (m : Int) - c) (hn : n = lsN N k c) (hI : LeftI f nd m (N * 2 ^ k) c tr g t') (hD : DecW W b t g nd dp t') (hK : Kx [b] w W) :
      LsI f nd m N k tr b t dp w (.int .i64 r) (.int .i64 ω) (.int .u64 (n : Int)) W
/-- .. behind the first loop. -/
inductive LsJ (f : Nat → Nat) (nd m N k : Nat) (tr : Bool) (b : Nat) (t : TypeId) (dp : Int) (w : World) : Value → Value → World → Prop
  | mk (c n : Nat) (ω : Int) (g : Nat → Nat) (t' : Bool) (W : World) (hc : nd ≤ c) (hc2 : c ≤ m) (hω : ω = (m : Int) - c) (hn : n = N * 2 ^ k / 10 ^ c) (hI : LeftI f nd m (N * 2 ^ k) c tr g t') (hD : DecW W b t g nd dp t') (hK : Kx [b] w W) :
      LsJ f nd m N k tr b t dp w (.int .i64 ω) (.int .u64 (n : Int)) W
theorem wr64 (x : Nat) (h : x < 18446744073709551616) : IntKind.u64.wrap (x : Int) = (x : Int) := by rw [IntKind.wrap_u64]; omega
/-- One round's numbers. -/
theorem ls_round (N k c n d : Nat) (hk : k ≤ 60) (hn : n = lsN N k c) (hd : N / 10 ^ c % 10 = d) :
    ∃ S1 T q P R : Nat, IntKind.u64.wrap ((d : Int) * 2 ^ k) = (S1 : Int) ∧ IntKind.u64.wrap ((n : Int) + (S1 : Int)) = (T : Int) ∧ IntKind.u64.wrap ((T : Int) / 10) = (q : Int) ∧
      IntKind.u64.wrap (10 * (q : Int)) = (P : Int) ∧ IntKind.u64.wrap ((T : Int) - (P : Int)) = (R : Int) ∧ R < 10 ∧ q = lsN N k (c + 1) ∧ R = N * 2 ^ k / 10 ^ c % 10 := by
  have hk60 : 2 ^ k ≤ 1152921504606846976 := Nat.le_trans (Nat.pow_le_pow_right (by decide) hk) (by decide)
  have hd10 : d < 10 := by rw [← hd]; exact Nat.mod_lt _ (by decide)
  have hS : d * 2 ^ k ≤ 9 * 1152921504606846976 := Nat.mul_le_mul (by omega) hk60
  have h1 : n < 1152921504606846976 := Nat.lt_of_lt_of_le (by rw [hn]; exact lsN_lt N k c) hk60
  have hq := ls_quo N k c
  have hr := ls_rem N k c
  rw [hd, ← hn] at hq hr
  generalize hS1 : d * 2 ^ k = S1 at *
  refine ⟨S1, n + S1, (n + S1) / 10, 10 * ((n + S1) / 10), (n + S1) % 10, ?_, ?_, ?_, ?_, ?_, Nat.mod_lt _ (by decide), hq, hr⟩
  · have : (d : Int) * 2 ^ k = (S1 : Int) := by rw [← hS1]; simp
    rw [this]; exact wr64 _ (by omega)
  · have : (n : Int) + (S1 : Int) = ((n + S1 : Nat) : Int) := by omega
    rw [this]; exact wr64 _ (by omega)
  · have : ((n + S1 : Nat) : Int) / 10 = (((n + S1) / 10 : Nat) : Int) := by omega
    rw [this]; exact wr64 _ (by omega)
  · have : 10 * (((n + S1) / 10 : Nat) : Int) = ((10 * ((n + S1) / 10) : Nat) : Int) := by omega
    rw [this]; exact wr64 _ (by omega)
  · have : ((n + S1 : Nat) : Int) - ((10 * ((n + S1) / 10) : Nat) : Int) = (((n + S1) % 10 : Nat) : Int) := by omega
    rw [this]; exact wr64 _ (by omega)
theorem ls_round2 (n : Nat) (h : n < 18446744073709551616) : ∃ q P R : Nat, IntKind.u64.wrap ((n : Int) / 10) = (q : Int) ∧
      IntKind.u64.wrap (10 * (q : Int)) = (P : Int) ∧ IntKind.u64.wrap ((n : Int) - (P : Int)) = (R : Int) ∧ R < 10 ∧ q = n / 10 ∧ R = n % 10 := by
  refine ⟨n / 10, 10 * (n / 10), n % 10, ?_, ?_, ?_, Nat.mod_lt _ (by decide), rfl, rfl⟩
  · have : (n : Int) / 10 = ((n / 10 : Nat) : Int) := by omega
    rw [this]; exact wr64 _ (by omega)
  · have : 10 * ((n / 10 : Nat) : Int) = ((10 * (n / 10) : Nat) : Int) := by omega
    rw [this]; exact wr64 _ (by omega)
  · have : (n : Int) - ((10 * (n / 10) : Nat) : Int) = ((n % 10 : Nat) : Int) := by omega
    rw [this]; exact wr64 _ (by omega)
theorem top_digit {m M : Nat} (hm : 0 < m) (hlo : 10 ^ (m - 1) ≤ M) (hup : M < 10 ^ m) : 0 < M / 10 ^ (m - 1) % 10 := by
  have h1 := Nat.div_pos hlo (p10 (m - 1))
  have h2 : M / 10 ^ (m - 1) < 10 := by
    rw [Nat.div_lt_iff_lt_mul (p10 _)]
    have : 10 ^ m = 10 * 10 ^ (m - 1) := by rw [show m = m - 1 + 1 by omega, Nat.pow_succ, show m - 1 + 1 - 1 = m - 1 by omega, Nat.mul_comm]
    omega
  rw [Nat.mod_eq_of_lt h2]; exact h1
theorem ls_fin {f g : Nat → Nat} {nd m N k nd' δ : Nat} {tr t : Bool} {dp : Int} (hI : LeftI f nd m (N * 2 ^ k) m tr g t) (hN : Row f nd N) (hL : 10 ^ (m - 1) ≤ N * 2 ^ k ∧ N * 2 ^ k < 10 ^ m) (hm : m = nd + δ)
    (hnd : nd' ≤ min m 800) (hz : ∀ i, nd' ≤ i → i < min m 800 → g i = 48) (hl : 0 < nd' → g (nd' - 1) ≠ 48) :
    Doubled k f nd dp tr g nd' (if nd' = 0 then 0 else dp + (δ : Int)) t := by
  have hp := hN.pos
  have h0 : nd' ≠ 0 := by
    intro h0
    have h1 := hz 0 (by omega) (by omega)
    have h2 := hI.new 0 (by omega) (by omega)
    have h3 := top_digit (by omega) hL.1 hL.2
    rw [Nat.sub_zero] at h2
    omega
  rw [if_neg h0]
  have := hI.done (dp := dp) hN hL.1 hL.2 (by omega) hnd hz hl
  rwa [show dp + (m : Int) - (nd : Int) = dp + (δ : Int) by omega] at this
end Go.Proofs.YtellndmbllmjgaaGreatDoor
/- The walk of leftShift. -/
set_option linter.unusedVariables false
namespace Go.Proofs.YtellndmbllmjgaaGreatDoor
open Go.RowKit Go.Shelf Go.Sort Fs

set_option maxRecDepth 100000 in
set_option maxHeartbeats 1000000 in
theorem leftShift_any (w : World) (b : Nat) (t : TypeId) (f : Nat → Nat) (nd : Nat) (dp : Int) (tr : Bool) (h : DecW w b t f nd dp tr) (hnd : nd ≤ 800) (N : Nat) (hR : Row f nd N) (k : Nat) (hk0 : 0 < k) (hk : k ≤ 60)
    (hdp : -100000 ≤ dp) (hdp2 : dp ≤ 100000) (hC : Cheats w) :
    Calls Tryz.prog 263 #[.pointer (some ⟨b, 0, none⟩), .int .u64 (k : Int)] w fun e w' => ∃ g nd' dp' tr', e = .returned (.tuple #[]) ∧ DecW w' b t g nd' dp' tr' ∧ Doubled k f nd dp tr g nd' dp' tr' ∧ nd' ≤ 800 ∧ Kx [b] w w' := by
  obtain ⟨B, off, cap, g12, hcap, hrow⟩ := hC
  obtain ⟨r0, r1⟩ := hrow k (by omega)
  have HD : Hid (DecW w b t f nd dp tr) := h
  have c800 := h.cnd
  obtain ⟨hcs, hat⟩ := ch_at k
  obtain ⟨q1, q2⟩ := ch_ok k (by omega)
  have Q : Hid ((∀ c ∈ chD k, 48 ≤ c ∧ c < 58) ∧ vD (chD k) = 5 ^ k ∧ (chD k).length = k - chW k + 1 ∧ 48 < (chD k).getLastD 0 ∧ (chD k).length ≤ 50) := by
    rcases q2 with q2 | q2
    · omega
    · exact q2
  have cp := fun W (hW : DecW W b t f nd dp tr) => prefix_any W b t f nd dp tr hW hnd _ (chD k) hcs (by have := Q.out; omega) hat
  obtain ⟨X, hX⟩ : ∃ X, X = ByteArray.mk ((Go.Pinned.cheatRows.getD k (0, [])).2).toArray := ⟨_, rfl⟩
  rw [← hX] at r1 cp
  have CP := (show Hid _ from cp)
  have hkI : (k : Int) < 61 := by omega
  have HR : Hid (Row f nd N) := hR
  have hsl := sl240 b nd hnd
  clear h hrow hcs hat q1 q2 cp hX hR
  go_enter Tryz.func263, Tryz.ntmps263
  go_wp2
  go_quiet (first | (go_at_call 281; exact Calls.quiet_of (CP.out _ (HD.out.drewN _))))
  obtain ⟨W, hW⟩ : ∃ W, W = w.drewN nq := ⟨_, rfl⟩
  rw [← hW]
  have HD2 : Hid (DecW W b t f nd dp tr) := by rw [hW]; exact HD.out.drewN nq
  have HK2 : Hid (Kx [b] w W) := by rw [hW]; exact (Kx.refl _ _).drw nq
  have d800 := HD2.out.cnd
  clear hW c800 r0 r1 g12 HD CP
  obtain ⟨bt, hbt⟩ : ∃ bt, bt = pre ((List.range nd).map f) (chD k) := ⟨_, rfl⟩
  rw [← hbt]
  obtain ⟨m, hm⟩ : ∃ m, m = nd + (if pre ((List.range nd).map f) (chD k) = true then chW k - 1 else chW k) := ⟨_, rfl⟩
  have hlim := cheat_ok HR.out hk0 hk Q.out.1 Q.out.2.1 Q.out.2.2.1 (ch_last Q.out.2.2.2.1) m hm
  have chk := chW_ok k (by omega) hk0
  rw [← hbt] at hm
  have HL : Hid (10 ^ (m - 1) ≤ N * 2 ^ k ∧ N * 2 ^ k < 10 ^ m) := hlim
  have ch0 := chk.1
  have ch1 : chW k ≤ 60 := by omega
  clear hlim hbt chk
  generalize chW k = D at *
  cases bt with
  | true =>
    go_wp2
    obtain ⟨δ, hδ⟩ : ∃ δ : Nat, (D : Int) - 1 = (δ : Int) := ⟨D - 1, by omega⟩
    have hm2 : m = nd + δ := by simp at hm; omega
    rw [hδ]
    have hδ2 : δ ≤ 60 := by omega
    clear hδ hm
    have HM : Hid (m = nd + δ) := hm2
    clear hm2
    go_loopw [5, 6, 7] (fun vr vw vn wr => LsI f nd m N k tr b t dp w vr vw vn wr) (fun vr _ _ _ => (intOf vr + 1).toNat)
    case atStart => exact .mk 0 0 _ _ f tr W (Nat.zero_le _) (by simp) (by have := HM.out; omega) (lsN_zero _ _).symm (LeftI.start _ _ _ _ _) HD2.out HK2.out
    case round =>
      obtain ⟨c, n, r, ω, g, t', _, hc, hr, hω, hn, hI, hD, hK⟩ := hrel
      have HI := (show Hid _ from hI)
      have HD3 : Hid (DecW wr b t g nd dp t') := hD
      have HK3 : Hid (Kx [b] w wr) := hK
      rcases Nat.lt_or_eq_of_le hc with hlt | heq
      · obtain ⟨ρ, hρ⟩ : ∃ ρ : Nat, ρ = nd - 1 - c := ⟨_, rfl⟩
        obtain rfl : r = (ρ : Int) := by omega
        have hold := hI.old ρ (by omega)
        have hget := HR.out.get ρ (by omega)
        have cd := hD.dig ρ (by omega)
        rw [hold, hget] at cd
        have hNc : nd - 1 - ρ = c := by omega
        rw [hNc] at cd
        obtain ⟨d, hd⟩ : ∃ d, N / 10 ^ c % 10 = d := ⟨_, rfl⟩
        rw [hd] at cd
        have hd10 : d < 10 := by rw [← hd]; exact Nat.mod_lt _ (by decide)
        have hρ8 : (ρ : Int) < 800 := by omega
        obtain ⟨x, hx⟩ : ∃ x, x = 48 + d := ⟨_, rfl⟩
        rw [← hx] at cd
        have hxd : (x : Int) - 48 = (d : Int) := by omega
        have hx0 : 48 ≤ (x : Int) := by omega
        have hx1 : (x : Int) < 58 := by omega
        obtain ⟨o, ho⟩ : ∃ o : Nat, ω = (o : Int) + 1 := ⟨(ω - 1).toNat, by have := HM.out; omega⟩
        have HO : Hid (o + c + 1 = m ∧ c < nd ∧ ρ = nd - 1 - c) := by have := HM.out; exact ⟨by omega, hlt, hρ⟩
        subst ho
        have ho9 : o < 1000 := by have := HM.out; omega
        obtain ⟨S1, T, q, P, R, e1, e2, e3, e4, e5, hR10, hq, hRR⟩ := ls_round N k c n d hk hn hd
        have HQ : Hid (q = lsN N k (c + 1) ∧ R = N * 2 ^ k / 10 ^ c % 10) := ⟨hq, hRR⟩
        have hmeas : (intOf (Value.int IntKind.i64 ((ρ : Int) - 1)) + 1).toNat < (intOf (Value.int IntKind.i64 (ρ : Int)) + 1).toNat := by simp [intOf]
        have HME := (show Hid _ from hmeas)
        have co := fun h => hD.dig o h
        have fz := hD.fz
        have ct := hD.ctr
        clear hold hget hNc hn hI hD hK hr hω hd hx hρ hq hRR hmeas hlt hc
        by_cases ho8 : o < 800
        · have co := co ho8
          have fo := fz o
          have ho8' : (o : Int) < 800 := by omega
          have HO8 : Hid (o < 800) := ho8
          clear ct fz
          go_wp2
          refine ⟨?_, HME.out⟩
          have h1 := HO.out
          have h2 := HQ.out
          have e6 : (R : Int) + 48 = ((48 + R : Nat) : Int) := by omega
          rw [e6]
          refine .mk (c + 1) q _ _ (putD g o (48 + R)) t' _ (by omega) (by omega) (by omega) h2.1 ?_ (HD3.out.put o (48 + R) HO8.out) (HK3.out.set (by simp) _)
          rw [h2.2]
          exact HI.out.put (by have := HM.out; omega) h1.1 HO8.out
        · have ho8' : ¬ (o : Int) < 800 := by omega
          have fo := fz 803
          have HO8 : Hid (800 ≤ o) := Nat.le_of_not_lt ho8
          clear co fz
          by_cases hR0 : R = 0
          · subst hR0
            go_wp2
            refine ⟨?_, HME.out⟩
            have h1 := HO.out
            have h2 := HQ.out
            refine .mk (c + 1) q _ _ g t' _ (by omega) (by omega) (by omega) h2.1 ?_ HD3.out HK3.out
            have h3 := HI.out.drop h1.1 HO8.out
            rw [← h2.2] at h3
            simpa using h3
          · have hR1 : ((R : Int) == 0) = false := by rw [beq_eq_false_iff_ne]; omega
            have hR2 : ((R : Int) != 0) = true := by rw [bne_iff_ne]; omega
            have HR0 : Hid (R ≠ 0) := hR0
            clear hR0
            go_wp2
            refine ⟨?_, HME.out⟩
            have h1 := HO.out
            have h2 := HQ.out
            refine .mk (c + 1) q _ _ g true _ (by omega) (by omega) (by omega) h2.1 ?_ (HD3.out.setTr true) (HK3.out.set (by simp) _)
            have h3 := HI.out.drop h1.1 HO8.out
            rw [← h2.2, decide_eq_true HR0.out, Bool.or_true] at h3
            exact h3
      · have hr' : r = -1 := by omega
        subst hr'
        have J0 : Hid (LsJ f nd m N k tr b t dp w (.int .i64 ω) (.int .u64 (n : Int)) wr) := by
          refine .mk c n ω g t' wr (by omega) (by have := HM.out; omega) hω ?_ hI hD hK
          rw [hn, ls_all (by rw [heq]; exact HR.out.up)]
        clear hn hI hD hK hr hω hc heq HI HD3 HK3
        go_wp2
        clear hkI
        go_loopw [6, 7] (fun vw vn wr => LsJ f nd m N k tr b t dp w vw vn wr) (fun vw _ _ => (intOf vw).toNat)
        case atStart => exact J0.out
        case round =>
          obtain ⟨c, n, ω, g, t', _, hc, hc2, hω, hn, hI, hD, hK⟩ := hrel
          have HI := (show Hid _ from hI)
          have HD3 : Hid (DecW wr b t g nd dp t') := hD
          have HK3 : Hid (Kx [b] w wr) := hK
          have HN : Hid (n = N * 2 ^ k / 10 ^ c) := hn
          have hnb : n < 18446744073709551616 := by
            have h1 : N * 2 ^ k / 10 ^ c ≤ 2 ^ k := by
              have h2 : N < 10 ^ c := Nat.lt_of_lt_of_le HR.out.up (ten_mono hc)
              rw [← ls_all h2]; exact Nat.le_of_lt (lsN_lt N k c)
            have h2 : 2 ^ k ≤ 2 ^ 60 := Nat.pow_le_pow_right (by decide) hk
            have h3 : (2 : Nat) ^ 60 < 18446744073709551616 := by decide
            omega
          rcases Nat.eq_zero_or_pos n with h0 | h0
          · subst h0
            have hcm : c = m := by
              have h1 := HL.out.1
              have h2 := HN.out
              have h3 : N * 2 ^ k < 10 ^ c := by
                rcases Nat.lt_or_ge (N * 2 ^ k) (10 ^ c) with h4 | h4
                · exact h4
                · have := Nat.div_pos h4 (p10 c); omega
              rcases Nat.lt_or_ge c m with h4 | h4
              · have := ten_mono (show c ≤ m - 1 by omega); omega
              · omega
            subst hcm
            have d800 := hD.cnd
            have d801 := hD.cdp
            have f800 := hD.fz 800
            have f801 := hD.fz 801
            have HMC : Hid (c = nd + δ ∧ nd ≤ c) := ⟨HM.out, hc⟩
            clear hω hn hI hD hK hc hc2 HN HM J0 HD2 HK2 hsl
            by_cases hm8 : 800 ≤ nd + δ
            · have hm9 : (800 : Int) ≤ (nd : Int) + (δ : Int) := by omega
              have HM8 : Hid (800 ≤ nd + δ) := hm8
              clear hm8
              go_wp2_with (first | (go_at_call 262; fail))
              have D4 := ((HD3.out.setNd (nd + δ)).setNd 800).setDp (dp + δ)
              have K4 := ((HK3.out.set (p := ⟨b, 800, none⟩) (by simp) (.int .i64 ((nd : Int) + (δ : Int)))).set (p := ⟨b, 800, none⟩) (by simp) (.int .i64 800)).set (p := ⟨b, 801, none⟩) (by simp) (.int .i64 (dp + (δ : Int)))
              refine (trimD_any _ b t g 800 (dp + δ) t' D4 (by omega)).mono ?_
              rintro e w5 ⟨nd', rfl, a1, a2, a3, a4, a5⟩
              have HF : Hid (DecW w5 b t g nd' (if nd' = 0 then 0 else dp + (δ : Int)) t' ∧ Doubled k f nd dp tr g nd' (if nd' = 0 then 0 else dp + (δ : Int)) t' ∧ nd' ≤ 800 ∧ Kx [b] w w5) := by
                have h1 := HMC.out
                have h8 := HM8.out
                exact ⟨a4, ls_fin HI.out HR.out HL.out h1.1 (by omega) (fun i x y => a2 i x (by omega)) a3, a1, K4.same a5⟩
              clear D4 K4 a1 a2 a3 a4 a5
              go_wp2
              refine bodyPost_end (results_none rfl _ _ _) rfl ?_
              exact ⟨g, nd', _, t', rfl, HF.out⟩
            · have hm9 : ¬ (800 : Int) ≤ (nd : Int) + (δ : Int) := by omega
              have HM8 : Hid (¬ 800 ≤ nd + δ) := hm8
              clear hm8
              go_wp2_with (first | (go_at_call 262; fail))
              have D4 := (HD3.out.setNd (nd + δ)).setDp (dp + δ)
              have K4 := (HK3.out.set (p := ⟨b, 800, none⟩) (by simp) (.int .i64 ((nd : Int) + (δ : Int)))).set (p := ⟨b, 801, none⟩) (by simp) (.int .i64 (dp + (δ : Int)))
              refine (trimD_any _ b t g (nd + δ) (dp + δ) t' D4 (by have := HM8.out; omega)).mono ?_
              rintro e w5 ⟨nd', rfl, a1, a2, a3, a4, a5⟩
              have HF : Hid (DecW w5 b t g nd' (if nd' = 0 then 0 else dp + (δ : Int)) t' ∧ Doubled k f nd dp tr g nd' (if nd' = 0 then 0 else dp + (δ : Int)) t' ∧ nd' ≤ 800 ∧ Kx [b] w w5) := by
                have h1 := HMC.out
                have h8 := HM8.out
                exact ⟨a4, ls_fin HI.out HR.out HL.out h1.1 (by omega) (fun i x y => a2 i x (by omega)) a3, by omega, K4.same a5⟩
              clear D4 K4 a1 a2 a3 a4 a5
              go_wp2
              refine bodyPost_end (results_none rfl _ _ _) rfl ?_
              exact ⟨g, nd', _, t', rfl, HF.out⟩
          · have hcm : c < m := by
              rcases Nat.lt_or_ge c m with h4 | h4
              · exact h4
              · have h5 : c = m := by omega
                have h6 := Nat.div_eq_of_lt HL.out.2
                rw [← h5, ← hn] at h6
                omega
            obtain ⟨o, ho⟩ : ∃ o : Nat, ω = (o : Int) + 1 := ⟨(ω - 1).toNat, by omega⟩
            subst ho
            have HO : Hid (o + c + 1 = m ∧ nd ≤ c) := ⟨by omega, hc⟩
            have ho9 : o < 1000 := by have := HM.out; omega
            obtain ⟨q, P, R, e3, e4, e5, hR10, hq, hRR⟩ := ls_round2 n hnb
            have HQ : Hid (q = N * 2 ^ k / 10 ^ (c + 1) ∧ R = N * 2 ^ k / 10 ^ c % 10) := ⟨by rw [hq, hn, div_next], by rw [hRR, hn]⟩
            have hn0 : (0 : Int) < (n : Int) := by omega
            have hmeas : (intOf (Value.int IntKind.i64 (o : Int))).toNat < (intOf (Value.int IntKind.i64 ((o : Int) + 1))).toNat := by simp [intOf]
            have HME := (show Hid _ from hmeas)
            have co := fun h => hD.dig o h
            have fz := hD.fz
            have ct := hD.ctr
            clear hn hI hD hK hω hq hRR hmeas hc hc2 hcm
            by_cases ho8 : o < 800
            · have co := co ho8
              have fo := fz o
              have ho8' : (o : Int) < 800 := by omega
              have HO8 : Hid (o < 800) := ho8
              clear ct fz
              go_wp2
              refine ⟨?_, HME.out⟩
              have h1 := HO.out
              have h2 := HQ.out
              have e6 : (R : Int) + 48 = ((48 + R : Nat) : Int) := by omega
              rw [e6]
              refine .mk (c + 1) q _ (putD g o (48 + R)) t' _ (by omega) (by omega) (by omega) h2.1 ?_ (HD3.out.put o (48 + R) HO8.out) (HK3.out.set (by simp) _)
              rw [h2.2]
              exact HI.out.put (by have := HM.out; omega) h1.1 HO8.out
            · have ho8' : ¬ (o : Int) < 800 := by omega
              have fo := fz 803
              have HO8 : Hid (800 ≤ o) := Nat.le_of_not_lt ho8
              clear co fz
              by_cases hR0 : R = 0
              · subst hR0
                go_wp2
                refine ⟨?_, HME.out⟩
                have h1 := HO.out
                have h2 := HQ.out
                refine .mk (c + 1) q _ g t' _ (by omega) (by omega) (by omega) h2.1 ?_ HD3.out HK3.out
                have h3 := HI.out.drop h1.1 HO8.out
                rw [← h2.2] at h3
                simpa using h3
              · have hR1 : ((R : Int) == 0) = false := by rw [beq_eq_false_iff_ne]; omega
                have hR2 : ((R : Int) != 0) = true := by rw [bne_iff_ne]; omega
                have HR0 : Hid (R ≠ 0) := hR0
                clear hR0
                go_wp2
                refine ⟨?_, HME.out⟩
                have h1 := HO.out
                have h2 := HQ.out
                refine .mk (c + 1) q _ g true _ (by omega) (by omega) (by omega) h2.1 ?_ (HD3.out.setTr true) (HK3.out.set (by simp) _)
                have h3 := HI.out.drop h1.1 HO8.out
                rw [← h2.2, decide_eq_true HR0.out, Bool.or_true] at h3
                exact h3
  | false =>
    go_wp2
    obtain ⟨δ, hδ⟩ : ∃ δ : Nat, (D : Int) = (δ : Int) := ⟨D, rfl⟩
    have hm2 : m = nd + δ := by simp at hm; omega
    rw [hδ]
    have hδ2 : δ ≤ 60 := by omega
    clear hδ hm
    have HM : Hid (m = nd + δ) := hm2
    clear hm2
    go_loopw [5, 6, 7] (fun vr vw vn wr => LsI f nd m N k tr b t dp w vr vw vn wr) (fun vr _ _ _ => (intOf vr + 1).toNat)
    case atStart => exact .mk 0 0 _ _ f tr W (Nat.zero_le _) (by simp) (by have := HM.out; omega) (lsN_zero _ _).symm (LeftI.start _ _ _ _ _) HD2.out HK2.out
    case round =>
      obtain ⟨c, n, r, ω, g, t', _, hc, hr, hω, hn, hI, hD, hK⟩ := hrel
      have HI := (show Hid _ from hI)
      have HD3 : Hid (DecW wr b t g nd dp t') := hD
      have HK3 : Hid (Kx [b] w wr) := hK
      rcases Nat.lt_or_eq_of_le hc with hlt | heq
      · obtain ⟨ρ, hρ⟩ : ∃ ρ : Nat, ρ = nd - 1 - c := ⟨_, rfl⟩
        obtain rfl : r = (ρ : Int) := by omega
        have hold := hI.old ρ (by omega)
        have hget := HR.out.get ρ (by omega)
        have cd := hD.dig ρ (by omega)
        rw [hold, hget] at cd
        have hNc : nd - 1 - ρ = c := by omega
        rw [hNc] at cd
        obtain ⟨d, hd⟩ : ∃ d, N / 10 ^ c % 10 = d := ⟨_, rfl⟩
        rw [hd] at cd
        have hd10 : d < 10 := by rw [← hd]; exact Nat.mod_lt _ (by decide)
        have hρ8 : (ρ : Int) < 800 := by omega
        obtain ⟨x, hx⟩ : ∃ x, x = 48 + d := ⟨_, rfl⟩
        rw [← hx] at cd
        have hxd : (x : Int) - 48 = (d : Int) := by omega
        have hx0 : 48 ≤ (x : Int) := by omega
        have hx1 : (x : Int) < 58 := by omega
        obtain ⟨o, ho⟩ : ∃ o : Nat, ω = (o : Int) + 1 := ⟨(ω - 1).toNat, by have := HM.out; omega⟩
        have HO : Hid (o + c + 1 = m ∧ c < nd ∧ ρ = nd - 1 - c) := by have := HM.out; exact ⟨by omega, hlt, hρ⟩
        subst ho
        have ho9 : o < 1000 := by have := HM.out; omega
        obtain ⟨S1, T, q, P, R, e1, e2, e3, e4, e5, hR10, hq, hRR⟩ := ls_round N k c n d hk hn hd
        have HQ : Hid (q = lsN N k (c + 1) ∧ R = N * 2 ^ k / 10 ^ c % 10) := ⟨hq, hRR⟩
        have hmeas : (intOf (Value.int IntKind.i64 ((ρ : Int) - 1)) + 1).toNat < (intOf (Value.int IntKind.i64 (ρ : Int)) + 1).toNat := by simp [intOf]
        have HME := (show Hid _ from hmeas)
        have co := fun h => hD.dig o h
        have fz := hD.fz
        have ct := hD.ctr
        clear hold hget hNc hn hI hD hK hr hω hd hx hρ hq hRR hmeas hlt hc
        by_cases ho8 : o < 800
        · have co := co ho8
          have fo := fz o
          have ho8' : (o : Int) < 800 := by omega
          have HO8 : Hid (o < 800) := ho8
          clear ct fz
          go_wp2
          refine ⟨?_, HME.out⟩
          have h1 := HO.out
          have h2 := HQ.out
          have e6 : (R : Int) + 48 = ((48 + R : Nat) : Int) := by omega
          rw [e6]
          refine .mk (c + 1) q _ _ (putD g o (48 + R)) t' _ (by omega) (by omega) (by omega) h2.1 ?_ (HD3.out.put o (48 + R) HO8.out) (HK3.out.set (by simp) _)
          rw [h2.2]
          exact HI.out.put (by have := HM.out; omega) h1.1 HO8.out
        · have ho8' : ¬ (o : Int) < 800 := by omega
          have fo := fz 803
          have HO8 : Hid (800 ≤ o) := Nat.le_of_not_lt ho8
          clear co fz
          by_cases hR0 : R = 0
          · subst hR0
            go_wp2
            refine ⟨?_, HME.out⟩
            have h1 := HO.out
            have h2 := HQ.out
            refine .mk (c + 1) q _ _ g t' _ (by omega) (by omega) (by omega) h2.1 ?_ HD3.out HK3.out
            have h3 := HI.out.drop h1.1 HO8.out
            rw [← h2.2] at h3
            simpa using h3
          · have hR1 : ((R : Int) == 0) = false := by rw [beq_eq_false_iff_ne]; omega
            have hR2 : ((R : Int) != 0) = true := by rw [bne_iff_ne]; omega
            have HR0 : Hid (R ≠ 0) := hR0
            clear hR0
            go_wp2
            refine ⟨?_, HME.out⟩
            have h1 := HO.out
            have h2 := HQ.out
            refine .mk (c + 1) q _ _ g true _ (by omega) (by omega) (by omega) h2.1 ?_ (HD3.out.setTr true) (HK3.out.set (by simp) _)
            have h3 := HI.out.drop h1.1 HO8.out
            rw [← h2.2, decide_eq_true HR0.out, Bool.or_true] at h3
            exact h3
      · have hr' : r = -1 := by omega
        subst hr'
        have J0 : Hid (LsJ f nd m N k tr b t dp w (.int .i64 ω) (.int .u64 (n : Int)) wr) := by
          refine .mk c n ω g t' wr (by omega) (by have := HM.out; omega) hω ?_ hI hD hK
          rw [hn, ls_all (by rw [heq]; exact HR.out.up)]
        clear hn hI hD hK hr hω hc heq HI HD3 HK3
        go_wp2
        clear hkI
        go_loopw [6, 7] (fun vw vn wr => LsJ f nd m N k tr b t dp w vw vn wr) (fun vw _ _ => (intOf vw).toNat)
        case atStart => exact J0.out
        case round =>
          obtain ⟨c, n, ω, g, t', _, hc, hc2, hω, hn, hI, hD, hK⟩ := hrel
          have HI := (show Hid _ from hI)
          have HD3 : Hid (DecW wr b t g nd dp t') := hD
          have HK3 : Hid (Kx [b] w wr) := hK
          have HN : Hid (n = N * 2 ^ k / 10 ^ c) := hn
          have hnb : n < 18446744073709551616 := by
            have h1 : N * 2 ^ k / 10 ^ c ≤ 2 ^ k := by
              have h2 : N < 10 ^ c := Nat.lt_of_lt_of_le HR.out.up (ten_mono hc)
              rw [← ls_all h2]; exact Nat.le_of_lt (lsN_lt N k c)
            have h2 : 2 ^ k ≤ 2 ^ 60 := Nat.pow_le_pow_right (by decide) hk
            have h3 : (2 : Nat) ^ 60 < 18446744073709551616 := by decide
            omega
          rcases Nat.eq_zero_or_pos n with h0 | h0
          · subst h0
            have hcm : c = m := by
              have h1 := HL.out.1
              have h2 := HN.out
              have h3 : N * 2 ^ k < 10 ^ c := by
                rcases Nat.lt_or_ge (N * 2 ^ k) (10 ^ c) with h4 | h4
                · exact h4
                · have := Nat.div_pos h4 (p10 c); omega
              rcases Nat.lt_or_ge c m with h4 | h4
              · have := ten_mono (show c ≤ m - 1 by omega); omega
              · omega
            subst hcm
            have d800 := hD.cnd
            have d801 := hD.cdp
            have f800 := hD.fz 800
            have f801 := hD.fz 801
            have HMC : Hid (c = nd + δ ∧ nd ≤ c) := ⟨HM.out, hc⟩
            clear hω hn hI hD hK hc hc2 HN HM J0 HD2 HK2 hsl
            by_cases hm8 : 800 ≤ nd + δ
            · have hm9 : (800 : Int) ≤ (nd : Int) + (δ : Int) := by omega
              have HM8 : Hid (800 ≤ nd + δ) := hm8
              clear hm8
              go_wp2_with (first | (go_at_call 262; fail))
              have D4 := ((HD3.out.setNd (nd + δ)).setNd 800).setDp (dp + δ)
              have K4 := ((HK3.out.set (p := ⟨b, 800, none⟩) (by simp) (.int .i64 ((nd : Int) + (δ : Int)))).set (p := ⟨b, 800, none⟩) (by simp) (.int .i64 800)).set (p := ⟨b, 801, none⟩) (by simp) (.int .i64 (dp + (δ : Int)))
              refine (trimD_any _ b t g 800 (dp + δ) t' D4 (by omega)).mono ?_
              rintro e w5 ⟨nd', rfl, a1, a2, a3, a4, a5⟩
              have HF : Hid (DecW w5 b t g nd' (if nd' = 0 then 0 else dp + (δ : Int)) t' ∧ Doubled k f nd dp tr g nd' (if nd' = 0 then 0 else dp + (δ : Int)) t' ∧ nd' ≤ 800 ∧ Kx [b] w w5) := by
                have h1 := HMC.out
                have h8 := HM8.out
                exact ⟨a4, ls_fin HI.out HR.out HL.out h1.1 (by omega) (fun i x y => a2 i x (by omega)) a3, a1, K4.same a5⟩
              clear D4 K4 a1 a2 a3 a4 a5
              go_wp2
              refine bodyPost_end (results_none rfl _ _ _) rfl ?_
              exact ⟨g, nd', _, t', rfl, HF.out⟩
            · have hm9 : ¬ (800 : Int) ≤ (nd : Int) + (δ : Int) := by omega
              have HM8 : Hid (¬ 800 ≤ nd + δ) := hm8
              clear hm8
              go_wp2_with (first | (go_at_call 262; fail))
              have D4 := (HD3.out.setNd (nd + δ)).setDp (dp + δ)
              have K4 := (HK3.out.set (p := ⟨b, 800, none⟩) (by simp) (.int .i64 ((nd : Int) + (δ : Int)))).set (p := ⟨b, 801, none⟩) (by simp) (.int .i64 (dp + (δ : Int)))
              refine (trimD_any _ b t g (nd + δ) (dp + δ) t' D4 (by have := HM8.out; omega)).mono ?_
              rintro e w5 ⟨nd', rfl, a1, a2, a3, a4, a5⟩
              have HF : Hid (DecW w5 b t g nd' (if nd' = 0 then 0 else dp + (δ : Int)) t' ∧ Doubled k f nd dp tr g nd' (if nd' = 0 then 0 else dp + (δ : Int)) t' ∧ nd' ≤ 800 ∧ Kx [b] w w5) := by
                have h1 := HMC.out
                have h8 := HM8.out
                exact ⟨a4, ls_fin HI.out HR.out HL.out h1.1 (by omega) (fun i x y => a2 i x (by omega)) a3, by omega, K4.same a5⟩
              clear D4 K4 a1 a2 a3 a4 a5
              go_wp2
              refine bodyPost_end (results_none rfl _ _ _) rfl ?_
              exact ⟨g, nd', _, t', rfl, HF.out⟩
          · have hcm : c < m := by
              rcases Nat.lt_or_ge c m with h4 | h4
              · exact h4
              · have h5 : c = m := by omega
                have h6 := Nat.div_eq_of_lt HL.out.2
                rw [← h5, ← hn] at h6
                omega
            obtain ⟨o, ho⟩ : ∃ o : Nat, ω = (o : Int) + 1 := ⟨(ω - 1).toNat, by omega⟩
            subst ho
            have HO : Hid (o + c + 1 = m ∧ nd ≤ c) := ⟨by omega, hc⟩
            have ho9 : o < 1000 := by have := HM.out; omega
            obtain ⟨q, P, R, e3, e4, e5, hR10, hq, hRR⟩ := ls_round2 n hnb
            have HQ : Hid (q = N * 2 ^ k / 10 ^ (c + 1) ∧ R = N * 2 ^ k / 10 ^ c % 10) := ⟨by rw [hq, hn, div_next], by rw [hRR, hn]⟩
            have hn0 : (0 : Int) < (n : Int) := by omega
            have hmeas : (intOf (Value.int IntKind.i64 (o : Int))).toNat < (intOf (Value.int IntKind.i64 ((o : Int) + 1))).toNat := by simp [intOf]
            have HME := (show Hid _ from hmeas)
            have co := fun h => hD.dig o h
            have fz := hD.fz
            have ct := hD.ctr
            clear hn hI hD hK hω hq hRR hmeas hc hc2 hcm
            by_cases ho8 : o < 800
            · have co := co ho8
              have fo := fz o
              have ho8' : (o : Int) < 800 := by omega
              have HO8 : Hid (o < 800) := ho8
              clear ct fz
              go_wp2
              refine ⟨?_, HME.out⟩
              have h1 := HO.out
              have h2 := HQ.out
              have e6 : (R : Int) + 48 = ((48 + R : Nat) : Int) := by omega
              rw [e6]
              refine .mk (c + 1) q _ (putD g o (48 + R)) t' _ (by omega) (by omega) (by omega) h2.1 ?_ (HD3.out.put o (48 + R) HO8.out) (HK3.out.set (by simp) _)
              rw [h2.2]
              exact HI.out.put (by have := HM.out; omega) h1.1 HO8.out
            · have ho8' : ¬ (o : Int) < 800 := by omega
              have fo := fz 803
              have HO8 : Hid (800 ≤ o) := Nat.le_of_not_lt ho8
              clear co fz
              by_cases hR0 : R = 0
              · subst hR0
                go_wp2
                refine ⟨?_, HME.out⟩
                have h1 := HO.out
                have h2 := HQ.out
                refine .mk (c + 1) q _ g t' _ (by omega) (by omega) (by omega) h2.1 ?_ HD3.out HK3.out
                have h3 := HI.out.drop h1.1 HO8.out
                rw [← h2.2] at h3
                simpa using h3
              · have hR1 : ((R : Int) == 0) = false := by rw [beq_eq_false_iff_ne]; omega
                have hR2 : ((R : Int) != 0) = true := by rw [bne_iff_ne]; omega
                have HR0 : Hid (R ≠ 0) := hR0
                clear hR0
                go_wp2
                refine ⟨?_, HME.out⟩
                have h1 := HO.out
                have h2 := HQ.out
                refine .mk (c + 1) q _ g true _ (by omega) (by omega) (by omega) h2.1 ?_ (HD3.out.setTr true) (HK3.out.set (by simp) _)
                have h3 := HI.out.drop h1.1 HO8.out
                rw [← h2.2, decide_eq_true HR0.out, Bool.or_true] at h3
                exact h3
end Go.Proofs.YtellndmbllmjgaaGreatDoor
/- Numbers of rightShift: no walk. -/
set_option linter.unusedVariables false
namespace Go.Proofs.YtellndmbllmjgaaGreatDoor
open Go.RowKit Go.Shelf Go.Sort Fs

theorem wraps64 (n : Int) (h₀ : 0 ≤ n) (h₁ : n < 2 ^ 64) : IntKind.u64.wrap n = n := by rw [IntKind.wrap_u64]; omega
/-- Halving: r digits read. -/
inductive RsI (nd N k : Nat) : Value → Value → Prop
  | mk (r n : Nat) (hr : r ≤ nd) (hn : n = hvP N nd r) (hp : 0 < r → hvP N nd (r - 1) < 2 ^ k) : RsI nd N k (.int .i64 (r : Int)) (.int .u64 (n : Int))
/-- .. and zeros behind them. -/
inductive RsJ (nd N k : Nat) : Value → Value → Prop
  | mk (r n : Nat) (hr : nd ≤ r) (hr2 : r ≤ nd + k) (hn : n = hvP N nd r) (hp : 0 < r → hvP N nd (r - 1) < 2 ^ k) (hb : n < 10 * 2 ^ k) : RsJ nd N k (.int .i64 (r : Int)) (.int .u64 (n : Int))
/-- z digits written, r read. -/
inductive RsK (f : Nat → Nat) (nd R m M N k : Nat) (tr : Bool) (b : Nat) (t : TypeId) (dp : Int) (w : World) : Value → Value → Value → World → Prop
  | mk (r z n : Nat) (g : Nat → Nat) (t' : Bool) (W : World) (hr : r ≤ nd ∨ r = R) (hz : r = R + z) (hn : n = hvN N nd k r) (hI : RightI f nd m M r z tr g t') (hD : DecW W b t g nd dp t') (hK : Kx [b] w W) :
      RsK f nd R m M N k tr b t dp w (.int .i64 (r : Int)) (.int .i64 (z : Int)) (.int .u64 (n : Int)) W
/-- .. and those behind the last. -/
inductive RsL (f : Nat → Nat) (nd R m M N k : Nat) (tr : Bool) (b : Nat) (t : TypeId) (dp : Int) (w : World) : Nat → Value → Value → World → Prop
  | mk (j r z y n : Nat) (g : Nat → Nat) (t' : Bool) (W : World) (hj : j + r = nd + k + 1) (hr : nd ≤ r) (hz : r = R + z) (hy : y = min z 800) (hn : n = hvN N nd k r) (hI : RightI f nd m M r z tr g t') (hD : DecW W b t g nd dp t') (hK : Kx [b] w W) :
      RsL f nd R m M N k tr b t dp w j (.int .i64 (y : Int)) (.int .u64 (n : Int)) W
/-- One round's numbers. -/
theorem rs_round (n k Mk : Nat) (hk : k ≤ 60) (hb : n < 10 * 2 ^ k) (hM : Mk = 2 ^ k - 1) : ∃ dg n2 : Nat, (n : Int) / 2 ^ k = (dg : Int) ∧ bits .and .u64 (n : Int) (Mk : Int) = (n2 : Int) ∧ dg < 10 ∧ n2 < 1152921504606846976 ∧ dg = n / 2 ^ k ∧ n2 = n % 2 ^ k := by
  have hk60 : 2 ^ k ≤ 1152921504606846976 := Nat.le_trans (Nat.pow_le_pow_right (by decide) hk) (by decide)
  have hp := p2 k
  refine ⟨n / 2 ^ k, n % 2 ^ k, by simp, ?_, ?_, ?_, rfl, rfl⟩
  · have e : (Mk : Int) = 2 ^ k - 1 := by
      rw [hM]
      have : ((2 ^ k - 1 : Nat) : Int) = ((2 ^ k : Nat) : Int) - 1 := by omega
      rw [this]; simp
    rw [e, bits_mask .u64 64 (by decide) wraps64 k (by omega) (n : Int) (by omega) (by
      have : (n : Int) < 18446744073709551616 := by omega
      exact this)]
    simp
  · rw [Nat.div_lt_iff_lt_mul hp]; exact hb
  · exact Nat.lt_of_lt_of_le (Nat.mod_lt _ hp) hk60
theorem rs_mask (k : Nat) (hk : k ≤ 60) : ∃ Mk : Nat, IntKind.u64.wrap (IntKind.u64.wrap (2 ^ k) - 1) = (Mk : Int) ∧ Mk = 2 ^ k - 1 := by
  have hk60 : 2 ^ k ≤ 1152921504606846976 := Nat.le_trans (Nat.pow_le_pow_right (by decide) hk) (by decide)
  have hp := p2 k
  refine ⟨2 ^ k - 1, ?_, rfl⟩
  have e : (2 : Int) ^ k = ((2 ^ k : Nat) : Int) := by simp
  rw [e]
  generalize 2 ^ k = x at *
  rw [wr64 x (by omega), show (x : Int) - 1 = ((x - 1 : Nat) : Int) by omega, wr64 _ (by omega)]
/-- The digit at its place. -/
theorem rs_digit {N nd k r R z m : Nat} (hm : m = nd + k - R + 1) (hz : r = R + z) (hr : r ≤ nd + k) : hvN N nd k r / 2 ^ k = N * 5 ^ k / 10 ^ (m - 1 - z) % 10 := by
  rw [hvN_dig, hv_is hr]
  congr 3
  omega
theorem rs_fin {f g : Nat → Nat} {nd N k nd' r z R m : Nat} {tr t : Bool} {dp : Int} (hI : RightI f nd m (N * 5 ^ k) r z tr g t) (hN : Row f nd N) (hR0 : 0 < R) (hRk : R ≤ nd + k) (h1 : hvP N nd (R - 1) < 2 ^ k) (h2 : 2 ^ k ≤ hvP N nd R) (h3 : hvP N nd R < 10 * 2 ^ k)
    (hm : m = nd + k - R + 1) (hz : r = R + z) (hr : nd ≤ r) (hr2 : r ≤ nd + k + 1) (h0 : hvN N nd k r = 0)
    (hnd : nd' ≤ min z 800) (hzz : ∀ i, nd' ≤ i → i < min z 800 → g i = 48) (hl : 0 < nd' → g (nd' - 1) ≠ 48) :
    Halved k f nd dp tr g nd' (if nd' = 0 then 0 else dp - ((R : Int) - 1)) t := by
  obtain ⟨a1, a2⟩ := right_digits hN.up hR0 hRk h1 h2
  have hz0 : 0 < z := by
    rcases Nat.eq_zero_or_pos z with h4 | h4
    · exfalso
      have e : r = R := by omega
      rw [e] at h0
      unfold hvN at h0
      rw [Nat.mod_eq_of_lt h3] at h0
      have := p2 k
      omega
    · exact h4
  have b1 : 10 ^ (m - 1) ≤ N * 5 ^ k := by rw [hm, Nat.add_sub_cancel]; exact a1
  have b2 : N * 5 ^ k < 10 ^ m := by rw [hm]; exact a2
  have hzm : N * 5 ^ k % 10 ^ (m - z) = 0 := by
    rcases Nat.lt_or_ge (nd + k) r with h4 | h4
    · rw [show m - z = 0 by omega, Nat.pow_zero, Nat.mod_one]
    · have := hv_none (by omega) hr h4 h0
      rwa [show nd + k - r + 1 = m - z by omega] at this
  have h5 : nd' ≠ 0 := by
    intro h5
    have h6 := hzz 0 (by omega) (by omega)
    have h7 := hI.new 0 (by omega) (by omega)
    have h8 := top_digit (by omega) b1 b2
    rw [Nat.sub_zero] at h7
    omega
  rw [if_neg h5]
  have := hI.done (dp := dp) hN b1 b2 hz0 (by omega) hzm hnd hzz hl
  rwa [show dp + (m : Int) - (nd : Int) - (k : Int) = dp - ((R : Int) - 1) by omega] at this
end Go.Proofs.YtellndmbllmjgaaGreatDoor
