/- The walk of floatBits: the road. -/
import Derived.Test.YtellndmbllmjgaaGreatDoorCSwAx
import Derived.Deep.LoopGhost
set_option linter.unusedVariables false
namespace Go.Proofs.YtellndmbllmjgaaGreatDoor
open Go.RowKit Go.Shelf Go.Sort Fs

attribute [local go_sem] go2_normal go2_exit go2_ret go2_panic
/-- The first loop: halved R times. -/
inductive FbD (B p q b : Nat) (t : TypeId) (w : World) : Value → World → Prop
  | mk (R nd N E : Nat) (g : Nat → Nat) (dp : Int) (tr : Bool) (W : World) (hW : Fs.Way B p q 0 R g nd dp tr N E) (hdp : dp ≤ 400) (hD : DecW W b t g nd dp tr) (hK : Kx [b] w W) : FbD B p q b t w (.int .i64 (R : Int)) W
/-- The second: doubled L times. -/
inductive FbU (B p q b : Nat) (t : TypeId) (w : World) : Nat → Value → World → Prop
  | mk (L R nd N E : Nat) (x : Int) (g : Nat → Nat) (dp : Int) (tr : Bool) (W : World) (hW : Fs.Way B p q L R g nd dp tr N E) (hdp : dp ≤ 0) (hx : x = (R : Int) - L) (hD : DecW W b t g nd dp tr) (hK : Kx [b] w W) : FbU B p q b t w (1100 - L) (.int .i64 x) W
set_option maxRecDepth 100000 in
set_option maxHeartbeats 2000000 in
theorem floatBits_mid (w : World) (b G : Nat) (t : TypeId) (f : Nat → Nat) (nd : Nat) (dp : Int) (tr : Bool) (h : DecW w b t f nd dp tr) (hT : Tabs b G w) (B p q N E : Nat) (hq : 0 < q) (hB : 5000 ≤ B) (hp : p < 10 ^ 310 * q) (hp2 : q ≤ p * 2 ^ 1100)
    (hw : Fs.Way B p q 0 0 f nd dp tr N E) (hdp : -330 ≤ dp) (hdp2 : dp ≤ 310) :
    Calls Tryz.prog 294 #[.pointer (some ⟨b, 0, none⟩), .pointer (some ⟨G, 0, none⟩)] w fun e w' => ∃ R ov, Near p q R ∧ e = .returned (.tuple #[.int .u64 ((min R 9218868437227405312 : Nat) : Int), .bool ov]) ∧ Kx [b] w w' := by
  have c800 := h.cnd
  have c801 := h.cdp
  have hnd := hw.dst.row.pos
  have k1 : ((nd : Int) == 0) = false := by rw [beq_eq_false_iff_ne]; omega
  have k2 : ¬ (310 : Int) < dp := by omega
  have k3 : ¬ dp < -330 := by omega
  have HT : Hid (Tabs b G w) := hT
  have HP : Hid (p < 10 ^ 310 * q ∧ q ≤ p * 2 ^ 1100) := ⟨hp, hp2⟩
  have D0 : Hid (FbD B p q b t w (.int .i64 ((0 : Nat) : Int)) w) := .mk 0 nd N E f dp tr w hw (by omega) h (Kx.refl _ _)
  clear h hT hp hp2 hw
  go_enter Tryz.func294, Tryz.ntmps294
  go_wp2
  refine wp_scope_two 0 1 rfl rfl ?_
  go_wp2
  clear c800 c801 k1 k2 k3 hdp hdp2 hnd
  generalize decide (310 < dp) = v1
  generalize decide (dp < -330) = v2
  go_loopw [6] (fun ve wr => FbD B p q b t w ve wr) (fun ve _ => 1040 - (intOf ve).toNat)
  case atStart => exact D0.out
  case round =>
    obtain ⟨R, nd, N, E, g, dp, tr, _, hW, hdp, hD, hK⟩ := hrel
    have HW := (show Hid (Fs.Way B p q 0 R g nd dp tr N E) from hW)
    have HD : Hid (DecW wr b t g nd dp tr) := hD
    have HK : Hid (Kx [b] w wr) := hK
    have c801 := hD.cdp
    have hfar := hW.far
    have hfew := hW.few
    rcases (by omega : 0 < dp ∨ dp ≤ 0) with h0 | h0
    · obtain ⟨d, rfl⟩ : ∃ d : Nat, dp = d := ⟨dp.toNat, by omega⟩
      obtain ⟨B2, off, cap, _, g17, hcap, hpw⟩ := (HT.out.kx hK).pw
      have hpos := pwt_pos d
      have C1 : Hid (∀ W, DecW W b t g nd d tr → Calls Tryz.prog 223 #[.pointer (some ⟨b, 0, none⟩), .int .i64 (-((pwt d : Nat) : Int))] W fun e w' => ∃ g' nd' dp' tr', e = .returned (.tuple #[]) ∧ DecW w' b t g' nd' dp' tr' ∧ Halved (pwt d) g nd d tr g' nd' dp' tr' ∧ nd' ≤ 800 ∧ Kx [b] W w') := fun W hD' => shiftR_small W b t g nd d tr hD' hW.dst.le N hW.dst.row (pwt d) hpos.1 (by omega) (by omega) (by omega)
      have HD1 : Hid (0 < d) := by show 0 < d; omega
      have NX : Hid (∀ (w5 : World) (g' : Nat → Nat) (nd' : Nat) (dp' : Int) (tr' : Bool), DecW w5 b t g' nd' dp' tr' → Halved (pwt d) g nd d tr g' nd' dp' tr' → Kx [b] wr w5 → FbD B p q b t w (.int .i64 ((R : Int) + ((pwt d : Nat) : Int))) w5) := by
        intro w5 g' nd' dp' tr' a1 a2 a3
        obtain ⟨N', E', a4⟩ := hW.down hq hB HP.out.1 HD1.out a2
        have a5 := halved_le a2 hW.dst.row
        rw [show (R : Int) + ((pwt d : Nat) : Int) = ((R + pwt d : Nat) : Int) by omega]
        exact .mk (R + pwt d) nd' N' E' g' dp' tr' w5 a4 (by omega) a1 (hK.same a3)
      have hR0 : R < 1100 := by omega
      rcases Nat.lt_or_ge d 9 with h9 | h9
      · have r0 := hpw d h9
        obtain ⟨n, hn⟩ : ∃ n, n = pwt d := ⟨_, rfl⟩
        rw [← hn] at C1 NX hpos r0
        have k9 : ¬ (9 : Int) ≤ (d : Int) := by omega
        have hn0 := hpos.1
        have hn1 := hpos.2
        clear hW hD hK hpw hn h9 hpos
        go_wp2
        go_quiet (fail)
        obtain ⟨W, hWW⟩ : ∃ W, W = wr.drewN nq := ⟨_, rfl⟩
        rw [← hWW]
        have HD2 : Hid (DecW W b t g nd d tr) := by rw [hWW]; exact HD.out.drewN nq
        have HK2 : Hid (Kx [b] wr W) := by rw [hWW]; exact Kx.drewN _ _ _
        have g17' : W.cell? ⟨17, 0, none⟩ = some (.slice (some ⟨B2, off, none⟩) 9 cap) := by rw [hWW]; exact g17
        have r0' : W.cell? ⟨B2, off + d, none⟩ = some (.int .i64 (n : Int)) := by rw [hWW]; exact r0
        have d801 := HD2.out.cdp
        clear hWW g17 r0 c801
        go_wp2
        go_quiet (fail)
        obtain ⟨W3, hW3⟩ : ∃ W3, W3 = W.drewN nq := ⟨_, rfl⟩
        rw [← hW3]
        have HD3 : Hid (DecW W3 b t g nd d tr) := by rw [hW3]; exact HD2.out.drewN nq
        have HK3 : Hid (Kx [b] wr W3) := by rw [hW3]; exact HK2.out.drw nq
        have c1 := C1.out W3 HD3.out
        clear hW3 g17' r0' d801
        go_wp2_with (first | (go_at_call 223; fail))
        refine c1.mono ?_
        rintro e w5 ⟨g', nd', dp', tr', rfl, a1, a2, a3, a4⟩
        have HF : Hid (FbD B p q b t w (.int .i64 ((R : Int) + (n : Int))) w5) := NX.out w5 g' nd' dp' tr' a1 a2 (HK3.out.same a4)
        clear a1 a2 a3 a4 c1
        go_wp2
        exact ⟨HF.out, by simp [intOf]; omega⟩
      · rw [pwt_big h9] at C1 NX
        have k9 : (9 : Int) ≤ (d : Int) := by omega
        clear hW hD hK hpw hpos h9
        go_wp2
        go_quiet (fail)
        obtain ⟨W, hWW⟩ : ∃ W, W = wr.drewN nq := ⟨_, rfl⟩
        rw [← hWW]
        have HD2 : Hid (DecW W b t g nd d tr) := by rw [hWW]; exact HD.out.drewN nq
        have HK2 : Hid (Kx [b] wr W) := by rw [hWW]; exact Kx.drewN _ _ _
        have c1 := C1.out W HD2.out
        clear hWW g17 c801
        go_wp2_with (first | (go_at_call 223; fail))
        refine c1.mono ?_
        rintro e w5 ⟨g', nd', dp', tr', rfl, a1, a2, a3, a4⟩
        have HF : Hid (FbD B p q b t w (.int .i64 ((R : Int) + 27)) w5) := NX.out w5 g' nd' dp' tr' a1 a2 (HK2.out.same a4)
        clear a1 a2 a3 a4 c1
        go_wp2
        exact ⟨HF.out, by simp [intOf]; omega⟩
    · have U0 : Hid (FbU B p q b t w 1100 (.int .i64 (R : Int)) wr) := .mk 0 R nd N E (R : Int) g dp tr wr hW h0 (by simp) hD hK
      have h0' : ¬ (0 : Int) < dp := by omega
      have hR0 : R < 1100 := by omega
      clear hW hD hK
      go_wp2
      clear c801 h0 h0' hfar hfew hdp HW HD HK D0
      generalize decide ((0 : Int) < dp) = v3
      go_loopg [6] 1100 (fun j ve w2 => FbU B p q b t w j ve w2)
      case atStart => exact U0.out
      case round =>
        obtain ⟨L, R, nd, N, E, x, g, dp, tr, _, hW, hdp, hx, hD, hK⟩ := hrel
        have HD : Hid (DecW wr b t g nd dp tr) := hD
        have HK : Hid (Kx [b] w wr) := hK
        have c801 := hD.cdp
        have hfar := hW.far
        have hfew := hW.few
        have hlow := hW.low
        have hdg := hW.dst.row.dig hW.dst.row.pos
        have cd0 := hD.dig 0 (by decide)
        by_cases hc : dp < 0 ∨ g 0 < 53
        · skip
          obtain ⟨j, hj⟩ : ∃ j : Nat, dp = -(j : Int) := ⟨(-dp).toNat, by omega⟩
          obtain ⟨B2, off, cap, _, g17, hcap, hpw⟩ := (HT.out.kx hK).pw
          have hpos := pwt_pos j
          have hj0 : j = 0 → g 0 < 53 := by intro h; rcases hc with h1 | h1; (· omega); (· exact h1)
          have C1 : Hid (∀ W, DecW W b t g nd dp tr → Kx [b] w W → Calls Tryz.prog 223 #[.pointer (some ⟨b, 0, none⟩), .int .i64 ((pwt j : Nat) : Int)] W fun e w' => ∃ g' nd' dp' tr', e = .returned (.tuple #[]) ∧ DecW w' b t g' nd' dp' tr' ∧ Doubled (pwt j) g nd dp tr g' nd' dp' tr' ∧ nd' ≤ 800 ∧ Kx [b] W w') := fun W hD' hK' => shiftL_any W b t g nd dp tr hD' hW.dst.le N hW.dst.row (pwt j) hpos.1 (by omega) (by omega) (by omega) (HT.out.kx hK').cheats
          have NX : Hid (∀ (w5 : World) (g' : Nat → Nat) (nd' : Nat) (dp' : Int) (tr' : Bool), DecW w5 b t g' nd' dp' tr' → Doubled (pwt j) g nd dp tr g' nd' dp' tr' → Kx [b] w w5 → FbU B p q b t w (1100 - (L + pwt j)) (.int .i64 (x - ((pwt j : Nat) : Int))) w5) := by
            intro w5 g' nd' dp' tr' a1 a2 a3
            obtain ⟨a5, N', E', a4⟩ := hW.up hq hB HP.out.2 hj hj0 a2
            exact .mk (L + pwt j) R nd' N' E' _ g' dp' tr' w5 a4 a5 (by omega) a1 a3
          have HX : Hid (x = (R : Int) - L ∧ R < 1040 ∧ L < 1100) := ⟨hx, hfew, hlow⟩
          have hx1 : -1200 ≤ x := by omega
          have hx2 : x ≤ 1200 := by omega
          rcases Nat.lt_or_ge j 9 with h9 | h9
          · rcases Nat.eq_zero_or_pos j with hz | hz
            · have hg5 := hj0 hz
              subst hz
              have hdz : dp = 0 := by omega
              subst hdz
              have r0 := hpw 0 h9
              obtain ⟨n, hn⟩ : ∃ n, n = pwt 0 := ⟨_, rfl⟩
              rw [← hn] at C1 NX hpos r0
              have hn0 := hpos.1
              have hn1 := hpos.2
              have k5 : ((g 0 : Nat) : Int) < 53 := by omega
              rw [show off + 0 = off from rfl] at r0
              clear h9 hdp hj hfar
              clear hW hD hK hpw hn hpos hx hfew hlow hc hj0
              go_wp2
              go_quiet (fail)
              obtain ⟨W, hWW⟩ : ∃ W, W = wr.drewN nq := ⟨_, rfl⟩
              rw [← hWW]
              have HD2 : Hid (DecW W b t g nd 0 tr) := by rw [hWW]; exact HD.out.drewN nq
              have HK2 : Hid (Kx [b] w W) := by rw [hWW]; exact HK.out.drw nq
              have g17' : W.cell? ⟨17, 0, none⟩ = some (.slice (some ⟨B2, off, none⟩) 9 cap) := by rw [hWW]; exact g17
              have r0' : W.cell? ⟨B2, off, none⟩ = some (.int .i64 (n : Int)) := by rw [hWW]; exact r0
              have d801 := HD2.out.cdp
              clear hWW g17 r0 c801
              go_wp2
              go_quiet (fail)
              obtain ⟨W3, hW3⟩ : ∃ W3, W3 = W.drewN nq := ⟨_, rfl⟩
              rw [← hW3]
              have HD3 : Hid (DecW W3 b t g nd 0 tr) := by rw [hW3]; exact HD2.out.drewN nq
              have HK3 : Hid (Kx [b] w W3) := by rw [hW3]; exact HK2.out.drw nq
              have c1 := C1.out W3 HD3.out HK3.out
              clear hW3 g17' r0' d801
              go_wp2_with (first | (go_at_call 223; fail))
              refine c1.mono ?_
              rintro e w5 ⟨g', nd', dp', tr', rfl, a1, a2, a3, a4⟩
              have HF : Hid (FbU B p q b t w (1100 - (L + n)) (.int .i64 (x - (n : Int))) w5) := NX.out w5 g' nd' dp' tr' a1 a2 (HK3.out.same a4)
              clear a1 a2 a3 a4 c1
              go_wp2
              go_roundg (1100 - (L + n))
              case measure => have := HX.out; omega
              case rel => exact HF.out
            · have hdn : dp < 0 := by omega
              have r0 := hpw j h9
              obtain ⟨n, hn⟩ : ∃ n, n = pwt j := ⟨_, rfl⟩
              rw [← hn] at C1 NX hpos r0
              have hn0 := hpos.1
              have hn1 := hpos.2
              have k9 : ¬ (9 : Int) ≤ -dp := by omega
              have kj : (-dp).toNat = j := by omega
              have kj2 : -dp = (j : Int) := by omega
              clear h9 hdp hj hz
              clear hW hD hK hpw hn hpos hx hfew hlow hc hj0
              go_wp2
              go_quiet (fail)
              obtain ⟨W, hWW⟩ : ∃ W, W = wr.drewN nq := ⟨_, rfl⟩
              rw [← hWW]
              have HD2 : Hid (DecW W b t g nd dp tr) := by rw [hWW]; exact HD.out.drewN nq
              have HK2 : Hid (Kx [b] w W) := by rw [hWW]; exact HK.out.drw nq
              have g17' : W.cell? ⟨17, 0, none⟩ = some (.slice (some ⟨B2, off, none⟩) 9 cap) := by rw [hWW]; exact g17
              have r0' : W.cell? ⟨B2, off + j, none⟩ = some (.int .i64 (n : Int)) := by rw [hWW]; exact r0
              have d801 := HD2.out.cdp
              clear hWW g17 r0 c801
              go_wp2
              go_quiet (fail)
              obtain ⟨W3, hW3⟩ : ∃ W3, W3 = W.drewN nq := ⟨_, rfl⟩
              rw [← hW3]
              have HD3 : Hid (DecW W3 b t g nd dp tr) := by rw [hW3]; exact HD2.out.drewN nq
              have HK3 : Hid (Kx [b] w W3) := by rw [hW3]; exact HK2.out.drw nq
              have c1 := C1.out W3 HD3.out HK3.out
              clear hW3 g17' r0' d801
              go_wp2_with (first | (go_at_call 223; fail))
              refine c1.mono ?_
              rintro e w5 ⟨g', nd', dp', tr', rfl, a1, a2, a3, a4⟩
              have HF : Hid (FbU B p q b t w (1100 - (L + n)) (.int .i64 (x - (n : Int))) w5) := NX.out w5 g' nd' dp' tr' a1 a2 (HK3.out.same a4)
              clear a1 a2 a3 a4 c1
              go_wp2
              go_roundg (1100 - (L + n))
              case measure => have := HX.out; omega
              case rel => exact HF.out
          · have hdn : dp < 0 := by omega
            rw [pwt_big h9] at C1 NX
            have k9 : (9 : Int) ≤ -dp := by omega
            clear h9 hdp hj
            clear hW hD hK hpw hpos hx hfew hlow hc hj0
            go_wp2
            go_quiet (fail)
            obtain ⟨W, hWW⟩ : ∃ W, W = wr.drewN nq := ⟨_, rfl⟩
            rw [← hWW]
            have HD2 : Hid (DecW W b t g nd dp tr) := by rw [hWW]; exact HD.out.drewN nq
            have HK2 : Hid (Kx [b] w W) := by rw [hWW]; exact HK.out.drw nq
            have c1 := C1.out W HD2.out HK2.out
            clear hWW g17 c801
            go_wp2_with (first | (go_at_call 223; fail))
            refine c1.mono ?_
            rintro e w5 ⟨g', nd', dp', tr', rfl, a1, a2, a3, a4⟩
            have HF : Hid (FbU B p q b t w (1100 - (L + 27)) (.int .i64 (x - 27)) w5) := NX.out w5 g' nd' dp' tr' a1 a2 (HK2.out.same a4)
            clear a1 a2 a3 a4 c1
            go_wp2
            go_roundg (1100 - (L + 27))
            case measure => have := HX.out; omega
            case rel => exact HF.out
        · skip
          have hdz : dp = 0 := by omega
          subst hdz
          have hg5 : 53 ≤ g 0 := by omega
          have k5 : ¬ ((g 0 : Nat) : Int) < 53 := by omega
          have HX : Hid (x = (R : Int) - L ∧ R < 1040 ∧ L < 1100 ∧ 53 ≤ g 0 ∧ (0 < R → L ≤ R)) := ⟨hx, hfew, hlow, hg5, hW.both⟩
          have hx1 : -1200 ≤ x := by omega
          have hx2 : x ≤ 1200 := by omega
          have f2 := (HT.out.kx hK).f2
          by_cases hsub : x < -1021
          · skip
            obtain ⟨n, hn⟩ : ∃ n : Nat, n + 1021 = L := ⟨L - 1021, by omega⟩
            have hR0 : R = 0 := by
              rcases Nat.eq_zero_or_pos R with h1 | h1
              · exact h1
              · have := hW.both h1; omega
            have SB : Hid (∀ j g nd dp tr, (∃ N E, Sub B p q L j g nd dp tr N E) ∧ dp ≤ 0 → j ≤ n → nd ≤ 800 ∧ (∃ N, Row g nd N) ∧ -100000 ≤ dp ∧ dp ≤ 100000) := by
              rintro j g nd dp tr ⟨⟨N, E, h1⟩, h2⟩ hj
              have := h1.far
              exact ⟨h1.dst.le, ⟨N, h1.dst.row⟩, by omega, by omega⟩
            have cs := shiftR_any (fun g nd dp tr j => ((∃ N E, Sub B p q L j g nd dp tr N E) ∧ dp ≤ 0) ∧ j ≤ n) n (by omega) (by omega) (fun g nd dp tr j h => SB.out j g nd dp tr h.1 h.2)
              (fun g nd dp tr j i g' nd' dp' tr' h hi0 hi hji S hn' => by
                obtain ⟨⟨⟨N, E, h1⟩, h2⟩, h3⟩ := h
                refine ⟨⟨h1.right hq hB hlow (by omega) S, ?_⟩, hji⟩
                have := halved_le S h1.dst.row
                omega) wr b t g nd 0 tr hD ⟨⟨⟨N, E, by
                  have h1 := hW.dst
                  rw [hR0] at h1
                  exact ⟨h1, (h1.place (D := B) (by omega)).2, by omega⟩⟩, by omega⟩, Nat.zero_le _⟩
            have en : -(-1022 - (x - 1)) = -((n : Nat) : Int) := by omega
            have HN : Hid (n + 1021 = L ∧ R = 0) := ⟨hn, hR0⟩
            have hs2 : x - 1 < -1022 := by omega
            clear hW hD hK hx hfew hlow hc hdp hfar hg5 hdg hn hR0 SB
            go_wp2_with (first | (go_at_call 223; fail))
            refine cs.mono ?_
            rintro e w5 ⟨g', nd', dp', tr', rfl, a1, ⟨⟨⟨N', E', a2⟩, a3⟩, a4⟩, a5⟩
            clear cs en
            have HE : Hid (FbE p q 0 g' nd' dp' tr') := fbE_sub hq hB a2 HX.out.2.2.1 HN.out.1 a3
            have HDW : Hid (DecW w5 b t g' nd' dp' tr') := a1
            have HKW : Hid (Kx [b] w w5) := HK.out.same a5
            clear a1 a2 a3 a4 a5 c801 cd0 f2
            have fas := (HT.out.kx HKW.out).f0
            have fbs := (HT.out.kx HKW.out).f1
            have fcs := (HT.out.kx HKW.out).f2
            obtain ⟨y, hy⟩ : ∃ y : Int, y = -1022 := ⟨_, rfl⟩
            have ey : x - 1 + (-1022 - (x - 1)) = y := by omega
            have k7 : ¬ (2047 : Int) ≤ y + 1023 := by omega
            obtain ⟨e, he⟩ : ∃ e : Nat, e = 0 := ⟨0, rfl⟩
            rw [← he] at HE
            have HYY : Hid (y = (e : Int) - 1022) := by show y = _; omega
            have hy0 : -1100 ≤ y := by omega
            have hy9 : y ≤ 1100 := by omega
            have hov : ¬ 2046 ≤ e := by omega
            clear hy he
            go_wp2
            go_quiet (fail)
            obtain ⟨W, hW⟩ : ∃ W, W = w5.drewN nq := ⟨_, rfl⟩
            rw [← hW]
            have HDW2 : Hid (DecW W b t g' nd' dp' tr') := by rw [hW]; exact HDW.out.drewN nq
            have HKW2 : Hid (Kx [b] w W) := by rw [hW]; exact HKW.out.drw nq
            clear hW
            clear fas fbs fcs HDW HKW ey hs2
            have HDW := HDW2
            have HKW := HKW2
            clear HDW2 HKW2
            have fam := (HT.out.kx HKW.out).f0
            have fbm := (HT.out.kx HKW.out).f1
            have fcm := (HT.out.kx HKW.out).f2
            obtain ⟨N9, hN9⟩ := HE.out.row
            have cs := shiftL_any W b t g' nd' dp' tr' HDW.out HE.out.le N9 hN9 53 (by decide) (by decide) (by have := HE.out.lo; omega) (by have := HE.out.hi; omega) (HT.out.kx HKW.out).cheats
            clear hN9
            go_wp2_with (first | (go_at_call 223; fail))
            refine cs.mono ?_
            rintro e5 w7 ⟨g7, nd7, dp7, tr7, rfl, a1, a2, a3, a4⟩
            obtain ⟨N7, r1, r2, r3, r4, r5, r6⟩ := HE.out.fin g7 nd7 dp7 tr7 a2
            have cr := rounded_int w7 b t g7 nd7 N7 dp7 tr7 a1 a3 r1 (by omega) r3 r4
            obtain ⟨M, hM⟩ : ∃ M, M = hvP N7 nd7 dp7.toNat + (if rupD g7 nd7 dp7 tr7 = true then 1 else 0) := ⟨_, rfl⟩
            rw [← hM] at cr
            have hMe : M = hvP N7 nd7 dp7.toNat + (rupD g7 nd7 dp7 tr7).toNat := by rw [hM]; cases rupD g7 nd7 dp7 tr7 <;> rfl
            have HM : Hid (Near p q (e * 4503599627370496 + M) ∧ (4503599627370496 ≤ M ∨ e = 0) ∧ M ≤ 9007199254740992) := by
              have h53 : (2 : Nat) ^ 53 = 9007199254740992 := by decide
              have h52 : (2 : Nat) ^ 52 = 4503599627370496 := by decide
              rw [h53] at r4
              rw [h52] at r5
              have h54 := Bool.toNat_le (rupD g7 nd7 dp7 tr7)
              refine ⟨by rw [hMe]; exact r6, ?_, by omega⟩
              rcases r5 with r5 | r5
              · left; omega
              · right; exact r5
            have HD7 : Hid (DecW w7 b t g7 nd7 dp7 tr7) := a1
            have HK7 : Hid (Kx [b] w w7) := HKW.out.same a4
            clear a1 a2 a3 a4 r1 r2 r3 r4 r5 r6 hM hMe cs HE fam fbm fcm
            go_wp2_with (first | (go_at_call 302; fail))
            refine cr.mono ?_
            rintro e6 w8 ⟨rfl, q8, hw8⟩
            have HD8 : Hid (DecW w8 b t g7 nd7 dp7 tr7) := by rw [hw8]; exact HD7.out.drewN q8
            have HK8 : Hid (Kx [b] w w8) := by rw [hw8]; exact HK7.out.drw q8
            clear hw8 cr HD7 HK7 HDW HKW
            have fat := (HT.out.kx HK8.out).f0
            have fbt := (HT.out.kx HK8.out).f1
            have fct := (HT.out.kx HK8.out).f2
            rcases (by have := HM.out; omega : M = 9007199254740992 ∨ (4503599627370496 ≤ M ∧ M < 9007199254740992) ∨ (M < 4503599627370496 ∧ e = 0)) with hA | hA | hA
            · subst hA
              by_cases he5 : e ≤ 2044
              · have z3 : ¬ (2047 : Int) ≤ y + 1 + 1023 := by have := HYY.out; omega
                have z4 : bits .and .u64 4503599627370496 4503599627370496 = 4503599627370496 := by decide
                have o1 : bits .and .u64 4503599627370496 4503599627370495 = 0 := by decide
                obtain ⟨Y, hY⟩ : ∃ Y : Nat, Y = e + 2 := ⟨_, rfl⟩
                have hY2 : Y < 2048 := by omega
                have hyY : y + 1 + 1023 = (Y : Int) := by have := HYY.out; omega
                have o2 := and_exp Y hY2
                have o3 : bits .or .u64 0 ((Y : Int) * 4503599627370496) = ((Y * 4503599627370496 : Nat) : Int) := or_none (Y * 4503599627370496) (by omega)
                have FIN : Hid (Near p q (Y * 4503599627370496) ∧ Y * 4503599627370496 ≤ 9218868437227405312) := by
                  have h1 := HM.out.1
                  rw [show e * 4503599627370496 + 9007199254740992 = Y * 4503599627370496 by omega] at h1
                  exact ⟨h1, by omega⟩
                have hy1 : -1100 ≤ y := by have := HYY.out; omega
                have hy2 : y ≤ 1100 := by have := HYY.out; omega
                clear hY
                go_wp2
                go_quiet (fail)
                obtain ⟨Wq, hWq⟩ : ∃ Wq, Wq = w8.drewN nq := ⟨_, rfl⟩
                rw [← hWq]
                have HDq : Hid (DecW Wq b t g7 nd7 dp7 tr7) := by rw [hWq]; exact HD8.out.drewN nq
                have HKq : Hid (Kx [b] w Wq) := by rw [hWq]; exact HK8.out.drw nq
                clear hWq
                clear fat fbt fct
                have faq := (HT.out.kx HKq.out).f0
                have fbq := (HT.out.kx HKq.out).f1
                have fcq := (HT.out.kx HKq.out).f2
                go_wp2
                go_step3
                refine go2_first ?_
                go_wp2
                go_quiet (fail)
                obtain ⟨Wp, hWp⟩ : ∃ Wp, Wp = Wq.drewN nq := ⟨_, rfl⟩
                rw [← hWp]
                have HDp : Hid (DecW Wp b t g7 nd7 dp7 tr7) := by rw [hWp]; exact HDq.out.drewN nq
                have HKp : Hid (Kx [b] w Wp) := by rw [hWp]; exact HKq.out.drw nq
                clear hWp
                have g4 := HDp.out.cneg
                go_wp2
                simp only [Exit.noGoto]
                subst_vars
                go_ret2
                exact ⟨Y * 4503599627370496, false, FIN.out.1, by rw [Nat.min_eq_left FIN.out.2]; rfl, HKp.out⟩
              · have z3 : (2047 : Int) ≤ y + 1 + 1023 := by have := HYY.out; omega
                have hy2 : y ≤ 1100 := by have := HYY.out; omega
                have hy1 : -1100 ≤ y := by have := HYY.out; omega
                have HB : Hid (∃ r, Near p q r ∧ min r 9218868437227405312 = 9218868437227405312) := ⟨_, HM.out.1, Nat.min_eq_right (by omega)⟩
                go_wp2
                go_quiet (fail)
                obtain ⟨Wq, hWq⟩ : ∃ Wq, Wq = w8.drewN nq := ⟨_, rfl⟩
                rw [← hWq]
                have HDq : Hid (DecW Wq b t g7 nd7 dp7 tr7) := by rw [hWq]; exact HD8.out.drewN nq
                have HKq : Hid (Kx [b] w Wq) := by rw [hWq]; exact HK8.out.drw nq
                clear hWq
                clear fat fbt fct
                have o1 : bits .and .u64 0 4503599627370495 = 0 := by decide
                have o2 : bits .and .i64 2047 2047 = 2047 := by decide
                have o3 : bits .or .u64 0 9218868437227405312 = 9218868437227405312 := or_none 9218868437227405312 (by omega)
                have fawa := (HT.out.kx HKq.out).f0
                have fbwa := (HT.out.kx HKq.out).f1
                have fcwa := (HT.out.kx HKq.out).f2
                go_wp2
                go_step3
                refine go2_second ?_
                go_wp2
                go_quiet (fail)
                obtain ⟨Wo, hWo⟩ : ∃ Wo, Wo = Wq.drewN nq := ⟨_, rfl⟩
                rw [← hWo]
                have HDo : Hid (DecW Wo b t g7 nd7 dp7 tr7) := by rw [hWo]; exact HDq.out.drewN nq
                have HKo : Hid (Kx [b] w Wo) := by rw [hWo]; exact HKq.out.drw nq
                clear hWo
                clear fawa fbwa fcwa
                have fawb := (HT.out.kx HKo.out).f0
                have fbwb := (HT.out.kx HKo.out).f1
                have fcwb := (HT.out.kx HKo.out).f2
                go_wp2
                go_step3
                go_wp2
                go_quiet (fail)
                obtain ⟨Wp, hWp⟩ : ∃ Wp, Wp = Wo.drewN nq := ⟨_, rfl⟩
                rw [← hWp]
                have HDp : Hid (DecW Wp b t g7 nd7 dp7 tr7) := by rw [hWp]; exact HDo.out.drewN nq
                have HKp : Hid (Kx [b] w Wp) := by rw [hWp]; exact HKo.out.drw nq
                clear hWp
                have g4 := HDp.out.cneg
                clear fawb fbwb fcwb
                go_wp2
                simp only [Exit.noGoto]
                subst_vars
                go_ret2
                obtain ⟨r, hr1, hr2⟩ := HB.out
                exact ⟨r, true, hr1, by rw [hr2]; rfl, HKp.out⟩
            · have z1 : ((M : Int) == 9007199254740992) = false := by rw [beq_eq_false_iff_ne]; omega
              have z4 := and_bit M (by omega)
              rw [show M / 4503599627370496 % 2 * 4503599627370496 = 4503599627370496 by omega] at z4
              have o1 := and_low M (by omega)
              obtain ⟨Fr, hFr⟩ : ∃ Fr : Nat, Fr = M % 4503599627370496 := ⟨_, rfl⟩
              rw [← hFr] at o1
              obtain ⟨Y, hY⟩ : ∃ Y : Nat, Y = e + 1 := ⟨_, rfl⟩
              have hY2 : Y < 2048 := by omega
              have hyY : y + 1023 = (Y : Int) := by have := HYY.out; omega
              have o2 := and_exp Y hY2
              have o3 : bits .or .u64 (Fr : Int) ((Y : Int) * 4503599627370496) = ((Y * 4503599627370496 + Fr : Nat) : Int) := or_exp Fr Y (by omega) hY2
              have FIN : Hid (Near p q (Y * 4503599627370496 + Fr) ∧ Y * 4503599627370496 + Fr ≤ 9218868437227405312) := by
                have h1 := HM.out.1
                rw [show e * 4503599627370496 + M = Y * 4503599627370496 + Fr by omega] at h1
                exact ⟨h1, by omega⟩
              have hy1 : -1100 ≤ y := by have := HYY.out; omega
              have hy2 : y ≤ 1100 := by have := HYY.out; omega
              have hMb : M < 9007199254740992 := hA.2
              have hFb : Fr < 4503599627370496 := by omega
              clear hY hFr hA
              go_wp2
              go_step3
              refine go2_first ?_
              go_wp2
              go_quiet (fail)
              obtain ⟨Wp, hWp⟩ : ∃ Wp, Wp = w8.drewN nq := ⟨_, rfl⟩
              rw [← hWp]
              have HDp : Hid (DecW Wp b t g7 nd7 dp7 tr7) := by rw [hWp]; exact HD8.out.drewN nq
              have HKp : Hid (Kx [b] w Wp) := by rw [hWp]; exact HK8.out.drw nq
              clear hWp
              have g4 := HDp.out.cneg
              go_wp2
              simp only [Exit.noGoto]
              subst_vars
              go_ret2
              exact ⟨Y * 4503599627370496 + Fr, false, FIN.out.1, by rw [Nat.min_eq_left FIN.out.2]; rfl, HKp.out⟩
            · have z1 : ((M : Int) == 9007199254740992) = false := by rw [beq_eq_false_iff_ne]; omega
              have z4 := and_bit M (by omega)
              rw [show M / 4503599627370496 % 2 * 4503599627370496 = 0 by omega] at z4
              have o1 := and_low M (by omega)
              rw [show M % 4503599627370496 = M by omega] at o1
              have o2 : bits .and .i64 0 2047 = 0 := by decide
              have o3 : bits .or .u64 (M : Int) 0 = (M : Int) := by
                have h1 := or_exp M 0 (by omega) (by decide)
                simpa using h1
              have FIN : Hid (Near p q M ∧ M ≤ 9218868437227405312) := by
                have h1 := HM.out.1
                rw [hA.2, Nat.zero_mul, Nat.zero_add] at h1
                exact ⟨h1, by omega⟩
              have hMb : M < 4503599627370496 := hA.1
              clear hA
              go_wp2
              go_step3
              refine go2_first ?_
              go_wp2
              go_quiet (fail)
              obtain ⟨Wp, hWp⟩ : ∃ Wp, Wp = w8.drewN nq := ⟨_, rfl⟩
              rw [← hWp]
              have HDp : Hid (DecW Wp b t g7 nd7 dp7 tr7) := by rw [hWp]; exact HD8.out.drewN nq
              have HKp : Hid (Kx [b] w Wp) := by rw [hWp]; exact HK8.out.drw nq
              clear hWp
              have g4 := HDp.out.cneg
              go_wp2
              simp only [Exit.noGoto]
              subst_vars
              go_ret2
              exact ⟨M, false, FIN.out.1, by rw [Nat.min_eq_left FIN.out.2]; rfl, HKp.out⟩
          · skip
            have hs2 : ¬ x - 1 < -1022 := by omega
            obtain ⟨e, he⟩ : ∃ e : Nat, e + L = 1021 + R := ⟨1021 + R - L, by omega⟩
            have HE : Hid (FbE p q e g nd 0 tr) := fbE_way hq hB hW (by omega) he
            have HY : Hid (x - 1 = (e : Int) - 1022) := by show x - 1 = _; omega
            by_cases hov : 2046 ≤ e
            · have HB : Hid (∃ r, Near p q r ∧ min r 9218868437227405312 = 9218868437227405312) := way_big hq hW (by omega) (by omega)
              have k7 : (2047 : Int) ≤ x - 1 + 1023 := by omega
              clear hW hD hK hx hfew hlow hc hdp hfar hg5 hdg he f2
              have fan := (HT.out.kx HK.out).f0
              have fbn := (HT.out.kx HK.out).f1
              have fcn := (HT.out.kx HK.out).f2
              go_wp2
              go_quiet (fail)
              obtain ⟨W, hW⟩ : ∃ W, W = wr.drewN nq := ⟨_, rfl⟩
              rw [← hW]
              have HDW : Hid (DecW W b t g nd 0 tr) := by rw [hW]; exact HD.out.drewN nq
              have HKW : Hid (Kx [b] w W) := by rw [hW]; exact HK.out.drw nq
              clear hW
              clear fan fbn fcn c801 cd0
              have o1 : bits .and .u64 0 4503599627370495 = 0 := by decide
              have o2 : bits .and .i64 2047 2047 = 2047 := by decide
              have o3 : bits .or .u64 0 9218868437227405312 = 9218868437227405312 := or_none 9218868437227405312 (by omega)
              have fava := (HT.out.kx HKW.out).f0
              have fbva := (HT.out.kx HKW.out).f1
              have fcva := (HT.out.kx HKW.out).f2
              go_wp2
              go_step3
              refine go2_second ?_
              go_wp2
              go_quiet (fail)
              obtain ⟨Wo, hWo⟩ : ∃ Wo, Wo = W.drewN nq := ⟨_, rfl⟩
              rw [← hWo]
              have HDo : Hid (DecW Wo b t g nd 0 tr) := by rw [hWo]; exact HDW.out.drewN nq
              have HKo : Hid (Kx [b] w Wo) := by rw [hWo]; exact HKW.out.drw nq
              clear hWo
              clear fava fbva fcva
              have favb := (HT.out.kx HKo.out).f0
              have fbvb := (HT.out.kx HKo.out).f1
              have fcvb := (HT.out.kx HKo.out).f2
              go_wp2
              go_step3
              go_wp2
              go_quiet (fail)
              obtain ⟨Wp, hWp⟩ : ∃ Wp, Wp = Wo.drewN nq := ⟨_, rfl⟩
              rw [← hWp]
              have HDp : Hid (DecW Wp b t g nd 0 tr) := by rw [hWp]; exact HDo.out.drewN nq
              have HKp : Hid (Kx [b] w Wp) := by rw [hWp]; exact HKo.out.drw nq
              clear hWp
              have g4 := HDp.out.cneg
              clear favb fbvb fcvb
              go_wp2
              simp only [Exit.noGoto]
              subst_vars
              go_ret2
              obtain ⟨r, hr1, hr2⟩ := HB.out
              exact ⟨r, true, hr1, by rw [hr2]; rfl, HKp.out⟩
            · have k7 : ¬ (2047 : Int) ≤ x - 1 + 1023 := by omega
              obtain ⟨y, hy⟩ : ∃ y : Int, x - 1 = y := ⟨_, rfl⟩
              have HYY : Hid (y = (e : Int) - 1022) := by rw [← hy]; exact HY.out
              clear hW hD hK hx hfew hlow hc hdp hfar hg5 hdg he f2
              have fan := (HT.out.kx HK.out).f0
              have fbn := (HT.out.kx HK.out).f1
              have fcn := (HT.out.kx HK.out).f2
              go_wp2
              go_quiet (fail)
              obtain ⟨W, hW⟩ : ∃ W, W = wr.drewN nq := ⟨_, rfl⟩
              rw [← hW]
              have HDW : Hid (DecW W b t g nd 0 tr) := by rw [hW]; exact HD.out.drewN nq
              have HKW : Hid (Kx [b] w W) := by rw [hW]; exact HK.out.drw nq
              clear hW
              clear fan fbn fcn c801 cd0
              have fam := (HT.out.kx HKW.out).f0
              have fbm := (HT.out.kx HKW.out).f1
              have fcm := (HT.out.kx HKW.out).f2
              obtain ⟨N9, hN9⟩ := HE.out.row
              have cs := shiftL_any W b t g nd 0 tr HDW.out HE.out.le N9 hN9 53 (by decide) (by decide) (by have := HE.out.lo; omega) (by have := HE.out.hi; omega) (HT.out.kx HKW.out).cheats
              clear hN9
              go_wp2_with (first | (go_at_call 223; fail))
              refine cs.mono ?_
              rintro e5 w7 ⟨g7, nd7, dp7, tr7, rfl, a1, a2, a3, a4⟩
              obtain ⟨N7, r1, r2, r3, r4, r5, r6⟩ := HE.out.fin g7 nd7 dp7 tr7 a2
              have cr := rounded_int w7 b t g7 nd7 N7 dp7 tr7 a1 a3 r1 (by omega) r3 r4
              obtain ⟨M, hM⟩ : ∃ M, M = hvP N7 nd7 dp7.toNat + (if rupD g7 nd7 dp7 tr7 = true then 1 else 0) := ⟨_, rfl⟩
              rw [← hM] at cr
              have hMe : M = hvP N7 nd7 dp7.toNat + (rupD g7 nd7 dp7 tr7).toNat := by rw [hM]; cases rupD g7 nd7 dp7 tr7 <;> rfl
              have HM : Hid (Near p q (e * 4503599627370496 + M) ∧ (4503599627370496 ≤ M ∨ e = 0) ∧ M ≤ 9007199254740992) := by
                have h53 : (2 : Nat) ^ 53 = 9007199254740992 := by decide
                have h52 : (2 : Nat) ^ 52 = 4503599627370496 := by decide
                rw [h53] at r4
                rw [h52] at r5
                have h54 := Bool.toNat_le (rupD g7 nd7 dp7 tr7)
                refine ⟨by rw [hMe]; exact r6, ?_, by omega⟩
                rcases r5 with r5 | r5
                · left; omega
                · right; exact r5
              have HD7 : Hid (DecW w7 b t g7 nd7 dp7 tr7) := a1
              have HK7 : Hid (Kx [b] w w7) := HKW.out.same a4
              clear a1 a2 a3 a4 r1 r2 r3 r4 r5 r6 hM hMe cs HE fam fbm fcm
              go_wp2_with (first | (go_at_call 302; fail))
              refine cr.mono ?_
              rintro e6 w8 ⟨rfl, q8, hw8⟩
              have HD8 : Hid (DecW w8 b t g7 nd7 dp7 tr7) := by rw [hw8]; exact HD7.out.drewN q8
              have HK8 : Hid (Kx [b] w w8) := by rw [hw8]; exact HK7.out.drw q8
              clear hw8 cr HD7 HK7 HDW HKW
              have fat := (HT.out.kx HK8.out).f0
              have fbt := (HT.out.kx HK8.out).f1
              have fct := (HT.out.kx HK8.out).f2
              rcases (by have := HM.out; omega : M = 9007199254740992 ∨ (4503599627370496 ≤ M ∧ M < 9007199254740992) ∨ (M < 4503599627370496 ∧ e = 0)) with hA | hA | hA
              · subst hA
                by_cases he5 : e ≤ 2044
                · have z3 : ¬ (2047 : Int) ≤ y + 1 + 1023 := by have := HYY.out; omega
                  have z4 : bits .and .u64 4503599627370496 4503599627370496 = 4503599627370496 := by decide
                  have o1 : bits .and .u64 4503599627370496 4503599627370495 = 0 := by decide
                  obtain ⟨Y, hY⟩ : ∃ Y : Nat, Y = e + 2 := ⟨_, rfl⟩
                  have hY2 : Y < 2048 := by omega
                  have hyY : y + 1 + 1023 = (Y : Int) := by have := HYY.out; omega
                  have o2 := and_exp Y hY2
                  have o3 : bits .or .u64 0 ((Y : Int) * 4503599627370496) = ((Y * 4503599627370496 : Nat) : Int) := or_none (Y * 4503599627370496) (by omega)
                  have FIN : Hid (Near p q (Y * 4503599627370496) ∧ Y * 4503599627370496 ≤ 9218868437227405312) := by
                    have h1 := HM.out.1
                    rw [show e * 4503599627370496 + 9007199254740992 = Y * 4503599627370496 by omega] at h1
                    exact ⟨h1, by omega⟩
                  have hy1 : -1100 ≤ y := by have := HYY.out; omega
                  have hy2 : y ≤ 1100 := by have := HYY.out; omega
                  clear hY
                  go_wp2
                  go_quiet (fail)
                  obtain ⟨Wq, hWq⟩ : ∃ Wq, Wq = w8.drewN nq := ⟨_, rfl⟩
                  rw [← hWq]
                  have HDq : Hid (DecW Wq b t g7 nd7 dp7 tr7) := by rw [hWq]; exact HD8.out.drewN nq
                  have HKq : Hid (Kx [b] w Wq) := by rw [hWq]; exact HK8.out.drw nq
                  clear hWq
                  clear fat fbt fct
                  have faq := (HT.out.kx HKq.out).f0
                  have fbq := (HT.out.kx HKq.out).f1
                  have fcq := (HT.out.kx HKq.out).f2
                  go_wp2
                  go_step3
                  refine go2_first ?_
                  go_wp2
                  go_quiet (fail)
                  obtain ⟨Wp, hWp⟩ : ∃ Wp, Wp = Wq.drewN nq := ⟨_, rfl⟩
                  rw [← hWp]
                  have HDp : Hid (DecW Wp b t g7 nd7 dp7 tr7) := by rw [hWp]; exact HDq.out.drewN nq
                  have HKp : Hid (Kx [b] w Wp) := by rw [hWp]; exact HKq.out.drw nq
                  clear hWp
                  have g4 := HDp.out.cneg
                  go_wp2
                  simp only [Exit.noGoto]
                  subst_vars
                  go_ret2
                  exact ⟨Y * 4503599627370496, false, FIN.out.1, by rw [Nat.min_eq_left FIN.out.2]; rfl, HKp.out⟩
                · have z3 : (2047 : Int) ≤ y + 1 + 1023 := by have := HYY.out; omega
                  have hy2 : y ≤ 1100 := by have := HYY.out; omega
                  have hy1 : -1100 ≤ y := by have := HYY.out; omega
                  have HB : Hid (∃ r, Near p q r ∧ min r 9218868437227405312 = 9218868437227405312) := ⟨_, HM.out.1, Nat.min_eq_right (by omega)⟩
                  go_wp2
                  go_quiet (fail)
                  obtain ⟨Wq, hWq⟩ : ∃ Wq, Wq = w8.drewN nq := ⟨_, rfl⟩
                  rw [← hWq]
                  have HDq : Hid (DecW Wq b t g7 nd7 dp7 tr7) := by rw [hWq]; exact HD8.out.drewN nq
                  have HKq : Hid (Kx [b] w Wq) := by rw [hWq]; exact HK8.out.drw nq
                  clear hWq
                  clear fat fbt fct
                  have o1 : bits .and .u64 0 4503599627370495 = 0 := by decide
                  have o2 : bits .and .i64 2047 2047 = 2047 := by decide
                  have o3 : bits .or .u64 0 9218868437227405312 = 9218868437227405312 := or_none 9218868437227405312 (by omega)
                  have fawa := (HT.out.kx HKq.out).f0
                  have fbwa := (HT.out.kx HKq.out).f1
                  have fcwa := (HT.out.kx HKq.out).f2
                  go_wp2
                  go_step3
                  refine go2_second ?_
                  go_wp2
                  go_quiet (fail)
                  obtain ⟨Wo, hWo⟩ : ∃ Wo, Wo = Wq.drewN nq := ⟨_, rfl⟩
                  rw [← hWo]
                  have HDo : Hid (DecW Wo b t g7 nd7 dp7 tr7) := by rw [hWo]; exact HDq.out.drewN nq
                  have HKo : Hid (Kx [b] w Wo) := by rw [hWo]; exact HKq.out.drw nq
                  clear hWo
                  clear fawa fbwa fcwa
                  have fawb := (HT.out.kx HKo.out).f0
                  have fbwb := (HT.out.kx HKo.out).f1
                  have fcwb := (HT.out.kx HKo.out).f2
                  go_wp2
                  go_step3
                  go_wp2
                  go_quiet (fail)
                  obtain ⟨Wp, hWp⟩ : ∃ Wp, Wp = Wo.drewN nq := ⟨_, rfl⟩
                  rw [← hWp]
                  have HDp : Hid (DecW Wp b t g7 nd7 dp7 tr7) := by rw [hWp]; exact HDo.out.drewN nq
                  have HKp : Hid (Kx [b] w Wp) := by rw [hWp]; exact HKo.out.drw nq
                  clear hWp
                  have g4 := HDp.out.cneg
                  clear fawb fbwb fcwb
                  go_wp2
                  simp only [Exit.noGoto]
                  subst_vars
                  go_ret2
                  obtain ⟨r, hr1, hr2⟩ := HB.out
                  exact ⟨r, true, hr1, by rw [hr2]; rfl, HKp.out⟩
              · have z1 : ((M : Int) == 9007199254740992) = false := by rw [beq_eq_false_iff_ne]; omega
                have z4 := and_bit M (by omega)
                rw [show M / 4503599627370496 % 2 * 4503599627370496 = 4503599627370496 by omega] at z4
                have o1 := and_low M (by omega)
                obtain ⟨Fr, hFr⟩ : ∃ Fr : Nat, Fr = M % 4503599627370496 := ⟨_, rfl⟩
                rw [← hFr] at o1
                obtain ⟨Y, hY⟩ : ∃ Y : Nat, Y = e + 1 := ⟨_, rfl⟩
                have hY2 : Y < 2048 := by omega
                have hyY : y + 1023 = (Y : Int) := by have := HYY.out; omega
                have o2 := and_exp Y hY2
                have o3 : bits .or .u64 (Fr : Int) ((Y : Int) * 4503599627370496) = ((Y * 4503599627370496 + Fr : Nat) : Int) := or_exp Fr Y (by omega) hY2
                have FIN : Hid (Near p q (Y * 4503599627370496 + Fr) ∧ Y * 4503599627370496 + Fr ≤ 9218868437227405312) := by
                  have h1 := HM.out.1
                  rw [show e * 4503599627370496 + M = Y * 4503599627370496 + Fr by omega] at h1
                  exact ⟨h1, by omega⟩
                have hy1 : -1100 ≤ y := by have := HYY.out; omega
                have hy2 : y ≤ 1100 := by have := HYY.out; omega
                have hMb : M < 9007199254740992 := hA.2
                have hFb : Fr < 4503599627370496 := by omega
                clear hY hFr hA
                go_wp2
                go_step3
                refine go2_first ?_
                go_wp2
                go_quiet (fail)
                obtain ⟨Wp, hWp⟩ : ∃ Wp, Wp = w8.drewN nq := ⟨_, rfl⟩
                rw [← hWp]
                have HDp : Hid (DecW Wp b t g7 nd7 dp7 tr7) := by rw [hWp]; exact HD8.out.drewN nq
                have HKp : Hid (Kx [b] w Wp) := by rw [hWp]; exact HK8.out.drw nq
                clear hWp
                have g4 := HDp.out.cneg
                go_wp2
                simp only [Exit.noGoto]
                subst_vars
                go_ret2
                exact ⟨Y * 4503599627370496 + Fr, false, FIN.out.1, by rw [Nat.min_eq_left FIN.out.2]; rfl, HKp.out⟩
              · have z1 : ((M : Int) == 9007199254740992) = false := by rw [beq_eq_false_iff_ne]; omega
                have z4 := and_bit M (by omega)
                rw [show M / 4503599627370496 % 2 * 4503599627370496 = 0 by omega] at z4
                have o1 := and_low M (by omega)
                rw [show M % 4503599627370496 = M by omega] at o1
                have o2 : bits .and .i64 0 2047 = 0 := by decide
                have o3 : bits .or .u64 (M : Int) 0 = (M : Int) := by
                  have h1 := or_exp M 0 (by omega) (by decide)
                  simpa using h1
                have FIN : Hid (Near p q M ∧ M ≤ 9218868437227405312) := by
                  have h1 := HM.out.1
                  rw [hA.2, Nat.zero_mul, Nat.zero_add] at h1
                  exact ⟨h1, by omega⟩
                have hMb : M < 4503599627370496 := hA.1
                clear hA
                go_wp2
                go_step3
                refine go2_first ?_
                go_wp2
                go_quiet (fail)
                obtain ⟨Wp, hWp⟩ : ∃ Wp, Wp = w8.drewN nq := ⟨_, rfl⟩
                rw [← hWp]
                have HDp : Hid (DecW Wp b t g7 nd7 dp7 tr7) := by rw [hWp]; exact HD8.out.drewN nq
                have HKp : Hid (Kx [b] w Wp) := by rw [hWp]; exact HK8.out.drw nq
                clear hWp
                have g4 := HDp.out.cneg
                go_wp2
                simp only [Exit.noGoto]
                subst_vars
                go_ret2
                exact ⟨M, false, FIN.out.1, by rw [Nat.min_eq_left FIN.out.2]; rfl, HKp.out⟩
end Go.Proofs.YtellndmbllmjgaaGreatDoor
