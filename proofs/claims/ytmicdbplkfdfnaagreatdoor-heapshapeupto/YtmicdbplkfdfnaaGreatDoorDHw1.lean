/- The law. -/
import Derived.Test.YtmicdbplkfdfnaaGreatDoorDHwb
set_option linter.unusedVariables false
namespace Go.Proofs.YtmicdbplkfdfnaaGreatDoor
open Go.RowKit Go.Shelf Go.Maps
attribute [local go_sem] run_store_flt

theorem bytes_ext {x y : ByteArray} (h : x.toList = y.toList) : x = y := by
  have h2 : x.data.toList = y.data.toList := by rw [← ByteArray.toList_eq, ← ByteArray.toList_eq, h]
  obtain ⟨⟨a⟩⟩ := x
  obtain ⟨⟨c⟩⟩ := y
  simp at h2
  rw [h2]
/-- Between two rounds of the first loop. -/
def In1 (w : World) (O H : Nat) (hv : Value) (S0 D ba bb bc : Nat) (ks : List ByteArray) (q : Nat) (L : List ByteArray) (first : ByteArray) (wr : World) : Prop :=
  ∃ k x tx, Mid w O H hv S0 D ba bb bc (2 * q) L L k x tx wr ∧ (L ≠ [] → k = 4 ∧ tx = xT) ∧ L.length ≤ q ∧ CameK (ks.take q) L ∧ (L ≠ [] → first ∈ ks ∧ valid first ∧ nmOf first ∈ L)
theorem In1.skip {w : World} {O H : Nat} {hv : Value} {S0 D ba bb bc : Nat} {ks : List ByteArray} {q : Nat} {L : List ByteArray} {first : ByteArray} {wr W : World} (h : In1 w O H hv S0 D ba bb bc ks q L first wr) (hk : Kx [] wr W) {s : ByteArray} (hs : ks[q]? = some s) (hno : ¬ (valid s ∧ nmOf s ∉ L)) : In1 w O H hv S0 D ba bb bc ks (q + 1) L first W := by
  obtain ⟨k, x, tx, h1, h2, h3, h4, h5⟩ := h
  have e : ks.take (q + 1) = ks.take q ++ [s] := by rw [List.take_add_one, hs]; rfl
  exact ⟨k, x, tx, (h1.kept0 hk).mono (by omega), h2, by omega, by rw [e]; exact h4.skip hno, h5⟩
theorem In1.add {w : World} {O H : Nat} {hv : Value} {S0 D ba bb bc : Nat} {ks : List ByteArray} {q : Nat} {L : List ByteArray} {first : ByteArray} {wr W : World} (h : In1 w O H hv S0 D ba bb bc ks q L first wr) {s : ByteArray} (hs : ks[q]? = some s) (hv' : valid s) (hn : nmOf s ∉ L) {x : Nat} (hm : Mid w O H hv S0 D ba bb bc (2 * q + 1 + 1) (L ++ [nmOf s]) (L ++ [nmOf s]) 4 x xT W) : In1 w O H hv S0 D ba bb bc ks (q + 1) (L ++ [nmOf s]) (if L = [] then s else first) W := by
  obtain ⟨k, x', tx, h1, h2, h3, h4, h5⟩ := h
  have e : ks.take (q + 1) = ks.take q ++ [s] := by rw [List.take_add_one, hs]; rfl
  refine ⟨4, x, xT, hm.mono (by omega), fun _ => ⟨rfl, rfl⟩, by simp; omega, by rw [e]; exact h4.add hv' hn, fun _ => ?_⟩
  by_cases hL : L = []
  · rw [if_pos hL]
    exact ⟨List.mem_of_getElem? hs, hv', by simp⟩
  · rw [if_neg hL]
    obtain ⟨f1, f2, f3⟩ := h5 hL
    exact ⟨f1, f2, by simp [f3]⟩
set_option maxRecDepth 100000 in
set_option maxHeartbeats 40000000 in
theorem law_head (ka : Option Addr) (c : Nat) (ks : List ByteArray) (turn : Int) (w : World) (ht1 : -9223372036854775808 ≤ turn) (ht2 : turn ≤ 9223372036854775807) (hn : ks.length ≤ 4611686018427387904)
    (hks : ∀ j s, ks[j]? = some s → ∃ a, ka = some a ∧ (a.add j).block < w.heap.size ∧ w.cell? (a.add j) = some (.string s)) (hsz : ∀ s ∈ ks, s.size ≤ 1048576) (hT : Lib.Utf8Tabs 2 3 w) :
    Calls Tryz.prog 4 #[.slice ka ks.length c, .int .i64 turn] w fun e w' => e = .returned (.bool true) ∧ Below w.heap.size w w' := by
  have P0 : ∃ W0 O H S0 F0, (Calls Tryz.prog 5 #[] w fun e w' => e = .returned (.pointer (some ⟨O, 0, none⟩)) ∧ w' = W0) ∧ HSt W0 w.heap.size O H (.slice none 0 0) S0 0 F0 [(S0, [])] [] ∧ Objs W0 H [] ∧ Kx [] w W0 := ⟨wNew w, _, _, _, _, new_any w, (new_state w).1, (new_state w).2, (wNew_facts w).2.2.2.2.2.1⟩
  obtain ⟨W0, O, H, S0, F0, c5, h0, ho0, k0⟩ := P0
  have HST := (show Hid _ from And.intro hT (And.intro hks hsz))
  have HK0 : Hid (Below w.heap.size w W0) := (show Below _ w W0 from k0.below (Nat.le_refl _) (by simp))
  have m1 := make1 h0 ho0
  clear h0 ho0 k0 hT hks hsz
  go_enter Tryz.func4, Tryz.ntmps4
  go_wp2_with (first | (go_at_call 5; refine c5.mono ?_; rintro e w1 ⟨rfl, rfl⟩) | (go_at_call 6; fail))
  refine m1.mono ?_
  rintro e w2 ⟨rfl, ba, hv1, h1, k1⟩
  have HK1 : Hid (Below w.heap.size w w2) := (show Below _ w w2 from HK0.out.trans k1)
  have m2 := make2 h1
  clear h1 k1 HK0 m1 c5
  go_wp2_with (first | (go_at_call 6; fail))
  refine m2.mono ?_
  rintro e w3 ⟨rfl, bb, hv2, h2, k2⟩
  have HK2 : Hid (Below w.heap.size w w3) := (show Below _ w w3 from HK1.out.trans k2)
  have m3 := make3 h2
  clear h2 k2 HK1 m2
  go_wp2_with (first | (go_at_call 6; fail))
  refine m3.mono ?_
  rintro e w4 ⟨rfl, bc, hv3, h3, k3⟩
  have HK3 : Hid (Below w.heap.size w w4) := (show Below _ w w4 from HK2.out.trans k3)
  have cS : Calls Tryz.prog 14 #[.pointer (some ⟨O, 0, none⟩), .int .i64 1, .int .i64 2] w4 fun e w' => e = .returned (.bool true) ∧ ∃ q, w' = w4.drewN q := h3.same (i := 0) (j := 1) rfl rfl true (by simp)
  have HH3 := (show Hid _ from h3)
  clear h3 k3 HK2 m3
  go_wp2_with (first | (go_at_call 14; fail))
  refine cS.mono ?_
  rintro e w5 ⟨rfl, q5, hq5⟩
  have HH5 : Hid (HSt w5 w.heap.size O H hv3 S0 0 F0 [(S0, [])] [⟨ba, S0, [], .slice none 0 0, []⟩, ⟨bb, S0, [], .slice none 0 0, []⟩, ⟨bc, S0, [], .slice none 0 0, []⟩]) := by rw [hq5]; exact HH3.out.kept0 (Kx.drewN _ _ _)
  have HK5 : Hid (Below w.heap.size w w5) := by rw [hq5]; exact (show Below _ w _ from HK3.out.trans ((Kx.drewN [] w4 q5).below HK3.out.size (by simp)))
  clear hq5 HH3 HK3 cS
  by_cases hlen : ks.length ≤ 40
  · have hl1 : ¬ (40 : Int) < (ks.length : Int) := by omega
    go_wp2
    have hD : (w5.alloc (Obj.cells (descA 0 0 ⟨#[]⟩) 34)).heap[w5.heap.size]? = some (.cells (descA 0 0 ⟨#[]⟩) 34 (0, 0)) := heap_alloc_new _ _
    have HI : Hid (In1 w O H hv3 S0 w5.heap.size ba bb bc ks 0 [] ⟨#[]⟩ (w5.alloc (Obj.cells (descA 0 0 ⟨#[]⟩) 34))) := by
      have h5 := HH5.out.kept0 (Kx.alloc [] w5 (Obj.cells (descA 0 0 ⟨#[]⟩) 34))
      refine (show In1 w O H hv3 S0 w5.heap.size ba bb bc ks 0 [] ⟨#[]⟩ _ from ⟨0, 0, ⟨#[]⟩, ⟨0, F0, _, S0, S0, _, _, _, _, h5, Nat.le_refl _, ?_, hD, HK5.out.trans ((Kx.alloc [] w5 _).below HK5.out.size (by simp)), HK5.out.size⟩, fun h => absurd rfl h, Nat.le_refl _, ⟨by simp, fun y => by simp⟩, fun h => absurd rfl h⟩)
      refine ⟨by simp, fun hc => ?_, fun hc => ?_, fun g hg hc => ?_, fun i o ho => ⟨fun hc => ?_, fun g hg hc => ?_⟩⟩
      · have := HH5.out.tree.low _ hc
        omega
      · have := lt_get HH5.out.heap
        omega
      · have := (HH5.out.row.lt g hg).2
        omega
      · have := lt_get (HH5.out.obj i o ho).1
        omega
      · have := ((HH5.out.obj i o ho).2.2.1.lt g hg).2
        omega
    clear hD HH5 HK5
    obtain ⟨D, hDD⟩ : ∃ D, D = w5.heap.size := ⟨_, rfl⟩
    obtain ⟨W6, hW6⟩ : ∃ W6, W6 = w5.alloc (Obj.cells (descA 0 0 ⟨#[]⟩) 34) := ⟨_, rfl⟩
    unfold descA at hW6
    rw [← hDD]
    rw [← hW6]
    have HI2 : Hid (In1 w O H hv3 S0 D ba bb bc ks 0 [] ⟨#[]⟩ W6) := by rw [hDD, hW6]; exact HI
    clear HI hDD hW6
    go_loopw [7, 9, 14, 15, 16, 17, 18, 19, 20] (fun u7 u9 u14 u15 u16 _ _ _ _ wr => ∃ (q : Nat) (L : List ByteArray) (first : ByteArray), q ≤ ks.length ∧ u7 = .int .i64 0 ∧ u9 = .int .i64 0 ∧ u14 = .int .i64 (L.length : Int) ∧ u15 = .string first ∧ u16 = .int .i64 (q : Int) ∧ Hid (In1 w O H hv3 S0 D ba bb bc ks q L first wr))
      (fun _ _ _ _ i _ _ _ _ _ => ks.length - (intOf i).toNat)
    case atStart => exact ⟨0, [], _, Nat.zero_le _, rfl, rfl, rfl, rfl, rfl, HI2⟩
    case round =>
      obtain ⟨q, L, first, hq, rfl, rfl, rfl, rfl, rfl, hI⟩ := hrel
      clear HI2
      by_cases hlt : q < ks.length
      · as_aux_lemma =>
          obtain ⟨s, hs⟩ : ∃ s, ks[q]? = some s := ⟨_, List.getElem?_eq_getElem hlt⟩
          obtain ⟨hT, hks, hsz⟩ := HST.out
          obtain ⟨a, rfl, hab, hac⟩ := hks q s hs
          obtain ⟨k, x, tx, hM, hk4, hLq, hcame, hfirst⟩ := hI.out
          have hss := hsz s (List.mem_of_getElem? hs)
          have hcell : ∀ W, Below w.heap.size w W → W.cell? (a.add q) = some (.string s) := fun W hW => (hW.cell (p := a.add q) hab).trans hac
          have hbW : ∀ W, Kx [] wr W → Below w.heap.size w W := fun W hW => (hM.kept0 hW).below
          obtain ⟨has, hhas⟩ : ∃ has : Bool, has = true ↔ (ixOf (unitsS s) < 0 ∧ nmOf s ∈ L) := by
            by_cases hc : ixOf (unitsS s) < 0 ∧ nmOf s ∈ L
            · exact ⟨true, by simp [hc]⟩
            · exact ⟨false, by simp [hc]⟩
          have hul := unitsS_len s
          have cP := p_any s (by omega) wr (tabs_below hT hM.below)
          have cI := fun W => index_any (unitsS s) (unitsS_lt s) (by omega) W
          have cO : ∀ W, Kx [] wr W → Calls Tryz.prog 10 #[.pointer (some ⟨O, 0, none⟩), .int .i64 1, .string s] W fun e w' => DescIs e has ∧ Kx [] W w' := fun W hW => (hM.kept0 hW).ownA hT s hss (by omega) has hhas
          obtain ⟨ix, hix⟩ : ∃ ix, ix = ixOf (unitsS s) := ⟨_, rfl⟩
          rw [← hix] at cI
          generalize pk (unitsS s) = PK at cP cI
          have e0 := hcell wr hM.below
          have CI := (show Hid _ from cI)
          have CO := (show Hid _ from cO)
          have HC := (show Hid _ from hcell)
          have HB := (show Hid _ from hbW)
          have HX := (show Hid _ from And.intro hix hhas)
          have HS := (show Hid _ from And.intro hs hss)
          have HLQ := (show Hid _ from hLq)
          have HI := hI
          clear hI cI cO hcell hbW hix hhas hs hss hM hk4 hLq hcame hfirst hT hks hsz hac hab
          go_wp2_with (first | (go_at_call 15; refine cP.mono ?_; rintro e w11 ⟨rfl, hb11⟩; have HK11 : Hid (Kx [] wr w11) := (show Kx [] wr w11 from Kx.ofBelow hb11 []); have e1 := HC.out w11 (HB.out w11 HK11.out)) | (go_at_call 16; refine (CI.out _).mono ?_; rintro e w12 ⟨rfl, hb12⟩; have HK12 : Hid (Kx [] wr w12) := (show Kx [] wr w12 from HK11.out.same (Kx.ofBelow hb12 [])); have e2 := HC.out w12 (HB.out w12 HK12.out)) | (go_at_call 10; fail))
          refine (CO.out w12 HK12.out).mono ?_
          rintro e w13 ⟨⟨h3, h4, h5, p0, p1, p2, k', x', tx', rfl⟩, hk13⟩
          have HK13 : Hid (Kx [] wr w13) := (show Kx [] wr w13 from HK12.out.same hk13)
          clear hk13 CO CI cP e0 e1 e2 hb11 hb12 HK11 HK12
          obtain ⟨W14, hW14⟩ : ∃ W14, W14 = w13.alloc (Obj.cells #[.bool has, .bool false, .bool false, .bool h3, .bool h4, .bool h5, .int .i64 k', .float .f64 x', .string tx', .int .i64 0, .int .i64 0, .int .i64 0, .bool p0, .bool p1, .bool p2] 34) := ⟨_, rfl⟩
          have HK14 : Hid (Kx [] wr W14) := by rw [hW14]; exact (show Kx [] wr _ from HK13.out.alc _)
          have HA : Hid (W14.cell? ⟨w13.heap.size, 0, none⟩ = some (.bool has)) := by rw [hW14]; exact cell_at (heap_alloc_new _ _) 0 rfl
          have y0 := HA.out
          have y1 := HC.out W14 (HB.out W14 HK14.out)
          rw [hW14] at y0 y1
          clear HK13
          by_cases hA : 200 < s.size
          · as_aux_lemma =>
              have hA1 : (200 : Int) < (s.size : Int) := by omega
              have HN : Hid (In1 w O H hv3 S0 D ba bb bc ks (q + 1) L first W14) := HI.out.skip HK14.out HS.out.1 (fun hc => by have := hc.1.1; omega)
              go_wp2
              refine ⟨⟨q + 1, L, first, by omega, rfl, rfl, rfl, rfl, by go_num, ?_⟩, by simp [intOf]; omega⟩
              rw [← hW14]
              exact HN
          · have hA1 : ¬ (200 : Int) < (s.size : Int) := by omega
            by_cases hB : 0 ≤ ix
            · as_aux_lemma =>
                have HN : Hid (In1 w O H hv3 S0 D ba bb bc ks (q + 1) L first W14) := HI.out.skip HK14.out HS.out.1 (fun hc => by have := hc.1.2; have := HX.out.1; omega)
                go_wp2
                refine ⟨⟨q + 1, L, first, by omega, rfl, rfl, rfl, rfl, by go_num, ?_⟩, by simp [intOf]; omega⟩
                rw [← hW14]
                exact HN
            · cases has with
              | true =>
                have HN : Hid (In1 w O H hv3 S0 D ba bb bc ks (q + 1) L first W14) := HI.out.skip HK14.out HS.out.1 (fun hc => hc.2 (HX.out.2.1 rfl).2)
                go_wp2
                refine ⟨⟨q + 1, L, first, by omega, rfl, rfl, rfl, rfl, by go_num, ?_⟩, by simp [intOf]; omega⟩
                rw [← hW14]
                exact HN
              | false =>
                obtain ⟨k, x, tx, hM0, hk4, hLq, hcame, hfirst⟩ := HI.out
                have hM := hM0.kept0 HK14.out
                have hvs : valid s := ⟨by omega, by have := HX.out.1; omega⟩
                have hnl : nmOf s ∉ L := fun hc => by cases HX.out.2.2 ⟨hvs.2, hc⟩
                have z0 := cell_at hM.desc 0 rfl
                rw [hW14] at z0
                have z1 := cell_at hM.desc 1 rfl
                rw [hW14] at z1
                have z2 := cell_at hM.desc 2 rfl
                rw [hW14] at z2
                have z3 := cell_at hM.desc 3 rfl
                rw [hW14] at z3
                have z4 := cell_at hM.desc 4 rfl
                rw [hW14] at z4
                have z5 := cell_at hM.desc 5 rfl
                rw [hW14] at z5
                have z6 := cell_at hM.desc 6 rfl
                rw [hW14] at z6
                have z7 := cell_at hM.desc 7 rfl
                rw [hW14] at z7
                have z8 := cell_at hM.desc 8 rfl
                rw [hW14] at z8
                have z9 := cell_at hM.desc 9 rfl
                rw [hW14] at z9
                have z10 := cell_at hM.desc 10 rfl
                rw [hW14] at z10
                have z11 := cell_at hM.desc 11 rfl
                rw [hW14] at z11
                have z12 := cell_at hM.desc 12 rfl
                rw [hW14] at z12
                have z13 := cell_at hM.desc 13 rfl
                rw [hW14] at z13
                have z14 := cell_at hM.desc 14 rfl
                rw [hW14] at z14
                have zf := fr_all hM.desc
                rw [hW14] at zf
                have HM : Hid (Mid w O H hv3 S0 D ba bb bc (2 * q) L L k x tx W14) := hM
                have HV := (show Hid _ from And.intro hvs hnl)
                clear hM0 hM hk4 hLq hcame hfirst hvs hnl
                by_cases hL : L = []
                · as_aux_lemma =>
                    subst hL
                    go_wp2_with (first | (go_at_call 7; fail))
                    obtain ⟨FI, hFI⟩ : ∃ FI, FI = floatOfInt FloatKind.f64 (q : Int) := ⟨_, rfl⟩
                    rw [← hFI]
                    obtain ⟨W15, hW15⟩ : ∃ W15, W15 = (((W14.setCell ⟨D, 6, none⟩ (.int .i64 3)).setCell ⟨D, 7, none⟩ (.float .f64 FI)).setCell ⟨D, 8, none⟩ (.string ⟨#[]⟩)).setCell ⟨D, 9, none⟩ (.int .i64 0) := ⟨_, rfl⟩
                    rw [← hW14]
                    rw [← hW15]
                    have hM15 : Mid w O H hv3 S0 D ba bb bc (2 * q) ([] : List ByteArray) ([] : List ByteArray) 3 FI ⟨#[]⟩ W15 := by
                      have d1 := heap_set_at (C' := #[.bool true, .bool false, .bool false, .bool true, .bool true, .bool true, .int .i64 3, .float .f64 x, .string tx, .int .i64 0, .int .i64 0, .int .i64 0, .bool true, .bool true, .bool true]) HM.out.desc 6 (.int .i64 3) rfl
                      have d2 := heap_set_at (C' := #[.bool true, .bool false, .bool false, .bool true, .bool true, .bool true, .int .i64 3, .float .f64 FI, .string tx, .int .i64 0, .int .i64 0, .int .i64 0, .bool true, .bool true, .bool true]) d1 7 (.float .f64 FI) rfl
                      have d3 := heap_set_at (C' := #[.bool true, .bool false, .bool false, .bool true, .bool true, .bool true, .int .i64 3, .float .f64 FI, .string ⟨#[]⟩, .int .i64 0, .int .i64 0, .int .i64 0, .bool true, .bool true, .bool true]) d2 8 (.string ⟨#[]⟩) rfl
                      have d4 := heap_set_at (C' := #[.bool true, .bool false, .bool false, .bool true, .bool true, .bool true, .int .i64 3, .float .f64 FI, .string ⟨#[]⟩, .int .i64 0, .int .i64 0, .int .i64 0, .bool true, .bool true, .bool true]) d3 9 (.int .i64 0) rfl
                      rw [← hW15] at d4
                      refine HM.out.setD ?_ d4
                      rw [hW15]
                      exact ((((Kx.refl [D] W14).set (by simp) _).set (by simp) _).set (by simp) _).set (by simp) _
                    have c7 : ∀ W, Kx [] W15 W → Calls Tryz.prog 7 #[.pointer (some ⟨O, 0, none⟩), .int .i64 1, .string s, .agg #[.bool true, .bool false, .bool false, .bool true, .bool true, .bool true, .int .i64 3, .float .f64 FI, .string ⟨#[]⟩, .int .i64 0, .int .i64 0, .int .i64 0, .bool true, .bool true, .bool true]] W fun e w' => e = .returned (.int .i64 0) ∧ Mid w O H hv3 S0 D ba bb bc (2 * q + 1) (([] : List ByteArray) ++ [nmOf s]) ([] : List ByteArray) 3 FI ⟨#[]⟩ w' := fun W hW => (hM15.kept0 hW).defA (k := 0) HST.out.1 s HS.out.2 HV.out.1 HV.out.2 (by have := HLQ.out; omega) (by omega)
                    have ya := HC.out W15 hM15.below
                    have t0 := cell_at hM15.desc 0 rfl
                    have t1 := cell_at hM15.desc 1 rfl
                    have t2 := cell_at hM15.desc 2 rfl
                    have t3 := cell_at hM15.desc 3 rfl
                    have t4 := cell_at hM15.desc 4 rfl
                    have t5 := cell_at hM15.desc 5 rfl
                    have t6 := cell_at hM15.desc 6 rfl
                    have t7 := cell_at hM15.desc 7 rfl
                    have t8 := cell_at hM15.desc 8 rfl
                    have t9 := cell_at hM15.desc 9 rfl
                    have t10 := cell_at hM15.desc 10 rfl
                    have t11 := cell_at hM15.desc 11 rfl
                    have t12 := cell_at hM15.desc 12 rfl
                    have t13 := cell_at hM15.desc 13 rfl
                    have t14 := cell_at hM15.desc 14 rfl
                    have C7 := (show Hid _ from c7)
                    clear z0 z1 z2 z3 z4 z5 z6 z7 z8 z9 z10 z11 z12 z13 z14 zf y0 y1 hW14 hW15 hFI c7 hM15 HM
                    go_region_held3 (fun Z : World => Z.cell? (a.add q) = some (.string s) ∧ Z.cell? ⟨D, 0, none⟩ = some (.bool true) ∧ Z.cell? ⟨D, 1, none⟩ = some (.bool false) ∧ Z.cell? ⟨D, 2, none⟩ = some (.bool false) ∧ Z.cell? ⟨D, 3, none⟩ = some (.bool true) ∧ Z.cell? ⟨D, 4, none⟩ = some (.bool true) ∧ Z.cell? ⟨D, 5, none⟩ = some (.bool true) ∧ Z.cell? ⟨D, 6, none⟩ = some (.int .i64 3) ∧ Z.cell? ⟨D, 7, none⟩ = some (.float .f64 FI) ∧ Z.cell? ⟨D, 8, none⟩ = some (.string ⟨#[]⟩) ∧ Z.cell? ⟨D, 9, none⟩ = some (.int .i64 0) ∧ Z.cell? ⟨D, 10, none⟩ = some (.int .i64 0) ∧ Z.cell? ⟨D, 11, none⟩ = some (.int .i64 0) ∧ Z.cell? ⟨D, 12, none⟩ = some (.bool true) ∧ Z.cell? ⟨D, 13, none⟩ = some (.bool true) ∧ Z.cell? ⟨D, 14, none⟩ = some (.bool true)) (first | exact ⟨ya, t0, t1, t2, t3, t4, t5, t6, t7, t8, t9, t10, t11, t12, t13, t14⟩ | exact ⟨yb, r0, r1, r2, r3, r4, r5, r6, r7, r8, r9, r10, r11, r12, r13, r14⟩) (first | (go_simp; go_at_call 7; refine (C7.out _ (Kx.drew _ _)).mono ?_; rintro e w16 ⟨rfl, hM16⟩; have yb := HC.out w16 hM16.below; have r0 := cell_at hM16.desc 0 rfl; have r1 := cell_at hM16.desc 1 rfl; have r2 := cell_at hM16.desc 2 rfl; have r3 := cell_at hM16.desc 3 rfl; have r4 := cell_at hM16.desc 4 rfl; have r5 := cell_at hM16.desc 5 rfl; have r6 := cell_at hM16.desc 6 rfl; have r7 := cell_at hM16.desc 7 rfl; have r8 := cell_at hM16.desc 8 rfl; have r9 := cell_at hM16.desc 9 rfl; have r10 := cell_at hM16.desc 10 rfl; have r11 := cell_at hM16.desc 11 rfl; have r12 := cell_at hM16.desc 12 rfl; have r13 := cell_at hM16.desc 13 rfl; have r14 := cell_at hM16.desc 14 rfl))
                    clear ya t0 t1 t2 t3 t4 t5 t6 t7 t8 t9 t10 t11 t12 t13 t14 r0 r1 r2 r3 r4 r5 r6 r7 r8 r9 r10 r11 r12 r13 r14 C7
                    have zf := fr_all hM16.desc
                    have z0 := cell_at hM16.desc 0 rfl
                    have z1 := cell_at hM16.desc 1 rfl
                    have z2 := cell_at hM16.desc 2 rfl
                    have z3 := cell_at hM16.desc 3 rfl
                    have z4 := cell_at hM16.desc 4 rfl
                    have z5 := cell_at hM16.desc 5 rfl
                    have z6 := cell_at hM16.desc 6 rfl
                    have z7 := cell_at hM16.desc 7 rfl
                    have z8 := cell_at hM16.desc 8 rfl
                    have z9 := cell_at hM16.desc 9 rfl
                    have z10 := cell_at hM16.desc 10 rfl
                    have z11 := cell_at hM16.desc 11 rfl
                    have z12 := cell_at hM16.desc 12 rfl
                    have z13 := cell_at hM16.desc 13 rfl
                    have z14 := cell_at hM16.desc 14 rfl
                    have HM16 : Hid (Mid w O H hv3 S0 D ba bb bc (2 * q + 1) (([] : List ByteArray) ++ [nmOf s]) ([] : List ByteArray) 3 FI ⟨#[]⟩ w16) := hM16
                    clear hM16
                    go_wp2_with (first | (go_at_call 7; fail))
                    obtain ⟨W17, hW17⟩ : ∃ W17, W17 = (((w16.setCell ⟨D, 6, none⟩ (.int .i64 4)).setCell ⟨D, 7, none⟩ (.float .f64 0)).setCell ⟨D, 8, none⟩ (.string ⟨#[120]⟩)).setCell ⟨D, 9, none⟩ (.int .i64 0) := ⟨_, rfl⟩
                    rw [← hW17]
                    have hM17 : Mid w O H hv3 S0 D ba bb bc (2 * q + 1) (([] : List ByteArray) ++ [nmOf s]) ([] : List ByteArray) 4 0 xT W17 := by
                      have d1 := heap_set_at (C' := #[.bool true, .bool false, .bool false, .bool true, .bool true, .bool true, .int .i64 4, .float .f64 FI, .string ⟨#[]⟩, .int .i64 0, .int .i64 0, .int .i64 0, .bool true, .bool true, .bool true]) HM16.out.desc 6 (.int .i64 4) rfl
                      have d2 := heap_set_at (C' := #[.bool true, .bool false, .bool false, .bool true, .bool true, .bool true, .int .i64 4, .float .f64 0, .string ⟨#[]⟩, .int .i64 0, .int .i64 0, .int .i64 0, .bool true, .bool true, .bool true]) d1 7 (.float .f64 0) rfl
                      have d3 := heap_set_at (C' := #[.bool true, .bool false, .bool false, .bool true, .bool true, .bool true, .int .i64 4, .float .f64 0, .string ⟨#[120]⟩, .int .i64 0, .int .i64 0, .int .i64 0, .bool true, .bool true, .bool true]) d2 8 (.string ⟨#[120]⟩) rfl
                      have d4 := heap_set_at (C' := #[.bool true, .bool false, .bool false, .bool true, .bool true, .bool true, .int .i64 4, .float .f64 0, .string ⟨#[120]⟩, .int .i64 0, .int .i64 0, .int .i64 0, .bool true, .bool true, .bool true]) d3 9 (.int .i64 0) rfl
                      rw [← hW17] at d4
                      refine HM16.out.setD ?_ d4
                      rw [hW17]
                      exact ((((Kx.refl [D] w16).set (by simp) _).set (by simp) _).set (by simp) _).set (by simp) _
                    have c7 : ∀ W, Kx [] W17 W → Calls Tryz.prog 7 #[.pointer (some ⟨O, 0, none⟩), .int .i64 2, .string s, .agg #[.bool true, .bool false, .bool false, .bool true, .bool true, .bool true, .int .i64 4, .float .f64 0, .string ⟨#[120]⟩, .int .i64 0, .int .i64 0, .int .i64 0, .bool true, .bool true, .bool true]] W fun e w' => e = .returned (.int .i64 0) ∧ Mid w O H hv3 S0 D ba bb bc (2 * q + 1 + 1) (([] : List ByteArray) ++ [nmOf s]) (([] : List ByteArray) ++ [nmOf s]) 4 0 xT w' := fun W hW => (hM17.kept0 hW).defB (tx := xT) HST.out.1 s HS.out.2 HV.out.1 HV.out.2 (by have := HLQ.out; omega) (by omega)
                    have ya := HC.out W17 hM17.below
                    have t0 := cell_at hM17.desc 0 rfl
                    have t1 := cell_at hM17.desc 1 rfl
                    have t2 := cell_at hM17.desc 2 rfl
                    have t3 := cell_at hM17.desc 3 rfl
                    have t4 := cell_at hM17.desc 4 rfl
                    have t5 := cell_at hM17.desc 5 rfl
                    have t6 := cell_at hM17.desc 6 rfl
                    have t7 := cell_at hM17.desc 7 rfl
                    have t8 := cell_at hM17.desc 8 rfl
                    have t9 := cell_at hM17.desc 9 rfl
                    have t10 := cell_at hM17.desc 10 rfl
                    have t11 := cell_at hM17.desc 11 rfl
                    have t12 := cell_at hM17.desc 12 rfl
                    have t13 := cell_at hM17.desc 13 rfl
                    have t14 := cell_at hM17.desc 14 rfl
                    have C7 := (show Hid _ from c7)
                    clear z0 z1 z2 z3 z4 z5 z6 z7 z8 z9 z10 z11 z12 z13 z14 zf hW17 c7 hM17 HM16 yb
                    go_region_held3 (fun Z : World => Z.cell? (a.add q) = some (.string s) ∧ Z.cell? ⟨D, 0, none⟩ = some (.bool true) ∧ Z.cell? ⟨D, 1, none⟩ = some (.bool false) ∧ Z.cell? ⟨D, 2, none⟩ = some (.bool false) ∧ Z.cell? ⟨D, 3, none⟩ = some (.bool true) ∧ Z.cell? ⟨D, 4, none⟩ = some (.bool true) ∧ Z.cell? ⟨D, 5, none⟩ = some (.bool true) ∧ Z.cell? ⟨D, 6, none⟩ = some (.int .i64 4) ∧ Z.cell? ⟨D, 7, none⟩ = some (.float .f64 0) ∧ Z.cell? ⟨D, 8, none⟩ = some (.string ⟨#[120]⟩) ∧ Z.cell? ⟨D, 9, none⟩ = some (.int .i64 0) ∧ Z.cell? ⟨D, 10, none⟩ = some (.int .i64 0) ∧ Z.cell? ⟨D, 11, none⟩ = some (.int .i64 0) ∧ Z.cell? ⟨D, 12, none⟩ = some (.bool true) ∧ Z.cell? ⟨D, 13, none⟩ = some (.bool true) ∧ Z.cell? ⟨D, 14, none⟩ = some (.bool true)) (first | exact ⟨ya, t0, t1, t2, t3, t4, t5, t6, t7, t8, t9, t10, t11, t12, t13, t14⟩ | exact ⟨yb, r0, r1, r2, r3, r4, r5, r6, r7, r8, r9, r10, r11, r12, r13, r14⟩) (first | (go_simp; go_at_call 7; refine (C7.out _ (Kx.drew _ _)).mono ?_; rintro e w18 ⟨rfl, hM18⟩; have yb := HC.out w18 hM18.below; have r0 := cell_at hM18.desc 0 rfl; have r1 := cell_at hM18.desc 1 rfl; have r2 := cell_at hM18.desc 2 rfl; have r3 := cell_at hM18.desc 3 rfl; have r4 := cell_at hM18.desc 4 rfl; have r5 := cell_at hM18.desc 5 rfl; have r6 := cell_at hM18.desc 6 rfl; have r7 := cell_at hM18.desc 7 rfl; have r8 := cell_at hM18.desc 8 rfl; have r9 := cell_at hM18.desc 9 rfl; have r10 := cell_at hM18.desc 10 rfl; have r11 := cell_at hM18.desc 11 rfl; have r12 := cell_at hM18.desc 12 rfl; have r13 := cell_at hM18.desc 13 rfl; have r14 := cell_at hM18.desc 14 rfl))
                    clear ya yb t0 t1 t2 t3 t4 t5 t6 t7 t8 t9 t10 t11 t12 t13 t14 r0 r1 r2 r3 r4 r5 r6 r7 r8 r9 r10 r11 r12 r13 r14 C7
                    have HN : Hid (In1 w O H hv3 S0 D ba bb bc ks (q + 1) (([] : List ByteArray) ++ [nmOf s]) s w18) := by
                      have := HI.out.add HS.out.1 HV.out.1 HV.out.2 hM18
                      rw [if_pos rfl] at this
                      exact this
                    clear hM18
                    go_wp2
                    exact ⟨⟨q + 1, ([] : List ByteArray) ++ [nmOf s], s, by omega, rfl, rfl, by simp, rfl, by go_num, HN⟩, by simp [intOf]; omega⟩
                · as_aux_lemma =>
                    have hL0 : ((L.length : Int) == 0) = false := by
                      rw [beq_eq_false_iff_ne]
                      intro e
                      exact hL (List.eq_nil_of_length_eq_zero (by omega))
                    have hLb : L.length ≤ 40 := by have := HLQ.out; omega
                    go_wp2_with (first | (go_at_call 7; fail))
                    obtain ⟨FI, hFI⟩ : ∃ FI, FI = floatOfInt FloatKind.f64 (q : Int) := ⟨_, rfl⟩
                    rw [← hFI]
                    obtain ⟨W15, hW15⟩ : ∃ W15, W15 = (((W14.setCell ⟨D, 6, none⟩ (.int .i64 3)).setCell ⟨D, 7, none⟩ (.float .f64 FI)).setCell ⟨D, 8, none⟩ (.string ⟨#[]⟩)).setCell ⟨D, 9, none⟩ (.int .i64 0) := ⟨_, rfl⟩
                    rw [← hW14]
                    rw [← hW15]
                    have hM15 : Mid w O H hv3 S0 D ba bb bc (2 * q) L L 3 FI ⟨#[]⟩ W15 := by
                      have d1 := heap_set_at (C' := #[.bool true, .bool false, .bool false, .bool true, .bool true, .bool true, .int .i64 3, .float .f64 x, .string tx, .int .i64 0, .int .i64 0, .int .i64 0, .bool true, .bool true, .bool true]) HM.out.desc 6 (.int .i64 3) rfl
                      have d2 := heap_set_at (C' := #[.bool true, .bool false, .bool false, .bool true, .bool true, .bool true, .int .i64 3, .float .f64 FI, .string tx, .int .i64 0, .int .i64 0, .int .i64 0, .bool true, .bool true, .bool true]) d1 7 (.float .f64 FI) rfl
                      have d3 := heap_set_at (C' := #[.bool true, .bool false, .bool false, .bool true, .bool true, .bool true, .int .i64 3, .float .f64 FI, .string ⟨#[]⟩, .int .i64 0, .int .i64 0, .int .i64 0, .bool true, .bool true, .bool true]) d2 8 (.string ⟨#[]⟩) rfl
                      have d4 := heap_set_at (C' := #[.bool true, .bool false, .bool false, .bool true, .bool true, .bool true, .int .i64 3, .float .f64 FI, .string ⟨#[]⟩, .int .i64 0, .int .i64 0, .int .i64 0, .bool true, .bool true, .bool true]) d3 9 (.int .i64 0) rfl
                      rw [← hW15] at d4
                      refine HM.out.setD ?_ d4
                      rw [hW15]
                      exact ((((Kx.refl [D] W14).set (by simp) _).set (by simp) _).set (by simp) _).set (by simp) _
                    have c7 : ∀ W, Kx [] W15 W → Calls Tryz.prog 7 #[.pointer (some ⟨O, 0, none⟩), .int .i64 1, .string s, .agg #[.bool true, .bool false, .bool false, .bool true, .bool true, .bool true, .int .i64 3, .float .f64 FI, .string ⟨#[]⟩, .int .i64 0, .int .i64 0, .int .i64 0, .bool true, .bool true, .bool true]] W fun e w' => e = .returned (.int .i64 0) ∧ Mid w O H hv3 S0 D ba bb bc (2 * q + 1) (L ++ [nmOf s]) L 3 FI ⟨#[]⟩ w' := fun W hW => (hM15.kept0 hW).defA (k := 0) HST.out.1 s HS.out.2 HV.out.1 HV.out.2 (by have := HLQ.out; omega) (by omega)
                    have ya := HC.out W15 hM15.below
                    have t0 := cell_at hM15.desc 0 rfl
                    have t1 := cell_at hM15.desc 1 rfl
                    have t2 := cell_at hM15.desc 2 rfl
                    have t3 := cell_at hM15.desc 3 rfl
                    have t4 := cell_at hM15.desc 4 rfl
                    have t5 := cell_at hM15.desc 5 rfl
                    have t6 := cell_at hM15.desc 6 rfl
                    have t7 := cell_at hM15.desc 7 rfl
                    have t8 := cell_at hM15.desc 8 rfl
                    have t9 := cell_at hM15.desc 9 rfl
                    have t10 := cell_at hM15.desc 10 rfl
                    have t11 := cell_at hM15.desc 11 rfl
                    have t12 := cell_at hM15.desc 12 rfl
                    have t13 := cell_at hM15.desc 13 rfl
                    have t14 := cell_at hM15.desc 14 rfl
                    have C7 := (show Hid _ from c7)
                    clear z0 z1 z2 z3 z4 z5 z6 z7 z8 z9 z10 z11 z12 z13 z14 zf y0 y1 hW14 hW15 hFI c7 hM15 HM
                    go_region_held3 (fun Z : World => Z.cell? (a.add q) = some (.string s) ∧ Z.cell? ⟨D, 0, none⟩ = some (.bool true) ∧ Z.cell? ⟨D, 1, none⟩ = some (.bool false) ∧ Z.cell? ⟨D, 2, none⟩ = some (.bool false) ∧ Z.cell? ⟨D, 3, none⟩ = some (.bool true) ∧ Z.cell? ⟨D, 4, none⟩ = some (.bool true) ∧ Z.cell? ⟨D, 5, none⟩ = some (.bool true) ∧ Z.cell? ⟨D, 6, none⟩ = some (.int .i64 3) ∧ Z.cell? ⟨D, 7, none⟩ = some (.float .f64 FI) ∧ Z.cell? ⟨D, 8, none⟩ = some (.string ⟨#[]⟩) ∧ Z.cell? ⟨D, 9, none⟩ = some (.int .i64 0) ∧ Z.cell? ⟨D, 10, none⟩ = some (.int .i64 0) ∧ Z.cell? ⟨D, 11, none⟩ = some (.int .i64 0) ∧ Z.cell? ⟨D, 12, none⟩ = some (.bool true) ∧ Z.cell? ⟨D, 13, none⟩ = some (.bool true) ∧ Z.cell? ⟨D, 14, none⟩ = some (.bool true)) (first | exact ⟨ya, t0, t1, t2, t3, t4, t5, t6, t7, t8, t9, t10, t11, t12, t13, t14⟩ | exact ⟨yb, r0, r1, r2, r3, r4, r5, r6, r7, r8, r9, r10, r11, r12, r13, r14⟩) (first | (go_simp; go_at_call 7; refine (C7.out _ (Kx.drew _ _)).mono ?_; rintro e w16 ⟨rfl, hM16⟩; have yb := HC.out w16 hM16.below; have r0 := cell_at hM16.desc 0 rfl; have r1 := cell_at hM16.desc 1 rfl; have r2 := cell_at hM16.desc 2 rfl; have r3 := cell_at hM16.desc 3 rfl; have r4 := cell_at hM16.desc 4 rfl; have r5 := cell_at hM16.desc 5 rfl; have r6 := cell_at hM16.desc 6 rfl; have r7 := cell_at hM16.desc 7 rfl; have r8 := cell_at hM16.desc 8 rfl; have r9 := cell_at hM16.desc 9 rfl; have r10 := cell_at hM16.desc 10 rfl; have r11 := cell_at hM16.desc 11 rfl; have r12 := cell_at hM16.desc 12 rfl; have r13 := cell_at hM16.desc 13 rfl; have r14 := cell_at hM16.desc 14 rfl))
                    clear ya t0 t1 t2 t3 t4 t5 t6 t7 t8 t9 t10 t11 t12 t13 t14 r0 r1 r2 r3 r4 r5 r6 r7 r8 r9 r10 r11 r12 r13 r14 C7
                    have zf := fr_all hM16.desc
                    have z0 := cell_at hM16.desc 0 rfl
                    have z1 := cell_at hM16.desc 1 rfl
                    have z2 := cell_at hM16.desc 2 rfl
                    have z3 := cell_at hM16.desc 3 rfl
                    have z4 := cell_at hM16.desc 4 rfl
                    have z5 := cell_at hM16.desc 5 rfl
                    have z6 := cell_at hM16.desc 6 rfl
                    have z7 := cell_at hM16.desc 7 rfl
                    have z8 := cell_at hM16.desc 8 rfl
                    have z9 := cell_at hM16.desc 9 rfl
                    have z10 := cell_at hM16.desc 10 rfl
                    have z11 := cell_at hM16.desc 11 rfl
                    have z12 := cell_at hM16.desc 12 rfl
                    have z13 := cell_at hM16.desc 13 rfl
                    have z14 := cell_at hM16.desc 14 rfl
                    have HM16 : Hid (Mid w O H hv3 S0 D ba bb bc (2 * q + 1) (L ++ [nmOf s]) L 3 FI ⟨#[]⟩ w16) := hM16
                    clear hM16
                    go_wp2_with (first | (go_at_call 7; fail))
                    obtain ⟨W17, hW17⟩ : ∃ W17, W17 = (((w16.setCell ⟨D, 6, none⟩ (.int .i64 4)).setCell ⟨D, 7, none⟩ (.float .f64 0)).setCell ⟨D, 8, none⟩ (.string ⟨#[120]⟩)).setCell ⟨D, 9, none⟩ (.int .i64 0) := ⟨_, rfl⟩
                    rw [← hW17]
                    have hM17 : Mid w O H hv3 S0 D ba bb bc (2 * q + 1) (L ++ [nmOf s]) L 4 0 xT W17 := by
                      have d1 := heap_set_at (C' := #[.bool true, .bool false, .bool false, .bool true, .bool true, .bool true, .int .i64 4, .float .f64 FI, .string ⟨#[]⟩, .int .i64 0, .int .i64 0, .int .i64 0, .bool true, .bool true, .bool true]) HM16.out.desc 6 (.int .i64 4) rfl
                      have d2 := heap_set_at (C' := #[.bool true, .bool false, .bool false, .bool true, .bool true, .bool true, .int .i64 4, .float .f64 0, .string ⟨#[]⟩, .int .i64 0, .int .i64 0, .int .i64 0, .bool true, .bool true, .bool true]) d1 7 (.float .f64 0) rfl
                      have d3 := heap_set_at (C' := #[.bool true, .bool false, .bool false, .bool true, .bool true, .bool true, .int .i64 4, .float .f64 0, .string ⟨#[120]⟩, .int .i64 0, .int .i64 0, .int .i64 0, .bool true, .bool true, .bool true]) d2 8 (.string ⟨#[120]⟩) rfl
                      have d4 := heap_set_at (C' := #[.bool true, .bool false, .bool false, .bool true, .bool true, .bool true, .int .i64 4, .float .f64 0, .string ⟨#[120]⟩, .int .i64 0, .int .i64 0, .int .i64 0, .bool true, .bool true, .bool true]) d3 9 (.int .i64 0) rfl
                      rw [← hW17] at d4
                      refine HM16.out.setD ?_ d4
                      rw [hW17]
                      exact ((((Kx.refl [D] w16).set (by simp) _).set (by simp) _).set (by simp) _).set (by simp) _
                    have c7 : ∀ W, Kx [] W17 W → Calls Tryz.prog 7 #[.pointer (some ⟨O, 0, none⟩), .int .i64 2, .string s, .agg #[.bool true, .bool false, .bool false, .bool true, .bool true, .bool true, .int .i64 4, .float .f64 0, .string ⟨#[120]⟩, .int .i64 0, .int .i64 0, .int .i64 0, .bool true, .bool true, .bool true]] W fun e w' => e = .returned (.int .i64 0) ∧ Mid w O H hv3 S0 D ba bb bc (2 * q + 1 + 1) (L ++ [nmOf s]) (L ++ [nmOf s]) 4 0 xT w' := fun W hW => (hM17.kept0 hW).defB (tx := xT) HST.out.1 s HS.out.2 HV.out.1 HV.out.2 (by have := HLQ.out; omega) (by omega)
                    have ya := HC.out W17 hM17.below
                    have t0 := cell_at hM17.desc 0 rfl
                    have t1 := cell_at hM17.desc 1 rfl
                    have t2 := cell_at hM17.desc 2 rfl
                    have t3 := cell_at hM17.desc 3 rfl
                    have t4 := cell_at hM17.desc 4 rfl
                    have t5 := cell_at hM17.desc 5 rfl
                    have t6 := cell_at hM17.desc 6 rfl
                    have t7 := cell_at hM17.desc 7 rfl
                    have t8 := cell_at hM17.desc 8 rfl
                    have t9 := cell_at hM17.desc 9 rfl
                    have t10 := cell_at hM17.desc 10 rfl
                    have t11 := cell_at hM17.desc 11 rfl
                    have t12 := cell_at hM17.desc 12 rfl
                    have t13 := cell_at hM17.desc 13 rfl
                    have t14 := cell_at hM17.desc 14 rfl
                    have C7 := (show Hid _ from c7)
                    clear z0 z1 z2 z3 z4 z5 z6 z7 z8 z9 z10 z11 z12 z13 z14 zf hW17 c7 hM17 HM16 yb
                    go_region_held3 (fun Z : World => Z.cell? (a.add q) = some (.string s) ∧ Z.cell? ⟨D, 0, none⟩ = some (.bool true) ∧ Z.cell? ⟨D, 1, none⟩ = some (.bool false) ∧ Z.cell? ⟨D, 2, none⟩ = some (.bool false) ∧ Z.cell? ⟨D, 3, none⟩ = some (.bool true) ∧ Z.cell? ⟨D, 4, none⟩ = some (.bool true) ∧ Z.cell? ⟨D, 5, none⟩ = some (.bool true) ∧ Z.cell? ⟨D, 6, none⟩ = some (.int .i64 4) ∧ Z.cell? ⟨D, 7, none⟩ = some (.float .f64 0) ∧ Z.cell? ⟨D, 8, none⟩ = some (.string ⟨#[120]⟩) ∧ Z.cell? ⟨D, 9, none⟩ = some (.int .i64 0) ∧ Z.cell? ⟨D, 10, none⟩ = some (.int .i64 0) ∧ Z.cell? ⟨D, 11, none⟩ = some (.int .i64 0) ∧ Z.cell? ⟨D, 12, none⟩ = some (.bool true) ∧ Z.cell? ⟨D, 13, none⟩ = some (.bool true) ∧ Z.cell? ⟨D, 14, none⟩ = some (.bool true)) (first | exact ⟨ya, t0, t1, t2, t3, t4, t5, t6, t7, t8, t9, t10, t11, t12, t13, t14⟩ | exact ⟨yb, r0, r1, r2, r3, r4, r5, r6, r7, r8, r9, r10, r11, r12, r13, r14⟩) (first | (go_simp; go_at_call 7; refine (C7.out _ (Kx.drew _ _)).mono ?_; rintro e w18 ⟨rfl, hM18⟩; have yb := HC.out w18 hM18.below; have r0 := cell_at hM18.desc 0 rfl; have r1 := cell_at hM18.desc 1 rfl; have r2 := cell_at hM18.desc 2 rfl; have r3 := cell_at hM18.desc 3 rfl; have r4 := cell_at hM18.desc 4 rfl; have r5 := cell_at hM18.desc 5 rfl; have r6 := cell_at hM18.desc 6 rfl; have r7 := cell_at hM18.desc 7 rfl; have r8 := cell_at hM18.desc 8 rfl; have r9 := cell_at hM18.desc 9 rfl; have r10 := cell_at hM18.desc 10 rfl; have r11 := cell_at hM18.desc 11 rfl; have r12 := cell_at hM18.desc 12 rfl; have r13 := cell_at hM18.desc 13 rfl; have r14 := cell_at hM18.desc 14 rfl))
                    clear ya yb t0 t1 t2 t3 t4 t5 t6 t7 t8 t9 t10 t11 t12 t13 t14 r0 r1 r2 r3 r4 r5 r6 r7 r8 r9 r10 r11 r12 r13 r14 C7
                    have HN : Hid (In1 w O H hv3 S0 D ba bb bc ks (q + 1) (L ++ [nmOf s]) first w18) := by
                      have := HI.out.add HS.out.1 HV.out.1 HV.out.2 hM18
                      rw [if_neg hL] at this
                      exact this
                    clear hM18
                    go_wp2
                    exact ⟨⟨q + 1, L ++ [nmOf s], first, by omega, rfl, rfl, by simp, rfl, by go_num, HN⟩, by simp [intOf]; omega⟩
      · as_aux_lemma =>
          have hqe : q = ks.length := by omega
          subst hqe
          obtain ⟨k0, x0, tx0, hM0, hk40, hLq0, hcame0, hfirst0⟩ := hI.out
          have cS := hM0.same
          have HM0 : Hid (Tri w O H hv3 S0 D ba bb bc (2 * ks.length) L [] k0 x0 tx0 wr) := hM0.tri
          have HK40 := (show Hid _ from hk40)
          have HF0 := (show Hid _ from And.intro hLq0 (And.intro hcame0 hfirst0))
          clear hI hM0 hk40 hLq0 hcame0 hfirst0
          go_wp2_with (first | (go_at_call 14; fail))
          refine cS.mono ?_
          rintro e w20 ⟨rfl, q20, hq20⟩
          have HJ : Hid (In2 w O H hv3 S0 D ba bb bc ks L ks.length [] w20) := by
            refine (show In2 w O H hv3 S0 D ba bb bc ks L ks.length [] w20 from ⟨k0, x0, tx0, ?_, HK40.out, by simp, ?_⟩)
            · rw [hq20]
              exact (HM0.out.kept0 (Kx.drewN _ _ _)).mono (by omega)
            · rw [List.drop_length]
              exact ⟨by simp, fun y => by simp⟩
          clear hq20 cS HM0 HK40
          have hk1 : (ks.length : Int) - 1 = ((ks.length : Int) - 1) := rfl
          go_wp2
          go_loopw [7, 21, 22, 23, 24, 25] (fun u7 u21 _ _ _ _ wr => ∃ (r : Nat) (Lc : List ByteArray), r ≤ ks.length ∧ u7 = .int .i64 0 ∧ u21 = .int .i64 ((r : Int) - 1) ∧ Hid (In2 w O H hv3 S0 D ba bb bc ks L r Lc wr))
            (fun _ i _ _ _ _ _ => (intOf i + 1).toNat)
          case atStart => exact ⟨ks.length, [], Nat.le_refl _, rfl, rfl, HJ⟩
          case round =>
            obtain ⟨r, Lc, hr, rfl, rfl, hJ⟩ := hrel
            clear HJ
            by_cases hr0 : 0 < r
            · as_aux_lemma =>
                obtain ⟨r, rfl⟩ : ∃ r', r = r' + 1 := ⟨r - 1, by omega⟩
                have hre : ((r + 1 : Nat) : Int) - 1 = (r : Int) := by omega
                have hrl : r < ks.length := by omega
                rw [hre]
                obtain ⟨s, hs⟩ : ∃ s, ks[r]? = some s := ⟨_, List.getElem?_eq_getElem (by omega)⟩
                obtain ⟨hT, hks, hsz⟩ := HST.out
                obtain ⟨a, rfl, hab, hac⟩ := hks r s hs
                obtain ⟨k1, x1, tx1, hM, hk4, hLq, hcame⟩ := hJ.out
                have hss := hsz s (List.mem_of_getElem? hs)
                have hcell : ∀ W, Below w.heap.size w W → W.cell? (a.add r) = some (.string s) := fun W hW => (hW.cell (p := a.add r) hab).trans hac
                have hbW : ∀ W, Kx [] wr W → Below w.heap.size w W := fun W hW => (hM.kept0 hW).below
                obtain ⟨has, hhas⟩ : ∃ has : Bool, has = true ↔ (ixOf (unitsS s) < 0 ∧ nmOf s ∈ Lc) := by
                  by_cases hc : ixOf (unitsS s) < 0 ∧ nmOf s ∈ Lc
                  · exact ⟨true, by simp [hc]⟩
                  · exact ⟨false, by simp [hc]⟩
                have hul := unitsS_len s
                have cP := p_any s (by omega) wr (tabs_below hT hM.below)
                have cI := fun W => index_any (unitsS s) (unitsS_lt s) (by omega) W
                have cO : ∀ W, Kx [] wr W → Calls Tryz.prog 10 #[.pointer (some ⟨O, 0, none⟩), .int .i64 3, .string s] W fun e w' => DescIs e has ∧ Kx [] W w' := fun W hW => (hM.kept0 hW).ownC hT s hss (by omega) has hhas
                obtain ⟨ix, hix⟩ : ∃ ix, ix = ixOf (unitsS s) := ⟨_, rfl⟩
                rw [← hix] at cI
                generalize pk (unitsS s) = PK at cP cI
                have e0 := hcell wr hM.below
                have CI := (show Hid _ from cI)
                have CO := (show Hid _ from cO)
                have HC := (show Hid _ from hcell)
                have HB := (show Hid _ from hbW)
                have HX := (show Hid _ from And.intro hix hhas)
                have HS := (show Hid _ from And.intro hs hss)
                have HLQ := (show Hid _ from hLq)
                have HI := hJ
                clear hJ cI cO hcell hbW hix hhas hs hss hM hk4 hLq hcame hT hks hsz hac hab hre
                go_wp2_with (first | (go_at_call 15; refine cP.mono ?_; rintro e w31 ⟨rfl, hb31⟩; have HK31 : Hid (Kx [] wr w31) := (show Kx [] wr w31 from Kx.ofBelow hb31 []); have e1 := HC.out w31 (HB.out w31 HK31.out)) | (go_at_call 16; refine (CI.out _).mono ?_; rintro e w32 ⟨rfl, hb32⟩; have HK32 : Hid (Kx [] wr w32) := (show Kx [] wr w32 from HK31.out.same (Kx.ofBelow hb32 [])); have e2 := HC.out w32 (HB.out w32 HK32.out)) | (go_at_call 10; fail))
                refine (CO.out w32 HK32.out).mono ?_
                rintro e w33 ⟨⟨h3, h4, h5, p0, p1, p2, k', x', tx', rfl⟩, hk33⟩
                have HK33 : Hid (Kx [] wr w33) := (show Kx [] wr w33 from HK32.out.same hk33)
                clear hk33 CO CI cP e0 e1 e2 hb31 hb32 HK31 HK32
                obtain ⟨W34, hW34⟩ : ∃ W34, W34 = w33.alloc (Obj.cells #[.bool has, .bool false, .bool false, .bool h3, .bool h4, .bool h5, .int .i64 k', .float .f64 x', .string tx', .int .i64 0, .int .i64 0, .int .i64 0, .bool p0, .bool p1, .bool p2] 34) := ⟨_, rfl⟩
                have HK34 : Hid (Kx [] wr W34) := by rw [hW34]; exact (show Kx [] wr _ from HK33.out.alc _)
                have HA : Hid (W34.cell? ⟨w33.heap.size, 0, none⟩ = some (.bool has)) := by rw [hW34]; exact cell_at (heap_alloc_new _ _) 0 rfl
                have y0 := HA.out
                have y1 := HC.out W34 (HB.out W34 HK34.out)
                rw [hW34] at y0 y1
                clear HK33
                by_cases hA : 200 < s.size
                · as_aux_lemma =>
                    have hA1 : (200 : Int) < (s.size : Int) := by omega
                    have HN : Hid (In2 w O H hv3 S0 D ba bb bc ks L r Lc W34) := HI.out.skip HK34.out HS.out.1 (fun hc => by have := hc.1.1; omega)
                    go_wp2
                    refine ⟨⟨r, Lc, by omega, rfl, rfl, ?_⟩, by simp [intOf]⟩
                    rw [← hW34]
                    exact HN
                · have hA1 : ¬ (200 : Int) < (s.size : Int) := by omega
                  by_cases hB : 0 ≤ ix
                  · as_aux_lemma =>
                      have HN : Hid (In2 w O H hv3 S0 D ba bb bc ks L r Lc W34) := HI.out.skip HK34.out HS.out.1 (fun hc => by have := hc.1.2; have := HX.out.1; omega)
                      go_wp2
                      refine ⟨⟨r, Lc, by omega, rfl, rfl, ?_⟩, by simp [intOf]⟩
                      rw [← hW34]
                      exact HN
                  · cases has with
                    | true =>
                      have HN : Hid (In2 w O H hv3 S0 D ba bb bc ks L r Lc W34) := HI.out.skip HK34.out HS.out.1 (fun hc => hc.2 (HX.out.2.1 rfl).2)
                      go_wp2
                      refine ⟨⟨r, Lc, by omega, rfl, rfl, ?_⟩, by simp [intOf]⟩
                      rw [← hW34]
                      exact HN
                    | false =>
                      obtain ⟨k1, x1, tx1, hM0, hk4, hLq, hcame⟩ := HI.out
                      have hvs : valid s := ⟨by omega, by have := HX.out.1; omega⟩
                      have hnl : nmOf s ∉ Lc := fun hc => by cases HX.out.2.2 ⟨hvs.2, hc⟩
                      have hLne : L ≠ [] := by
                        intro e
                        have h1 := (HF0.out.2.1.2 (nmOf s)).2 ⟨s, by rw [List.take_length]; exact List.mem_of_getElem? HS.out.1, hvs, rfl⟩
                        rw [e] at h1
                        cases h1
                      obtain ⟨rfl, rfl⟩ := hk4 hLne
                      have hM := hM0.kept0 HK34.out
                      have HV := (show Hid _ from And.intro hvs hnl)
                      have c7 : ∀ W, Kx [] W34 W → Calls Tryz.prog 7 #[.pointer (some ⟨O, 0, none⟩), .int .i64 3, .string s, .agg #[.bool true, .bool false, .bool false, .bool true, .bool true, .bool true, .int .i64 4, .float .f64 x1, .string ⟨#[120]⟩, .int .i64 0, .int .i64 0, .int .i64 0, .bool true, .bool true, .bool true]] W fun e w' => e = .returned (.int .i64 0) ∧ Tri w O H hv3 S0 D ba bb bc (2 * ks.length + (ks.length - (r + 1)) + 1) L (Lc ++ [nmOf s]) 4 x1 xT w' := fun W hW => (hM.kept0 hW).defC HST.out.1 s HS.out.2 HV.out.1 HV.out.2 (by have := HLQ.out; omega) (by omega)
                      have C7 := (show Hid _ from c7)
                      have ya := HC.out W34 hM.below
                      have t0 := cell_at hM.desc 0 rfl
                      have t1 := cell_at hM.desc 1 rfl
                      have t2 := cell_at hM.desc 2 rfl
                      have t3 := cell_at hM.desc 3 rfl
                      have t4 := cell_at hM.desc 4 rfl
                      have t5 := cell_at hM.desc 5 rfl
                      have t6 := cell_at hM.desc 6 rfl
                      have t7 := cell_at hM.desc 7 rfl
                      have t8 := cell_at hM.desc 8 rfl
                      have t9 := cell_at hM.desc 9 rfl
                      have t10 := cell_at hM.desc 10 rfl
                      have t11 := cell_at hM.desc 11 rfl
                      have t12 := cell_at hM.desc 12 rfl
                      have t13 := cell_at hM.desc 13 rfl
                      have t14 := cell_at hM.desc 14 rfl
                      clear c7 hM0 hLq hcame hM hvs hnl hLne hk4
                      go_wp2_with (first | (go_at_call 7; fail))
                      rw [← hW34]
                      clear y0 y1 hW34
                      go_region_held3 (fun Z : World => Z.cell? (a.add r) = some (.string s) ∧ Z.cell? ⟨D, 0, none⟩ = some (.bool true) ∧ Z.cell? ⟨D, 1, none⟩ = some (.bool false) ∧ Z.cell? ⟨D, 2, none⟩ = some (.bool false) ∧ Z.cell? ⟨D, 3, none⟩ = some (.bool true) ∧ Z.cell? ⟨D, 4, none⟩ = some (.bool true) ∧ Z.cell? ⟨D, 5, none⟩ = some (.bool true) ∧ Z.cell? ⟨D, 6, none⟩ = some (.int .i64 4) ∧ Z.cell? ⟨D, 7, none⟩ = some (.float .f64 x1) ∧ Z.cell? ⟨D, 8, none⟩ = some (.string ⟨#[120]⟩) ∧ Z.cell? ⟨D, 9, none⟩ = some (.int .i64 0) ∧ Z.cell? ⟨D, 10, none⟩ = some (.int .i64 0) ∧ Z.cell? ⟨D, 11, none⟩ = some (.int .i64 0) ∧ Z.cell? ⟨D, 12, none⟩ = some (.bool true) ∧ Z.cell? ⟨D, 13, none⟩ = some (.bool true) ∧ Z.cell? ⟨D, 14, none⟩ = some (.bool true)) (first | exact ⟨ya, t0, t1, t2, t3, t4, t5, t6, t7, t8, t9, t10, t11, t12, t13, t14⟩ | exact ⟨yb, r0, r1, r2, r3, r4, r5, r6, r7, r8, r9, r10, r11, r12, r13, r14⟩) (first | (go_simp; go_at_call 7; refine (C7.out _ (Kx.drew _ _)).mono ?_; rintro e w36 ⟨rfl, hM36⟩; have yb := HC.out w36 hM36.below; have r0 := cell_at hM36.desc 0 rfl; have r1 := cell_at hM36.desc 1 rfl; have r2 := cell_at hM36.desc 2 rfl; have r3 := cell_at hM36.desc 3 rfl; have r4 := cell_at hM36.desc 4 rfl; have r5 := cell_at hM36.desc 5 rfl; have r6 := cell_at hM36.desc 6 rfl; have r7 := cell_at hM36.desc 7 rfl; have r8 := cell_at hM36.desc 8 rfl; have r9 := cell_at hM36.desc 9 rfl; have r10 := cell_at hM36.desc 10 rfl; have r11 := cell_at hM36.desc 11 rfl; have r12 := cell_at hM36.desc 12 rfl; have r13 := cell_at hM36.desc 13 rfl; have r14 := cell_at hM36.desc 14 rfl))
                      clear ya yb t0 t1 t2 t3 t4 t5 t6 t7 t8 t9 t10 t11 t12 t13 t14 r0 r1 r2 r3 r4 r5 r6 r7 r8 r9 r10 r11 r12 r13 r14 C7
                      have HN : Hid (In2 w O H hv3 S0 D ba bb bc ks L r (Lc ++ [nmOf s]) w36) := HI.out.add HS.out.1 HV.out.1 HV.out.2 hM36
                      clear hM36
                      go_wp2
                      exact ⟨⟨r, Lc ++ [nmOf s], by omega, rfl, rfl, HN⟩, by simp [intOf]⟩
            · as_aux_lemma =>
                have hre : r = 0 := by omega
                subst hre
                obtain ⟨k1, x1, tx1, hM, hk4, hLq, hcame⟩ := hJ.out
                obtain ⟨sm, hsm⟩ : ∃ sm : Bool, sm = true ↔ L = Lc := by
                  by_cases hc : L = Lc
                  · exact ⟨true, by simp [hc]⟩
                  · exact ⟨false, by simp [hc]⟩
                have hlen2 : L.length = Lc.length := HF0.out.2.1.len hcame (fun s => by simp)
                have cS := hM.sameC sm hsm
                have HM : Hid (Tri w O H hv3 S0 D ba bb bc (2 * ks.length + (ks.length - 0)) L Lc k1 x1 tx1 wr) := hM
                have HSM := (show Hid _ from hsm)
                have hLl := HF0.out.1
                clear hJ hM hk4 hcame hsm hLq
                go_wp2_with (first | (go_at_call 14; fail))
                refine cS.mono ?_
                rintro e w40 ⟨rfl, q40, hq40⟩
                have hM40 : Tri w O H hv3 S0 D ba bb bc (2 * ks.length + (ks.length - 0)) L Lc k1 x1 tx1 w40 := by rw [hq40]; exact HM.out.kept0 (Kx.drewN _ _ _)
                have cA := hM40.keysA (by omega)
                have HM40 : Hid (Tri w O H hv3 S0 D ba bb bc (2 * ks.length + (ks.length - 0)) L Lc k1 x1 tx1 w40) := hM40
                clear hq40 cS HM hM40
                go_wp2_with (first | (go_at_call 8; fail))
                refine cA.mono ?_
                rintro e w41 ⟨va, rfl, hra, hk41⟩
                obtain ⟨aa, ca, rfl⟩ := owns_slice hra
                have hM41 : Tri w O H hv3 S0 D ba bb bc (2 * ks.length + (ks.length - 0)) L Lc k1 x1 tx1 w41 := HM40.out.kept0 hk41
                have cC := hM41.keysC (by omega)
                have HM41 : Hid (Tri w O H hv3 S0 D ba bb bc (2 * ks.length + (ks.length - 0)) L Lc k1 x1 tx1 w41) := hM41
                have HRA : Hid (w41.ownsRow w40.heap.size 9 1 (.slice aa L.length ca) L.length (L.map Value.string)) := hra
                clear hra hk41 HM40 cA hM41
                go_wp2_with (first | (go_at_call 8; fail))
                refine cC.mono ?_
                rintro e w42 ⟨vc, rfl, hrc, hk42⟩
                obtain ⟨ac, cc', rfl⟩ := owns_slice hrc
                have HM42 : Hid (Tri w O H hv3 S0 D ba bb bc (2 * ks.length + (ks.length - 0)) L Lc k1 x1 tx1 w42) := HM41.out.kept0 hk42
                have HRA2 : Hid (w42.ownsRow w40.heap.size 9 1 (.slice aa L.length ca) L.length (L.map Value.string)) := hk42.owns HRA.out (fun g hg => by simp)
                have HRC : Hid (w42.ownsRow w41.heap.size 9 1 (.slice ac Lc.length cc') Lc.length (Lc.map Value.string)) := hrc
                clear hrc hk42 HM41 HRA cC
                rw [← hlen2] at HRC
                rw [← hlen2]
                have HL2 : Hid (L.length = Lc.length) := hlen2
                clear hlen2
                go_wp2
                have HJ3 : Hid (Tri w O H hv3 S0 D ba bb bc (2 * ks.length + (ks.length - 0)) L Lc k1 x1 tx1 w42 ∧ w42.ownsRow w40.heap.size 9 1 (.slice aa L.length ca) L.length (L.map Value.string) ∧ w42.ownsRow w41.heap.size 9 1 (.slice ac L.length cc') L.length (Lc.map Value.string)) := (show _ ∧ _ ∧ _ from ⟨HM42.out, HRA2.out, HRC.out⟩)
                clear HM42 HRA2 HRC
                go_loopw [29, 30] (fun od i wr => ∃ (t : Nat) (ob : Bool), t ≤ L.length ∧ i = .int .i64 (t : Int) ∧ od = .bool ob ∧ Hid ((ob = true ↔ L.take t = Lc.take t) ∧ Tri w O H hv3 S0 D ba bb bc (2 * ks.length + (ks.length - 0)) L Lc k1 x1 tx1 wr ∧ wr.ownsRow w40.heap.size 9 1 (.slice aa L.length ca) L.length (L.map Value.string) ∧ wr.ownsRow w41.heap.size 9 1 (.slice ac L.length cc') L.length (Lc.map Value.string)))
                  (fun _ i _ => L.length - (intOf i).toNat)
                case atStart => exact ⟨0, true, Nat.zero_le _, rfl, rfl, (show _ ∧ _ from ⟨by simp, HJ3.out⟩)⟩
                case round =>
                  obtain ⟨t, ob, ht, rfl, rfl, hH⟩ := hrel
                  clear HJ3
                  obtain ⟨hob, hM, hra, hrc⟩ := hH.out
                  by_cases htl : t < L.length
                  · as_aux_lemma =>
                      obtain ⟨ga, cga, ea⟩ := ownsRow_pos (by omega) hra
                      simp only [Value.slice.injEq] at ea
                      obtain ⟨rfl, -, rfl⟩ := ea
                      obtain ⟨gc, cgc, ec⟩ := ownsRow_pos (by omega) hrc
                      simp only [Value.slice.injEq] at ec
                      obtain ⟨rfl, -, rfl⟩ := ec
                      obtain ⟨x, hx⟩ : ∃ x, L[t]? = some x := ⟨_, List.getElem?_eq_getElem htl⟩
                      obtain ⟨y, hy⟩ : ∃ y, Lc[t]? = some y := ⟨_, List.getElem?_eq_getElem (by have := HL2.out; omega)⟩
                      have c1 : wr.cell? ⟨ga, t, none⟩ = some (.string x) := by
                        have := hra.cells (g := ga) rfl t (.string x) (by rw [List.getElem?_map, hx]; rfl)
                        rw [Addr.add_lit, Nat.zero_add] at this
                        exact this
                      have c2 : wr.cell? ⟨gc, t, none⟩ = some (.string y) := by
                        have := hrc.cells (g := gc) rfl t (.string y) (by rw [List.getElem?_map, hy]; rfl)
                        rw [Addr.add_lit, Nat.zero_add] at this
                        exact this
                      have hH2 := hH
                      have hst : L.take (t + 1) = L.take t ++ [x] := by rw [List.take_add_one, hx]; rfl
                      have hst2 : Lc.take (t + 1) = Lc.take t ++ [y] := by rw [List.take_add_one, hy]; rfl
                      obtain ⟨bq, hbq⟩ : ∃ bq : Bool, (x.toList == y.toList) = bq := ⟨_, rfl⟩
                      have hxy : bq = true ↔ x = y := by
                        rw [← hbq, beq_iff_eq]
                        exact ⟨fun h => bytes_ext h, fun h => by rw [h]⟩
                      have HST2 := (show Hid _ from And.intro hst (And.intro hst2 hxy))
                      clear hH hob hM hra hrc hx hy hst hst2 hxy
                      have nx : ∀ (q : Nat) (ob' : Bool), (ob' = true ↔ (ob = true ∧ bq = true)) → Hid ((ob' = true ↔ L.take (t + 1) = Lc.take (t + 1)) ∧ Tri w O H hv3 S0 D ba bb bc (2 * ks.length + (ks.length - 0)) L Lc k1 x1 tx1 (wr.drewN q) ∧ (wr.drewN q).ownsRow w40.heap.size 9 1 (.slice (some ⟨ga, 0, none⟩) L.length ca) L.length (L.map Value.string) ∧ (wr.drewN q).ownsRow w41.heap.size 9 1 (.slice (some ⟨gc, 0, none⟩) L.length cc') L.length (Lc.map Value.string)) := by
                        intro q ob' hob'
                        obtain ⟨g1, g2, g3, g4⟩ := hH2.out
                        refine (show _ ∧ _ ∧ _ ∧ _ from ⟨?_, g2.kept0 (Kx.drewN _ _ _), g3, g4⟩)
                        rw [hob', HST2.out.1, HST2.out.2.1, g1, HST2.out.2.2]
                        exact ⟨fun h => by rw [h.1, h.2], fun h => snoc_inj h⟩
                      have NX := (show Hid _ from nx)
                      clear nx hH2 HST2
                      cases ob with
                      | false =>
                        go_wp2
                        go_quiet (fail)
                        go_wp2
                        go_roundw
                        case rel => exact ⟨t + 1, false, by omega, by go_num, rfl, NX.out _ false (by simp)⟩
                        case measure => simp [intOf]; omega
                      | true =>
                        cases bq with
                        | false =>
                          go_wp2
                          go_quiet (fail)
                          go_wp2
                          go_roundw
                          case rel => exact ⟨t + 1, false, by omega, by go_num, rfl, NX.out _ false (by simp)⟩
                          case measure => simp [intOf]; omega
                        | true =>
                          go_wp2
                          go_quiet (fail)
                          go_wp2
                          go_roundw
                          case rel => exact ⟨t + 1, true, by omega, by go_num, rfl, NX.out _ true (by simp)⟩
                          case measure => simp [intOf]; omega
                  · as_aux_lemma =>
                      have hte : t = L.length := by omega
                      subst hte
                      have hos : ob = sm := by
                        have h1 : ob = true ↔ sm = true := by
                          rw [hob, HSM.out, List.take_length, HL2.out, List.take_length]
                        cases ob <;> cases sm <;> simp at h1 ⊢
                      subst hos
                      have HM9 : Hid (Tri w O H hv3 S0 D ba bb bc (2 * ks.length + (ks.length - 0)) L Lc k1 x1 tx1 wr) := hM
                      have hbel := hM.below
                      have HBL : Hid (Below w.heap.size w wr) := (show Below _ w wr from hbel)
                      clear hH hob hM hra hrc hbel HSM
                      by_cases hLe : L = []
                      · subst hLe
                        cases ob <;>
                        · go_wp2
                          go_ret
                          exact ⟨rfl, HBL.out⟩
                      · have hLp : (0 : Int) < (L.length : Int) := by
                          have := List.length_pos_iff.2 hLe
                          omega
                        obtain ⟨f1, f2, f3⟩ := HF0.out.2.2 hLe
                        have cD := HM9.out.del HST.out.1 first (HST.out.2.2 first f1) f2 f3 (by omega) (by omega)
                        have cP := pick_any turn wr ht1 ht2
                        have CD := (show Hid (∀ _ : Unit, _) from fun _ : Unit => cD)
                        clear cD f1 f2 f3 HM9
                        cases ob <;>
                        · go_wp2_with (first | (go_at_call 11; fail))
                          refine cP.mono ?_
                          rintro e w50 ⟨⟨z, rfl⟩, rfl⟩
                          by_cases hz : z = 0
                          · subst hz
                            go_wp2_with (first | (go_at_call 12; fail))
                            refine (CD.out ()).mono ?_
                            rintro e w51 ⟨rfl, hb51, cS51⟩
                            have HB51 : Hid (Below w.heap.size w w51) := (show Below _ w w51 from hb51)
                            have CS51 := (show Hid (∀ _ : Unit, _) from fun _ : Unit => cS51)
                            clear hb51 cS51 CD cP
                            go_wp2_with (first | (go_at_call 14; fail))
                            refine (CS51.out ()).mono ?_
                            rintro e w52 ⟨rfl, q52, rfl⟩
                            go_wp2
                            go_ret
                            exact ⟨rfl, HB51.out.trans ((Kx.drewN [] w51 q52).below HB51.out.size (by simp))⟩
                          · have hz1 : (z == 0) = false := by
                              rw [beq_eq_false_iff_ne]
                              exact hz
                            clear hz
                            go_wp2
                            go_ret
                            exact ⟨rfl, HBL.out⟩
  · have hl1 : (40 : Int) < (ks.length : Int) := by omega
    go_wp2
    go_ret
    exact ⟨rfl, HK5.out⟩
end Go.Proofs.YtmicdbplkfdfnaaGreatDoor
