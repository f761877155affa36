/- The law. -/
import Derived.Test.YtmicdbplkfdfnaaGreatDoorCTs2x
set_option linter.unusedVariables false
namespace Go.Proofs.YtmicdbplkfdfnaaGreatDoor
open Go.RowKit Go.Shelf Go.Maps
attribute [local go_sem] run_store_flt build32 build34 build34s

set_option maxRecDepth 100000 in
set_option maxHeartbeats 40000000 in
theorem law_arr (ka sa : Option Addr) (c c2 : Nat) (K : List ByteArray) (Ss : List StepD) (w : World) (hn : K.length ≤ 4611686018427387904) (hn2 : Ss.length ≤ 4611686018427387904)
    (hks : ∀ j s, K[j]? = some s → ∃ a, ka = some a ∧ (a.add j).block < w.heap.size ∧ w.cell? (a.add j) = some (.string s)) (hsz : ∀ s ∈ K, s.size ≤ 1048576)
    (hss : ∀ j s, Ss[j]? = some s → ∃ a, sa = some a ∧ a.block < w.heap.size ∧ ∀ t v, s.cells[t]? = some v → w.cell? (a.add (j * 21 + t)) = some v) (hok : ∀ s ∈ Ss, s.OK) (hE : Env w) :
    Calls Tryz.prog 3 #[.slice ka K.length c, .slice sa Ss.length c2, .bool true] w fun e w' => e = .returned (.bool true) ∧ Below w.heap.size w w' := by
  obtain ⟨W0, O, H, c5, k0, m1, m2⟩ := new_makes w
  have HE : Hid (Env w) := hE
  have HKS := (show Hid _ from And.intro hks hsz)
  have HSS := (show Hid _ from And.intro hss hok)
  have HK0 : Hid (Below w.heap.size w W0) := (show Below _ w W0 from k0)
  have CM := (show Hid (Unit → _) from fun _ : Unit => m2)
  clear hks hsz hss hok hE k0 m1 m2
  by_cases hlen : K.length ≤ 30
  · by_cases hlen2 : Ss.length ≤ 400
    · have hl1 : ¬ (30 : Int) < (K.length : Int) := by omega
      have hl2 : ¬ (400 : Int) < (Ss.length : Int) := by omega
      go_enter Tryz.func3, Tryz.ntmps3
      go_wp2_with (first | (go_at_call 5; fail))
      refine c5.mono ?_
      rintro e w1 ⟨rfl, rfl⟩
      clear c5
      go_wp2_with (first | (go_at_call 6; fail))
      refine (CM.out ()).mono ?_
      rintro e w2 ⟨rfl, b, hA⟩
      have HA : Hid (LawA w O H b true 0 w2) := hA
      clear hA CM HK0
      go_wp2
      go_loopw [10, 11] (fun u10 u11 wr => ∃ q : Nat, q ≤ K.length ∧ u10 = .int .i64 0 ∧ u11 = .int .i64 q ∧ Hid (LawA w O H b true q wr))
        (fun _ i _ => K.length - (intOf i).toNat)
      case atStart => exact ⟨0, Nat.zero_le _, rfl, rfl, HA⟩
      case round =>
          obtain ⟨q, hq, rfl, rfl, hI⟩ := hrel
          clear HA
          by_cases hlt : q < K.length
          · · obtain ⟨s, hs⟩ : ∃ s, K[q]? = some s := ⟨_, List.getElem?_eq_getElem hlt⟩
              obtain ⟨hks, hsz⟩ := HKS.out
              obtain ⟨a, rfl, hab, hac⟩ := hks q s hs
              have e0 : wr.cell? (a.add q) = some (.string s) := (hI.out.below.cell (p := a.add q) hab).trans hac
              clear hks hsz hac hab hs HSS HKS
              by_cases hbig : s.size ≤ 200
              · have hb2 : ¬ (200 : Int) < (s.size : Int) := by omega
                cases hnm : (s.toList == [108, 101, 110, 103, 116, 104]) with
                | false =>
                  have hne : s ≠ lenS := by
                    intro e
                    rw [e] at hnm
                    revert hnm
                    decide +kernel
                  have HC := (show Hid (∀ hw : Bool, _) from fun hw => hI.out.defines HE.out (by omega) s hbig (fun _ => hne) hw wr (Kx.refl _ _))
                  clear hne
                  go_wp2_with (first | (go_at_call 7; fail))
                  rw [ofInt_wN]
                  refine (HC.out _).mono ?_
                  rintro e w3 ⟨rfl, hA3⟩
                  have HA3 : Hid (LawA w O H b true (q + 1) w3) := hA3
                  clear hA3 HC hI
                  go_wp2
                  exact ⟨⟨q + 1, by omega, rfl, by go_num, HA3⟩, by simp [intOf]; omega⟩
                | true =>
                  have HI : Hid (LawA w O H b true (q + 1) wr) := hI.out.skip
                  go_wp2
                  exact ⟨⟨q + 1, by omega, rfl, by go_num, HI⟩, by simp [intOf]; omega⟩
              · have hb2 : (200 : Int) < (s.size : Int) := by omega
                have HI : Hid (LawA w O H b true (q + 1) wr) := hI.out.skip
                go_wp2
                exact ⟨⟨q + 1, by omega, rfl, by go_num, HI⟩, by simp [intOf]; omega⟩
          · have CK := (show Hid (Unit → _) from fun _ : Unit => hI.out.keys HE.out (by omega))
            clear hI HKS
            go_wp2_with (first | (go_at_call 8; fail))
            refine (CK.out ()).mono ?_
            rintro e w3 ⟨ks, L, ga, n, c3, rfl, hn3, hn61, hB⟩
            have HB : Hid (LawB w O H b true ks L ga 0 w3) := hB
            have HN : Hid (n = (allK ks L).length) := hn3
            clear hB hn3 CK
            go_wp2
            go_loopw [10, 13] (fun u10 u13 wr => ∃ i : Nat, i ≤ n ∧ u10 = .int .i64 0 ∧ u13 = .int .i64 i ∧ Hid (LawB w O H b true ks L ga i wr))
              (fun _ i _ => n - (intOf i).toNat)
            case atStart => exact ⟨0, Nat.zero_le _, rfl, rfl, HB⟩
            case round =>
              obtain ⟨i, hi, rfl, rfl, hI2⟩ := hrel
              clear HB
              by_cases hlt2 : i < n
              · obtain ⟨s, g, hs, rfl, e0⟩ := hI2.out.at (by have := HN.out; omega)
                have HC := (show Hid (Unit → _) from fun _ : Unit => hI2.out.shuts HE.out (by omega) s hs wr (Kx.refl _ _))
                clear hs hI2
                go_wp2_with (first | (go_at_call 7; fail))
                refine (HC.out ()).mono ?_
                rintro e w4 ⟨rfl, hB4⟩
                have HB4 : Hid (LawB w O H b true ks L (some ⟨g, 0, none⟩) (i + 1) w4) := hB4
                clear hB4 HC e0
                go_wp2
                exact ⟨⟨i + 1, by omega, rfl, by go_num, HB4⟩, by simp [intOf]; omega⟩
              · have CF := (show Hid (Unit → _) from fun _ : Unit => hI2.out.fixes (by have := HN.out; omega) (by omega) wr (Kx.refl _ _))
                clear hI2
                go_wp2_with (first | (go_at_call 9; fail))
                refine (CF.out ()).mono ?_
                rintro e w5 ⟨rfl, P, f, hF4, hC5⟩
                have HF4 : Hid (Fin4 true ks L P f) := hF4
                have HC5 : Hid (LawC w O H b true ks L P f [(ga, (allK ks L).map Value.string)] 100 w5) := hC5
                clear hF4 hC5 CF hlt2 hi
                obtain ⟨i0, hi0, hz0, hz1, hz2⟩ := info_parts info34
                go_wp2
                rename_i K14 hK14
                have HK14 := (show Hid _ from hK14)
                clear hK14
                go_loopw [14, 15, 16, 17] (fun v14 v15 _ _ wr => ∃ j : Nat, j ≤ n ∧ v15 = .int .i64 j ∧ Hid (wr.ownsRow w5.heap.size 34 15 v14 j (((ofAll ks L P f).take j).flatMap dL) ∧ Kx [] w5 wr))
                  (fun _ i _ _ _ => n - (intOf i).toNat)
                case atStart => exact ⟨0, Nat.zero_le _, rfl, (show _ ∧ _ from ⟨World.ownsRow_nil _ _ _ _, Kx.refl _ _⟩)⟩
                case round =>
                  obtain ⟨j, hj, rfl, hR⟩ := hrel
                  by_cases hlt3 : j < n
                  · obtain ⟨s, hs⟩ : ∃ s, (allK ks L)[j]? = some s := ⟨_, List.getElem?_eq_getElem (by have := HN.out; omega)⟩
                    obtain ⟨en, x, hx, hl, hof⟩ := HF4.out.at hs
                    have hm : ((allK ks L).map Value.string)[j]? = some (.string s) := by rw [List.getElem?_map, hs]; rfl
                    obtain ⟨g, rfl, hcell⟩ := HC5.out.at (List.mem_singleton.2 rfl) hm
                    have e0 := hcell wr hR.out.2 j _ hm
                    have CO := (show Hid (Unit → _) from fun _ : Unit => HC5.out.owns HE.out HF4.out hs hl wr hR.out.2)
                    obtain ⟨X, hX⟩ : ∃ X, X = wN x := ⟨_, rfl⟩
                    rw [← hX] at CO hof
                    have htk : (ofAll ks L P f).take (j + 1) = (ofAll ks L P f).take j ++ [(false, en, false, X)] := by rw [List.take_add_one, hof]; rfl
                    have HT : Hid ((ofAll ks L P f).take (j + 1) = (ofAll ks L P f).take j ++ [(false, en, false, X)]) := htk
                    clear hx hl hof hm hcell hX htk hs
                    go_wp2_with (first | (go_at_call 10; fail))
                    refine (CO.out ()).mono ?_
                    rintro e w6 ⟨rfl, hk6⟩
                    have R1 : Hid (w6.ownsRow w5.heap.size 34 15 u14 j (((ofAll ks L P f).take j).flatMap dL)) := hk6.owns hR.out.1 (fun g hg => by simp)
                    have R2 : Hid (Kx [] w5 w6) := (show Kx [] w5 w6 from hR.out.2.same hk6)
                    clear hR hk6 CO e0
                    go_upto_region 34 with fail
                    obtain ⟨W7, hW7⟩ : ∃ W7, W7 = w6.alloc (Obj.cells #[.bool true, .bool false, .bool false, .bool true, .bool true, .bool true, .int .i64 3, .float .f64 X, .string ⟨#[]⟩, .int .i64 0, .int .i64 0, .int .i64 0, .bool false, .bool en, .bool false] 34) := ⟨_, rfl⟩
                    have HD : Hid (W7.heap[w6.heap.size]? = some (Obj.cells #[.bool true, .bool false, .bool false, .bool true, .bool true, .bool true, .int .i64 3, .float .f64 X, .string ⟨#[]⟩, .int .i64 0, .int .i64 0, .int .i64 0, .bool false, .bool en, .bool false] 34 (0, 0))) := by rw [hW7]; exact heap_alloc_new _ _
                    have R3 : Hid (W7.ownsRow w5.heap.size 34 15 u14 j (((ofAll ks L P f).take j).flatMap dL)) := by rw [hW7]; exact R1.out.alloc _
                    have R4 : Hid (Kx [] w5 W7) := by rw [hW7]; exact (show Kx [] w5 _ from R2.out.alc _)
                    have y0 := cell_at HD.out 0 rfl
                    have y1 := cell_at HD.out 1 rfl
                    have y2 := cell_at HD.out 2 rfl
                    have y3 := cell_at HD.out 3 rfl
                    have y4 := cell_at HD.out 4 rfl
                    have y5 := cell_at HD.out 5 rfl
                    have y6 := cell_at HD.out 6 rfl
                    have y7 := cell_at HD.out 7 rfl
                    have y8 := cell_at HD.out 8 rfl
                    have y9 := cell_at HD.out 9 rfl
                    have y10 := cell_at HD.out 10 rfl
                    have y11 := cell_at HD.out 11 rfl
                    have y12 := cell_at HD.out 12 rfl
                    have y13 := cell_at HD.out 13 rfl
                    have y14 := cell_at HD.out 14 rfl
                    rw [← hW7]
                    have hsz := R4.out.size
                    have q1 : j + 1 ≤ maxLen := by unfold maxLen; omega
                    clear hW7 R1 R2
                    go_wp2_with (first | (at_builtin; refine wpList_append_own _ rfl _ _ 37 rfl w5.heap.size 34 i0 _ 15 72 Tryz.underlying37 hi0 hz0 hz1 hz2 rfl (by decide) _ _ _ rfl (R3.out.alloc _) ⟨W7.heap.size, 0, none⟩ 1 1 [.bool true, .bool false, .bool false, .bool true, .bool true, .bool true, .int .i64 3, .float .f64 X, .string ⟨#[]⟩, .int .i64 0, .int .i64 0, .int .i64 0, .bool false, .bool en, .bool false] rfl rfl (cells_new W7 [.bool true, .bool false, .bool false, .bool true, .bool true, .bool true, .int .i64 3, .float .f64 X, .string ⟨#[]⟩, .int .i64 0, .int .i64 0, .int .i64 0, .bool false, .bool en, .bool false] 34) (by intro u hu; simp only [List.mem_cons, List.not_mem_nil, or_false] at hu; rcases hu with rfl | rfl | rfl | rfl | rfl | rfl | rfl | rfl | rfl | rfl | rfl | rfl | rfl | rfl | rfl <;> rfl) q1 (by omega) (by simp; omega) ?_; intro v' w8 hown' hgrow hnil'))
                    have hg2 : (W7.alloc (Obj.cells #[.bool true, .bool false, .bool false, .bool true, .bool true, .bool true, .int .i64 3, .float .f64 X, .string ⟨#[]⟩, .int .i64 0, .int .i64 0, .int .i64 0, .bool false, .bool en, .bool false] 34)).grownBy w8 u14.ownBlock := hgrow
                    have HH : Hid (w8.ownsRow w5.heap.size 34 15 v' (j + 1) (((ofAll ks L P f).take (j + 1)).flatMap dL) ∧ Kx [] w5 w8) := by
                      refine (show _ ∧ _ from ⟨?_, ?_⟩)
                      · rw [HT.out, List.flatMap_append, List.flatMap_singleton]; exact hown'
                      · exact (R4.out.alc (Obj.cells #[.bool true, .bool false, .bool false, .bool true, .bool true, .bool true, .int .i64 3, .float .f64 X, .string ⟨#[]⟩, .int .i64 0, .int .i64 0, .int .i64 0, .bool false, .bool en, .bool false] 34)).trans (Kx.grown hg2) (fun i hi => .inr (by
                          have h3 : u14.ownBlock = some i := by simpa using hi
                          exact (R3.out.lt i h3).1))
                    clear hown' hgrow hg2 hnil' R3 R4 HT HD y0 y1 y2 y3 y4 y5 y6 y7 y8 y9 y10 y11 y12 y13 y14
                    go_roundw
                    case rel => exact ⟨j + 1, by omega, by go_num, HH⟩
                    case measure => simp [intOf]; omega
                  · obtain ⟨va, cv, hv14, hC6⟩ := HC5.out.row hR.out.2 hR.out.1
                    have hall : (ofAll ks L P f).take j = ofAll ks L P f := List.take_of_length_le (by have := HN.out; simp [ofAll]; omega)
                    rw [hall] at hC6
                    have HC6 : Hid (LawC w O H b true ks L P f [(va, (ofAll ks L P f).flatMap dL), (ga, (allK ks L).map Value.string)] 100 wr) := hC6
                    have hjn : j = n := by omega
                    subst hv14
                    subst hjn
                    clear hC6 hall hR HC5 hlt3 hj hi0 hz0 hz1 hz2
                    go_wp2
                    refine HK14.out _ _ ?_
                    exact tail4 w O H b true ks L P f ga va sa j _ _ _ HN.out hn61 HE.out HF4.out Ss hlen2 HSS.out.1 HSS.out.2 wr HC6.out _ _ _ _ _ _ _ _ _ _ _ _ _ _ _ _ _ _ _ _ _ _ _ _ _ _ _ _ _ _ _ _ _ _ _ _ _ _ _ _ _ _ _ _ _ _ _ _ _ _ _ _ _ _ _ _ _ _ _ _ _ _ _ _ _ _ _ _ _ _ _ _ _ _ _ _ _ _ _ _ _ _ _ _ _ _ _ _ _ _ _ _ _ _ _ _ _ _ _ _ _ _ _ _ _ _ _ _ _ _ _ _ _ _ _ _ _ _ _ _ _ _ _ _ _ _ _ _ _ _ _ _ _ _ _ _ _ _ _ _ _ _ _ _ _ _ _ _ _ _ _ _ _ _ _ _ _ _ _ _ _ _ _ _ _ _ _ _ _ _ _ _ _ _ _ _ _ _ _ _ _ _ _ _ _ _ _ _ _ _ _ _ _ _ _ _ _ _ _ _ _ _ _ _ _ _ _ _ _ _ _ _ _ _ _ _ _ _ _ _ _ _ _ _ _ _ _ _ _ _ _ _ _ _ _ _ _ _ _
    · have hl1 : ¬ (30 : Int) < (K.length : Int) := by omega
      have hl2 : (400 : Int) < (Ss.length : Int) := by omega
      clear CM
      go_enter Tryz.func3, Tryz.ntmps3
      go_wp2_with (first | (go_at_call 5; fail))
      refine c5.mono ?_
      rintro e w1 ⟨rfl, rfl⟩
      clear c5
      go_wp2
      go_ret
      exact ⟨rfl, HK0.out⟩
  · have hl1 : (30 : Int) < (K.length : Int) := by omega
    clear CM
    go_enter Tryz.func3, Tryz.ntmps3
    go_wp2_with (first | (go_at_call 5; fail))
    refine c5.mono ?_
    rintro e w1 ⟨rfl, rfl⟩
    clear c5
    go_wp2
    go_ret
    exact ⟨rfl, HK0.out⟩
end Go.Proofs.YtmicdbplkfdfnaaGreatDoor
