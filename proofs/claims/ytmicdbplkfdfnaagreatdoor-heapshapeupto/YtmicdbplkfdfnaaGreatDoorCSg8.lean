/- The library's sort at uint32: partition. -/
import Derived.Test.YtmicdbplkfdfnaaGreatDoorCSg6x
set_option linter.unusedVariables false
namespace Go.Proofs.YtmicdbplkfdfnaaGreatDoor
open Go.RowKit Go.Sort

set_option maxRecDepth 100000 in
set_option maxHeartbeats 4000000 in
theorem prt32 (blk off cap a b pv : Nat) (d : Array Int) (w : World) (hH : Holds U32 w blk off d) (hblk : blk < w.heap.size) (hap : a ≤ pv) (hpb : pv < b) (hb : b ≤ d.size) (hsz : d.size ≤ 1000000) :
    Calls Tryz.prog 135 #[.slice (some ⟨blk, off, none⟩) d.size cap, .int .i64 a, .int .i64 b, .int .i64 pv] w fun e w' => e = .returned (.tuple #[.int .i64 ((partition ltInt d a b pv).1 : Nat), .bool (partition ltInt d a b pv).2.1]) ∧ At U32 w blk off (partition ltInt d a b pv).2.2 w' := by
  have HH := (show Hid (Holds U32 w blk off d) from hH)
  have hA0 := At.refl hH
  obtain ⟨j, rfl⟩ : ∃ n, b = n + 1 := ⟨b - 1, by omega⟩
  obtain ⟨dk, hd1⟩ : ∃ d1, d1 = swp d a pv := ⟨_, rfl⟩
  have hs : dk.size = d.size := by rw [hd1, size_swp]
  obtain ⟨hc, hf⟩ := at_row hA0 hH rfl hblk
  obtain ⟨G, hG⟩ : ∃ G : Nat → Int, ∀ t, G t = d[t]! := ⟨fun t => d[t]!, fun _ => rfl⟩
  have hcw : ∀ t, t < d.size → w.cell? ⟨blk, off + t, none⟩ = some (.int .u32 (G t)) := fun t ht => by rw [hG]; exact hc t ht
  have hsw := at_swap hA0 hH rfl hblk 1 a pv (by omega) (by omega)
  rw [← hG, ← hG, ← hd1] at hsw
  have HSW := (show Hid (At U32 w blk off dk _) from hsw)
  have HD := (show Hid (dk = swp d a pv) from hd1)
  have hbz : ((j + 1 : Nat) : Int) - 1 = (j : Int) := by omega
  clear hH hd1 hsw hc hG
  generalize ((j + 1 : Nat) : Int) = bz at *
  go_enter Tryz.func135, Tryz.ntmps135
  go_upto_region 1 with fail
  go_cut [] (fun wx => At U32 w blk off dk wx)
  case first =>
    by_cases hEq : pv = a
    · subst hEq
      go_wp2
      go_region
      all_goals go_wp2
      go_meet
      exact HSW.out
    · go_wp2
      go_region
      all_goals go_wp2
      go_meet
      exact HSW.out
  case rest =>
    clear hcw hf HSW G
    obtain ⟨V, hV⟩ : ∃ V, V = wc := ⟨wc, rfl⟩
    have hA : At U32 w blk off dk V := by rw [hV]; exact hcut
    rw [← hV]
    clear hV hcut
    obtain ⟨i, hi0⟩ : ∃ i, i = a + 1 := ⟨_, rfl⟩
    have hi : a < i := by omega
    have hj : j < d.size := by omega
    obtain ⟨hc, hf⟩ := at_row hA HH.out hs hblk
    obtain ⟨G, hG⟩ : ∃ G : Nat → Int, ∀ t, G t = dk[t]! := ⟨fun t => dk[t]!, fun _ => rfl⟩
    have hcw : Hid (∀ t, t < d.size → V.cell? ⟨blk, off + t, none⟩ = some (.int .u32 (G t))) := fun t ht => by rw [hG]; exact hc t ht
    have hfw := (show Hid (∀ t, t < d.size → V.frozen? ⟨blk, off + t, none⟩ = false) from hf)
    have HG : Hid (∀ t, G t = dk[t]!) := hG
    have HA := (show Hid (At U32 w blk off dk V) from hA)
    clear hG hA hc hf
    obtain ⟨I, hI⟩ : ∃ I, I = scanUp (fun x => ltInt x dk[a]!) dk j i := ⟨_, rfl⟩
    obtain ⟨J, hJ⟩ : ∃ J, J = scanDown (fun x => !ltInt x dk[a]!) dk I j := ⟨_, rfl⟩
    have hIb := up_bounds (fun x => ltInt x dk[a]!) dk j (j + 1 - i) i (Nat.le_refl _)
    have hJb := down_le (fun x => !ltInt x dk[a]!) dk I j
    rw [← hI] at hIb
    rw [← hJ] at hJb
    have HI := (show Hid (I = scanUp (fun x => ltInt x dk[a]!) dk j i) from hI)
    have HJ := (show Hid (J = scanDown (fun x => !ltInt x dk[a]!) dk I j) from hJ)
    clear hI hJ
    have HI0 := (show Hid (i = a + 1) from hi0)
    clear hi0
    go_upto_block 0 with fail
    go_cut [10] (fun v wx => v = .int .i64 (I : Int) ∧ ∃ q, wx = V.drewN q)
    case first =>
      go_wp2
      go_loopw [10] (fun v wx => ∃ (k q : Nat), v = .int .i64 k ∧ a < k ∧ k ≤ max i (j + 1) ∧ wx = V.drewN q ∧ scanUp (fun x => ltInt x dk[a]!) dk j k = I) (fun v _ => j + 2 - (intOf v).toNat)
      case atStart => exact ⟨i, 0, by first | rfl | (rw [HI0.out]; go_num), hi, by omega, rfl, HI.out.symm⟩
      case round =>
        obtain ⟨k, q, rfl, k1, k2, hw, hk⟩ := hrel
        have HK := (show Hid (scanUp (fun x => ltInt x dk[a]!) dk j k = I) from hk)
        have hcw2 : ∀ t, t < d.size → wr.cell? ⟨blk, off + t, none⟩ = some (.int .u32 (G t)) := fun t ht => by rw [hw]; exact hcw.out t ht
        have HW := (show Hid (wr = V.drewN q) from hw)
        clear hw hk
        go_wp2
        by_cases hkj : k ≤ j
        · go_quiet (first | (go_at_call 133; refine Calls.quiet_of_same (less32 _ _ _)))
          go_wp2
          · have hl : ltInt (G k) (G a) = true := by assumption
            go_roundw
            case rel => exact ⟨k + 1, q + nq, by go_num, by omega, by omega, by rw [HW.out, World.drewN_drewN], by rw [← HK.out, scanUp_go _ dk j k hkj (by rw [HG.out, HG.out] at hl; exact hl)]⟩
            case measure => simp [intOf]; omega
          · have hl : ltInt (G k) (G a) = false := by assumption
            go_meet
            case rel =>
              have hkI : k = I := by rw [← HK.out, scanUp_end _ dk j k (Or.inr (by rw [HG.out, HG.out] at hl; exact hl))]
              exact ⟨by rw [hkI], q + nq, by rw [HW.out, World.drewN_drewN]⟩
        · go_quiet (first | (go_at_call 133; refine Calls.quiet_of_same (less32 _ _ _)))
          go_wp2
          go_meet
          case rel =>
            have hkI : k = I := by rw [← HK.out, scanUp_end _ dk j k (Or.inl hkj)]
            exact ⟨by rw [hkI], q + nq, by rw [HW.out, World.drewN_drewN]⟩
    case rest =>
      obtain ⟨rfl, q1, rfl⟩ := hcut
      go_upto_block 2 with fail
      go_cut [11] (fun v wx => v = .int .i64 (J : Int) ∧ ∃ q, wx = V.drewN q)
      case first =>
        go_wp2
        go_loopw [11] (fun v wx => ∃ (k q : Nat), v = .int .i64 k ∧ k ≤ j ∧ wx = V.drewN q ∧ scanDown (fun x => !ltInt x dk[a]!) dk I k = J) (fun v _ => (intOf v).toNat)
        case atStart => exact ⟨j, q1, rfl, Nat.le_refl _, rfl, HJ.out.symm⟩
        case round =>
          obtain ⟨k, q, rfl, k1, hw, hk⟩ := hrel
          have HK := (show Hid (scanDown (fun x => !ltInt x dk[a]!) dk I k = J) from hk)
          have hcw2 : ∀ t, t < d.size → wr.cell? ⟨blk, off + t, none⟩ = some (.int .u32 (G t)) := fun t ht => by rw [hw]; exact hcw.out t ht
          have HW := (show Hid (wr = V.drewN q) from hw)
          clear hw hk
          go_wp2
          by_cases hkj : I ≤ k
          · go_quiet (first | (go_at_call 133; refine Calls.quiet_of_same (less32 _ _ _)))
            go_wp2
            · have hl : (!ltInt (G k) (G a)) = true := by assumption
              go_roundw
              case rel => exact ⟨k - 1, q + nq, by congr 1; omega, by omega, by rw [HW.out, World.drewN_drewN], by rw [← HK.out, scanDown_go _ dk I k hkj (by omega) (by rw [HG.out, HG.out] at hl; exact hl)]⟩
              case measure => simp [intOf]; omega
            · have hl : (!ltInt (G k) (G a)) = false := by assumption
              go_meet
              case rel =>
                have hkI : k = J := by rw [← HK.out, scanDown_end _ dk I k (Or.inr (by rw [HG.out, HG.out] at hl; exact hl))]
                exact ⟨by rw [hkI], q + nq, by rw [HW.out, World.drewN_drewN]⟩
          · go_quiet (first | (go_at_call 133; refine Calls.quiet_of_same (less32 _ _ _)))
            go_wp2
            go_meet
            case rel =>
              have hkI : k = J := by rw [← HK.out, scanDown_end _ dk I k (Or.inl hkj)]
              exact ⟨by rw [hkI], q + nq, by rw [HW.out, World.drewN_drewN]⟩
      case rest =>
        obtain ⟨rfl, q2, rfl⟩ := hcut
        have hcw2 : ∀ t, t < d.size → (V.drewN q2).cell? ⟨blk, off + t, none⟩ = some (.int .u32 (G t)) := fun t ht => hcw.out t ht
        have hfw2 : ∀ t, t < d.size → (V.drewN q2).frozen? ⟨blk, off + t, none⟩ = false := fun t ht => hfw.out t ht
        have HA2 := (show Hid (At U32 w blk off dk (V.drewN q2)) from at_draw HA.out q2)
        clear HA hcw hfw
        generalize V.drewN q2 = V2 at *
        by_cases hIJ : J < I
        · have hz : (J : Int) < (I : Int) := by omega
          have HP := (show Hid (partition ltInt d a (j + 1) pv = (J, true, swp dk J a)) from part_first_break ltInt d a (j + 1) pv HI0.out rfl HD.out HI.out HJ.out hIJ)
          have hsw := at_swap HA2.out HH.out hs hblk 1 J a (by omega) (by omega)
          rw [← HG.out, ← HG.out] at hsw
          have HSW := (show Hid (At U32 w blk off (swp dk J a) _) from hsw)
          clear hsw
          by_cases hEq : J = a
          · subst hEq
            go_wp2
            go_region
            all_goals go_wp2
            go_ret2
            exact ⟨by rw [HP.out]; rfl, by rw [HP.out]; exact HSW.out⟩
          · go_wp2
            go_region
            all_goals go_wp2
            go_ret2
            exact ⟨by rw [HP.out]; rfl, by rw [HP.out]; exact HSW.out⟩
        · have hz : ¬ ((J : Int) < (I : Int)) := by omega
          have hlt := part_scans_lt ltInt a i j dk (by omega) HI.out HJ.out (by omega)
          obtain ⟨i0, hi0⟩ : ∃ i0, i0 = I + 1 := ⟨_, rfl⟩
          obtain ⟨j0, hj0⟩ : ∃ j0, j0 = J - 1 := ⟨_, rfl⟩
          obtain ⟨d2, hd2⟩ : ∃ d2, d2 = swp dk I J := ⟨_, rfl⟩
          have hs2 : d2.size = d.size := by rw [hd2, size_swp]; exact hs
          have hsw := at_swap HA2.out HH.out hs hblk 1 I J (by omega) (by omega)
          rw [← HG.out, ← HG.out, ← hd2] at hsw
          have HSW := (show Hid (At U32 w blk off d2 _) from hsw)
          have HP := (show Hid (partition ltInt d a (j + 1) pv = ((partLoop ltInt a i0 j0 d2).1, false, swp (partLoop ltInt a i0 j0 d2).2 (partLoop ltInt a i0 j0 d2).1 a)) from by rw [hi0, hj0, hd2]; exact part_first_go ltInt d a (j + 1) pv HI0.out rfl HD.out HI.out HJ.out (by omega))
          have hi0z : (I : Int) + 1 = (i0 : Int) := by omega
          have hj0z : (J : Int) - 1 = (j0 : Int) := by omega
          have hi0b : a < i0 ∧ i0 ≤ d.size := by omega
          have hj0b : j0 < d.size := by omega
          have hij : I ≠ J := by omega
          clear hsw hd2 hi0 hj0
          go_wp2
          go_region
          all_goals go_wp2
          clear hcw2 hfw2 HG HI HJ HD HA2
          go_loopw [10, 11] (fun v u wr => ∃ (i j : Nat) (dk : Array Int), v = .int .i64 i ∧ u = .int .i64 j ∧ a < i ∧ i ≤ d.size ∧ j < d.size ∧ dk.size = d.size ∧ At U32 w blk off dk wr ∧ partLoop ltInt a i j dk = partLoop ltInt a i0 j0 d2) (fun v u _ => (intOf u + 1 - intOf v).toNat)
          case atStart => exact ⟨i0, j0, d2, by first | rfl | (rw [hi0z]), by first | rfl | (rw [hj0z]), hi0b.1, hi0b.2, hj0b, hs2, HSW.out, rfl⟩
          case round =>
            rename_i I' J' dk' _ _ _ _ _ _ _
            clear HSW
            obtain ⟨i, j, dk, rfl, rfl, hi, hi2, hj, hs, hA, heq⟩ := hrel
            have HQ := (show Hid (partLoop ltInt a i j dk = partLoop ltInt a i0 j0 d2) from heq)
            clear heq
            obtain ⟨V, hV⟩ : ∃ V, V = wr := ⟨wr, rfl⟩
            rw [← hV] at hA ⊢
            clear hV
            obtain ⟨hc, hf⟩ := at_row hA HH.out hs hblk
            obtain ⟨G, hG⟩ : ∃ G : Nat → Int, ∀ t, G t = dk[t]! := ⟨fun t => dk[t]!, fun _ => rfl⟩
            have hcw : Hid (∀ t, t < d.size → V.cell? ⟨blk, off + t, none⟩ = some (.int .u32 (G t))) := fun t ht => by rw [hG]; exact hc t ht
            have hfw := (show Hid (∀ t, t < d.size → V.frozen? ⟨blk, off + t, none⟩ = false) from hf)
            have HG : Hid (∀ t, G t = dk[t]!) := hG
            have HA := (show Hid (At U32 w blk off dk V) from hA)
            clear hG hA hc hf
            obtain ⟨I, hI⟩ : ∃ I, I = scanUp (fun x => ltInt x dk[a]!) dk j i := ⟨_, rfl⟩
            obtain ⟨J, hJ⟩ : ∃ J, J = scanDown (fun x => !ltInt x dk[a]!) dk I j := ⟨_, rfl⟩
            have hIb := up_bounds (fun x => ltInt x dk[a]!) dk j (j + 1 - i) i (Nat.le_refl _)
            have hJb := down_le (fun x => !ltInt x dk[a]!) dk I j
            rw [← hI] at hIb
            rw [← hJ] at hJb
            have HI := (show Hid (I = scanUp (fun x => ltInt x dk[a]!) dk j i) from hI)
            have HJ := (show Hid (J = scanDown (fun x => !ltInt x dk[a]!) dk I j) from hJ)
            clear hI hJ
            go_upto_block 6 with fail
            go_cut [10] (fun v wx => v = .int .i64 (I : Int) ∧ ∃ q, wx = V.drewN q)
            case first =>
              go_wp2
              go_loopw [10] (fun v wx => ∃ (k q : Nat), v = .int .i64 k ∧ a < k ∧ k ≤ max i (j + 1) ∧ wx = V.drewN q ∧ scanUp (fun x => ltInt x dk[a]!) dk j k = I) (fun v _ => j + 2 - (intOf v).toNat)
              case atStart => exact ⟨i, 0, by first | rfl | (rw [HI0.out]; go_num), hi, by omega, rfl, HI.out.symm⟩
              case round =>
                obtain ⟨k, q, rfl, k1, k2, hw, hk⟩ := hrel
                have HK := (show Hid (scanUp (fun x => ltInt x dk[a]!) dk j k = I) from hk)
                have hcw2 : ∀ t, t < d.size → wr.cell? ⟨blk, off + t, none⟩ = some (.int .u32 (G t)) := fun t ht => by rw [hw]; exact hcw.out t ht
                have HW := (show Hid (wr = V.drewN q) from hw)
                clear hw hk
                go_wp2
                by_cases hkj : k ≤ j
                · go_quiet (first | (go_at_call 133; refine Calls.quiet_of_same (less32 _ _ _)))
                  go_wp2
                  · have hl : ltInt (G k) (G a) = true := by assumption
                    go_roundw
                    case rel => exact ⟨k + 1, q + nq, by go_num, by omega, by omega, by rw [HW.out, World.drewN_drewN], by rw [← HK.out, scanUp_go _ dk j k hkj (by rw [HG.out, HG.out] at hl; exact hl)]⟩
                    case measure => simp [intOf]; omega
                  · have hl : ltInt (G k) (G a) = false := by assumption
                    go_meet
                    case rel =>
                      have hkI : k = I := by rw [← HK.out, scanUp_end _ dk j k (Or.inr (by rw [HG.out, HG.out] at hl; exact hl))]
                      exact ⟨by rw [hkI], q + nq, by rw [HW.out, World.drewN_drewN]⟩
                · go_quiet (first | (go_at_call 133; refine Calls.quiet_of_same (less32 _ _ _)))
                  go_wp2
                  go_meet
                  case rel =>
                    have hkI : k = I := by rw [← HK.out, scanUp_end _ dk j k (Or.inl hkj)]
                    exact ⟨by rw [hkI], q + nq, by rw [HW.out, World.drewN_drewN]⟩
            case rest =>
              obtain ⟨rfl, q1, rfl⟩ := hcut
              go_upto_block 8 with fail
              go_cut [11] (fun v wx => v = .int .i64 (J : Int) ∧ ∃ q, wx = V.drewN q)
              case first =>
                go_wp2
                go_loopw [11] (fun v wx => ∃ (k q : Nat), v = .int .i64 k ∧ k ≤ j ∧ wx = V.drewN q ∧ scanDown (fun x => !ltInt x dk[a]!) dk I k = J) (fun v _ => (intOf v).toNat)
                case atStart => exact ⟨j, q1, rfl, Nat.le_refl _, rfl, HJ.out.symm⟩
                case round =>
                  obtain ⟨k, q, rfl, k1, hw, hk⟩ := hrel
                  have HK := (show Hid (scanDown (fun x => !ltInt x dk[a]!) dk I k = J) from hk)
                  have hcw2 : ∀ t, t < d.size → wr.cell? ⟨blk, off + t, none⟩ = some (.int .u32 (G t)) := fun t ht => by rw [hw]; exact hcw.out t ht
                  have HW := (show Hid (wr = V.drewN q) from hw)
                  clear hw hk
                  go_wp2
                  by_cases hkj : I ≤ k
                  · go_quiet (first | (go_at_call 133; refine Calls.quiet_of_same (less32 _ _ _)))
                    go_wp2
                    · have hl : (!ltInt (G k) (G a)) = true := by assumption
                      go_roundw
                      case rel => exact ⟨k - 1, q + nq, by congr 1; omega, by omega, by rw [HW.out, World.drewN_drewN], by rw [← HK.out, scanDown_go _ dk I k hkj (by omega) (by rw [HG.out, HG.out] at hl; exact hl)]⟩
                      case measure => simp [intOf]; omega
                    · have hl : (!ltInt (G k) (G a)) = false := by assumption
                      go_meet
                      case rel =>
                        have hkI : k = J := by rw [← HK.out, scanDown_end _ dk I k (Or.inr (by rw [HG.out, HG.out] at hl; exact hl))]
                        exact ⟨by rw [hkI], q + nq, by rw [HW.out, World.drewN_drewN]⟩
                  · go_quiet (first | (go_at_call 133; refine Calls.quiet_of_same (less32 _ _ _)))
                    go_wp2
                    go_meet
                    case rel =>
                      have hkI : k = J := by rw [← HK.out, scanDown_end _ dk I k (Or.inl hkj)]
                      exact ⟨by rw [hkI], q + nq, by rw [HW.out, World.drewN_drewN]⟩
              case rest =>
                obtain ⟨rfl, q2, rfl⟩ := hcut
                have hcw2 : ∀ t, t < d.size → (V.drewN q2).cell? ⟨blk, off + t, none⟩ = some (.int .u32 (G t)) := fun t ht => hcw.out t ht
                have hfw2 : ∀ t, t < d.size → (V.drewN q2).frozen? ⟨blk, off + t, none⟩ = false := fun t ht => hfw.out t ht
                have HA2 := (show Hid (At U32 w blk off dk (V.drewN q2)) from at_draw HA.out q2)
                clear HA hcw hfw
                generalize V.drewN q2 = V2 at *
                by_cases hIJ : J < I
                · have hz : (J : Int) < (I : Int) := by omega
                  have he : partLoop ltInt a i0 j0 d2 = (J, dk) := by rw [← HQ.out]; exact part_break ltInt a i j dk HI.out HJ.out hIJ
                  have HE := (show Hid (partLoop ltInt a i0 j0 d2 = (J, dk)) from he)
                  clear he
                  have hsw := at_swap HA2.out HH.out hs hblk 1 J a (by omega) (by omega)
                  rw [← HG.out, ← HG.out] at hsw
                  have HSW := (show Hid (At U32 w blk off (swp dk J a) _) from hsw)
                  clear hsw
                  by_cases hEq : J = a
                  · subst hEq
                    go_wp2
                    go_region
                    all_goals go_wp2
                    go_ret2
                    exact ⟨by rw [HP.out, HE.out]; rfl, by rw [HP.out, HE.out]; exact HSW.out⟩
                  · go_wp2
                    go_region
                    all_goals go_wp2
                    go_ret2
                    exact ⟨by rw [HP.out, HE.out]; rfl, by rw [HP.out, HE.out]; exact HSW.out⟩
                · have hz : ¬ ((J : Int) < (I : Int)) := by omega
                  have hlt := part_scans_lt ltInt a i j dk (by omega) HI.out HJ.out (by omega)
                  have hsw := at_swap HA2.out HH.out hs hblk 1 I J (by omega) (by omega)
                  rw [← HG.out, ← HG.out] at hsw
                  have HSW := (show Hid (At U32 w blk off (swp dk I J) _) from hsw)
                  have HE := (show Hid (partLoop ltInt a i j dk = partLoop ltInt a (I + 1) (J - 1) (swp dk I J)) from part_go ltInt a i j dk HI.out HJ.out (by omega))
                  clear hsw
                  go_wp2
                  go_region
                  all_goals go_wp2
                  go_roundw
                  case rel => exact ⟨I + 1, J - 1, swp dk I J, by go_num, by congr 1; omega, by omega, by omega, by omega, by rw [size_swp]; exact hs, HSW.out, by rw [← HE.out, HQ.out]⟩
                  case measure => simp [intOf]; omega
end Go.Proofs.YtmicdbplkfdfnaaGreatDoor
