/- The walk of the document's number. -/
import Derived.Test.YtellndmbllmjgaaGreatDoorCUtAx
import Derived.Test.YtellndmbllmjgaaGreatDoorCRtx
import Derived.Test.YtellndmbllmjgaaGreatDoorCUt6x
import Derived.Laws.OwnMore
import Derived.WalkSmall
set_option linter.unusedVariables false
namespace Go.Proofs.YtellndmbllmjgaaGreatDoor
open Go.RowKit Go.Shelf Go.Sort Fs Fl
set_option maxRecDepth 100000 in
set_option maxHeartbeats 4000000 in
theorem number_walk (S : ByteArray) (l : List Nat) (hl : Ut.bytes S = l) (hs : S.size ≤ 25000) (w : World) :
    Calls Tryz.prog 49 #[.string S] w fun e w' => (dgA l = [] → e = .returned (.tuple #[.string (txt []), .int .i64 0, .int .i64 0]) ∧ w' = w) ∧ (dgA l ≠ [] → ∃ v : Int, ExIs 100000 (expL (l.drop (exAt l))) v ∧ e = .returned (.tuple #[.string (txt (dgA l)), .int .i64 (-((dgB l).length : Int) + v), .int .i64 ((exAt l + exN (expL (l.drop (exAt l))) : Nat) : Int)]) ∧ w' = w) := by
  obtain ⟨N, hN⟩ : ∃ N, S.size = N := ⟨_, rfl⟩
  have hlN : l.length = N := by rw [← hl, Ut.bytes_len, hN]
  have hNb : N ≤ 25000 := by omega
  obtain ⟨L, hL⟩ : ∃ L, L = (digL l).length := ⟨_, rfl⟩
  have hLN : L ≤ N := by rw [hL, ← hlN]; exact runL_le 10 l
  have hLt : l.take L = digL l := by rw [hL]; exact digL_take l
  have HL := (show Hid (Ut.bytes S = l) from hl)
  have HLN := (show Hid (l.length = N) from hlN)
  have HR := (show Hid (L = (digL l).length) from hL)
  have HLT := (show Hid (l.take L = digL l) from hLt)
  obtain ⟨PT, hPT⟩ : ∃ PT, PT = ptQ l := ⟨_, rfl⟩
  have HPT := (show Hid (PT = ptQ l) from hPT)
  obtain ⟨A, hA⟩ : ∃ A, A = dgA l := ⟨_, rfl⟩
  have HA := (show Hid (A = dgA l) from hA)
  obtain ⟨M, hM⟩ : ∃ M, M = (dgB l).length := ⟨_, rfl⟩
  have HM := (show Hid (M = (dgB l).length) from hM)
  have hMN : M ≤ N := by
    rw [hM, ← hlN]
    unfold dgB
    split
    · have := runL_le 10 (l.drop ((digL l).length + 1))
      rw [← digL_len, List.length_drop] at this
      omega
    · simp
  obtain ⟨C, hC⟩ : ∃ C, C = exAt l := ⟨_, rfl⟩
  have HC := (show Hid (C = exAt l) from hC)
  rw [← hA, ← hM, ← hC]
  clear hl hlN hL hs hLt hPT hA hM hC
  go_enter Tryz.func49, Tryz.ntmps49
  go_upto_block 0 with fail
  go_cut [5, 6] (fun vi vd wx => vi = .int .i64 (L : Int) ∧ vd = .string (txt (l.take L)) ∧ wx = w)
  case first =>
    go_wp2_with fail
    go_loopw [5, 6] (fun vi vd wr => NuR w l L vi vd wr) (fun vi _ _ => N - (intOf vi).toNat)
    case atStart => exact .mk 0 (Nat.zero_le _)
    case round =>
      obtain ⟨k, hk⟩ := hrel
      rcases Nat.lt_or_ge k N with hkN | hkN
      · have hkS : k < S.size := by omega
        obtain ⟨c, hc⟩ : ∃ c, (S[k]'hkS).toNat = c := ⟨_, rfl⟩
        have hget := byte_of S l HL.out k hkS
        rw [hc] at hget
        rcases Nat.lt_or_eq_of_le hk with hlt | heq
        · obtain ⟨c', h1, h2⟩ := runL_in 10 l k (by rw [← digL_len, ← HR.out]; exact hlt)
          rw [hget] at h1
          injection h1 with h1
          rw [← h1] at h2
          obtain ⟨h3, h4⟩ := (digV_dig c).1 h2
          have hcat := txt_snocE S l HL.out (l.take k) k c hget
          rw [← take_next l k c hget] at hcat
          have HX := (show Hid _ from hcat)
          have k1 : (48 : Int) ≤ (c : Int) := by omega
          have k2 : (c : Int) ≤ 57 := by omega
          have z1 : (txt (l.take k)).size = k := by rw [txt_size, List.length_take, HLN.out]; omega
          have z2 := cut_one S k hkS
          clear hget h1 h2 hcat
          go_wp2
          refine ⟨?_, by simp [intOf]; omega⟩
          rw [HX.out, show ((k : Int) + 1) = ((k + 1 : Nat) : Int) by omega]
          exact .mk (k + 1) hlt
        · have h2 := runL_end 10 l c (by rw [← digL_len, ← HR.out, ← heq]; exact hget)
          rw [digV_dig] at h2
          subst heq
          rcases Nat.lt_or_ge c 48 with h3 | h3
          · have k1 : ¬ (48 : Int) ≤ (c : Int) := by omega
            clear hget h2
            go_wp2
            go_meet
            exact ⟨rfl, rfl, rfl⟩
          · have k1 : (48 : Int) ≤ (c : Int) := by omega
            have k2 : ¬ (c : Int) ≤ 57 := by omega
            clear hget h2
            go_wp2
            go_meet
            exact ⟨rfl, rfl, rfl⟩
      · have hkn : k = N := by omega
        have hkL : k = L := by omega
        subst hkL
        subst hkn
        go_wp2
        go_meet
        exact ⟨rfl, rfl, rfl⟩
  case rest =>
  obtain ⟨rfl, rfl, hwc⟩ := hcut
  obtain rfl := hwc.symm
  rw [HLT.out]
  go_upto_region 7 with fail
  go_cut [47] (fun v wx => v = .bool PT ∧ wx = w)
  case first =>
    rcases Nat.lt_or_ge L N with hkN | hkN
    · have hkS : L < S.size := by omega
      obtain ⟨c, hc⟩ : ∃ c, (S[L]'hkS).toNat = c := ⟨_, rfl⟩
      have hget := byte_of S l HL.out L hkS
      rw [hc] at hget
      by_cases h46 : c = 46
      · have hp : PT = true := by rw [HPT.out]; unfold ptQ; rw [← HR.out, hget, h46]; rfl
        have k1 : ((c : Int) == 46) = true := by rw [beq_iff_eq]; omega
        subst hp
        clear hget h46
        go_wp2
        go_meet
        exact ⟨rfl, rfl⟩
      · have hp : PT = false := by rw [HPT.out]; unfold ptQ; rw [← HR.out, hget]; simp [h46]
        have k1 : ((c : Int) == 46) = false := by rw [beq_eq_false_iff_ne]; omega
        subst hp
        clear hget h46
        go_wp2
        go_meet
        exact ⟨rfl, rfl⟩
    · have hkn : L = N := by omega
      have hp : PT = false := by rw [HPT.out]; unfold ptQ; rw [← HR.out, List.getElem?_eq_none (by rw [HLN.out]; omega)]; simp
      subst hp
      have k1 : ¬ (L : Int) < (N : Int) := by omega
      clear hkn hkN
      go_wp2
      go_meet
      exact ⟨rfl, rfl⟩
  case rest =>
  obtain ⟨rfl, hwc⟩ := hcut
  obtain rfl := hwc.symm
  go_upto_if 47 with fail
  go_cut [5, 6, 7, 47] (fun vi vd vk _ wx => vi = .int .i64 (C : Int) ∧ vd = .string (txt A) ∧ vk = .int .i64 (-(M : Int)) ∧ wx = w)
  case first =>
    cases hP : PT
    · have hB : dgB l = [] := by unfold dgB; rw [← HPT.out, hP]; rfl
      have e1 : C = L := by rw [HC.out, HR.out]; unfold exAt; rw [← HPT.out, hP]; rfl
      have e2 : A = digL l := by rw [HA.out]; unfold dgA; rw [hB, List.append_nil]
      have e3 : M = 0 := by rw [HM.out, hB]; rfl
      subst hP
      go_wp2
      go_meet
      exact ⟨by rw [e1], by rw [e2], by rw [e3]; rfl, rfl⟩
    · subst hP
      obtain ⟨B, hB⟩ : ∃ B, B = digL (l.drop (L + 1)) := ⟨_, rfl⟩
      have e0 : dgB l = B := by unfold dgB; rw [← HPT.out, hB, HR.out]; rfl
      have eM : M = B.length := by rw [HM.out, e0]
      have eA : A = digL l ++ B := by rw [HA.out]; unfold dgA; rw [e0]
      have hg0 : l[L]? = some 46 := by
        have := HPT.out
        unfold ptQ at this
        rw [← HR.out] at this
        exact of_decide_eq_true this.symm
      have hL1 : L < N := by rw [← HLN.out]; exact (List.getElem?_eq_some_iff.1 hg0).1
      have hBl : M ≤ N - (L + 1) := by
        have := runL_le 10 (l.drop (L + 1))
        rw [← digL_len, ← hB, ← eM, List.length_drop, HLN.out] at this
        exact this
      have HB := (show Hid (B = digL (l.drop (L + 1))) from hB)
      have HEM := (show Hid (M = B.length) from eM)
      have HEA := (show Hid (A = digL l ++ B) from eA)
      clear hB e0 eM eA hg0
      go_upto_block 2 with fail
      go_cut [6, 7, 8] (fun vd vk vj wx => vd = .string (txt A) ∧ vk = .int .i64 (-(M : Int)) ∧ vj = .int .i64 ((L + 1 + M : Nat) : Int) ∧ wx = w)
      case first =>
        go_wp2_with fail
        go_loopw [6, 7, 8] (fun vd vk vj wr => NvR w (digL l) B L M vd vk vj wr) (fun _ _ vj _ => N - (intOf vj).toNat)
        case atStart =>
          have h0 : NvR w (digL l) B L M (.string (txt (digL l ++ B.take 0))) (.int .i64 (-((0 : Nat) : Int))) (.int .i64 ((L + 1 + 0 : Nat) : Int)) w := .mk 0 (Nat.zero_le _)
          rw [List.take_zero, List.append_nil] at h0
          exact h0
        case round =>
          obtain ⟨k, hk⟩ := hrel
          rcases Nat.lt_or_ge (L + 1 + k) N with hkN | hkN
          · have hkS : L + 1 + k < S.size := by omega
            obtain ⟨c, hc⟩ : ∃ c, (S[L + 1 + k]'hkS).toNat = c := ⟨_, rfl⟩
            have hget := byte_of S l HL.out (L + 1 + k) hkS
            rw [hc] at hget
            have hget2 : (l.drop (L + 1))[k]? = some c := by rw [List.getElem?_drop]; exact hget
            rcases Nat.lt_or_eq_of_le hk with hlt | heq
            · have hBk : B[k]? = some c := by
                rw [HB.out, digL_get _ k (by rw [← HB.out, ← HEM.out]; exact hlt)]
                exact hget2
              obtain ⟨c', h1, h2⟩ := runL_in 10 (l.drop (L + 1)) k (by rw [← digL_len, ← HB.out, ← HEM.out]; exact hlt)
              rw [hget2] at h1
              injection h1 with h1
              rw [← h1] at h2
              obtain ⟨h3, h4⟩ := (digV_dig c).1 h2
              have hcat := txt_snocE S l HL.out (digL l ++ B.take k) (L + 1 + k) c hget
              rw [List.append_assoc, ← take_next B k c hBk] at hcat
              have HX := (show Hid _ from hcat)
              have k1 : (48 : Int) ≤ (c : Int) := by omega
              have k2 : (c : Int) ≤ 57 := by omega
              have z1 : (txt (digL l ++ B.take k)).size ≤ 25000 := by rw [txt_size, List.length_append, List.length_take, ← HR.out, ← HEM.out]; omega
              have z2 := cut_one S (L + 1 + k) hkS
              obtain ⟨J, hJ⟩ : ∃ J, J = L + 1 + k := ⟨_, rfl⟩
              have HJ := (show Hid (J = L + 1 + k) from hJ)
              have hcJ : ∀ h : J < S.size, (S[J]'h).toNat = c := by subst hJ; intro _; exact hc
              rw [← hJ] at z2 HX hkN
              simp only [← hJ]
              have hJS : J < S.size := by omega
              clear hc
              have hc := hcJ hJS
              clear hget hget2 h1 h2 hcat hBk hJ hcJ hkS
              go_wp2
              refine ⟨?_, by simp [intOf]; omega⟩
              rw [HX.out]
              have := NvR.mk (w := w) (A := digL l) (B := B) (L := L) (M := M) (k + 1) hlt
              rw [show -(((k + 1 : Nat)) : Int) = -(k : Int) - 1 by omega, show ((L + 1 + (k + 1) : Nat) : Int) = (J : Int) + 1 by rw [HJ.out]; omega] at this
              exact this
            · have h2 := runL_end 10 (l.drop (L + 1)) c (by rw [← digL_len, ← HB.out, ← HEM.out, ← heq]; exact hget2)
              rw [digV_dig] at h2
              have hfin : txt (digL l ++ B.take k) = txt A := by rw [HEA.out, List.take_of_length_le (by rw [← HEM.out]; omega)]
              rw [hfin]
              obtain ⟨J, hJ⟩ : ∃ J, J = L + 1 + k := ⟨_, rfl⟩
              have HJ := (show Hid (J = L + 1 + k) from hJ)
              have hcJ : ∀ h : J < S.size, (S[J]'h).toNat = c := by subst hJ; intro _; exact hc
              rw [← hJ] at hkN
              simp only [← hJ]
              have HK : Hid (k = M) := heq
              have hJS : J < S.size := by omega
              clear hc
              have hc := hcJ hJS
              clear heq hfin hJ hcJ hkS
              rcases Nat.lt_or_ge c 48 with h3 | h3
              · have k1 : ¬ (48 : Int) ≤ (c : Int) := by omega
                clear hget hget2 h2
                go_wp2
                go_meet
                exact ⟨rfl, by rw [HK.out], by rw [HJ.out, HK.out], rfl⟩
              · have k1 : (48 : Int) ≤ (c : Int) := by omega
                have k2 : ¬ (c : Int) ≤ 57 := by omega
                clear hget hget2 h2
                go_wp2
                go_meet
                exact ⟨rfl, by rw [HK.out], by rw [HJ.out, HK.out], rfl⟩
          · have hkM : k = M := by omega
            have hfin : txt (digL l ++ B.take k) = txt A := by rw [HEA.out, List.take_of_length_le (by rw [← HEM.out]; omega)]
            rw [hfin]
            obtain ⟨J, hJ⟩ : ∃ J, J = L + 1 + k := ⟨_, rfl⟩
            have HJ := (show Hid (J = L + 1 + k) from hJ)
            rw [← hJ] at hkN
            simp only [← hJ]
            have HK : Hid (k = M) := hkM
            have k1 : ¬ (J : Int) < (N : Int) := by omega
            clear hkM hfin hJ hk hkN
            go_wp2
            go_meet
            exact ⟨rfl, by rw [HK.out], by rw [HJ.out, HK.out], rfl⟩
      case rest =>
      obtain ⟨rfl, rfl, rfl, hwc⟩ := hcut
      obtain rfl := hwc.symm
      by_cases hAn : A = []
      · have e1 : C = L := by
          rw [HC.out, HR.out]; unfold exAt; rw [← HA.out, hAn]; simp
        have hem : (txt A).toList.isEmpty = true := empty_yes _ (by rw [txt_size, hAn]; rfl)
        clear hAn
        go_wp2
        go_meet
        exact ⟨by rw [e1], rfl, rfl, rfl⟩
      · have e1 : C = L + 1 + M := by
          rw [HC.out, HR.out, HM.out]; unfold exAt
          have : (dgA l).isEmpty = false := by
            rw [← HA.out]
            cases hh : A with
            | nil => exact absurd hh hAn
            | cons _ _ => rfl
          rw [← HPT.out, this]
          rfl
        have hem : (txt A).toList.isEmpty = false := ne_empty _ (by rw [txt_size]; exact List.length_pos_iff.2 hAn)
        clear hAn
        go_wp2
        go_meet
        exact ⟨by rw [e1, show ((L + 1 + M : Nat) : Int) = (L : Int) + 1 + M by omega], rfl, rfl, rfl⟩
  case rest =>
  obtain ⟨rfl, rfl, rfl, hwc⟩ := hcut
  obtain rfl := hwc.symm
  have hCN : C ≤ N := by rw [HC.out, ← HLN.out]; exact exAt_le l
  by_cases hAn : A = []
  · have hem : (txt A).toList.isEmpty = true := empty_yes _ (by rw [txt_size, hAn]; rfl)
    have HAN : Hid (A = []) := hAn
    clear hAn
    go_wp2
    go_ret3
    exact ⟨fun _ => ⟨rfl, rfl⟩, fun h => absurd HAN.out h⟩
  · have hem : (txt A).toList.isEmpty = false := ne_empty _ (by rw [txt_size]; exact List.length_pos_iff.2 hAn)
    have HAN : Hid (¬ A = []) := hAn
    clear hAn
    obtain ⟨PE, hPE⟩ : ∃ PE : Bool, PE = decide (l[C]? = some 101 ∨ l[C]? = some 69) := ⟨_, rfl⟩
    have HPE := (show Hid (PE = decide (l[C]? = some 101 ∨ l[C]? = some 69)) from hPE)
    clear hPE
    go_upto_region 17 with fail
    go_cut [97] (fun v wx => v = .bool PE ∧ wx = w)
    case first =>
      rcases Nat.lt_or_ge C N with hkN | hkN
      · have hkS : C < S.size := by omega
        obtain ⟨c, hc⟩ : ∃ c, (S[C]'hkS).toNat = c := ⟨_, rfl⟩
        have hget := byte_of S l HL.out C hkS
        rw [hc] at hget
        by_cases h1 : c = 101
        · have hp : PE = true := by rw [HPE.out, hget, h1]; rfl
          have k1 : ((c : Int) == 101) = true := by rw [beq_iff_eq]; omega
          subst hp
          clear hget h1
          go_wp2
          go_meet
          exact ⟨rfl, rfl⟩
        · have k1 : ((c : Int) == 101) = false := by rw [beq_eq_false_iff_ne]; omega
          by_cases h2 : c = 69
          · have hp : PE = true := by rw [HPE.out, hget, h2]; rfl
            have k2 : ((c : Int) == 69) = true := by rw [beq_iff_eq]; omega
            subst hp
            clear hget h1 h2
            go_wp2
            go_meet
            exact ⟨rfl, rfl⟩
          · have hp : PE = false := by rw [HPE.out, hget]; simp [h1, h2]
            have k2 : ((c : Int) == 69) = false := by rw [beq_eq_false_iff_ne]; omega
            subst hp
            clear hget h1 h2
            go_wp2
            go_meet
            exact ⟨rfl, rfl⟩
      · have hp : PE = false := by rw [HPE.out, List.getElem?_eq_none (by rw [HLN.out]; omega)]; simp
        subst hp
        have k1 : ¬ (C : Int) < (N : Int) := by omega
        clear hkN hCN
        go_wp2
        go_meet
        exact ⟨rfl, rfl⟩
    case rest =>
    obtain ⟨rfl, hwc⟩ := hcut
    obtain rfl := hwc.symm
    cases hP : PE
    · have hx : expL (l.drop C) = none := by
        have := HPE.out
        rw [hP] at this
        have h3 := of_decide_eq_false this.symm
        rcases Nat.lt_or_ge C l.length with h4 | h4
        · have hg : l[C]? = some (l[C]'h4) := List.getElem?_eq_getElem h4
          rw [expL_at l C _ hg, if_neg]
          intro h5
          rw [hg] at h3
          rcases h5 with h5 | h5
          · exact h3 (.inl (by rw [h5]))
          · exact h3 (.inr (by rw [h5]))
        · exact expL_end l C h4
      have HX : Hid (expL (l.drop C) = none) := hx
      clear hx
      subst hP
      go_wp2
      go_ret3
      refine ⟨fun h => absurd h HAN.out, fun _ => ⟨0, ?_, ?_, rfl⟩⟩
      · rw [HX.out]; rfl
      · rw [HX.out, Int.add_zero]; rfl
    · have hPe := HPE.out
      rw [hP] at hPe
      have h3 := of_decide_eq_true hPe.symm
      have hC1 : C < N := by
        rw [← HLN.out]
        rcases h3 with h | h <;> exact (List.getElem?_eq_some_iff.1 h).1
      obtain ⟨c0, hg0, hc0⟩ : ∃ c0, l[C]? = some c0 ∧ (c0 = 101 ∨ c0 = 69) := by
        rcases h3 with h | h
        · exact ⟨101, h, .inl rfl⟩
        · exact ⟨69, h, .inr rfl⟩
      obtain ⟨sn, hsn⟩ : ∃ sn, sn = (signL (l.drop (C + 1))).1 := ⟨_, rfl⟩
      obtain ⟨sc, hsc⟩ : ∃ sc, sc = (signL (l.drop (C + 1))).2 := ⟨_, rfl⟩
      obtain ⟨J, hJ⟩ : ∃ J, J = C + 1 + sc := ⟨_, rfl⟩
      obtain ⟨X, hX⟩ : ∃ X, X = digL (l.drop J) := ⟨_, rfl⟩
      have hxx : expL (l.drop C) = if X = [] then none else some (sn, X, 1 + sc + X.length) := by
        rw [expL_at l C c0 hg0, if_pos hc0, ← hsc, ← hsn, ← hJ, ← hX]
      have hscN : J ≤ N := by
        have := (signL_le (l.drop (C + 1))).2
        rw [← hsc, List.length_drop, HLN.out] at this
        omega
      have hXN : J + X.length ≤ N := by
        have := runL_le 10 (l.drop J)
        rw [← digL_len, ← hX, List.length_drop, HLN.out] at this
        omega
      have HXX : Hid (expL (l.drop C) = if X = [] then none else some (sn, X, 1 + sc + X.length)) := hxx
      have HX : Hid (X = digL (l.drop J)) := hX
      have HJ : Hid (J = C + 1 + sc) := hJ
      have HSG : Hid (signL (l.drop (C + 1)) = (sn, sc)) := by rw [hsn, hsc]; exact rfl
      clear hPe h3 hg0 hc0 hsn hsc hX hxx hJ HPE
      subst hP
      obtain ⟨PS, hPS⟩ : ∃ PS : Bool, PS = decide (l[C + 1]? = some 43 ∨ l[C + 1]? = some 45) := ⟨_, rfl⟩
      have HPS := (show Hid (PS = decide (l[C + 1]? = some 43 ∨ l[C + 1]? = some 45)) from hPS)
      clear hPS
      go_upto_region 20 with fail
      go_cut [115] (fun v wx => v = .bool PS ∧ wx = w)
      case first =>
        rcases Nat.lt_or_ge (C + 1) N with hkN | hkN
        · have hkS : C + 1 < S.size := by omega
          obtain ⟨c, hc⟩ : ∃ c, (S[C + 1]'hkS).toNat = c := ⟨_, rfl⟩
          have hget := byte_of S l HL.out (C + 1) hkS
          rw [hc] at hget
          by_cases h1 : c = 43
          · have hp : PS = true := by rw [HPS.out, hget, h1]; rfl
            have k1 : ((c : Int) == 43) = true := by rw [beq_iff_eq]; omega
            subst hp
            clear hget h1
            go_wp2
            go_meet
            exact ⟨rfl, rfl⟩
          · have k1 : ((c : Int) == 43) = false := by rw [beq_eq_false_iff_ne]; omega
            by_cases h2 : c = 45
            · have hp : PS = true := by rw [HPS.out, hget, h2]; rfl
              have k2 : ((c : Int) == 45) = true := by rw [beq_iff_eq]; omega
              subst hp
              clear hget h1 h2
              go_wp2
              go_meet
              exact ⟨rfl, rfl⟩
            · have hp : PS = false := by rw [HPS.out, hget]; simp [h1, h2]
              have k2 : ((c : Int) == 45) = false := by rw [beq_eq_false_iff_ne]; omega
              subst hp
              clear hget h1 h2
              go_wp2
              go_meet
              exact ⟨rfl, rfl⟩
        · have hp : PS = false := by rw [HPS.out, List.getElem?_eq_none (by rw [HLN.out]; omega)]; simp
          subst hp
          have k1 : ¬ (C : Int) + 1 < (N : Int) := by omega
          clear hkN hCN hC1
          go_wp2
          go_meet
          exact ⟨rfl, rfl⟩
      case rest =>
      obtain ⟨rfl, hwc⟩ := hcut
      obtain rfl := hwc.symm
      go_upto_if 115 with fail
      go_cut [9, 10, 115] (fun vj vm _ wx => vj = .int .i64 (J : Int) ∧ vm = .bool sn ∧ wx = w)
      case first =>
        cases hP : PS
        · have hsg : signL (l.drop (C + 1)) = (false, 0) := by
            have := HPS.out
            rw [hP] at this
            have h3 := of_decide_eq_false this.symm
            rcases Nat.lt_or_ge (C + 1) l.length with h4 | h4
            · have hg : l[C + 1]? = some (l[C + 1]'h4) := List.getElem?_eq_getElem h4
              rw [sign_at l (C + 1) _ hg, if_neg, if_neg]
              · intro h5; rw [hg] at h3; exact h3 (.inl (by rw [h5]))
              · intro h5; rw [hg] at h3; exact h3 (.inr (by rw [h5]))
            · exact sign_end l (C + 1) h4
          rw [HSG.out] at hsg
          injection hsg with e1 e2
          have e3 : (J : Int) = (C : Int) + 1 := by rw [HJ.out, e2]; omega
          have HE3 := (show Hid ((J : Int) = (C : Int) + 1) from e3)
          have HE1 := (show Hid (sn = false) from e1)
          clear e1 e2 e3
          subst hP
          go_wp2
          go_meet
          exact ⟨by rw [HE3.out], by rw [HE1.out], rfl⟩
        · have hPs := HPS.out
          rw [hP] at hPs
          have h3 := of_decide_eq_true hPs.symm
          have hC2 : C + 1 < N := by
            rw [← HLN.out]
            rcases h3 with h | h <;> exact (List.getElem?_eq_some_iff.1 h).1
          have hkS : C + 1 < S.size := by omega
          obtain ⟨c, hc⟩ : ∃ c, (S[C + 1]'hkS).toNat = c := ⟨_, rfl⟩
          have hget := byte_of S l HL.out (C + 1) hkS
          rw [hc] at hget
          have hsg := sign_at l (C + 1) c hget
          rw [HSG.out] at hsg
          rw [hget] at h3
          have h4 : c = 43 ∨ c = 45 := by
            rcases h3 with h | h
            · injection h with h; exact .inl h
            · injection h with h; exact .inr h
          clear hPs h3 hget
          subst hP
          rcases h4 with h4 | h4
          · have k2 : ((c : Int) == 45) = false := by rw [beq_eq_false_iff_ne]; omega
            rw [if_neg (by omega), if_pos h4] at hsg
            injection hsg with e1 e2
            have e3 : (J : Int) = (C : Int) + 1 + 1 := by rw [HJ.out, e2]; omega
            have HE3 := (show Hid ((J : Int) = (C : Int) + 1 + 1) from e3)
            have HE1 := (show Hid (sn = false) from e1)
            clear e1 e2 e3 h4
            go_wp2
            go_meet
            exact ⟨by rw [HE3.out], by rw [HE1.out], rfl⟩
          · have k2 : ((c : Int) == 45) = true := by rw [beq_iff_eq]; omega
            rw [if_pos h4] at hsg
            injection hsg with e1 e2
            have e3 : (J : Int) = (C : Int) + 1 + 1 := by rw [HJ.out, e2]; omega
            have HE3 := (show Hid ((J : Int) = (C : Int) + 1 + 1) from e3)
            have HE1 := (show Hid (sn = true) from e1)
            clear e1 e2 e3 h4
            go_wp2
            go_meet
            exact ⟨by rw [HE3.out], by rw [HE1.out], rfl⟩
      case rest =>
      obtain ⟨rfl, rfl, hwc⟩ := hcut
      obtain rfl := hwc.symm
      obtain ⟨XL, hXL⟩ : ∃ XL, XL = X.length := ⟨_, rfl⟩
      have HXL := (show Hid (XL = X.length) from hXL)
      rw [← hXL] at hXN
      clear hXL
      go_upto_block 4 with fail
      go_cut [9, 11] (fun vj ve wx => ∃ v : Nat, CapE 100000 X v ∧ v < 1000000 ∧ vj = .int .i64 ((J + XL : Nat) : Int) ∧ ve = .int .i64 (v : Int) ∧ wx = w)
      case first =>
        go_wp2_with fail
        go_loopw [9, 11] (fun vj ve wr => NwR w X J vj ve wr) (fun vj _ _ => N - (intOf vj).toNat)
        case atStart =>
          have h0 := NwR.mk (w := w) (X := X) (j0 := J) 0 0 (Nat.zero_le _) (CapE.nil (by omega)) (by omega)
          exact h0
        case round =>
          obtain ⟨k, v, hk, hv, hv2⟩ := hrel
          rw [← HXL.out] at hk
          have HV : Hid (CapE 100000 (X.take k) v) := hv
          clear hv
          obtain ⟨P, hP⟩ : ∃ P, P = J + k := ⟨_, rfl⟩
          have HP := (show Hid (P = J + k) from hP)
          rw [← hP]
          rcases Nat.lt_or_ge P N with hkN | hkN
          · have hkS : P < S.size := by omega
            obtain ⟨c, hc⟩ : ∃ c, (S[P]'hkS).toNat = c := ⟨_, rfl⟩
            have hget := byte_of S l HL.out P hkS
            rw [hc] at hget
            have hget2 : (l.drop J)[k]? = some c := by rw [List.getElem?_drop, ← hP]; exact hget
            rcases Nat.lt_or_eq_of_le hk with hlt | heq
            · have hXk : X[k]? = some c := by
                rw [HX.out, digL_get _ k (by rw [← HX.out, ← HXL.out]; exact hlt)]
                exact hget2
              obtain ⟨c', h1, h2⟩ := runL_in 10 (l.drop J) k (by rw [← digL_len, ← HX.out, ← HXL.out]; exact hlt)
              rw [hget2] at h1
              injection h1 with h1
              rw [← h1] at h2
              have h34 := (digV_dig c).1 h2
              obtain ⟨h3, h4⟩ := h34
              have htk := take_next X k c hXk
              have HTK := (show Hid (X.take (k + 1) = X.take k ++ [c]) from htk)
              have k1 : (48 : Int) ≤ (c : Int) := by omega
              have k2 : (c : Int) ≤ 57 := by omega
              have hkX : k + 1 ≤ X.length := by rw [← HXL.out]; exact hlt
              have HKX := (show Hid (k + 1 ≤ X.length) from hkX)
              clear hget hget2 h1 h2 hXk htk hkX hP hlt hk
              rcases Nat.lt_or_ge v 100000 with hv1 | hv1
              · have k3 : (v : Int) < 100000 := by omega
                go_wp2
                refine ⟨?_, by simp [intOf]; omega⟩
                have := NwR.mk (w := w) (X := X) (j0 := J) (k + 1) (10 * v + (c - 48)) HKX.out (by rw [HTK.out]; exact HV.out.next ⟨h3, h4⟩ hv1) (by omega)
                rw [show ((J + (k + 1) : Nat) : Int) = (P : Int) + 1 by rw [HP.out]; omega, show ((10 * v + (c - 48) : Nat) : Int) = (v : Int) * 10 + (c : Int) - 48 by omega] at this
                exact this
              · have k3 : ¬ (v : Int) < 100000 := by omega
                go_wp2
                refine ⟨?_, by simp [intOf]; omega⟩
                have := NwR.mk (w := w) (X := X) (j0 := J) (k + 1) v HKX.out (by rw [HTK.out]; exact HV.out.stay hv1) hv2
                rw [show ((J + (k + 1) : Nat) : Int) = (P : Int) + 1 by rw [HP.out]; omega] at this
                exact this
            · have h2 := runL_end 10 (l.drop J) c (by rw [← digL_len, ← HX.out, ← HXL.out, ← heq]; exact hget2)
              rw [digV_dig] at h2
              have HVV : Hid (CapE 100000 X v) := by
                have := HV.out
                rw [List.take_of_length_le (by rw [← HXL.out]; omega)] at this
                exact this
              have HPX : Hid ((P : Int) = ((J + XL : Nat) : Int)) := by show _ = _; rw [HP.out, heq]
              clear hget hget2 heq hP hk
              rcases Nat.lt_or_ge c 48 with h3 | h3
              · have k1 : ¬ (48 : Int) ≤ (c : Int) := by omega
                clear h2
                go_wp2
                go_meet
                exact ⟨v, HVV.out, hv2, by rw [HPX.out], rfl, rfl⟩
              · have k1 : (48 : Int) ≤ (c : Int) := by omega
                have k2 : ¬ (c : Int) ≤ 57 := by omega
                clear h2
                go_wp2
                go_meet
                exact ⟨v, HVV.out, hv2, by rw [HPX.out], rfl, rfl⟩
          · have heq : k = XL := by omega
            have HVV : Hid (CapE 100000 X v) := by
              have := HV.out
              rw [List.take_of_length_le (by rw [← HXL.out]; omega)] at this
              exact this
            have HPX : Hid ((P : Int) = ((J + XL : Nat) : Int)) := by show _ = _; rw [HP.out, heq]
            have k1 : ¬ (P : Int) < (N : Int) := by omega
            clear heq hP hk hkN
            go_wp2
            go_meet
            exact ⟨v, HVV.out, hv2, by rw [HPX.out], rfl, rfl⟩
      case rest =>
      obtain ⟨v, hv, hv2, rfl, rfl, hwc⟩ := hcut
      obtain rfl := hwc.symm
      have HV : Hid (CapE 100000 X v) := hv
      clear hv
      by_cases hXn : X = []
      · have hx : expL (l.drop C) = none := by rw [HXX.out, if_pos hXn]
        have HX0 : Hid (expL (l.drop C) = none) := hx
        have hXL0 : XL = 0 := by rw [HXL.out, hXn]; rfl
        have k1 : ¬ (J : Int) < ((J + XL : Nat) : Int) := by omega
        have k2 : ¬ (J : Int) < (J : Int) + (XL : Int) := by omega
        clear hx hXn hXL0
        go_wp2
        go_ret3
        refine ⟨fun h => absurd h HAN.out, fun _ => ⟨0, ?_, ?_, rfl⟩⟩
        · rw [HX0.out]; rfl
        · rw [HX0.out, Int.add_zero]; rfl
      · have hx : expL (l.drop C) = some (sn, X, 1 + sc + X.length) := by rw [HXX.out, if_neg hXn]
        have HX0 : Hid (expL (l.drop C) = some (sn, X, 1 + sc + X.length)) := hx
        have hXL0 : 0 < XL := by rw [HXL.out]; exact List.length_pos_iff.2 hXn
        have k1 : (J : Int) < ((J + XL : Nat) : Int) := by omega
        have k2 : (J : Int) < (J : Int) + (XL : Int) := by omega
        have HI : Hid (((C + (1 + sc + X.length) : Nat) : Int) = (J : Int) + (XL : Int)) := by show _ = _; rw [HJ.out, HXL.out]; omega
        clear hx hXn hXL0
        cases sn
        · go_wp2
          go_ret3
          refine ⟨fun h => absurd h HAN.out, fun _ => ⟨(v : Int), ?_, ?_, rfl⟩⟩
          · rw [HX0.out]; exact ⟨v, HV.out, by simp⟩
          · rw [HX0.out]
            show _ = Ending.returned (.tuple #[_, _, .int .i64 ((C + (1 + sc + X.length) : Nat) : Int)])
            rw [HI.out]
            rfl
        · go_wp2
          go_ret3
          refine ⟨fun h => absurd h HAN.out, fun _ => ⟨-(v : Int), ?_, ?_, rfl⟩⟩
          · rw [HX0.out]; exact ⟨v, HV.out, by simp⟩
          · rw [HX0.out]
            show _ = Ending.returned (.tuple #[_, _, .int .i64 ((C + (1 + sc + X.length) : Nat) : Int)])
            rw [HI.out]
            rfl
end Go.Proofs.YtellndmbllmjgaaGreatDoor
/- The nearest word of a whole number of many words of 32 bits: its highest 64 bits, and one bit for all below them. -/
set_option linter.unusedVariables false
namespace Go.Proofs.YtellndmbllmjgaaGreatDoor
open Go.RowKit Go.Shelf Go.Sort Fs Fl

theorem pow_rel (H E a s : Nat) (h : E = H + 9) : 4 * a * (1 * 2 ^ (E + s)) = a * 2 ^ H * (2048 * 2 ^ s) := by
  subst h
  rw [show H + 9 + s = H + (s + 9) by omega, Nat.pow_add, Nat.pow_add]
  generalize 2 ^ H = z
  generalize 2 ^ s = y
  rw [Nat.one_mul, show (2 : Nat) ^ 9 = 512 from rfl]
  grind
theorem split_mul (Q u P r : Nat) : (2048 * Q + u) * P + r = Q * (2048 * P) + (u * P + r) := by grind
/-- The highest bits, and one bit for all below them. -/
def Sticky (t r T : Nat) : Prop := (r = 0 ∧ T = t) ∨ (0 < r ∧ t % 2 = 1 ∧ T = t) ∨ (0 < r ∧ t % 2 = 0 ∧ T = t + 1)
theorem sticky_near {N P t r T sh R0 : Nat} (hP : P = 2 ^ sh) (hN : N = t * P + r) (hr : r < P) (h1 : 9223372036854775808 ≤ t) (h2 : t < 18446744073709551616) (hT : Sticky t r T) (h0 : Near T 1 R0) :
    ∃ n, 4503599627370496 ≤ n ∧ n ≤ 9007199254740992 ∧ R0 = 1085 * 4503599627370496 + n ∧ Near N 1 ((1085 + sh) * 4503599627370496 + n) := by
  obtain ⟨u, hu⟩ : ∃ u, u = t % 2048 := ⟨_, rfl⟩
  obtain ⟨v, hv⟩ : ∃ v, v = T % 2048 := ⟨_, rfl⟩
  obtain ⟨Q, hQ⟩ : ∃ Q, Q = t / 2048 := ⟨_, rfl⟩
  have htq : t = 2048 * Q + u := by omega
  have hTq : T = Q * 2048 + v := by
    rcases hT with ⟨_, h⟩ | ⟨_, _, h⟩ | ⟨_, h3, h⟩ <;> omega
  have hvlt : v < 2048 := by omega
  have hult : u < 2048 := by omega
  have hQ1 : 4503599627370496 ≤ Q := by omega
  have hQ2 : Q < 9007199254740992 := by omega
  have key : (2048 < 2 * v ∨ (2 * v = 2048 ∧ Q % 2 = 1)) ↔ (2048 * P < 2 * (u * P + r) ∨ (2 * (u * P + r) = 2048 * P ∧ Q % 2 = 1)) := by
    rcases Nat.lt_trichotomy u 1024 with h | h | h
    · have m := Nat.mul_le_mul_right P (show u ≤ 1023 by omega)
      rcases hT with ⟨hr0, h⟩ | ⟨hr0, h3, h⟩ | ⟨hr0, h3, h⟩ <;> (constructor <;> intro hh <;> (exfalso; omega))
    · subst h
      rcases hT with ⟨hr0, h⟩ | ⟨hr0, h3, h⟩ | ⟨hr0, h3, h⟩
      · have hv' : v = 1024 := by omega
        subst hr0
        rw [hv']
        constructor
        · rintro (h | ⟨_, h⟩)
          · omega
          · exact .inr ⟨by omega, h⟩
        · rintro (h | ⟨_, h⟩)
          · omega
          · exact .inr ⟨by omega, h⟩
      · omega
      · have hv' : v = 1025 := by omega
        constructor
        · intro _; exact .inl (by omega)
        · intro _; exact .inl (by omega)
    · have m := Nat.mul_le_mul_right P (show 1025 ≤ u by omega)
      have hv' : 1025 ≤ v := by
        rcases hT with ⟨hr0, h⟩ | ⟨hr0, h3, h⟩ | ⟨hr0, h3, h⟩ <;> omega
      constructor
      · intro _; exact .inl (by omega)
      · intro _; exact .inl (by omega)
  obtain ⟨H, hH, e1⟩ := Z76_pw
  obtain ⟨E, hE⟩ : ∃ E, E = 1085 := ⟨_, rfl⟩
  have hz : ∀ a s : Nat, 4 * a * (1 * 2 ^ (E + s)) = a * Z76 * (2048 * 2 ^ s) := fun a s => by rw [e1]; exact pow_rel H E a s (by omega)
  obtain ⟨n, hn⟩ : ∃ n, (n = Q + 1 ∧ (2048 < 2 * v ∨ (2 * v = 2048 ∧ Q % 2 = 1))) ∨ (n = Q ∧ ¬ (2048 < 2 * v ∨ (2 * v = 2048 ∧ Q % 2 = 1))) := by
    by_cases h : (2048 < 2 * v ∨ (2 * v = 2048 ∧ Q % 2 = 1))
    · exact ⟨Q + 1, .inl ⟨rfl, h⟩⟩
    · exact ⟨Q, .inr ⟨rfl, h⟩⟩
  have ha := near_of (p := T) (q := 1) (a := T) (b := 2048) (e := E) (N := Q) (left := v) (n := n) (by omega) (by omega) hTq hvlt (by have := hz T 0; rw [Nat.add_zero, Nat.pow_zero, Nat.mul_one] at this; exact this) hQ2 (.inl hQ1) hn
  have hb := near_of (p := N) (q := 1) (a := N) (b := 2048 * P) (e := E + sh) (N := Q) (left := u * P + r) (n := n) (by omega) (by omega)
    (by rw [hN, htq]; exact split_mul Q u P r)
    (by have m := Nat.mul_le_mul_right P (show u ≤ 2047 by omega); omega)
    (by rw [hP]; exact hz N sh) hQ2 (.inl hQ1) (by rw [← key]; exact hn)
  rw [← hE]
  exact ⟨n, by omega, by omega, near_one (by omega) h0 ha, hb⟩
end Go.Proofs.YtellndmbllmjgaaGreatDoor
/- The program's whole numbers: words of 32 bits. -/
set_option linter.unusedVariables false
namespace Go.Proofs.YtellndmbllmjgaaGreatDoor
open Go.RowKit Go.Shelf Go.Sort Fs Fl

def val32 : List Nat → Nat
  | [] => 0
  | d :: l => d + 4294967296 * val32 l
def W32 (L : List Nat) : Prop := ∀ d ∈ L, d < 4294967296
/-- The slice v holds the words L; its row is one of the call's own. -/
def Own (base : Nat) (w : World) (v : Value) (L : List Nat) : Prop := w.ownsRow base 108 1 v L.length (L.map dv)
theorem Own.forms {base : Nat} {w : World} {v : Value} {L : List Nat} (h : Own base w v L) : (v = .slice none 0 0 ∧ L = []) ∨ ∃ g cap, v = .slice (some ⟨g, 0, none⟩) L.length cap ∧ base ≤ g ∧ g < w.heap.size ∧ L.length ≤ cap := by
  rcases h.2 with ⟨rfl, h0⟩ | ⟨g, cap, cur, rfl, hbg, hg, hle, hcap, hsz, htk⟩
  · exact .inl ⟨rfl, List.eq_nil_of_length_eq_zero h0⟩
  · exact .inr ⟨g, cap, rfl, hbg, lt_of_get hg, hle⟩
theorem Own.cell {base : Nat} {w : World} {g cap : Nat} {L : List Nat} (h : Own base w (.slice (some ⟨g, 0, none⟩) L.length cap) L) (j : Nat) (hj : j < L.length) : w.cell? ⟨g, j, none⟩ = some (.int .u32 ((L[j]?.getD 0 : Nat) : Int)) := by
  have := World.ownsRow.cellAt h j (by omega)
  rw [this, List.getElem?_map, List.getElem?_eq_getElem hj]
  rfl
theorem Own.frozen {base : Nat} {w : World} {g cap : Nat} {L : List Nat} (h : Own base w (.slice (some ⟨g, 0, none⟩) L.length cap) L) (j : Nat) : w.frozen? ⟨g, j, none⟩ = false := World.ownsRow.frozenAt h j
theorem Own.set {base : Nat} {w : World} {g cap : Nat} {L : List Nat} (h : Own base w (.slice (some ⟨g, 0, none⟩) L.length cap) L) (j d : Nat) : Own base (w.setCell ⟨g, j, none⟩ (.int .u32 (d : Int))) (.slice (some ⟨g, 0, none⟩) (L.set j d).length cap) (L.set j d) := by
  have := (World.ownsRow.stored h j (.int .u32 (d : Int))).1
  unfold Own
  rw [List.length_set, List.map_set]
  exact this
theorem Own.drewN {base : Nat} {w : World} {v : Value} {L : List Nat} (h : Own base w v L) (n : Nat) : Own base (w.drewN n) v L := h
theorem Own.pop {base : Nat} {w : World} {g cap z : Nat} {L : List Nat} (h : Own base w (.slice (some ⟨g, 0, none⟩) (L ++ [z]).length cap) (L ++ [z])) : Own base w (.slice (some ⟨g, 0, none⟩) L.length cap) L := by
  unfold Own at h ⊢
  rw [List.map_append, List.length_append] at h
  exact ownsRow_pop (by simp) h
/-- Without the noughts above. -/
def Top (L : List Nat) : Prop := ∀ z, L.getLast? = some z → z ≠ 0
end Go.Proofs.YtellndmbllmjgaaGreatDoor
