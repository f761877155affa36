/- The walk of the law's digitsOf. -/
import Derived.Test.YtellndmbllmjgaaGreatDoorCNbA
import Derived.Test.YtellndmbllmjgaaGreatDoorCRf1
set_option linter.unusedVariables false
namespace Go.Proofs.YtellndmbllmjgaaGreatDoor
open Go.RowKit Go.Shelf Go.Sort Fs Fl

inductive DgR9 (T : List Nat) : Value → Value → Value → Value → Value → Value → Value → Prop
  | mk (k : Nat) (D : ByteArray) (st : DS) (hk : k ≤ T.length) (hst : st = dfold ds0 (T.take k)) (hD : D = txt st.d) : DgR9 T (.string D) (.int .i64 st.point) (.bool st.seen) (.int .i64 st.e) (.bool st.minus) (.bool st.exp) (.int .i64 (k : Int))
theorem dfold_len (l : List Nat) : ∀ s : DS, (dfold s l).d.length ≤ s.d.length + l.length := by
  induction l with
  | nil => intro s; exact Nat.le_refl _
  | cons c l ih =>
    intro s
    have h1 := ih (dstep s c)
    have h2 : (dstep s c).d.length ≤ s.d.length + 1 := by
      unfold dstep
      repeat' split
      all_goals (try simp)
    rw [dfold_cons, List.length_cons]
    omega
theorem txt_empty (l : List Nat) : (txt l).toList.isEmpty = l.isEmpty := by
  rw [Lib.toList_data, txt_list]
  cases l <;> rfl
theorem dg_next (T : List Nat) (k c : Nat) (st st' : DS) (hc : T[k]? = some c) (hlt : k < T.length) (hst : st = dfold ds0 (T.take k)) (he : dstep st c = st') (D' : ByteArray) (hD : D' = txt st'.d) : DgR9 T (.string D') (.int .i64 st'.point) (.bool st'.seen) (.int .i64 st'.e) (.bool st'.minus) (.bool st'.exp) (.int .i64 ((k : Int) + 1)) := by
  refine .mk (k + 1) D' st' hlt ?_ hD
  rw [List.take_add_one, hc, dfold_append, ← hst]
  exact he.symm
theorem ds_e (st : DS) (E : Int) (h : st.exp = true) : { st with e := E } = { st with e := E, exp := true } := by cases st; simp at h; subst h; rfl
theorem ds_same (st : DS) (b : Bool) (h1 : st.seen = b) (h2 : st.exp = false) : st = { st with seen := b, exp := false } := by cases st; simp at h1 h2; subst h1; subst h2; rfl
theorem ds_point (st : DS) (p : Int) (h1 : st.seen = true) (h2 : st.exp = false) : { st with point := p } = { st with point := p, seen := true, exp := false } := by cases st; simp at h1 h2; subst h1; subst h2; rfl
theorem ds_d (st : DS) (l : List Nat) (p : Int) (b : Bool) (h1 : st.seen = b) (h2 : st.exp = false) : { st with d := l, point := p } = { st with d := l, point := p, seen := b, exp := false } := by cases st; simp at h1 h2; subst h1; subst h2; rfl
inductive Dg2 (f : List Nat) : Value → Prop
  | mk (l : List Nat) (D : ByteArray) (hD : D = txt l) (hl : l.length ≤ 1000) (hd : Dig l) (hr : rz l = rz f) : Dg2 f (.string D)
def strLen : Value → Nat
  | .string b => b.size
  | _ => 0
theorem dfold_digs (l : List Nat) : ∀ s : DS, Dig s.d → Dig (dfold s l).d := by
  induction l with
  | nil => intro s h; exact h
  | cons c l ih =>
    intro s h
    rw [dfold_cons]
    apply ih
    unfold dstep
    repeat' split
    all_goals first
      | exact h
      | (refine h.append ?_
         intro x hx
         have := List.mem_singleton.1 hx
         omega)
set_option maxRecDepth 100000 in
set_option maxHeartbeats 2000000 in
theorem digitsOf_walk (T : List Nat) (hlen : T.length ≤ 1000) (hT : ∀ c ∈ T, c = 101 ∨ c = 45 ∨ c = 46 ∨ c = 43 ∨ (48 ≤ c ∧ c ≤ 57)) (hE : (dfold ds0 T).e ≤ 1500) (w : World) :
    Calls Tryz.prog 23 #[.string (txt T)] w fun r w' => r = .returned (.tuple #[.string (txt (rz (dfold ds0 T).d)), .int .i64 ((dfold ds0 T).point + (if (dfold ds0 T).minus then -(dfold ds0 T).e else (dfold ds0 T).e))]) ∧ Below w.heap.size w w' := by
  have HT := (show Hid _ from hT)
  have HE : Hid ((dfold ds0 T).e ≤ 1500) := hE
  obtain ⟨S, hS⟩ : ∃ S, S = txt T := ⟨_, rfl⟩
  have hat : ∀ k c, T[k]? = some c → ∀ h : k < S.size, (S[k]'h).toNat = c := by
    intro k c hc h
    subst hS
    exact txt_get T k c hc (by have := hT c (List.mem_of_getElem? hc); omega) h
  have HAT := (show Hid _ from hat)
  have HS : Hid (S = txt T) := hS
  obtain ⟨N, hN⟩ : ∃ N, S.size = N := ⟨_, rfl⟩
  have hNT : T.length = N := by rw [← hN, hS, txt_size]
  have HNT : Hid (T.length = N) := hNT
  rw [hNT] at hlen
  rw [← hS]
  clear hT hE hS hat hNT
  obtain ⟨V, hV⟩ : ∃ V : Int, V = (dfold ds0 T).point + (if (dfold ds0 T).minus then -(dfold ds0 T).e else (dfold ds0 T).e) := ⟨_, rfl⟩
  obtain ⟨DD, hDD⟩ : ∃ DD, DD = txt (rz (dfold ds0 T).d) := ⟨_, rfl⟩
  rw [← hV, ← hDD]
  have HVV := (show Hid _ from hV)
  have HDD0 := (show Hid _ from hDD)
  clear hV hDD
  go_enter Tryz.func23, Tryz.ntmps23
  go_wp2
  go_loopw [4, 5, 6, 7, 8, 9, 10] (fun d p sn e mi ex vi wr => DgR9 T d p sn e mi ex vi ∧ Below w.heap.size w wr) (fun _ _ _ _ _ _ vi _ => N - (intOf vi).toNat)
  case atStart => exact ⟨DgR9.mk 0 _ ds0 (Nat.zero_le _) rfl rfl, Below.refl _ _⟩
  case round =>
    obtain ⟨hR, hbw⟩ := hrel
    obtain ⟨k, D, st, hk, hst, hD⟩ := hR
    have hpb := prefix_bounds T k
    rw [← hst] at hpb
    have hE := HE.out
    have hNT := HNT.out
    have he0 : 0 ≤ st.e := hpb.1
    have he1 : st.e ≤ 1500 := by omega
    have hp0 : -1000 ≤ st.point := by omega
    have hp1 : st.point ≤ 1000 := by omega
    have hDl : D.size ≤ 1000 := by
      rw [hD, txt_size, hst]
      have := dfold_len (T.take k) ds0
      have h2 : (T.take k).length ≤ T.length := by simp; omega
      have h3 : ds0.d.length = 0 := rfl
      omega
    have hem := txt_empty st.d
    rw [← hD] at hem
    have HD : Hid (D = txt st.d) := hD
    have HST : Hid (st = dfold ds0 (T.take k)) := hst
    clear hpb hE hD hst
    rcases Nat.lt_or_eq_of_le hk with hlt | heq
    · obtain ⟨c, hc⟩ : ∃ c, T[k]? = some c := ⟨_, List.getElem?_eq_getElem hlt⟩
      have hcT := HT.out c (List.mem_of_getElem? hc)
      have hkS : k < S.size := by omega
      have hkN : k < N := by omega
      have hac := HAT.out k c hc hkS
      have nx := dg_next T k c st
      have NX : Hid (∀ (st' : DS) (D' : ByteArray) (W : World), dstep st c = st' → D' = txt st'.d → Below w.heap.size w W → (DgR9 T (.string D') (.int .i64 st'.point) (.bool st'.seen) (.int .i64 st'.e) (.bool st'.minus) (.bool st'.exp) (.int .i64 ((k : Int) + 1)) ∧ Below w.heap.size w W) ∧ N - (intOf (.int .i64 ((k : Int) + 1))).toNat < N - (intOf (.int .i64 (k : Int))).toNat) := by
        intro st' D' W h1 h2 h3
        exact ⟨⟨nx st' hc hlt HST.out h1 D' h2, h3⟩, by simp [intOf]; omega⟩
      have hcat : Hid (D ++ S.extract k (k + 1) = txt (st.d ++ [c])) := by
        show D ++ S.extract k (k + 1) = _
        rw [HD.out, HS.out, txt_extract, txt_append, show k + 1 - k = 1 by omega]
        congr 2
        have : T.drop k = c :: T.drop (k + 1) := by
          rw [List.drop_eq_getElem_cons hlt]
          rw [List.getElem?_eq_getElem hlt] at hc
          rw [Option.some.inj hc]
        rw [this]
        rfl
      have hxs : (S.extract k (k + 1)).size = 1 := by simp; omega
      clear hc nx hk hNT
      rcases hcT with rfl | rfl | rfl | rfl | ⟨h1, h2⟩
      · go_wp2
        exact NX.out { st with exp := true } _ _ (by unfold dstep; rw [if_pos rfl]) HD.out hbw
      · go_wp2
        exact NX.out { st with minus := st.exp } _ _ (by unfold dstep; rw [if_neg (by decide), if_pos rfl]) HD.out hbw
      · go_wp2
        exact NX.out { st with seen := true } _ _ (by unfold dstep; rw [if_neg (by decide), if_neg (by decide), if_pos rfl]) HD.out hbw
      · go_wp2
        exact NX.out _ _ _ (by unfold dstep; rw [if_neg (by decide), if_neg (by decide), if_neg (by decide), if_neg (by simp), if_neg (by decide)]) HD.out hbw
      · have g1 : 48 ≤ (c : Int) := by omega
        have g2 : (c : Int) ≤ 57 := by omega
        have g3 : ((c : Int) == 101) = false := by rw [beq_eq_false_iff_ne]; omega
        have g4 : ((c : Int) == 45) = false := by rw [beq_eq_false_iff_ne]; omega
        have g5 : ((c : Int) == 46) = false := by rw [beq_eq_false_iff_ne]; omega
        have hb : dstep st c = (if (48 ≤ c ∧ c ≤ 57) ∧ st.exp = true then { st with e := st.e * 10 + (c : Int) - 48 } else if st.d = [] ∧ c = 48 then (if st.seen then { st with point := st.point - 1 } else st) else { st with d := st.d ++ [c], point := if st.seen then st.point else st.point + 1 }) := by
          unfold dstep
          rw [if_neg (by omega), if_neg (by omega), if_neg (by omega)]
          split
          · rfl
          · rw [if_pos ⟨h1, h2⟩]
        have HB := (show Hid _ from hb)
        clear hb
        have HC : Hid (48 ≤ c ∧ c ≤ 57) := ⟨h1, h2⟩
        clear h1 h2
        cases hx : st.exp
        · have HX : Hid (st.exp = false) := hx
          by_cases hd : st.d = []
          · have HDD : Hid (st.d = []) := hd
            have hem2 : D.toList.isEmpty = true := by rw [hem, hd]; rfl
            clear hem hd
            by_cases h48 : c = 48
            · have H48 : Hid (c = 48) := h48
              have g6 : ((c : Int) == 48) = true := by rw [beq_iff_eq]; omega
              clear h48
              cases hsn : st.seen
              · have HSN : Hid (st.seen = false) := hsn
                go_wp2
                exact NX.out { st with seen := false, exp := false } _ _ (by rw [HB.out, if_neg (by rw [HX.out]; simp), if_pos ⟨HDD.out, H48.out⟩, if_neg (by rw [HSN.out]; simp)]; exact ds_same st false HSN.out HX.out) HD.out hbw
              · have HSN : Hid (st.seen = true) := hsn
                go_wp2
                exact NX.out { st with point := st.point - 1, seen := true, exp := false } _ _ (by rw [HB.out, if_neg (by rw [HX.out]; simp), if_pos ⟨HDD.out, H48.out⟩, if_pos HSN.out]; exact ds_point st _ HSN.out HX.out) HD.out hbw
            · have H48 : Hid (¬ c = 48) := h48
              have g6 : ((c : Int) == 48) = false := by rw [beq_eq_false_iff_ne]; omega
              clear h48
              cases hsn : st.seen
              · have HSN : Hid (st.seen = false) := hsn
                go_wp2
                exact NX.out { st with d := st.d ++ [c], point := st.point + 1, seen := false, exp := false } _ _ (by rw [HB.out, if_neg (by rw [HX.out]; simp), if_neg (fun h => H48.out h.2), if_neg (show ¬ st.seen = true by rw [HSN.out]; simp)]; exact ds_d st _ _ false HSN.out HX.out) hcat.out hbw
              · have HSN : Hid (st.seen = true) := hsn
                go_wp2
                exact NX.out { st with d := st.d ++ [c], point := st.point, seen := true, exp := false } _ _ (by rw [HB.out, if_neg (by rw [HX.out]; simp), if_neg (fun h => H48.out h.2), if_pos HSN.out]; exact ds_d st _ _ true HSN.out HX.out) hcat.out hbw
          · have HDD : Hid (¬ st.d = []) := hd
            have hem2 : D.toList.isEmpty = false := by
              rw [hem]
              cases hh : st.d with
              | nil => exact absurd hh hd
              | cons _ _ => rfl
            clear hem hd
            cases hsn : st.seen
            · have HSN : Hid (st.seen = false) := hsn
              go_wp2
              exact NX.out { st with d := st.d ++ [c], point := st.point + 1, seen := false, exp := false } _ _ (by rw [HB.out, if_neg (by rw [HX.out]; simp), if_neg (fun h => HDD.out h.1), if_neg (show ¬ st.seen = true by rw [HSN.out]; simp)]; exact ds_d st _ _ false HSN.out HX.out) hcat.out hbw
            · have HSN : Hid (st.seen = true) := hsn
              go_wp2
              exact NX.out { st with d := st.d ++ [c], point := st.point, seen := true, exp := false } _ _ (by rw [HB.out, if_neg (by rw [HX.out]; simp), if_neg (fun h => HDD.out h.1), if_pos HSN.out]; exact ds_d st _ _ true HSN.out HX.out) hcat.out hbw
        · have HX : Hid (st.exp = true) := hx
          go_wp2
          exact NX.out { st with e := st.e * 10 + (c : Int) - 48, exp := true } _ _ (by rw [HB.out, if_pos ⟨HC.out, HX.out⟩]; exact ds_e st _ HX.out) HD.out hbw
    · have hkN : ¬ (k : Int) < (N : Int) := by omega
      have hf : st = dfold ds0 T := by rw [HST.out, heq, List.take_of_length_le (Nat.le_refl _)]
      have HFd : Hid (st = dfold ds0 T) := hf
      have hdg : Dig st.d := by rw [hf]; exact dfold_digs T ds0 (fun c hc => by simp [ds0] at hc)
      have HDG : Hid (Dig st.d) := hdg
      have hdl : st.d.length ≤ 1000 := by rw [← txt_size, ← HD.out]; exact hDl
      have HDL : Hid (st.d.length ≤ 1000) := hdl
      clear hf hdg hdl heq hk hem hNT
      go_wp2
      go_loopw [4] (fun d w2 => Dg2 st.d d ∧ Below w.heap.size w w2) (fun d _ => strLen d)
      case atStart => exact ⟨.mk st.d D HD.out HDL.out HDG.out rfl, hbw⟩
      case round =>
        obtain ⟨hR2, hbw2⟩ := hrel
        obtain ⟨l, D2, hD2, hl2, hd2, hr2⟩ := hR2
        rcases List.eq_nil_or_concat l with hnil | ⟨m, x, hmx⟩
        · have hz : D2.size = 0 := by rw [hD2, hnil, txt_size]; rfl
          have hfin : D2 = txt (rz st.d) := by rw [← hr2, hD2, hnil]; rfl
          have HFN : Hid (D2 = txt (rz st.d)) := hfin
          clear hD2 hr2 hnil hfin hl2 hd2
          have POST : Hid (∀ (v : Int) (W : World), v = st.point + (if st.minus then -st.e else st.e) → Below w.heap.size w W → Ending.returned (.tuple #[.string D2, .int .i64 v]) = .returned (.tuple #[.string DD, .int .i64 V]) ∧ Below w.heap.size w W) := by
            intro v W hv hW
            rw [HVV.out, HDD0.out, ← HFd.out, hv, ← HFN.out]
            exact ⟨rfl, hW⟩
          cases hmi : st.minus
          · have HMI : Hid (st.minus = false) := hmi
            go_wp2
            go_ret2
            exact POST.out (st.point + st.e) _ (by rw [HMI.out]; rfl) hbw2
          · have HMI : Hid (st.minus = true) := hmi
            go_wp2
            go_ret2
            exact POST.out (st.point + -st.e) _ (by rw [HMI.out]; rfl) hbw2
        · rw [List.concat_eq_append] at hmx
          obtain ⟨M, hM⟩ : ∃ M, m.length = M := ⟨_, rfl⟩
          have hsz2 : D2.size = M + 1 := by rw [hD2, hmx, txt_size]; simp; omega
          have hml : M < D2.size := by omega
          have hx := hd2 x (by rw [hmx]; simp)
          have hax : (D2[M]'hml).toNat = x := by
            subst hD2
            subst hM
            exact txt_get l m.length x (by rw [hmx]; simp) (by omega) hml
          have hl3 : M ≤ 1000 := by rw [hmx] at hl2; simp at hl2; omega
          by_cases h48 : x = 48
          · have hext : D2.extract 0 M = txt m := by
              rw [hD2, txt_extract, hmx, ← hM]
              simp
            have hnx : Hid (Dg2 st.d (.string (D2.extract 0 M))) := by
              refine .mk m _ hext (by omega) (by rw [hmx] at hd2; exact hd2.left) ?_
              rw [← hr2, hmx, rz_snoc, if_pos h48]
            subst h48
            have hxs2 : (D2.extract 0 M).size = M := by simp; omega
            have HXS : Hid ((D2.extract 0 M).size = M ∧ D2.size = M + 1) := ⟨hxs2, hsz2⟩
            clear hD2 hmx hd2 hr2 hx hext hl2 hM
            go_wp2
            exact ⟨⟨hnx.out, hbw2⟩, by have := HXS.out; simp only [strLen]; omega⟩
          · have g6 : ((x : Int) == 48) = false := by rw [beq_eq_false_iff_ne]; omega
            have hfin : D2 = txt (rz st.d) := by rw [← hr2, hD2, hmx, rz_snoc, if_neg h48]
            have HFN : Hid (D2 = txt (rz st.d)) := hfin
            have POST : Hid (∀ (v : Int) (W : World), v = st.point + (if st.minus then -st.e else st.e) → Below w.heap.size w W → Ending.returned (.tuple #[.string D2, .int .i64 v]) = .returned (.tuple #[.string DD, .int .i64 V]) ∧ Below w.heap.size w W) := by
              intro v W hv hW
              rw [HVV.out, HDD0.out, ← HFd.out, hv, ← HFN.out]
              exact ⟨rfl, hW⟩
            clear hD2 hmx hd2 hr2 hx hl2 hfin h48 hM
            cases hmi : st.minus
            · have HMI : Hid (st.minus = false) := hmi
              go_wp2
              go_ret2
              exact POST.out (st.point + st.e) _ (by rw [HMI.out]; rfl) hbw2
            · have HMI : Hid (st.minus = true) := hmi
              go_wp2
              go_ret2
              exact POST.out (st.point + -st.e) _ (by rw [HMI.out]; rfl) hbw2
end Go.Proofs.YtellndmbllmjgaaGreatDoor
