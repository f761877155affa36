/- The walks of special and readFloat. -/
import Derived.Test.YtellndmbllmjgaaGreatDoorCPf0
import Derived.Test.YtellndmbllmjgaaGreatDoorCTxA
import Derived.Test.YtellndmbllmjgaaGreatDoorCRd1
import Derived.WalkMore
set_option linter.unusedVariables false
namespace Go.Proofs.YtellndmbllmjgaaGreatDoor
open Go.RowKit Go.Shelf Go.Sort Fs Fl

theorem txt_get (l : List Nat) (k c : Nat) (hl : l[k]? = some c) (hc : c < 256) : ∀ h : k < (txt l).size, ((txt l)[k]'h).toNat = c := by
  intro h
  have h2 : k < l.length := by rw [txt_size] at h; exact h
  have e1 : (txt l)[k]'h = UInt8.ofNat (l[k]) := by
    show (txt l).data[k] = _
    simp [txt]
  rw [e1]
  rw [List.getElem?_eq_getElem h2] at hl
  rw [Option.some.inj hl, UInt8.toNat_ofNat', Nat.mod_eq_of_lt hc]
set_option maxRecDepth 100000 in
set_option maxHeartbeats 1000000 in
theorem special_no (S : ByteArray) (hs : 0 < S.size) (h0 : ∀ h : 0 < S.size, (S[0]'h).toNat = 48) (w : World) :
    Calls Tryz.prog 286 #[.string S] w fun r w' => r = .returned (.tuple #[.float .f64 0, .int .i64 0, .bool false]) ∧ w' = w := by
  have h1 := h0 hs
  have hs1 : (0 : Int) < (S.size : Int) := by omega
  have hs2 : ((S.size : Int) == 0) = false := by rw [beq_eq_false_iff_ne]; omega
  clear h0
  go_enter Tryz.func286, Tryz.ntmps286
  go_wp2
  go_ret3
  exact ⟨rfl, rfl⟩
/-- How far the reader of digits has come. -/
inductive RfS (D : List Nat) : Value → Value → Value → Value → Value → Value → Value → Prop
  | a : RfS D (.int .u64 0) (.int .i64 0) (.bool false) (.bool false) (.int .i64 0) (.int .i64 0) (.int .i64 0)
  | b : RfS D (.int .u64 0) (.int .i64 1) (.bool false) (.bool true) (.int .i64 0) (.int .i64 0) (.int .i64 (-1))
  | c (k i m x : Nat) (hk : k ≤ D.length) (hi : i = 2 + k) (hm : m = vD (D.take (min k 19))) (hx : x = min k 19) : RfS D (.int .u64 (m : Int)) (.int .i64 (i : Int)) (.bool true) (.bool true) (.int .i64 (k : Int)) (.int .i64 (x : Int)) (.int .i64 0)
inductive Rf2 (X : List Nat) (p0 : Nat) : Value → Value → Prop
  | mk (t q v : Nat) (ht : t ≤ X.length) (hq : q = p0 + t) (hv : v = vD (X.take t)) (hv2 : v < 1000) : Rf2 X p0 (.int .i64 (q : Int)) (.int .i64 (v : Int))
theorem vD_first (D : List Nat) (hD : Dig D) (h0 : 0 < D.length) (hf : D[0]? ≠ some 48) (j : Nat) (hj : 0 < j) : 0 < vD (D.take j) := by
  cases D with
  | nil => simp at h0
  | cons c l =>
    obtain ⟨j', rfl⟩ : ∃ j', j = j' + 1 := ⟨j - 1, by omega⟩
    have hc := hD c (by simp)
    have hn : c ≠ 48 := fun h => hf (by simp [h])
    have := vD_ge c (l.take j') (by omega)
    have hp : 0 < 10 ^ (l.take j').length := Nat.pow_pos (by decide)
    rw [List.take_succ_cons]
    omega
theorem results_tmp7 {fn : Func} {a b c d e f g : Tmp} (h : fn.results = #[.tmp a, .tmp b, .tmp c, .tmp d, .tmp e, .tmp f, .tmp g]) (tmps : Array Value) (P : Program) (w : World) :
    (results fn tmps).run P w = .ok (.tuple #[tmps.getD a undef, tmps.getD b undef, tmps.getD c undef, tmps.getD d undef, tmps.getD e undef, tmps.getD f undef, tmps.getD g undef]) w := by
  simp [results, h]
set_option maxRecDepth 100000 in
set_option maxHeartbeats 4000000 in
theorem readFloat_walk (S : ByteArray) (D X : List Nat) (sg : List Nat) (n : Int) (hs : S.size = 3 + D.length + sg.length + X.length) (hat : ∀ k c, (48 :: 46 :: (D ++ 101 :: (sg ++ X)))[k]? = some c → ∀ h : k < S.size, (S[k]'h).toNat = c)
    (hD : Dig D) (hD0 : 0 < D.length) (hDl : D.length ≤ 40) (hfirst : D[0]? ≠ some 48) (hz : ∀ k c, 19 ≤ k → D[k]? = some c → c = 48) (hX : Dig X) (hX0 : 0 < X.length) (hX3 : X.length ≤ 3) (hsg : (sg = [] ∧ n = (vD X : Int)) ∨ (sg = [45] ∧ n = -(vD X : Int))) (w : World) :
    Calls Tryz.prog 287 #[.string S] w fun r w' => r = .returned (.tuple #[.int .u64 (vD (D.take 19) : Nat), .int .i64 (n - (min D.length 19 : Nat)), .bool false, .bool false, .bool false, .int .i64 (S.size : Int), .bool true]) ∧ Below w.heap.size w w' := by
  have hlt0 : 0 < S.size := by omega
  have hlt1 : 1 < S.size := by omega
  have a0 := hat 0 48 rfl hlt0
  have a1 := hat 1 46 rfl hlt1
  have cl := Tryz.internal_strconv_lower 46
  have e1 : bits .or .u8 46 32 = 46 := by decide
  rw [e1] at cl
  have HAT := (show Hid _ from hat)
  have HS : Hid (S.size = 3 + D.length + sg.length + X.length) := hs
  have hsz : 5 ≤ S.size := by omega
  have hsz2 : S.size ≤ 100 := by rcases hsg with ⟨h, _⟩ | ⟨h, _⟩ <;> rw [h] at hs <;> simp at hs <;> omega
  have HSG := (show Hid _ from hsg)
  have HZ := (show Hid _ from hz)
  have HF := (show Hid _ from hfirst)
  have HD : Hid (Dig D) := hD
  have HX : Hid (Dig X) := hX
  clear e1 hat hs hsg hz hfirst hD hX
  obtain ⟨N, hN⟩ : ∃ N, S.size = N := ⟨_, rfl⟩
  rw [hN]
  have hn5 : 5 ≤ N := by omega
  have hn100 : N ≤ 100 := by omega
  clear hsz hsz2
  go_enter Tryz.func287, Tryz.ntmps287
  go_wp2
  apply wp_scope_straight
  go_wp2_with (first | (go_at_call 250; refine (cl _).mono ?_; rintro e w' ⟨rfl, rfl⟩))
  apply wp_label
  go_wp2
  clear cl a0 a1
  go_loopw [2, 5, 7, 9, 13, 14, 15, 16, 17] (fun m tr i us sd sg nd nm dp wr => RfS D m i sd sg nd nm dp ∧ tr = .bool false ∧ us = .bool false ∧ Below w'.heap.size w' wr) (fun _ _ i _ _ _ _ _ _ _ => N - (intOf i).toNat)
  case atStart => exact ⟨.a, rfl, rfl, Below.refl _ _⟩
  case round =>
    obtain ⟨hR, rfl, rfl, hbw⟩ := hrel
    cases hR with
    | a =>
      have a0 := HAT.out 0 48 rfl hlt0
      go_wp2
      exact ⟨⟨.b, rfl, rfl, hbw⟩, by simp [intOf]; omega⟩
    | b =>
      have a1 := HAT.out 1 46 rfl hlt1
      go_wp2
      exact ⟨⟨.c 0 2 0 0 (by omega) rfl rfl rfl, rfl, rfl, hbw⟩, by simp [intOf]; omega⟩
    | c k i m x hk hi hm hx =>
      rcases Nat.lt_or_eq_of_le hk with hlt | heq
      · obtain ⟨ch, hch⟩ : ∃ ch, D[k]? = some ch := ⟨_, List.getElem?_eq_getElem hlt⟩
        have hg := HD.out ch (List.mem_of_getElem? hch)
        have hil : i < S.size := by rw [HS.out]; omega
        have hac := HAT.out i ch (by rw [hi, Nat.add_comm]; simp only [List.getElem?_cons_succ]; rw [List.getElem?_append_left hlt]; exact hch) hil
        have hiN : i < N := by omega
        have g1 : 48 ≤ (ch : Int) := by omega
        have g2 : (ch : Int) ≤ 57 := by omega
        have g3 : ((ch : Int) == 95) = false := by rw [beq_eq_false_iff_ne]; omega
        have g4 : ((ch : Int) == 46) = false := by rw [beq_eq_false_iff_ne]; omega
        have g5 : ((ch : Int) == 48 && (k : Int) == 0) = false := by
          rcases Nat.eq_zero_or_pos k with h0 | h0
          · have : ch ≠ 48 := fun h => HF.out (by rw [← h0, ← h]; exact hch)
            have e : ((ch : Int) == 48) = false := by rw [beq_eq_false_iff_ne]; omega
            rw [e]; rfl
          · have e : ((k : Int) == 0) = false := by rw [beq_eq_false_iff_ne]; omega
            rw [e, Bool.and_false]
        have g6 : ((ch : Int) == 48) = false ∨ ((k : Int) == 0) = false := by
          cases h1 : ((ch : Int) == 48)
          · exact .inl rfl
          · right; rw [h1] at g5; simpa using g5
        have htk : D.take (k + 1) = D.take k ++ [ch] := by rw [List.take_add_one, hch]; rfl
        have HTK := (show Hid _ from htk)
        have HM := (show Hid _ from hm)
        have HI : Hid (i = 2 + k) := hi
        have HGD : Hid (48 ≤ ch ∧ ch < 58) := hg
        have HCH := (show Hid _ from hch)
        rcases Nat.lt_or_ge k 19 with h19 | h19
        · have hx' : x = k := by omega
          have hx19 : (x : Int) < 19 := by omega
          have hmb : m < 1000000000000000000 := by
            have h1 := vD_lt (D.take k) (HD.out.take k)
            have h2 : (D.take k).length ≤ 18 := by simp; omega
            have h3 : 10 ^ (D.take k).length ≤ 10 ^ 18 := Nat.pow_le_pow_right (by decide) h2
            rw [hm, show min k 19 = k by omega]
            omega
          have HXX : Hid (x = k) := hx'
          clear htk hm hi hg hch g5 hx hx'
          have fin : ∀ (W : World), Below w'.heap.size w' W → (RfS D (.int .u64 ((m : Int) * 10 + ((ch : Int) - 48))) (.int .i64 ((i : Int) + 1)) (.bool true) (.bool true) (.int .i64 ((k : Int) + 1)) (.int .i64 ((x : Int) + 1)) (.int .i64 0) ∧ Value.bool false = .bool false ∧ Value.bool false = .bool false ∧ Below w'.heap.size w' W) ∧ N - (intOf (.int .i64 ((i : Int) + 1))).toNat < N - (intOf (.int .i64 (i : Int))).toNat := by
            intro W hW
            have hg := HGD.out
            have hx' := HXX.out
            have e1 : (m : Int) * 10 + ((ch : Int) - 48) = ((m * 10 + (ch - 48) : Nat) : Int) := by omega
            refine ⟨⟨?_, rfl, rfl, hW⟩, by simp [intOf]; omega⟩
            rw [e1]
            exact .c (k + 1) (i + 1) _ (x + 1) hlt (by have := HI.out; omega) (by rw [show min (k + 1) 19 = k + 1 by omega, HTK.out, vD_snoc, HM.out, show min k 19 = k by omega]) (by omega)
          have FIN := (show Hid _ from fin)
          clear fin
          by_cases h48 : ch = 48
          · subst h48
            have hk0 : ((k : Int) == 0) = false := by
              rcases g6 with g6 | g6
              · simp at g6
              · exact g6
            have FIN2 : Hid (∀ (W : World), Below w'.heap.size w' W → (RfS D (.int .u64 ((m : Int) * 10)) (.int .i64 ((i : Int) + 1)) (.bool true) (.bool true) (.int .i64 ((k : Int) + 1)) (.int .i64 ((x : Int) + 1)) (.int .i64 0) ∧ Value.bool false = .bool false ∧ Value.bool false = .bool false ∧ Below w'.heap.size w' W) ∧ N - (intOf (.int .i64 ((i : Int) + 1))).toNat < N - (intOf (.int .i64 (i : Int))).toNat) := by
              intro W hW
              have := FIN.out W hW
              rwa [show (m : Int) * 10 + (((48 : Nat) : Int) - 48) = (m : Int) * 10 by omega] at this
            clear g6 FIN
            go_wp2
            exact FIN2.out _ hbw
          · have g7 : ((ch : Int) == 48) = false := by rw [beq_eq_false_iff_ne]; omega
            clear g6
            go_wp2
            exact FIN.out _ hbw
        · have hx' : x = 19 := by omega
          have hc48 := HZ.out k ch h19 hch
          subst hc48
          have hk0 : ((k : Int) == 0) = false := by rw [beq_eq_false_iff_ne]; omega
          have HXX : Hid (x = 19) := hx'
          have fin : ∀ (W : World), Below w'.heap.size w' W → (RfS D (.int .u64 (m : Int)) (.int .i64 ((i : Int) + 1)) (.bool true) (.bool true) (.int .i64 ((k : Int) + 1)) (.int .i64 19) (.int .i64 0) ∧ Value.bool false = .bool false ∧ Value.bool false = .bool false ∧ Below w'.heap.size w' W) ∧ N - (intOf (.int .i64 ((i : Int) + 1))).toNat < N - (intOf (.int .i64 (i : Int))).toNat := by
            intro W hW
            refine ⟨⟨?_, rfl, rfl, hW⟩, by simp [intOf]; omega⟩
            exact .c (k + 1) (i + 1) m 19 hlt (by have := HI.out; omega) (by rw [HM.out, show min (k + 1) 19 = min k 19 by omega]) (by omega)
          have FIN := (show Hid _ from fin)
          subst hx'
          clear htk hm hi hg hch g5 hx fin g6
          go_wp2
          exact FIN.out _ hbw
      · have hil : i < S.size := by rw [HS.out]; omega
        have hac := HAT.out i 101 (by rw [hi, heq, Nat.add_comm]; simp only [List.getElem?_cons_succ]; rw [List.getElem?_append_right (Nat.le_refl _)]; simp) hil
        have cl := Tryz.internal_strconv_lower 101
        have e1 : bits .or .u8 101 32 = 101 := by decide
        rw [e1] at cl
        clear e1
        have HM := (show Hid _ from hm)
        have HI : Hid (i = 2 + k) := hi
        have HE : Hid (k = D.length) := heq
        have HXx : Hid (x = min k 19) := hx
        have hx19 : x ≤ 19 := by omega
        have hm0 : ((m : Int) != 0) = true := by
          have := vD_first D HD.out hD0 HF.out (min k 19) (by omega)
          rw [← hm] at this
          rw [bne_iff_ne]
          omega
        have hiN : i + 1 < N := by have := HS.out; omega
        clear hm hi heq hx
        rcases HSG.out with ⟨hs1, hn1⟩ | ⟨hs1, hn1⟩
        · obtain ⟨c1, hc1⟩ : ∃ c1, X[0]? = some c1 := ⟨_, List.getElem?_eq_getElem hX0⟩
          have hg := HX.out c1 (List.mem_of_getElem? hc1)
          have hil2 : i + 1 < S.size := by omega
          have hac2 := HAT.out (i + 1) c1 (by have h1 := HI.out; have h2 := HE.out; rw [show i + 1 = (D.length + 1) + 1 + 1 by omega]; simp only [List.getElem?_cons_succ]; rw [List.getElem?_append_right (by omega), hs1, show D.length + 1 - D.length = 0 + 1 by omega]; simpa using hc1) hil2
          have g1 : 48 ≤ (c1 : Int) := by omega
          have g2 : (c1 : Int) ≤ 57 := by omega
          have g3 : ((c1 : Int) == 43) = false := by rw [beq_eq_false_iff_ne]; omega
          have g4 : ((c1 : Int) == 45) = false := by rw [beq_eq_false_iff_ne]; omega
          go_wp2_with (first | (go_at_call 250; refine (cl _).mono ?_; rintro e w2 ⟨rfl, rfl⟩))
          have hp : Hid (N = (i + 1) + X.length) := by have h1 := HS.out; have h2 := HI.out; have h3 := HE.out; rw [hs1] at h1; simp only [List.length_nil] at h1; show N = _; omega
          have HAX : Hid (∀ t c, X[t]? = some c → ∀ h : (i + 1) + t < S.size, (S[(i + 1) + t]'h).toNat = c) := by
            intro t c hc h
            have h1 := HI.out
            have h2 := HE.out
            refine HAT.out ((i + 1) + t) c ?_ h
            rw [show (i + 1) + t = (D.length + 1 + t) + 1 + 1 by omega]
            simp only [List.getElem?_cons_succ]
            rw [List.getElem?_append_right (by omega), hs1, show D.length + 1 + t - D.length = (t) + 1 by omega]
            simpa using hc
          clear hac cl hac2 hc1 hg g1 g2 g3 g4
          go_loopw [7, 9, 20] (fun vi us ve wr => Rf2 X (i + 1) vi ve ∧ us = .bool false ∧ Below w'.heap.size w' wr) (fun vi _ _ _ => N - (intOf vi).toNat)
          case atStart => exact ⟨by have := Rf2.mk (X := X) (p0 := (i + 1)) 0 (i + 1) 0 (Nat.zero_le _) rfl rfl (by decide); simpa using this, rfl, hbw⟩
          case round =>
            obtain ⟨hR2, rfl, hbw2⟩ := hrel
            obtain ⟨t, q, v, ht, hq, hv, hv2⟩ := hR2
            have hp' := hp.out
            have hqb : q ≤ N := by omega
            have HV : Hid (v = vD (X.take t)) := hv
            have HQ : Hid (q = (i + 1) + t) := hq
            clear hv
            rcases Nat.lt_or_eq_of_le ht with hlt | heq
            · obtain ⟨c2, hc2⟩ : ∃ c2, X[t]? = some c2 := ⟨_, List.getElem?_eq_getElem hlt⟩
              have hg2 := HX.out c2 (List.mem_of_getElem? hc2)
              have hql : q < S.size := by omega
              have hqN : q < N := by omega
              have hac3 : (S[q]'hql).toNat = c2 := by subst hq; exact HAX.out t c2 hc2 hql
              have k1 : 48 ≤ (c2 : Int) := by omega
              have k2 : (c2 : Int) ≤ 57 := by omega
              have k3 : ((c2 : Int) == 95) = false := by rw [beq_eq_false_iff_ne]; omega
              have k4 : (v : Int) < 10000 := by omega
              have fin : ∀ (W : World), Below w'.heap.size w' W → (Rf2 X (i + 1) (.int .i64 ((q : Int) + 1)) (.int .i64 ((v : Int) * 10 + (c2 : Int) - 48)) ∧ Value.bool false = .bool false ∧ Below w'.heap.size w' W) ∧ N - (intOf (.int .i64 ((q : Int) + 1))).toNat < N - (intOf (.int .i64 (q : Int))).toNat := by
                intro W hW
                have htk : X.take (t + 1) = X.take t ++ [c2] := by rw [List.take_add_one, hc2]; rfl
                have hb3 := vD_lt (X.take (t + 1)) (HX.out.take _)
                have hl3 : (X.take (t + 1)).length ≤ 3 := by simp; omega
                have hp3 : 10 ^ (X.take (t + 1)).length ≤ 10 ^ 3 := Nat.pow_le_pow_right (by decide) hl3
                have hvv : vD (X.take (t + 1)) = v * 10 + (c2 - 48) := by rw [htk, vD_snoc, ← HV.out]
                have e1 : (v : Int) * 10 + (c2 : Int) - 48 = ((v * 10 + (c2 - 48) : Nat) : Int) := by omega
                refine ⟨⟨?_, rfl, hW⟩, by simp [intOf]; omega⟩
                rw [e1]
                exact Rf2.mk (t + 1) (q + 1) _ hlt (by have := HQ.out; omega) hvv.symm (by omega)
              have FIN := (show Hid _ from fin)
              clear fin hc2 hg2 hq HQ hp' ht
              go_wp2
              exact FIN.out _ hbw2
            · have hqe : q = N := by omega
              have fin : ∀ (W : World), Below w'.heap.size w' W → Ending.returned (.tuple #[.int .u64 (m : Int), .int .i64 ((v : Int) - (x : Int)), .bool false, .bool false, .bool false, .int .i64 (N : Int), .bool true]) = .returned (.tuple #[.int .u64 (vD (D.take 19) : Nat), .int .i64 (n - (min D.length 19 : Nat)), .bool false, .bool false, .bool false, .int .i64 (N : Int), .bool true]) ∧ Below w'.heap.size w' W := by
                intro W hW
                refine ⟨?_, hW⟩
                have e1 : m = vD (D.take 19) := by
                  rw [HM.out, HE.out]
                  rcases Nat.le_total D.length 19 with h | h
                  · rw [Nat.min_eq_left h, List.take_of_length_le (Nat.le_refl _), List.take_of_length_le h]
                  · rw [Nat.min_eq_right h]
                have e2 : v = vD X := by rw [HV.out, heq, List.take_of_length_le (Nat.le_refl _)]
                rw [hn1, ← e1, ← e2, ← HE.out, ← HXx.out]
              have FIN := (show Hid _ from fin)
              subst hqe
              clear hq HQ hp' ht fin heq
              go_wp2
              simp only [Exit.noGoto]
              subst_vars
              refine bodyPost_ret (results_tmp7 rfl _ _ _) rfl ?_
              exact FIN.out _ hbw2
        · obtain ⟨c1, hc1⟩ : ∃ c1, X[0]? = some c1 := ⟨_, List.getElem?_eq_getElem hX0⟩
          have hg := HX.out c1 (List.mem_of_getElem? hc1)
          have hi2N : i + 2 < N := by have h1 := HS.out; have h2 := HI.out; have h3 := HE.out; rw [hs1] at h1; simp only [List.length_singleton] at h1; omega
          have hil2 : i + 1 < S.size := by omega
          have hil3 : i + 1 + 1 < S.size := by omega
          have hac2 := HAT.out (i + 1) 45 (by have h1 := HI.out; have h2 := HE.out; rw [show i + 1 = (D.length + 1) + 1 + 1 by omega]; simp only [List.getElem?_cons_succ]; rw [List.getElem?_append_right (by omega), hs1, show D.length + 1 - D.length = 0 + 1 by omega]; simp) hil2
          have hac3 := HAT.out (i + 1 + 1) c1 (by have h1 := HI.out; have h2 := HE.out; rw [show i + 1 + 1 = (D.length + 2) + 1 + 1 by omega]; simp only [List.getElem?_cons_succ]; rw [List.getElem?_append_right (by omega), hs1, show D.length + 2 - D.length = 1 + 1 by omega]; simpa using hc1) hil3
          have g1 : 48 ≤ (c1 : Int) := by omega
          have g2 : (c1 : Int) ≤ 57 := by omega
          go_wp2_with (first | (go_at_call 250; refine (cl _).mono ?_; rintro e w2 ⟨rfl, rfl⟩))
          have hp : Hid (N = (i + 2) + X.length) := by have h1 := HS.out; have h2 := HI.out; have h3 := HE.out; rw [hs1] at h1; simp only [List.length_singleton] at h1; show N = _; omega
          have HAX : Hid (∀ t c, X[t]? = some c → ∀ h : (i + 2) + t < S.size, (S[(i + 2) + t]'h).toNat = c) := by
            intro t c hc h
            have h1 := HI.out
            have h2 := HE.out
            refine HAT.out ((i + 2) + t) c ?_ h
            rw [show (i + 2) + t = (D.length + 2 + t) + 1 + 1 by omega]
            simp only [List.getElem?_cons_succ]
            rw [List.getElem?_append_right (by omega), hs1, show D.length + 2 + t - D.length = (t + 1) + 1 by omega]
            simpa using hc
          clear hac cl hac2 hac3 hc1 hg g1 g2
          go_loopw [7, 9, 20] (fun vi us ve wr => Rf2 X (i + 2) vi ve ∧ us = .bool false ∧ Below w'.heap.size w' wr) (fun vi _ _ _ => N - (intOf vi).toNat)
          case atStart => exact ⟨by have := Rf2.mk (X := X) (p0 := (i + 2)) 0 (i + 2) 0 (Nat.zero_le _) rfl rfl (by decide); rwa [show ((i + 2 : Nat) : Int) = (i : Int) + 1 + 1 by omega] at this, rfl, hbw⟩
          case round =>
            obtain ⟨hR2, rfl, hbw2⟩ := hrel
            obtain ⟨t, q, v, ht, hq, hv, hv2⟩ := hR2
            have hp' := hp.out
            have hqb : q ≤ N := by omega
            have HV : Hid (v = vD (X.take t)) := hv
            have HQ : Hid (q = (i + 2) + t) := hq
            clear hv
            rcases Nat.lt_or_eq_of_le ht with hlt | heq
            · obtain ⟨c2, hc2⟩ : ∃ c2, X[t]? = some c2 := ⟨_, List.getElem?_eq_getElem hlt⟩
              have hg2 := HX.out c2 (List.mem_of_getElem? hc2)
              have hql : q < S.size := by omega
              have hqN : q < N := by omega
              have hac3 : (S[q]'hql).toNat = c2 := by subst hq; exact HAX.out t c2 hc2 hql
              have k1 : 48 ≤ (c2 : Int) := by omega
              have k2 : (c2 : Int) ≤ 57 := by omega
              have k3 : ((c2 : Int) == 95) = false := by rw [beq_eq_false_iff_ne]; omega
              have k4 : (v : Int) < 10000 := by omega
              have fin : ∀ (W : World), Below w'.heap.size w' W → (Rf2 X (i + 2) (.int .i64 ((q : Int) + 1)) (.int .i64 ((v : Int) * 10 + (c2 : Int) - 48)) ∧ Value.bool false = .bool false ∧ Below w'.heap.size w' W) ∧ N - (intOf (.int .i64 ((q : Int) + 1))).toNat < N - (intOf (.int .i64 (q : Int))).toNat := by
                intro W hW
                have htk : X.take (t + 1) = X.take t ++ [c2] := by rw [List.take_add_one, hc2]; rfl
                have hb3 := vD_lt (X.take (t + 1)) (HX.out.take _)
                have hl3 : (X.take (t + 1)).length ≤ 3 := by simp; omega
                have hp3 : 10 ^ (X.take (t + 1)).length ≤ 10 ^ 3 := Nat.pow_le_pow_right (by decide) hl3
                have hvv : vD (X.take (t + 1)) = v * 10 + (c2 - 48) := by rw [htk, vD_snoc, ← HV.out]
                have e1 : (v : Int) * 10 + (c2 : Int) - 48 = ((v * 10 + (c2 - 48) : Nat) : Int) := by omega
                refine ⟨⟨?_, rfl, hW⟩, by simp [intOf]; omega⟩
                rw [e1]
                exact Rf2.mk (t + 1) (q + 1) _ hlt (by have := HQ.out; omega) hvv.symm (by omega)
              have FIN := (show Hid _ from fin)
              clear fin hc2 hg2 hq HQ hp' ht
              go_wp2
              exact FIN.out _ hbw2
            · have hqe : q = N := by omega
              have fin : ∀ (W : World), Below w'.heap.size w' W → Ending.returned (.tuple #[.int .u64 (m : Int), .int .i64 (-(v : Int) - (x : Int)), .bool false, .bool false, .bool false, .int .i64 (N : Int), .bool true]) = .returned (.tuple #[.int .u64 (vD (D.take 19) : Nat), .int .i64 (n - (min D.length 19 : Nat)), .bool false, .bool false, .bool false, .int .i64 (N : Int), .bool true]) ∧ Below w'.heap.size w' W := by
                intro W hW
                refine ⟨?_, hW⟩
                have e1 : m = vD (D.take 19) := by
                  rw [HM.out, HE.out]
                  rcases Nat.le_total D.length 19 with h | h
                  · rw [Nat.min_eq_left h, List.take_of_length_le (Nat.le_refl _), List.take_of_length_le h]
                  · rw [Nat.min_eq_right h]
                have e2 : v = vD X := by rw [HV.out, heq, List.take_of_length_le (Nat.le_refl _)]
                rw [hn1, ← e1, ← e2, ← HE.out, ← HXx.out]
              have FIN := (show Hid _ from fin)
              subst hqe
              clear hq HQ hp' ht fin heq
              go_wp2
              simp only [Exit.noGoto]
              subst_vars
              refine bodyPost_ret (results_tmp7 rfl _ _ _) rfl ?_
              exact FIN.out _ hbw2
end Go.Proofs.YtellndmbllmjgaaGreatDoor
