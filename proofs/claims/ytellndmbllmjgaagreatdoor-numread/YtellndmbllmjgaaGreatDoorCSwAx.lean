/- The walk of decimal.set at '0.', digits, an exponent. -/
import Derived.Test.YtellndmbllmjgaaGreatDoorCSo7x
import Derived.Test.YtellndmbllmjgaaGreatDoorCAe1x
import Derived.Deep.RegionHeld3
import Derived.Test.YtellndmbllmjgaaGreatDoorCSw7x
import Derived.Test.YtellndmbllmjgaaGreatDoorCRg1
import Derived.Laws.Bits64b
set_option linter.unusedVariables false
namespace Go.Proofs.YtellndmbllmjgaaGreatDoor
open Go.RowKit Go.Shelf Go.Sort Fs Fl

/-- Some digit beyond the 800th of the first k is not nought. -/
def trC (D : List Nat) (k : Nat) : Bool := ((D.take k).drop 800).any (fun c => c != 48)
theorem trC_low (D : List Nat) (k : Nat) (h : k ≤ 800) : trC D k = false := by
  unfold trC
  rw [List.drop_eq_nil_of_le (by rw [List.length_take]; omega)]
  rfl
theorem trC_next (D : List Nat) (k c : Nat) (h : 800 ≤ k) (hc : D[k]? = some c) : trC D (k + 1) = (trC D k || (c != 48)) := by
  unfold trC
  have hl : k < D.length := (List.getElem?_eq_some_iff.1 hc).1
  rw [List.take_add_one, hc, List.drop_append_of_le_length (by rw [List.length_take]; omega), List.any_append]
  simp
theorem DecW.setNeg {w : World} {b : Nat} {t : TypeId} {g : Nat → Nat} {nd : Nat} {dp : Int} {tr : Bool} (h : DecW w b t g nd dp tr) : DecW (w.setCell ⟨b, 802, none⟩ (.bool false)) b t g nd dp tr := by
  refine World.rowIs.congr (World.rowIs.set h 802 _) (fun j hj => ?_)
  by_cases e : j = 802
  · subst e; rfl
  · rw [if_neg e]
inductive StS (D : List Nat) (b : Nat) (t : TypeId) (w : World) : Value → Value → Value → World → Prop
  | a (W : World) (hD : DecW W b t (fun _ => 0) 0 0 false) (hK : Kx [b] w W) : StS D b t w (.int .i64 0) (.bool false) (.bool false) W
  | b (W : World) (hD : DecW W b t (fun _ => 0) 0 (-1) false) (hK : Kx [b] w W) : StS D b t w (.int .i64 1) (.bool false) (.bool true) W
  | c (k i n : Nat) (g : Nat → Nat) (tb : Bool) (W : World) (hk : k ≤ D.length) (hi : i = 2 + k) (hn : n = min k 800) (hg : ∀ j, j < n → D[j]? = some (g j)) (ht : tb = trC D k) (hD : DecW W b t g n 0 tb) (hK : Kx [b] w W) :
      StS D b t w (.int .i64 (i : Int)) (.bool true) (.bool true) W
set_option maxRecDepth 100000 in
set_option maxHeartbeats 4000000 in
theorem set_any (S : ByteArray) (D X : List Nat) (sg : List Nat) (n : Int) (hs : S.size = 3 + D.length + sg.length + X.length) (hat : ∀ k c, (48 :: 46 :: (D ++ 101 :: (sg ++ X)))[k]? = some c → ∀ h : k < S.size, (S[k]'h).toNat = c)
    (hD : Dig D) (hD0 : 0 < D.length) (hDl : D.length ≤ 25000) (hfirst : D[0]? ≠ some 48) (hX : Dig X) (hX0 : 0 < X.length) (hX3 : X.length ≤ 3) (hsg : (sg = [] ∧ n = (vD X : Int)) ∨ (sg = [45] ∧ n = -(vD X : Int)))
    (w : World) (b : Nat) (t : TypeId) (hW : DecW w b t (fun _ => 0) 0 0 false) :
    Calls Tryz.prog 293 #[.pointer (some ⟨b, 0, none⟩), .string S] w fun r w' => r = .returned (.bool true) ∧ ∃ g, (∀ j, j < min D.length 800 → D[j]? = some (g j)) ∧ DecW w' b t g (min D.length 800) n (trC D D.length) ∧ Kx [b] w w' := by
  have hlt0 : 0 < S.size := by omega
  have hlt1 : 1 < S.size := by omega
  have a0 := hat 0 48 rfl hlt0
  have HAT := (show Hid _ from hat)
  have HS : Hid (S.size = 3 + D.length + sg.length + X.length) := hs
  have hsz : 5 ≤ S.size := by omega
  have hsz2 : S.size ≤ 25100 := by rcases hsg with ⟨h, _⟩ | ⟨h, _⟩ <;> rw [h] at hs <;> simp at hs <;> omega
  have HSG := (show Hid _ from hsg)
  have HF := (show Hid _ from hfirst)
  have HD : Hid (Dig D) := hD
  have HX : Hid (Dig X) := hX
  have HW : Hid (DecW w b t (fun _ => 0) 0 0 false) := hW
  have c2 := hW.cneg
  have c3 := hW.ctr
  have f2 := hW.fz 802
  have f3 := hW.fz 803
  clear hat hs hsg hfirst hD hX hW
  obtain ⟨N, hN⟩ : ∃ N, S.size = N := ⟨_, rfl⟩
  have hn5 : 5 ≤ N := by omega
  have hn100 : N ≤ 25100 := by omega
  clear hsz hsz2
  go_enter Tryz.func293, Tryz.ntmps293
  go_wp2
  have W0 : Hid (StS D b t w (.int .i64 0) (.bool false) (.bool false) ((w.setCell ⟨b, 802, none⟩ (.bool false)).setCell ⟨b, 803, none⟩ (.bool false))) := .a _ (HW.out.setNeg.setTr false) (((Kx.refl _ _).set (by simp) _).set (by simp) _)
  generalize (w.setCell ⟨b, 802, none⟩ (.bool false)).setCell ⟨b, 803, none⟩ (.bool false) = W1 at *
  generalize decide (N = 0) = vd
  clear c2 c3 f2 f3 a0
  go_loopw [5, 6, 7] (fun vi vd vg wr => StS D b t w vi vd vg wr) (fun vi _ _ _ => N - (intOf vi).toNat)
  case atStart => exact W0.out
  case round =>
    cases hrel with
    | a _ hD hK =>
      have a0 := HAT.out 0 48 rfl hlt0
      have c800 := hD.cnd
      have c801 := hD.cdp
      have f801 := hD.fz 801
      have HD1 : Hid (DecW wr b t (fun _ => 0) 0 0 false) := hD
      have HK1 : Hid (Kx [b] w wr) := hK
      rw [show ((0 : Nat) : Int) = 0 from rfl] at c800
      clear hD hK
      go_wp2
      exact ⟨.b _ (HD1.out.setDp (-1)) (HK1.out.set (by simp) _), by simp [intOf]; omega⟩
    | b _ hD hK =>
      have a1 := HAT.out 1 46 rfl hlt1
      have c800 := hD.cnd
      have c801 := hD.cdp
      have f801 := hD.fz 801
      have HD1 : Hid (DecW wr b t (fun _ => 0) 0 (-1) false) := hD
      have HK1 : Hid (Kx [b] w wr) := hK
      rw [show ((0 : Nat) : Int) = 0 from rfl] at c800
      clear hD hK
      go_wp2
      exact ⟨.c 0 2 0 (fun _ => 0) false _ (by omega) rfl (by omega) (fun j h => absurd h (by omega)) (trC_low D 0 (by decide)).symm (HD1.out.setDp 0) (HK1.out.set (by simp) _), by simp [intOf]; omega⟩
    | c k i m g tb _ hk hi hm hg ht hD hK =>
      have HD1 : Hid (DecW wr b t g m 0 tb) := hD
      have HK1 : Hid (Kx [b] w wr) := hK
      have HG := (show Hid (∀ j, j < m → D[j]? = some (g j)) from hg)
      have HTB : Hid (tb = trC D k) := ht
      have HI : Hid (i = 2 + k ∧ m = min k 800 ∧ k ≤ D.length) := ⟨hi, hm, hk⟩
      have c800 := hD.cnd
      have hm8 : m ≤ 800 := by omega
      rcases Nat.lt_or_eq_of_le hk with hlt | heq
      · obtain ⟨ch, hch⟩ : ∃ ch, D[k]? = some ch := ⟨_, List.getElem?_eq_getElem hlt⟩
        have hgd := HD.out ch (List.mem_of_getElem? hch)
        have hil : i < S.size := by rw [HS.out]; omega
        have hac := HAT.out i ch (by rw [hi, Nat.add_comm]; simp only [List.getElem?_cons_succ]; rw [List.getElem?_append_left hlt]; exact hch) hil
        have hiN : i < N := by omega
        have g1 : 48 ≤ (ch : Int) := by omega
        have g2 : (ch : Int) ≤ 57 := by omega
        have g3 : ((ch : Int) == 95) = false := by rw [beq_eq_false_iff_ne]; omega
        have g4 : ((ch : Int) == 46) = false := by rw [beq_eq_false_iff_ne]; omega
        have HCH : Hid (D[k]? = some ch ∧ k < D.length) := ⟨hch, hlt⟩
        have hfst : k = 0 → ch ≠ 48 := fun h0 h => HF.out (by rw [← h0, ← h]; exact hch)
        have hmk : m = 0 → k = 0 := by omega
        have g6 : ((ch : Int) == 48) = false ∨ ((m : Int) == 0) = false := by
          by_cases h0 : m = 0
          · left; rw [beq_eq_false_iff_ne]; have := hfst (hmk h0); omega
          · right; rw [beq_eq_false_iff_ne]; omega
        by_cases h8 : m < 800
        · have hd := hD.dig m h8
          have fm := hD.fz m
          have f800 := hD.fz 800
          have h8' : (m : Int) < 800 := by omega
          have HM8 : Hid (m = k ∧ m < 800) := ⟨by omega, h8⟩
          have e800 := (hD.put m ch h8).cnd
          clear hk hi hm hg ht hD hK hch hlt hgd hfst hmk
          rcases g6 with g6 | g6
          · go_wp2
            go_region_held3 (fun Z : World => Z.cell? ⟨b, 800, none⟩ = some (.int .i64 (m : Int))) (first | exact c800 | exact e800) (fail)
            obtain ⟨W2, hW2⟩ : ∃ W2, W2 = (wr.setCell ⟨b, m, none⟩ (.int .u8 (ch : Int))).drew := ⟨_, rfl⟩
            rw [← hW2]
            have HD2 : Hid (DecW W2 b t (putD g m ch) m 0 tb) := by rw [hW2]; exact (HD1.out.put m ch HM8.out.2).drew
            have HK2 : Hid (Kx [b] w W2) := by rw [hW2]; exact (HK1.out.set (by simp) _).drw1
            have d800 := HD2.out.cnd
            have e8 := HD2.out.fz 800
            clear hW2 hd fm f800 e800 c800
            go_wp2
            refine ⟨?_, by simp [intOf]; omega⟩
            have h1 := HI.out
            have h2 := HCH.out
            have h3 := HM8.out
            have D5 := HD2.out.setNd (m + 1)
            rw [show ((m + 1 : Nat) : Int) = (m : Int) + 1 by omega] at D5
            refine .c (k + 1) (i + 1) (m + 1) (putD g m ch) tb _ (by omega) (by omega) (by omega) (fun j hj => ?_) (by rw [HTB.out, trC_low D k (by omega), trC_low D (k + 1) (by omega)]) D5 (HK2.out.set (by simp) _)
            unfold putD
            by_cases hjm : j = m
            · rw [if_pos hjm, hjm, h3.1]; exact h2.1
            · rw [if_neg hjm]; exact HG.out j (by omega)
          · by_cases h48 : ch = 48
            · subst h48
              go_wp2
              go_region_held3 (fun Z : World => Z.cell? ⟨b, 800, none⟩ = some (.int .i64 (m : Int))) (first | exact c800 | exact e800) (fail)
              obtain ⟨W2, hW2⟩ : ∃ W2, W2 = (wr.setCell ⟨b, m, none⟩ (.int .u8 (48 : Int))).drew := ⟨_, rfl⟩
              rw [← hW2]
              have HD2 : Hid (DecW W2 b t (putD g m 48) m 0 tb) := by rw [hW2]; exact (HD1.out.put m 48 HM8.out.2).drew
              have HK2 : Hid (Kx [b] w W2) := by rw [hW2]; exact (HK1.out.set (by simp) _).drw1
              have d800 := HD2.out.cnd
              have e8 := HD2.out.fz 800
              clear hW2 hd fm f800 e800 c800
              go_wp2
              refine ⟨?_, by simp [intOf]; omega⟩
              have h1 := HI.out
              have h2 := HCH.out
              have h3 := HM8.out
              have D5 := HD2.out.setNd (m + 1)
              rw [show ((m + 1 : Nat) : Int) = (m : Int) + 1 by omega] at D5
              refine .c (k + 1) (i + 1) (m + 1) (putD g m 48) tb _ (by omega) (by omega) (by omega) (fun j hj => ?_) (by rw [HTB.out, trC_low D k (by omega), trC_low D (k + 1) (by omega)]) D5 (HK2.out.set (by simp) _)
              unfold putD
              by_cases hjm : j = m
              · rw [if_pos hjm, hjm, h3.1]; exact h2.1
              · rw [if_neg hjm]; exact HG.out j (by omega)
            · have g7 : ((ch : Int) == 48) = false := by rw [beq_eq_false_iff_ne]; omega
              clear h48
              go_wp2
              go_region_held3 (fun Z : World => Z.cell? ⟨b, 800, none⟩ = some (.int .i64 (m : Int))) (first | exact c800 | exact e800) (fail)
              obtain ⟨W2, hW2⟩ : ∃ W2, W2 = (wr.setCell ⟨b, m, none⟩ (.int .u8 (ch : Int))).drew := ⟨_, rfl⟩
              rw [← hW2]
              have HD2 : Hid (DecW W2 b t (putD g m ch) m 0 tb) := by rw [hW2]; exact (HD1.out.put m ch HM8.out.2).drew
              have HK2 : Hid (Kx [b] w W2) := by rw [hW2]; exact (HK1.out.set (by simp) _).drw1
              have d800 := HD2.out.cnd
              have e8 := HD2.out.fz 800
              clear hW2 hd fm f800 e800 c800
              go_wp2
              refine ⟨?_, by simp [intOf]; omega⟩
              have h1 := HI.out
              have h2 := HCH.out
              have h3 := HM8.out
              have D5 := HD2.out.setNd (m + 1)
              rw [show ((m + 1 : Nat) : Int) = (m : Int) + 1 by omega] at D5
              refine .c (k + 1) (i + 1) (m + 1) (putD g m ch) tb _ (by omega) (by omega) (by omega) (fun j hj => ?_) (by rw [HTB.out, trC_low D k (by omega), trC_low D (k + 1) (by omega)]) D5 (HK2.out.set (by simp) _)
              unfold putD
              by_cases hjm : j = m
              · rw [if_pos hjm, hjm, h3.1]; exact h2.1
              · rw [if_neg hjm]; exact HG.out j (by omega)
        · have h8' : ¬ (m : Int) < 800 := by omega
          have c803 := hD.ctr
          have f803 := hD.fz 803
          have HM8 : Hid (m = 800 ∧ 800 ≤ k) := ⟨by omega, by omega⟩
          have g9 : ((m : Int) == 0) = false := by rw [beq_eq_false_iff_ne]; omega
          clear hk hi hm hg ht hD hK hch hlt hgd hfst hmk
          by_cases h48 : ch = 48
          · subst h48
            go_wp2
            refine ⟨?_, by simp [intOf]; omega⟩
            have h1 := HI.out
            have h2 := HCH.out
            have h3 := HM8.out
            exact .c (k + 1) (i + 1) m g tb _ (by omega) (by omega) (by omega) HG.out (by rw [trC_next D k 48 h3.2 h2.1, HTB.out]; simp) HD1.out HK1.out
          · have g7 : ((ch : Int) == 48) = false := by rw [beq_eq_false_iff_ne]; omega
            have g8 : ((ch : Int) != 48) = true := by rw [bne_iff_ne]; omega
            have G9 : Hid ((ch != 48) = true) := by show (ch != 48) = true; rw [bne_iff_ne]; exact h48
            clear h48
            go_wp2
            refine ⟨?_, by simp [intOf]; omega⟩
            have h1 := HI.out
            have h2 := HCH.out
            have h3 := HM8.out
            exact .c (k + 1) (i + 1) m g true _ (by omega) (by omega) (by omega) HG.out (by rw [trC_next D k ch h3.2 h2.1, G9.out, Bool.or_true]) (HD1.out.setTr true) (HK1.out.set (by simp) _)
      · have hil : i < S.size := by rw [HS.out]; omega
        have hac := HAT.out i 101 (by rw [hi, heq, Nat.add_comm]; simp only [List.getElem?_cons_succ]; rw [List.getElem?_append_right (Nat.le_refl _)]; simp) hil
        have cl := Tryz.internal_strconv_lower 101
        have e1 : bits .or .u8 101 32 = 101 := by decide
        rw [e1] at cl
        clear e1
        have HEQ : Hid (k = D.length) := heq
        have hiN : i + 1 < N := by have := HS.out; omega
        clear hk hi hm hg ht hD hK heq
        rcases HSG.out with ⟨hs1, hn1⟩ | ⟨hs1, hn1⟩
        · obtain ⟨c1, hc1⟩ : ∃ c1, X[0]? = some c1 := ⟨_, List.getElem?_eq_getElem hX0⟩
          have hg := HX.out c1 (List.mem_of_getElem? hc1)
          have hil2 : i + 1 < S.size := by omega
          have hac2 := HAT.out (i + 1) c1 (by have h1 := HI.out; have h2 := HEQ.out; rw [show i + 1 = (D.length + 1) + 1 + 1 by omega]; simp only [List.getElem?_cons_succ]; rw [List.getElem?_append_right (by omega), hs1, show D.length + 1 - D.length = 0 + 1 by omega]; simpa using hc1) hil2
          have g1 : 48 ≤ (c1 : Int) := by omega
          have g2 : (c1 : Int) ≤ 57 := by omega
          have g3 : ((c1 : Int) == 43) = false := by rw [beq_eq_false_iff_ne]; omega
          have g4 : ((c1 : Int) == 45) = false := by rw [beq_eq_false_iff_ne]; omega
          go_wp2_with (first | (go_at_call 250; refine (cl _).mono ?_; rintro e w2 ⟨rfl, rfl⟩))
          have hp : Hid (N = (i + 1) + X.length) := by have h1 := HS.out; have h2 := HI.out; have h3 := HEQ.out; rw [hs1] at h1; simp only [List.length_nil] at h1; show N = _; omega
          have HAX : Hid (∀ t c, X[t]? = some c → ∀ h : (i + 1) + t < S.size, (S[(i + 1) + t]'h).toNat = c) := by
            intro t c hc h
            have h1 := HI.out
            have h2 := HEQ.out
            refine HAT.out ((i + 1) + t) c ?_ h
            rw [show (i + 1) + t = (D.length + 1 + t) + 1 + 1 by omega]
            simp only [List.getElem?_cons_succ]
            rw [List.getElem?_append_right (by omega), hs1, show D.length + 1 + t - D.length = (t) + 1 by omega]
            simpa using hc
          clear hac cl hac2 hc1 hg g1 g2 g3 g4 c800
          go_loopw [5, 9] (fun vi ve wr2 => Rf2 X (i + 1) vi ve ∧ wr2 = w2) (fun vi _ _ => N - (intOf vi).toNat)
          case atStart => exact ⟨by have := Rf2.mk (X := X) (p0 := (i + 1)) 0 (i + 1) 0 (Nat.zero_le _) rfl rfl (by decide); simpa using this, rfl⟩
          case round =>
            obtain ⟨hR2, hwr2⟩ := hrel
            subst hwr2
            obtain ⟨t2, q, v, ht2, hq, hv, hv2⟩ := hR2
            have hp' := hp.out
            have hqb : q ≤ N := by omega
            have HV : Hid (v = vD (X.take t2)) := hv
            have HQ : Hid (q = (i + 1) + t2) := hq
            clear hv
            rcases Nat.lt_or_eq_of_le ht2 with hlt | heq2
            · obtain ⟨c2, hc2⟩ : ∃ c2, X[t2]? = some c2 := ⟨_, List.getElem?_eq_getElem hlt⟩
              have hg2 := HX.out c2 (List.mem_of_getElem? hc2)
              have hql : q < S.size := by omega
              have hqN : q < N := by omega
              have hac3 : (S[q]'hql).toNat = c2 := by subst hq; exact HAX.out t2 c2 hc2 hql
              have k1 : 48 ≤ (c2 : Int) := by omega
              have k2 : (c2 : Int) ≤ 57 := by omega
              have k3 : ((c2 : Int) == 95) = false := by rw [beq_eq_false_iff_ne]; omega
              have k4 : (v : Int) < 10000 := by omega
              have fin : (Rf2 X (i + 1) (.int .i64 ((q : Int) + 1)) (.int .i64 ((v : Int) * 10 + (c2 : Int) - 48)) ∧ True) ∧ N - (intOf (.int .i64 ((q : Int) + 1))).toNat < N - (intOf (.int .i64 (q : Int))).toNat := by
                have htk : X.take (t2 + 1) = X.take t2 ++ [c2] := by rw [List.take_add_one, hc2]; rfl
                have hb3 := vD_lt (X.take (t2 + 1)) (HX.out.take _)
                have hl3 : (X.take (t2 + 1)).length ≤ 3 := by simp; omega
                have hp3 : 10 ^ (X.take (t2 + 1)).length ≤ 10 ^ 3 := Nat.pow_le_pow_right (by decide) hl3
                have hvv : vD (X.take (t2 + 1)) = v * 10 + (c2 - 48) := by rw [htk, vD_snoc, ← HV.out]
                have e1 : (v : Int) * 10 + (c2 : Int) - 48 = ((v * 10 + (c2 - 48) : Nat) : Int) := by omega
                refine ⟨⟨?_, trivial⟩, by simp [intOf]; omega⟩
                rw [e1]
                exact Rf2.mk (t2 + 1) (q + 1) _ hlt (by have := HQ.out; omega) hvv.symm (by omega)
              have FIN := (show Hid _ from fin)
              clear fin hc2 hg2 hq HQ hp' ht2
              go_wp2
              exact FIN.out
            · have hqe : q = N := by omega
              have e2 : v = vD X := by rw [HV.out, heq2, List.take_of_length_le (Nat.le_refl _)]
              have HE2 : Hid ((v : Int) = n) := by show (v : Int) = n; rw [hn1, e2]
              have c801 := HD1.out.cdp
              have f801 := HD1.out.fz 801
              have hvb : v < 1000 := hv2
              have FN : Hid (∀ W, DecW W b t g m n tb → Kx [b] w W → ∃ g, (∀ j, j < min D.length 800 → D[j]? = some (g j)) ∧ DecW W b t g (min D.length 800) n (trC D D.length) ∧ Kx [b] w W) := by
                intro W h1 h2
                have h3 := HI.out
                have h4 := HEQ.out
                refine ⟨g, fun j hj => HG.out j (by omega), ?_, h2⟩
                rw [← h4, ← HTB.out, ← h3.2.1]; exact h1
              subst hqe
              clear hq HQ hp' ht2 heq2 e2
              go_wp2
              go_ret
              refine ⟨rfl, FN.out _ ?_ (HK1.out.set (by simp) _)⟩
              have D6 := HD1.out.setDp (v : Int)
              rw [← HE2.out]
              exact D6
        · obtain ⟨c1, hc1⟩ : ∃ c1, X[0]? = some c1 := ⟨_, List.getElem?_eq_getElem hX0⟩
          have hg := HX.out c1 (List.mem_of_getElem? hc1)
          have hi2N : i + 2 < N := by have h1 := HS.out; have h2 := HI.out; have h3 := HEQ.out; rw [hs1] at h1; simp only [List.length_singleton] at h1; omega
          have hil2 : i + 1 < S.size := by omega
          have hil3 : i + 1 + 1 < S.size := by omega
          have hac2 := HAT.out (i + 1) 45 (by have h1 := HI.out; have h2 := HEQ.out; rw [show i + 1 = (D.length + 1) + 1 + 1 by omega]; simp only [List.getElem?_cons_succ]; rw [List.getElem?_append_right (by omega), hs1, show D.length + 1 - D.length = 0 + 1 by omega]; simp) hil2
          have hac3 := HAT.out (i + 1 + 1) c1 (by have h1 := HI.out; have h2 := HEQ.out; rw [show i + 1 + 1 = (D.length + 2) + 1 + 1 by omega]; simp only [List.getElem?_cons_succ]; rw [List.getElem?_append_right (by omega), hs1, show D.length + 2 - D.length = 1 + 1 by omega]; simpa using hc1) hil3
          have g1 : 48 ≤ (c1 : Int) := by omega
          have g2 : (c1 : Int) ≤ 57 := by omega
          go_wp2_with (first | (go_at_call 250; refine (cl _).mono ?_; rintro e w2 ⟨rfl, rfl⟩))
          have hp : Hid (N = (i + 2) + X.length) := by have h1 := HS.out; have h2 := HI.out; have h3 := HEQ.out; rw [hs1] at h1; simp only [List.length_singleton] at h1; show N = _; omega
          have HAX : Hid (∀ t c, X[t]? = some c → ∀ h : (i + 2) + t < S.size, (S[(i + 2) + t]'h).toNat = c) := by
            intro t c hc h
            have h1 := HI.out
            have h2 := HEQ.out
            refine HAT.out ((i + 2) + t) c ?_ h
            rw [show (i + 2) + t = (D.length + 2 + t) + 1 + 1 by omega]
            simp only [List.getElem?_cons_succ]
            rw [List.getElem?_append_right (by omega), hs1, show D.length + 2 + t - D.length = (t + 1) + 1 by omega]
            simpa using hc
          clear hac cl hac2 hac3 hc1 hg g1 g2 c800
          go_loopw [5, 9] (fun vi ve wr2 => Rf2 X (i + 2) vi ve ∧ wr2 = w2) (fun vi _ _ => N - (intOf vi).toNat)
          case atStart => exact ⟨by have := Rf2.mk (X := X) (p0 := (i + 2)) 0 (i + 2) 0 (Nat.zero_le _) rfl rfl (by decide); rwa [show ((i + 2 : Nat) : Int) = (i : Int) + 1 + 1 by omega] at this, rfl⟩
          case round =>
            obtain ⟨hR2, hwr2⟩ := hrel
            subst hwr2
            obtain ⟨t2, q, v, ht2, hq, hv, hv2⟩ := hR2
            have hp' := hp.out
            have hqb : q ≤ N := by omega
            have HV : Hid (v = vD (X.take t2)) := hv
            have HQ : Hid (q = (i + 2) + t2) := hq
            clear hv
            rcases Nat.lt_or_eq_of_le ht2 with hlt | heq2
            · obtain ⟨c2, hc2⟩ : ∃ c2, X[t2]? = some c2 := ⟨_, List.getElem?_eq_getElem hlt⟩
              have hg2 := HX.out c2 (List.mem_of_getElem? hc2)
              have hql : q < S.size := by omega
              have hqN : q < N := by omega
              have hac3 : (S[q]'hql).toNat = c2 := by subst hq; exact HAX.out t2 c2 hc2 hql
              have k1 : 48 ≤ (c2 : Int) := by omega
              have k2 : (c2 : Int) ≤ 57 := by omega
              have k3 : ((c2 : Int) == 95) = false := by rw [beq_eq_false_iff_ne]; omega
              have k4 : (v : Int) < 10000 := by omega
              have fin : (Rf2 X (i + 2) (.int .i64 ((q : Int) + 1)) (.int .i64 ((v : Int) * 10 + (c2 : Int) - 48)) ∧ True) ∧ N - (intOf (.int .i64 ((q : Int) + 1))).toNat < N - (intOf (.int .i64 (q : Int))).toNat := by
                have htk : X.take (t2 + 1) = X.take t2 ++ [c2] := by rw [List.take_add_one, hc2]; rfl
                have hb3 := vD_lt (X.take (t2 + 1)) (HX.out.take _)
                have hl3 : (X.take (t2 + 1)).length ≤ 3 := by simp; omega
                have hp3 : 10 ^ (X.take (t2 + 1)).length ≤ 10 ^ 3 := Nat.pow_le_pow_right (by decide) hl3
                have hvv : vD (X.take (t2 + 1)) = v * 10 + (c2 - 48) := by rw [htk, vD_snoc, ← HV.out]
                have e1 : (v : Int) * 10 + (c2 : Int) - 48 = ((v * 10 + (c2 - 48) : Nat) : Int) := by omega
                refine ⟨⟨?_, trivial⟩, by simp [intOf]; omega⟩
                rw [e1]
                exact Rf2.mk (t2 + 1) (q + 1) _ hlt (by have := HQ.out; omega) hvv.symm (by omega)
              have FIN := (show Hid _ from fin)
              clear fin hc2 hg2 hq HQ hp' ht2
              go_wp2
              exact FIN.out
            · have hqe : q = N := by omega
              have e2 : v = vD X := by rw [HV.out, heq2, List.take_of_length_le (Nat.le_refl _)]
              have HE2 : Hid (-(v : Int) = n) := by show -(v : Int) = n; rw [hn1, e2]
              have c801 := HD1.out.cdp
              have f801 := HD1.out.fz 801
              have hvb : v < 1000 := hv2
              have FN : Hid (∀ W, DecW W b t g m n tb → Kx [b] w W → ∃ g, (∀ j, j < min D.length 800 → D[j]? = some (g j)) ∧ DecW W b t g (min D.length 800) n (trC D D.length) ∧ Kx [b] w W) := by
                intro W h1 h2
                have h3 := HI.out
                have h4 := HEQ.out
                refine ⟨g, fun j hj => HG.out j (by omega), ?_, h2⟩
                rw [← h4, ← HTB.out, ← h3.2.1]; exact h1
              subst hqe
              clear hq HQ hp' ht2 heq2 e2
              go_wp2
              go_ret
              refine ⟨rfl, FN.out _ ?_ (HK1.out.set (by simp) _)⟩
              have D6 := HD1.out.setDp (-(v : Int))
              rw [← HE2.out]
              exact D6
end Go.Proofs.YtellndmbllmjgaaGreatDoor
/- What many digits are taken for: no walk. -/
set_option linter.unusedVariables false
namespace Go.Proofs.YtellndmbllmjgaaGreatDoor
open Go.RowKit Go.Shelf Go.Sort Fs Fl

theorem near_cross {p q p' q' R : Nat} (hq : 0 < q) (hq' : 0 < q') (h : p * q' = p' * q) (hN : Near p q R) : Near p' q' R := by
  obtain ⟨R', h'⟩ := near_ex (p := p') hq'
  have h1 := near_le hq hq' (Nat.le_of_eq h) hN h'
  have h2 := near_le hq' hq (Nat.le_of_eq h.symm) h' hN
  have e : R = R' := by omega
  rw [e]; exact h'
theorem Z76_324 {K : Nat} (hK : K = 324) : Z76 ≤ 2 * 10 ^ K := by
  subst hK
  decide +kernel
theorem up_zero : upR 0 = 2 := by decide +kernel
theorem lo_zero : loR 0 = 0 := by decide +kernel
theorem near_nothing {p q d : Nat} (hd : 324 ≤ d) (h : p * 10 ^ d ≤ q) : Near p q 0 := by
  obtain ⟨K, hK⟩ : ∃ K, K = 324 := ⟨_, rfl⟩
  have h1 := Z76_324 hK
  have h2 : p * 10 ^ K ≤ q := Nat.le_trans (Nat.mul_le_mul_left _ (ten_mono (by omega))) h
  have h3 := Nat.mul_le_mul_left p h1
  unfold Near Inn
  rw [up_zero, lo_zero, if_pos rfl]
  generalize Z76 = z at *
  refine ⟨by omega, ?_⟩
  have e : p * (2 * 10 ^ K) = 2 * (p * 10 ^ K) := by ac_rfl
  omega
/-- R is the word nearest to 0.D times 10 to the n. -/
def NearD (D : List Nat) (n : Int) (R : Nat) : Prop := Near (vD D * 10 ^ (n + 400).toNat) (10 ^ (400 + D.length)) R
theorem vD_bounds (D : List Nat) (hD : Dig D) (hD0 : 0 < D.length) (hf : D[0]? ≠ some 48) : 10 ^ (D.length - 1) ≤ vD D ∧ vD D < 10 ^ D.length := by
  refine ⟨?_, vD_lt D hD⟩
  cases D with
  | nil => simp at hD0
  | cons c l =>
    have hc := hD c (by simp)
    have hn : c ≠ 48 := fun h => hf (by simp [h])
    exact vD_ge c l (by omega)
theorem nearD_over {D : List Nat} {n : Int} {R : Nat} (hD : Dig D) (hD0 : 0 < D.length) (hf : D[0]? ≠ some 48) (hn : 310 < n) (h : NearD D n R) : 9218868437227405312 ≤ R := by
  have hb := (vD_bounds D hD hD0 hf).1
  obtain ⟨H, hH⟩ : ∃ H, H = 309 := ⟨_, rfl⟩
  refine near_over (d := H) (p10 _) (by omega) ?_ h
  have h1 := Nat.mul_le_mul_right (10 ^ (n + 400).toNat) hb
  rw [← Nat.pow_add] at h1
  rw [← Nat.pow_add]
  exact Nat.le_trans (ten_mono (by omega)) h1
theorem nearD_under {D : List Nat} {n : Int} (hD : Dig D) (hn0 : -400 ≤ n) (hn : n ≤ -324) : NearD D n 0 := by
  obtain ⟨H, hH⟩ : ∃ H, H = 324 := ⟨_, rfl⟩
  refine near_nothing (d := H) (by omega) ?_
  have hb := vD_lt D hD
  rw [Nat.mul_assoc, ← Nat.pow_add]
  have h1 : vD D * 10 ^ ((n + 400).toNat + H) ≤ 10 ^ D.length * 10 ^ ((n + 400).toNat + H) := Nat.mul_le_mul_right _ (Nat.le_of_lt hb)
  rw [← Nat.pow_add] at h1
  exact Nat.le_trans h1 (ten_mono (by omega))
theorem nearD_ex (D : List Nat) (n : Int) : ∃ R, NearD D n R := near_ex (p10 _)
/-- The first nineteen digits: below, above. -/
theorem vD_split (D : List Nat) (hD : Dig D) (k : Nat) (hk : k ≤ D.length) : vD (D.take k) * 10 ^ (D.length - k) ≤ vD D ∧ vD D < (vD (D.take k) + 1) * 10 ^ (D.length - k) ∧ vD D % 10 ^ (D.length - k) = vD (D.drop k) := by
  have h1 := vD_append (D.take k) (D.drop k)
  rw [List.take_append_drop, List.length_drop] at h1
  have h2 := vD_lt (D.drop k) (hD.drop k)
  rw [List.length_drop] at h2
  rw [h1, Nat.add_mul, Nat.one_mul]
  refine ⟨by omega, by omega, ?_⟩
  rw [Nat.add_comm, Nat.add_mul_mod_self_right, Nat.mod_eq_of_lt h2]
theorem near_dec {m j R H : Nat} (hH : H = 400) (h : DecNear m j R) : Near (m * 10 ^ j) (10 ^ H) R := by
  unfold DecNear at h
  rw [← hH] at h
  split at h
  · rename_i h4
    refine near_cross (by decide) (p10 H) ?_ h
    rw [Nat.mul_one, Nat.mul_assoc, ← Nat.pow_add, show j - H + H = j by omega]
  · rename_i h4
    refine near_cross (p10 _) (p10 H) ?_ h
    rw [Nat.mul_assoc, ← Nat.pow_add, show j + (H - j) = H by omega]
theorem vD_none {l : List Nat} (h : Dig l) : vD l = 0 ↔ l.any (fun c => c != 48) = false := by
  induction l with
  | nil => simp [vD]
  | cons c l ih =>
    have hc := h c (by simp)
    have ih' := ih (fun x hx => h x (List.mem_cons_of_mem _ hx))
    rw [vD_cons, List.any_cons]
    have hp := p10 l.length
    by_cases h1 : c = 48
    · subst h1
      simp only [Nat.sub_self, Nat.zero_mul, Nat.zero_add]
      rw [ih']; simp
    · have h2 : (c != 48) = true := by rw [bne_iff_ne]; exact h1
      rw [h2, Bool.true_or]
      constructor
      · intro h3
        have h4 : 1 * 10 ^ l.length ≤ (c - 48) * 10 ^ l.length := Nat.mul_le_mul_right _ (by omega)
        omega
      · intro h3; cases h3
theorem trB_is (D : List Nat) (hD : Dig D) : trB D D.length = false ↔ vD (D.drop 19) = 0 := by
  unfold trB
  rw [List.take_of_length_le (Nat.le_refl _)]
  exact (vD_none (hD.drop 19)).symm
theorem trC_is (D : List Nat) (hD : Dig D) : trC D D.length = decide (vD D % 10 ^ (D.length - 800) ≠ 0) := by
  have h1 : vD D % 10 ^ (D.length - 800) = vD (D.drop 800) := by
    rcases Nat.le_total D.length 800 with h | h
    · rw [show D.length - 800 = 0 by omega, Nat.pow_zero, Nat.mod_one, List.drop_eq_nil_of_le h]; rfl
    · exact (vD_split D hD 800 h).2.2
  rw [h1]
  have h2 := vD_none (hD.drop 800)
  unfold trC
  rw [List.take_of_length_le (Nat.le_refl _)]
  cases h3 : (D.drop 800).any (fun c => c != 48) with
  | true =>
    have : vD (D.drop 800) ≠ 0 := fun h4 => by rw [h2.1 h4] at h3; cases h3
    rw [decide_eq_true this]
  | false =>
    rw [h2.2 h3]; rfl
/-- The digit at its place. -/
theorem vD_digit (D : List Nat) (hD : Dig D) (i c : Nat) (hc : D[i]? = some c) : c = 48 + vD D / 10 ^ (D.length - 1 - i) % 10 := by
  have hl : i < D.length := (List.getElem?_eq_some_iff.1 hc).1
  have hg := hD c (List.mem_of_getElem? hc)
  obtain ⟨h1, h2, _⟩ := vD_split D hD (i + 1) (by omega)
  rw [show D.length - (i + 1) = D.length - 1 - i by omega] at h1 h2
  have hp := p10 (D.length - 1 - i)
  have h3 : vD D / 10 ^ (D.length - 1 - i) = vD (D.take (i + 1)) := by
    apply Nat.div_eq_of_lt_le
    · exact h1
    · exact h2
  rw [h3, List.take_add_one, hc]
  show c = 48 + vD (D.take i ++ [c]) % 10
  rw [vD_snoc]
  omega
/-- Where nothing was dropped. -/
theorem nearD_exact {D : List Nat} {n : Int} {j R : Nat} (hD : Dig D) (ht : trB D D.length = false) (hj : n - (min D.length 19 : Nat) = (j : Int) - 400) (hn : -400 ≤ n) (h : DecNear (vD (D.take 19)) j R) : NearD D n R := by
  have h0 := (trB_is D hD).1 ht
  have h1 := vD_append (D.take 19) (D.drop 19)
  rw [List.take_append_drop, h0, Nat.add_zero, List.length_drop] at h1
  obtain ⟨H, hH⟩ : ∃ H, H = 400 := ⟨_, rfl⟩
  have h2 := near_dec hH h
  unfold NearD
  refine near_cross (p10 _) (p10 _) ?_ h2
  rw [h1, Nat.mul_assoc, Nat.mul_assoc, Nat.mul_assoc, ← Nat.pow_add, ← Nat.pow_add, ← Nat.pow_add]
  congr 2
  omega
/-- Where d and d + 1 come to the same word, so does what lies between. -/
theorem nearD_between {D : List Nat} {n : Int} {j R1 R2 inf : Nat} (hD : Dig D) (hl : 19 ≤ D.length) (hj : n - (19 : Nat) = (j : Int) - 400) (hn : -400 ≤ n) (h1 : DecNear (vD (D.take 19)) j R1) (h2 : DecNear (vD (D.take 19) + 1) j R2) (he : min R1 inf = min R2 inf) :
    ∃ R, NearD D n R ∧ min R inf = min R1 inf := by
  obtain ⟨R, hR⟩ := nearD_ex D n
  refine ⟨R, hR, ?_⟩
  obtain ⟨a1, a2, _⟩ := vD_split D hD 19 hl
  obtain ⟨H, hH⟩ : ∃ H, H = 400 := ⟨_, rfl⟩
  have b1 := near_dec hH h1
  have b2 := near_dec hH h2
  unfold NearD at hR
  refine near_between (p10 _) (p10 _) (p10 _) ?_ ?_ hR b1 b2 he
  · calc _ = vD (D.take 19) * 10 ^ (D.length - 19) * 10 ^ ((n + 400).toNat + H) := by
          rw [Nat.mul_assoc, Nat.mul_assoc, ← Nat.pow_add, ← Nat.pow_add]; congr 2; omega
      _ ≤ vD D * 10 ^ ((n + 400).toNat + H) := Nat.mul_le_mul_right _ a1
      _ = _ := by rw [Nat.pow_add, Nat.mul_assoc]
  · calc _ = vD D * 10 ^ ((n + 400).toNat + H) := by rw [Nat.pow_add, Nat.mul_assoc]
      _ ≤ (vD (D.take 19) + 1) * 10 ^ (D.length - 19) * 10 ^ ((n + 400).toNat + H) := Nat.mul_le_mul_right _ (Nat.le_of_lt a2)
      _ = _ := by rw [Nat.mul_assoc, Nat.mul_assoc, ← Nat.pow_add, ← Nat.pow_add]; congr 2; omega
/-- The road's start. -/
theorem way_start {D : List Nat} {n : Int} {g : Nat → Nat} (hD : Dig D) (hD0 : 0 < D.length) (hf : D[0]? ≠ some 48) (hg : ∀ i, i < min D.length 800 → D[i]? = some (g i)) (hn : -330 ≤ n) (hn2 : n ≤ 310) :
    ∃ N E, Fs.Way (D.length + 5000) (vD D * 10 ^ (n + 400).toNat) (10 ^ (400 + D.length)) 0 0 g (min D.length 800) n (trC D D.length) N E := by
  obtain ⟨b1, b2⟩ := vD_bounds D hD hD0 hf
  obtain ⟨E, hE⟩ : ∃ E : Nat, (E : Int) = ((D.length + 5000 : Nat) : Int) + n - (D.length : Int) := ⟨(5000 + n).toNat, by omega⟩
  have st := Dst.start (B := D.length + 5000) (p := vD D * 10 ^ (n + 400).toNat) (q := 10 ^ (400 + D.length)) (td := D.length) (NF := vD D) (E := E) (nd := min D.length 800) (f := g) (dp := n) (p10 _) hD0 b1 b2 hE
    (by rw [Nat.mul_assoc, Nat.mul_assoc, ← Nat.pow_add, ← Nat.pow_add]; congr 2; omega) rfl (fun i hi => vD_digit D hD i (g i) (hg i hi))
  rw [← trC_is D hD] at st
  exact ⟨_, _, st, by decide, by decide, fun h => absurd h (by decide), fun h => absurd h (by decide), by omega⟩
theorem way_up {D : List Nat} {n : Int} (hD : Dig D) (hn2 : n ≤ 310) (hn : -400 ≤ n) : vD D * 10 ^ (n + 400).toNat < 10 ^ 310 * 10 ^ (400 + D.length) := by
  obtain ⟨H, hH⟩ : ∃ H, H = 310 := ⟨_, rfl⟩
  rw [← hH]
  have h1 := Nat.mul_lt_mul_of_pos_right (vD_lt D hD) (p10 (n + 400).toNat)
  refine Nat.lt_of_lt_of_le h1 ?_
  rw [← Nat.pow_add, ← Nat.pow_add]
  exact ten_mono (by omega)
theorem way_low {D : List Nat} {n : Int} (hD : Dig D) (hD0 : 0 < D.length) (hf : D[0]? ≠ some 48) (hn : -330 ≤ n) : 10 ^ (400 + D.length) ≤ vD D * 10 ^ (n + 400).toNat * 2 ^ 1100 := by
  obtain ⟨H, hH⟩ : ∃ H, H = 331 := ⟨_, rfl⟩
  obtain ⟨K, hK⟩ : ∃ K, K = 1100 := ⟨_, rfl⟩
  rw [← hK]
  refine start_low' (d := H) hH hK (Nat.le_refl _) ?_
  have h1 := Nat.mul_le_mul_right (10 ^ (n + 400).toNat) (vD_bounds D hD hD0 hf).1
  refine Nat.le_trans ?_ (Nat.mul_le_mul_right (10 ^ H) h1)
  rw [← Nat.pow_add, ← Nat.pow_add]
  exact ten_mono (by omega)
theorem ord_fin_inf (r : Nat) (hr : r < 9218868437227405312) : FloatKind.f64.format.order 9218868437227405312 r = some .gt ∧ FloatKind.f64.format.order r 9218868437227405312 = some .lt := by
  have r1 : Ieee.double.read 9218868437227405312 = .infinity false := by have := read_inf false; rw [wd_false] at this; exact this
  have r2 : Ieee.double.read r = .number false (magR r) ((expR r : Int) - 1074) := by have := read_wd false r hr; rw [wd_false] at this; exact this
  constructor
  · show Ieee.double.order 9218868437227405312 r = some .gt
    unfold Ieee.Format.order
    rw [r1, r2]
    rfl
  · show Ieee.double.order r 9218868437227405312 = some .lt
    unfold Ieee.Format.order
    rw [r1, r2]
    rfl
theorem eq_words (a b : Nat) (ha : a ≤ 9218868437227405312) (hb : b ≤ 9218868437227405312) : (FloatKind.f64.format.order a b == some .eq) = decide (a = b) := by
  rcases Nat.lt_or_eq_of_le ha with h1 | h1
  · rcases Nat.lt_or_eq_of_le hb with h2 | h2
    · have e : FloatKind.f64.format.order a b = some (compare (a : Int) (b : Int)) := order_pos a b h1 h2
      rw [e]
      rcases Nat.lt_trichotomy a b with h3 | h3 | h3
      · rw [cmp_lt (by omega), decide_eq_false (by omega)]; rfl
      · subst h3; rw [cmp_eq, decide_eq_true rfl]; rfl
      · rw [cmp_gt (by omega), decide_eq_false (by omega)]; rfl
    · rw [decide_eq_false (by omega)]
      subst h2
      rw [(ord_fin_inf a h1).2]; rfl
  · subst h1
    rcases Nat.lt_or_eq_of_le hb with h2 | h2
    · rw [decide_eq_false (by omega), (ord_fin_inf b h2).1]; rfl
    · subst h2; rw [decide_eq_true rfl]; decide +kernel
end Go.Proofs.YtellndmbllmjgaaGreatDoor
/- Bits of a word. -/
set_option linter.unusedVariables false
namespace Go.Proofs.YtellndmbllmjgaaGreatDoor
open Go.RowKit Go.Shelf Go.Sort Fs

theorem wraps_i63 (n : Int) (h₀ : 0 ≤ n) (h₁ : n < 2 ^ 63) : IntKind.i64.wrap n = n := by rw [IntKind.wrap_i64]; omega
theorem and_exp (x : Nat) (h : x < 2048) : bits .and .i64 (x : Int) 2047 = (x : Int) := by
  have := bits_mask .i64 63 (by decide) wraps_i63 11 (by decide) (x : Int) (by omega) (by omega)
  rw [show (2 : Int) ^ 11 - 1 = 2047 by decide] at this
  rw [this]
  omega
theorem and_low (M : Nat) (h : M < 18446744073709551616) : bits .and .u64 (M : Int) 4503599627370495 = ((M % 4503599627370496 : Nat) : Int) := by
  have := bits_mask .u64 64 (by decide) wraps64 52 (by decide) (M : Int) (by omega) (by omega)
  rw [show (2 : Int) ^ 52 - 1 = 4503599627370495 by decide] at this
  rw [this]
  omega
theorem and_bit (M : Nat) (h : M < 18446744073709551616) : bits .and .u64 (M : Int) 4503599627370496 = ((M / 4503599627370496 % 2 * 4503599627370496 : Nat) : Int) := by
  have := bits_and_u64_nat M 4503599627370496 h (by decide)
  rw [show ((4503599627370496 : Nat) : Int) = 4503599627370496 from rfl] at this
  rw [this]
  congr 1
  have e1 := Nat.and_div_two_pow (a := M) (b := 2 ^ 52) (n := 52)
  have e2 := Nat.and_mod_two_pow (a := M) (b := 2 ^ 52) (n := 52)
  rw [Nat.div_self (by decide), Nat.and_one_is_mod] at e1
  rw [Nat.mod_self, Nat.and_zero] at e2
  rw [show (2 : Nat) ^ 52 = 4503599627370496 by decide] at e1 e2
  have e3 := Nat.div_add_mod (M &&& 4503599627370496) 4503599627370496
  rw [e1, e2] at e3
  omega
end Go.Proofs.YtellndmbllmjgaaGreatDoor
