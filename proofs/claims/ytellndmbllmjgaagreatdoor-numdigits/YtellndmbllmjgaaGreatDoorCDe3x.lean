/- fraction, walked. -/
import Derived.Test.YtellndmbllmjgaaGreatDoorCDb7x
import Derived.Test.YtellndmbllmjgaaGreatDoorCDa8x
import Derived.Deep.RegionWith
set_option linter.unusedVariables false
namespace Go.Proofs.YtellndmbllmjgaaGreatDoor
open Go.RowKit Go.Shelf Go.Sort Fs Fl

/-- The digits behind the point of X over P, f at most. -/
def frD (b P : Nat) : Nat → Nat → List Nat
  | 0, _ => []
  | f + 1, X => if X = 0 then [] else dgc (b * X / P) :: frD b P f (b * X % P)
theorem frD_zero (b P f : Nat) : frD b P f 0 = [] := by cases f <;> simp [frD]
theorem frD_scale (b P c : Nat) (hc : 0 < c) : ∀ f X, frD b (c * P) f (c * X) = frD b P f X
  | 0, _ => rfl
  | f + 1, X => by
    rw [frD, frD]
    have e : b * (c * X) = c * (b * X) := by rw [← Nat.mul_assoc, Nat.mul_comm b c, Nat.mul_assoc]
    rw [e, Nat.mul_div_mul_left _ _ hc, Nat.mul_mod_mul_left, frD_scale b P c hc f]
    by_cases h : X = 0
    · rw [if_pos h, if_pos (by rw [h, Nat.mul_zero])]
    · rw [if_neg h, if_neg (by intro h2; rcases Nat.mul_eq_zero.1 h2 with h3 | h3 <;> omega)]
theorem val32_taken (L : List Nat) (hW : W32 L) (k : Nat) : val32 (L.take k) = val32 L % 4294967296 ^ k := by
  have h := val32_append (L.take k) (L.drop k)
  rw [List.take_append_drop] at h
  rcases Nat.lt_or_ge L.length k with h1 | h1
  · rw [List.take_of_length_le (by omega)]
    exact (Nat.mod_eq_of_lt (Nat.lt_of_lt_of_le (val32_lt L hW) (Nat.pow_le_pow_right (by omega) (by omega)))).symm
  · have hl : (L.take k).length = k := by rw [List.length_take]; omega
    rw [hl] at h
    have h2 := val32_lt (L.take k) (fun d hd => hW d (List.mem_of_mem_take hd))
    rw [hl] at h2
    rw [h, Nat.add_mul_mod_self_left, Nat.mod_eq_of_lt h2]
theorem frD_lt {b P : Nat} (hb : b ≤ 36) (hb0 : 0 < b) : ∀ f X, X < P → ∀ c ∈ frD b P f X, c < 256
  | 0, _, _, c, hc => by simp [frD] at hc
  | f + 1, X, hX, c, hc => by
    rw [frD] at hc
    by_cases h : X = 0
    · rw [if_pos h] at hc; simp at hc
    · rw [if_neg h] at hc
      rcases List.mem_cons.1 hc with rfl | hc
      · have h1 : b * X / P < b := by
          rw [Nat.div_lt_iff_lt_mul (by omega)]
          exact Nat.mul_lt_mul_of_pos_left hX hb0
        have := dgc_lt (d := b * X / P) (by omega)
        omega
      · exact frD_lt hb hb0 f _ (Nat.mod_lt _ (by omega)) c hc
/-- A round of the digits. -/
inductive FrR (base : Nat) (w : World) (b P X0 s g cap : Nat) : Value → Value → World → Prop
  | mk (j : Nat) (D M : List Nat) (v : Value) (W : World) (hj : j ≤ 52) (hD : D.length = j) (hF : D ++ frD b P (52 - j) (val32 M) = frD b P 52 X0) (ho : OwnB base W v D) (hM : M.length = s) (hW : W32 M) (hO : Own base W (.slice (some ⟨g, 0, none⟩) s cap) M) (hb : Below base w W) : FrR base w b P X0 s g cap v (.int .i64 (j : Int)) W
set_option maxRecDepth 100000 in
set_option maxHeartbeats 1000000 in
theorem frac_any (m k b s : Nat) (hm : m < 18446744073709551616) (hm0 : m % 2 = 1) (hk1 : 1 ≤ k) (hk : k ≤ 1100) (hs : s = (k + 31) / 32) (hb2 : 2 ≤ b) (hb36 : b ≤ 36) (w : World) :
    Calls Tryz.prog 115 #[.int .u64 (m : Int), .int .i64 (k : Int), .int .u32 (b : Int)] w fun e w' => e = .returned (.string (txt (frD b (4294967296 ^ s) 52 (2 ^ (32 * s - k) * m % 4294967296 ^ s)))) ∧ Below w.heap.size w w' := by
  have hs35 : s ≤ 35 := by omega
  have hs1 : 1 ≤ s := by omega
  have es : ((k : Int) + 31) / 32 = (s : Int) := by omega
  obtain ⟨t, ht⟩ : ∃ t, t = 32 * s - k := ⟨_, rfl⟩
  have et : 32 * (s : Int) - (k : Int) = (t : Int) := by omega
  have ht32 : t < 32 := by omega
  rw [← ht]
  obtain ⟨P, hP⟩ : ∃ P, P = 4294967296 ^ s := ⟨_, rfl⟩
  rw [← hP]
  obtain ⟨X0, hX0⟩ : ∃ X0, X0 = 2 ^ t * m % P := ⟨_, rfl⟩
  rw [← hX0]
  have HP : Hid (P = 4294967296 ^ s) := hP
  have HX0 : Hid (X0 = 2 ^ t * m % P) := hX0
  clear hs ht hP hX0
  have cn := natOf_any m hm w
  go_enter Tryz.func115, Tryz.ntmps115
  go_wp2_with (first | (go_at_call 112; go_fit cn; rintro e w1 ⟨n1, rfl, hN1, hb1⟩) | (go_at_call 113; fail))
  have hsz1 := hb1.size
  have c2 := shifted_any w.heap.size w.heap.size n1 2 m t (by omega) hm (by omega) w1 hN1 hsz1
  clear cn hN1
  go_fit c2
  rintro e w2 ⟨v2, rfl, hN2, hb2'⟩
  obtain ⟨L, hO, hW, hTp, hval⟩ := hN2
  obtain ⟨g, cap, hve, hg0, hg1, hlc⟩ : ∃ g cap, v2 = .slice (some ⟨g, 0, none⟩) L.length cap ∧ w1.heap.size ≤ g ∧ g < w2.heap.size ∧ L.length ≤ cap := by
    rcases hO.forms with ⟨h, h2⟩ | h
    · exfalso
      rw [h2] at hval
      have : 0 < 2 ^ t * m := Nat.mul_pos (Nat.pow_pos (by omega)) (by omega)
      simp [val32] at hval
      omega
    · exact h
  subst hve
  obtain ⟨n, hn⟩ : ∃ n, L.length = n := ⟨_, rfl⟩
  have hn3 : n ≤ 3 := by
    rw [← hn]
    refine top_len hTp hW ?_
    rw [hval]
    have h1 : 2 ^ t ≤ 2 ^ 32 := Nat.pow_le_pow_right (by omega) (by omega)
    have h2 : 2 ^ t * m < 2 ^ 32 * 18446744073709551616 := Nat.lt_of_le_of_lt (Nat.mul_le_mul_right _ h1) (Nat.mul_lt_mul_of_pos_left hm (by decide))
    exact Nat.lt_of_lt_of_le h2 (by decide)
  have hbw2 : Below w.heap.size w w2 := hb1.trans (hb2'.mono hsz1)
  rw [hn]
  have HO : Hid (Own w.heap.size w2 (.slice (some ⟨g, 0, none⟩) n cap) L) := by
    have h := hO.mono hsz1
    rw [hn] at h
    exact h
  have HL : Hid (L.length = n ∧ W32 L ∧ val32 L = 2 ^ t * m) := ⟨hn, hW, hval⟩
  have hsz2 := hbw2.size
  clear hO hW hTp hval c2 hb1 hb2'
  have hO := HO.out
  go_wp2_with (first | (at_builtin; refine appZ rfl _ _ rfl w.heap.size g n cap s L _ hn hO rfl rfl hs1 (by omega) hsz2 ?_; intro g3 cap3 w3 hO3 hc3 hb3))
  obtain ⟨hn', hWL, hval⟩ := HL.out
  have hbw3 : Below w.heap.size w w3 := hbw2.trans hb3
  have hM0 : Own w.heap.size w3 (.slice (some ⟨g3, 0, none⟩) s cap3) ((L ++ List.replicate s 0).take s) := own_cut hO3 (by rw [List.length_append, List.length_replicate, hn]) (by omega)
  have hW0 : W32 (L ++ List.replicate s 0) := by
    intro d hd
    rcases List.mem_append.1 hd with h1 | h1
    · exact hWL d h1
    · have := List.eq_of_mem_replicate h1; omega
  have hv0 : val32 ((L ++ List.replicate s 0).take s) = 2 ^ t * m % 4294967296 ^ s := by
    rw [val32_taken _ hW0, val32_append, val32_zeros, hval, Nat.mul_zero, Nat.add_zero]
  have hl0 : ((L ++ List.replicate s 0).take s).length = s := by rw [List.length_take, List.length_append, List.length_replicate, hn]; omega
  have hw0 : W32 ((L ++ List.replicate s 0).take s) := fun d hd => hW0 d (List.mem_of_mem_take hd)
  generalize (L ++ List.replicate s 0).take s = M0 at *
  have hX0 := HX0.out
  rw [HP.out] at hX0
  rw [← hX0] at hv0
  have hX0p : X0 ≠ 0 := by
    intro h
    rw [hX0] at h
    have h1 := Nat.dvd_of_mod_eq_zero h
    have h2 : 2 ^ 32 ∣ 4294967296 ^ s := by
      obtain ⟨r, rfl⟩ : ∃ r, s = r + 1 := ⟨s - 1, by omega⟩
      rw [Nat.pow_succ]
      exact Nat.dvd_mul_left _ _
    have h3 := Nat.dvd_trans h2 h1
    have h4 : 2 ^ 32 = 2 ^ t * 2 ^ (32 - t) := by rw [← Nat.pow_add]; congr 1; omega
    rw [h4] at h3
    have h5 := Nat.dvd_of_mul_dvd_mul_left (Nat.pow_pos (by omega)) h3
    have h6 : 2 ∣ 2 ^ (32 - t) := by
      obtain ⟨r, hr⟩ : ∃ r, 32 - t = r + 1 := ⟨31 - t, by omega⟩
      rw [hr, Nat.pow_succ]
      exact Nat.dvd_mul_left _ _
    have h7 := Nat.dvd_trans h6 h5
    omega
  have HM : Hid (Own w.heap.size w3 (.slice (some ⟨g3, 0, none⟩) s cap3) M0 ∧ W32 M0 ∧ M0.length = s ∧ val32 M0 = X0) := ⟨hM0, hw0, hl0, hv0⟩
  have hbw4 := hbw3
  have hcap : s ≤ cap3 := by omega
  clear hM0 hw0 hl0 hv0 hX0 hW0 hn' hWL hval hO3 hO HO HL hn hb3 hbw2 hbw3 hlc hg0 hg1
  go_loopw [9, 25] (fun vo vi wr => FrR w.heap.size w b P X0 s g3 cap3 vo vi wr) (fun _ vi _ => 52 - (RowKit.intOf vi).toNat)
  case atStart =>
    obtain ⟨h1, h2, h3, h4⟩ := HM.out
    exact .mk 0 [] M0 _ _ (by omega) rfl (by rw [h4]; rfl) (World.ownsRow_nil _ _ _ _) h3 h2 h1 hbw4
  case round =>
    clear HM hbw4
    obtain ⟨j, D, M, v, W, hj, hD, hF, ho, hM, hW, hO, hbw⟩ := hrel
    have HF : Hid (D ++ frD b P (52 - j) (val32 M) = frD b P 52 X0) := hF
    have HO : Hid (Own w.heap.size wr (.slice (some ⟨g3, 0, none⟩) s cap3) M) := hO
    have HOB : Hid (OwnB w.heap.size wr u9 D) := ho
    have HW : Hid (W32 M ∧ M.length = s) := ⟨hW, hM⟩
    have hws := hbw.size
    obtain ⟨oa, oc, hoe⟩ := ho.slice
    rw [hD] at hoe
    subst hoe
    have hob : wr.ownsRow w.heap.size 5 1 (.slice oa j oc) j (D.map bv) := by
      have h := ho
      unfold OwnB at h
      rw [hD] at h
      exact h
    have HD : Hid (D.length = j) := hD
    rcases Nat.lt_or_ge j 52 with hlt | hge
    · have k1 : (j : Int) < 52 := by omega
      have ci := isZero_any w.heap.size (.slice (some ⟨g3, 0, none⟩) s cap3) M (by omega) wr hO
      by_cases hz : val32 M = 0
      · have hd : decide (val32 M = 0) = true := by simp [hz]
        rw [hd] at ci
        rw [hz, frD_zero, List.append_nil] at hF
        have hj0 : D ≠ [] := by
          intro h
          rw [h] at hF
          rw [frD, if_neg hX0p] at hF
          cases hF
        have Hj0 : Hid (D ≠ []) := hj0
        have HF2 : Hid (D = frD b P 52 X0) := hF
        have hb256 : ∀ c ∈ D, c < 256 := by
          rw [hF]
          exact frD_lt hb36 (by omega) 52 X0 (by rw [HX0.out]; exact Nat.mod_lt _ (by rw [HP.out]; exact Nat.pow_pos (by omega)))
        obtain ⟨g4, c4, hoe⟩ : ∃ g4 c4, Value.slice oa j oc = .slice (some ⟨g4, 0, none⟩) j c4 := by
          rcases ho.forms with ⟨h1, h2⟩ | ⟨g4, c4, h1, _⟩
          · exact absurd h2 hj0
          · rw [hD] at h1; exact ⟨g4, c4, h1⟩
        cases hoe
        have hcv := conv_row (bs := D) (W := wr) (base := w.heap.size) (g := g4) (cap := oc) hb256 (by rw [hD]; exact hob)
        rw [hD] at hcv
        clear hd hF hj0 hD hz hO ho hob hW hM
        go_wp2_with (first | (go_at_call 145; go_fit ci; rintro e w5 ⟨rfl, rfl⟩))
        go_ret
        exact ⟨by rw [HF2.out]; rfl, hbw⟩
      · have hd : decide (val32 M = 0) = false := by simp [hz]
        rw [hd] at ci
        have hMP : val32 M < P := by
          rw [HP.out, ← hM]
          exact val32_lt M hW
        have HMP : Hid (val32 M < P ∧ val32 M ≠ 0) := ⟨hMP, hz⟩
        have cs := scale_kept w.heap.size (.slice (some ⟨g3, 0, none⟩) s cap3) M (by omega) hW b 0 (by omega) (by omega) wr hO
        rw [hM, ← HP.out] at cs
        clear hd hF hD hz hO ho hW hM hMP
        go_wp2_with (first | (go_at_call 145; go_fit ci; rintro e w5 ⟨rfl, rfl⟩) | (go_at_call 143; fail))
        go_fit cs
        rintro e w5 ⟨M2, over, rfl, hM2, hW2, hov, hsum, hO2, hb5, hk5⟩
        have hov36 : over < b := by
          obtain ⟨h1, h2⟩ := HMP.out
          rcases Nat.lt_or_ge over b with h | h
          · exact h
          · exfalso
            have h3 : P * b ≤ P * over := Nat.mul_le_mul_left _ h
            have h4 : b * val32 M < b * P := Nat.mul_lt_mul_of_pos_left h1 (by omega)
            rw [Nat.mul_comm b P] at h4
            omega
        have hdiv : over = b * val32 M / P ∧ val32 M2 = b * val32 M % P := by
          have h5 : val32 M2 < P := by rw [HP.out, ← hM2]; exact val32_lt M2 hW2
          rw [← Nat.add_zero (b * val32 M), ← hsum]
          constructor
          · rw [Nat.add_mul_div_left _ _ (by omega), Nat.div_eq_of_lt h5, Nat.zero_add]
          · rw [Nat.add_mul_mod_self_left, Nat.mod_eq_of_lt h5]
        have HDV := (show Hid (over = b * val32 M / P ∧ val32 M2 = b * val32 M % P) from hdiv)
        have HO2 : Hid (Own w.heap.size w5 (.slice (some ⟨g3, 0, none⟩) s cap3) M2) := hO2
        have HW2 : Hid (W32 M2 ∧ M2.length = s) := ⟨hW2, hM2⟩
        have hob5 : w5.ownsRow w.heap.size 5 1 (.slice oa j oc) j (D.map bv) := by
          have h := HOB.out.keep hk5
          unfold OwnB at h
          rw [HD.out] at h
          exact h
        have hbw5 : Below w.heap.size w w5 := hbw.trans hb5
        have hov2 : over < 36 := by omega
        clear cs ci hdiv hO2 hW2 hM2 hk5 hob hsum hov
        go_wp2_with (first | (at_builtin; refine app1 rfl _ _ rfl w.heap.size _ _ _ w _ _ hob5 rfl rfl (by omega) (Nat.le_refl _) hbw5 ?_; intro v' w6 hob' hbw6 hk6))
        have e := tab_dgc over (by omega)
        have hob2 : OwnB w.heap.size w6 v' (D ++ [dgc over]) := by
          unfold OwnB
          rw [List.length_append, HD.out, List.map_append]
          have e3 : [dgc over].map bv = [Value.int .u8 (((tabZ[over]'(by rw [tabZ_size]; omega)).toNat : Nat) : Int)] := by rw [e]; rfl
          rw [e3]
          exact hob'
        have ei : (j : Int) + 1 = ((j + 1 : Nat) : Int) := rfl
        rw [ei]
        refine ⟨.mk (j + 1) _ M2 _ _ hlt (by rw [List.length_append, HD.out]; rfl) ?_ hob2 HW2.out.2 HW2.out.1 (own_keep5 HO2.out hk6) hbw6, ?_⟩
        · rw [← HF.out, List.append_assoc]
          congr 1
          obtain ⟨f, hf⟩ : ∃ f, 52 - j = f + 1 := ⟨51 - j, by omega⟩
          rw [hf, show 52 - (j + 1) = f by omega, frD, if_neg HMP.out.2, ← HDV.out.1, ← HDV.out.2]
          rfl
        · simp only [RowKit.intOf, Int.toNat_natCast]
          omega
    · have hj52 : j = 52 := by omega
      subst hj52
      have hF2 : D = frD b P 52 X0 := by
        rw [Nat.sub_self, frD, List.append_nil] at hF
        exact hF
      have HF2 : Hid (D = frD b P 52 X0) := hF2
      have hb256 : ∀ c ∈ D, c < 256 := by
        rw [hF2]
        exact frD_lt hb36 (by omega) 52 X0 (by rw [HX0.out]; exact Nat.mod_lt _ (by rw [HP.out]; exact Nat.pow_pos (by omega)))
      obtain ⟨g4, c4, hoe⟩ : ∃ g4 c4, Value.slice oa 52 oc = .slice (some ⟨g4, 0, none⟩) 52 c4 := by
        rcases ho.forms with ⟨h1, h2⟩ | ⟨g4, c4, h1, _⟩
        · rw [h2] at hD; cases hD
        · rw [hD] at h1; exact ⟨g4, c4, h1⟩
      cases hoe
      have hcv := conv_row (bs := D) (W := wr) (base := w.heap.size) (g := g4) (cap := oc) hb256 (by rw [hD]; exact hob)
      rw [hD] at hcv
      clear hF hF2 hD hO ho hob hW hM
      go_wp2
      go_ret
      exact ⟨by rw [HF2.out]; rfl, hbw⟩
end Go.Proofs.YtellndmbllmjgaaGreatDoor
/- Radix. -/
set_option linter.unusedVariables false
namespace Go.Proofs.YtellndmbllmjgaaGreatDoor
open Go.RowKit Go.Shelf Go.Sort Fs Fl

set_option maxRecDepth 100000 in
set_option maxHeartbeats 1000000 in
theorem radW_no (x : Nat) (b : Int) (hb : b < 2 ∨ 36 < b) (w : World) :
    Calls Tryz.prog 59 #[.float .f64 x, .int .i64 b] w fun e w' => e = .returned (.tuple #[.string ⟨#[]⟩, .iface 35 (.int .i64 5)]) ∧ w' = w := by
  rcases hb with h | h
  · go_enter Tryz.func59, Tryz.ntmps59
    go_wp2
    go_ret2
    exact ⟨rfl, rfl⟩
  · have h2 : ¬ b < 2 := by omega
    go_enter Tryz.func59, Tryz.ntmps59
    go_wp2
    go_ret2
    exact ⟨rfl, rfl⟩
set_option maxRecDepth 100000 in
set_option maxHeartbeats 1000000 in
/-- Where Text answers. -/
theorem radW_text (x : Nat) (b : Int) (hb1 : 2 ≤ b) (hb2 : b ≤ 36) (f z : Bool) (T : ByteArray) (w : World)
    (hz : (FloatKind.f64.format.order x 0 == some .eq) = z) (h : f = false ∨ z = true ∨ b = 10)
    (cf : ∀ w, Calls Tryz.prog 109 #[.float .f64 x] w fun e w' => e = .returned (.bool f) ∧ w' = w)
    (ct : Calls Tryz.prog 8 #[.float .f64 x] w fun e w' => e = .returned (.string T) ∧ Below w.heap.size w w') :
    Calls Tryz.prog 59 #[.float .f64 x, .int .i64 b] w fun e w' => e = .returned (.tuple #[.string T, .nilIface]) ∧ Below w.heap.size w w' := by
  have k1 : ¬ b < 2 := by omega
  have k2 : ¬ 36 < b := by omega
  cases f
  · clear h hz
    go_enter Tryz.func59, Tryz.ntmps59
    go_wp2_with (first | (go_at_call 109; refine (cf _).mono ?_; rintro e w1 ⟨rfl, rfl⟩) | (go_at_call 8; refine ct.mono ?_; rintro e w2 ⟨rfl, hb2⟩))
    go_ret2
    exact ⟨rfl, hb2⟩
  · cases z
    · have h10 : b = 10 := by simpa using h
      subst h10
      clear h
      go_enter Tryz.func59, Tryz.ntmps59
      go_wp2_with (first | (go_at_call 109; refine (cf _).mono ?_; rintro e w1 ⟨rfl, rfl⟩) | (go_at_call 8; refine ct.mono ?_; rintro e w2 ⟨rfl, hb2⟩))
      go_ret2
      exact ⟨rfl, hb2⟩
    · clear h
      go_enter Tryz.func59, Tryz.ntmps59
      go_wp2_with (first | (go_at_call 109; refine (cf _).mono ?_; rintro e w1 ⟨rfl, rfl⟩) | (go_at_call 8; refine ct.mono ?_; rintro e w2 ⟨rfl, hb2⟩))
      go_ret2
      exact ⟨rfl, hb2⟩
theorem toB_len {b : Nat} (hb : 2 ≤ b) (x K : Nat) (hK : 1 ≤ K) (hx : x < b ^ K) : (toB b x).length ≤ K := by
  rcases Nat.eq_zero_or_pos x with h | h
  · rw [h, toB_small (by omega)]
    exact hK
  · obtain ⟨M, k, h1, h2, _⟩ := le_trim hb K x h hx
    have h3 := congrArg List.length h1
    rw [leB_length, List.length_append, List.length_replicate] at h3
    rw [← h2, List.length_reverse]
    omega
theorem toB_fit {b x B : Nat} (hb : 2 ≤ b) (hx : x < 4294967296 ^ B) : x < b ^ (32 * B) := by
  refine Nat.lt_of_lt_of_le hx ?_
  rw [show (4294967296 : Nat) = 2 ^ 32 from rfl, ← Nat.pow_mul]
  exact Nat.pow_le_pow_left hb _
theorem frD_len (b P : Nat) : ∀ f X, (frD b P f X).length ≤ f
  | 0, _ => by simp [frD]
  | f + 1, X => by
    rw [frD]
    split
    · simp
    · rw [List.length_cons]
      have := frD_len b P f (b * X % P)
      omega
theorem shr_min (m k : Nat) (hm : m < 18446744073709551616) : m / 2 ^ min k 64 = m / 2 ^ k := by
  rcases Nat.lt_or_ge k 64 with h | h
  · rw [Nat.min_eq_left (by omega)]
  · rw [Nat.min_eq_right h, Nat.div_eq_of_lt hm, Nat.div_eq_of_lt]
    exact Nat.lt_of_lt_of_le hm (Nat.pow_le_pow_right (show 0 < 2 by omega) h)
set_option maxRecDepth 100000 in
set_option maxHeartbeats 1000000 in
theorem radW_whole (hC : PartC) (x r m e b : Nat) (M : ByteArray) (hb1 : 2 ≤ b) (hb2 : b ≤ 36) (hb10 : b ≠ 10) (hm : m < 18446744073709551616) (hm0 : 0 < m) (he : e ≤ 1100) (hM : M.size ≤ 1) (w : World)
    (hz : (FloatKind.f64.format.order x 0 == some .eq) = false)
    (cf : ∀ w, Calls Tryz.prog 109 #[.float .f64 x] w fun e w' => e = .returned (.bool true) ∧ w' = w)
    (cm : ∀ w, Calls Tryz.prog 107 #[.float .f64 x] w fun e w' => e = .returned (.string M) ∧ w' = w)
    (ca : ∀ w, Calls Tryz.prog 71 #[.float .f64 x] w fun e w' => e = .returned (.float .f64 r) ∧ w' = w)
    (cp : Calls Tryz.prog 111 #[.float .f64 r] w fun ee w' => ee = .returned (.tuple #[.int .u64 (m : Int), .int .i64 (e : Int)]) ∧ w' = w) :
    Calls Tryz.prog 59 #[.float .f64 x, .int .i64 (b : Int)] w fun e' w' => e' = .returned (.tuple #[.string (M ++ txt (toB b (2 ^ e * m))), .nilIface]) ∧ Below w.heap.size w w' := by
  have k10 : ((b : Int) == 10) = false := by rw [beq_eq_false_iff_ne]; omega
  have HC : Hid PartC := hC
  obtain ⟨B, hB⟩ : ∃ B, B = 40 := ⟨_, rfl⟩
  have hlt := two_lt e m _ B rfl hB he hm
  have HLT : Hid (2 ^ e * m < 4294967296 ^ B ∧ B = 40) := ⟨hlt, hB⟩
  obtain ⟨T, hT⟩ : ∃ T, T = txt (toB b (2 ^ e * m)) := ⟨_, rfl⟩
  rw [← hT]
  have HT : Hid (T = txt (toB b (2 ^ e * m))) := hT
  clear hC hlt hB hT
  go_enter Tryz.func59, Tryz.ntmps59
  go_wp2_with (first | (go_at_call 109; refine (cf _).mono ?_; rintro e w1 ⟨rfl, rfl⟩) | (go_at_call 71; refine (ca _).mono ?_; rintro e w1 ⟨rfl, rfl⟩) | (go_at_call 111; refine cp.mono ?_; rintro e w1 ⟨rfl, rfl⟩) | (go_at_call 107; refine (cm _).mono ?_; rintro e w1 ⟨rfl, rfl⟩) | (go_at_call 112; fail))
  have cn := natOf_any m hm w1
  clear cf ca cm cp
  go_fit cn
  rintro e' w2 ⟨n1, rfl, hN1, hb1'⟩
  have hsz1 := hb1'.size
  have c2 := shifted_any w1.heap.size w1.heap.size n1 2 m e he hm (by omega) w2 hN1 hsz1
  clear cn hN1
  go_wp2_with (first | (go_at_call 113; fail))
  go_fit c2
  rintro e' w3 ⟨v2, rfl, hN2, hb2'⟩
  have hbw3 : Below w1.heap.size w1 w3 := hb1'.trans (hb2'.mono hsz1)
  have ct := text_big HC.out w1.heap.size v2 (2 ^ e * m) b B hb1 hb2 (by rw [HLT.out.2]; omega) HLT.out.1 w3 (hN2.mono hsz1) hbw3.size
  rw [← HT.out] at ct
  have hTs : T.size ≤ 10000 := by
    rw [HT.out, txt_size]
    exact Nat.le_trans (toB_len hb1 (2 ^ e * m) (32 * B) (by rw [HLT.out.2]; omega) (toB_fit hb1 HLT.out.1)) (by rw [HLT.out.2]; omega)
  obtain ⟨va, vn, vc, rfl⟩ := hN2.slice
  clear c2 hN2 hb1' hb2'
  go_wp2_with (first | (go_at_call 114; fail))
  go_fit ct
  rintro e' w4 ⟨rfl, hb4⟩
  clear ct
  go_wp2
  go_ret2
  exact ⟨rfl, hbw3.trans hb4⟩
set_option maxRecDepth 100000 in
set_option maxHeartbeats 1000000 in
theorem radW_frac (hC : PartC) (x r m k b s : Nat) (M : ByteArray) (hb1 : 2 ≤ b) (hb2 : b ≤ 36) (hb10 : b ≠ 10) (hm : m < 18446744073709551616) (hm0 : m % 2 = 1) (hk1 : 1 ≤ k) (hk : k ≤ 1100) (hs : s = (k + 31) / 32) (hM : M.size ≤ 1) (w : World)
    (hz : (FloatKind.f64.format.order x 0 == some .eq) = false)
    (cf : ∀ w, Calls Tryz.prog 109 #[.float .f64 x] w fun e w' => e = .returned (.bool true) ∧ w' = w)
    (cm : ∀ w, Calls Tryz.prog 107 #[.float .f64 x] w fun e w' => e = .returned (.string M) ∧ w' = w)
    (ca : ∀ w, Calls Tryz.prog 71 #[.float .f64 x] w fun e w' => e = .returned (.float .f64 r) ∧ w' = w)
    (cp : Calls Tryz.prog 111 #[.float .f64 r] w fun ee w' => ee = .returned (.tuple #[.int .u64 (m : Int), .int .i64 (-(k : Int))]) ∧ w' = w) :
    Calls Tryz.prog 59 #[.float .f64 x, .int .i64 (b : Int)] w fun e' w' => e' = .returned (.tuple #[.string (M ++ txt (toB b (m / 2 ^ k)) ++ txt [46] ++ txt (frD b (2 ^ k) 52 (m % 2 ^ k))), .nilIface]) ∧ Below w.heap.size w w' := by
  have k10 : ((b : Int) == 10) = false := by rw [beq_eq_false_iff_ne]; omega
  have HC : Hid PartC := hC
  obtain ⟨q, hq⟩ : ∃ q, q = m / 2 ^ k := ⟨_, rfl⟩
  have hqm : q < 18446744073709551616 := by rw [hq]; exact Nat.lt_of_le_of_lt (Nat.div_le_self _ _) hm
  have hsh := pa_cdiv m (min k 64)
  rw [shr_min m k hm, ← hq] at hsh
  rw [← hq]
  have hF : frD b (4294967296 ^ s) 52 (2 ^ (32 * s - k) * m % 4294967296 ^ s) = frD b (2 ^ k) 52 (m % 2 ^ k) := by
    have e1 : (4294967296 : Nat) ^ s = 2 ^ (32 * s - k) * 2 ^ k := by
      rw [← Nat.pow_add, show 32 * s - k + k = 32 * s by omega, show (4294967296 : Nat) = 2 ^ 32 from rfl, ← Nat.pow_mul]
    rw [e1, Nat.mul_mod_mul_left, frD_scale _ _ _ (Nat.pow_pos (by omega))]
  have cfr := fun W => frac_any m k b s hm hm0 hk1 hk hs hb1 hb2 W
  rw [hF] at cfr
  have CFR := (show Hid _ from cfr)
  obtain ⟨F, hFF⟩ : ∃ F, F = txt (frD b (2 ^ k) 52 (m % 2 ^ k)) := ⟨_, rfl⟩
  rw [← hFF]
  have HFF : Hid (F = txt (frD b (2 ^ k) 52 (m % 2 ^ k))) := hFF
  have hFs : F.size ≤ 52 := by rw [hFF, txt_size]; exact frD_len _ _ _ _
  obtain ⟨T, hT⟩ : ∃ T, T = txt (toB b q) := ⟨_, rfl⟩
  rw [← hT]
  have HT : Hid (T = txt (toB b q)) := hT
  have hTs : T.size ≤ 64 := by
    rw [hT, txt_size]
    exact toB_len hb1 q (32 * 2) (by omega) (toB_fit (B := 2) hb1 hqm)
  have hwk : IntKind.i64.wrap (-(-(k : Int))) = (k : Int) := by rw [IntKind.wrap_i64]; omega
  clear hC hF cfr hFF hq hs hT
  go_enter Tryz.func59, Tryz.ntmps59
  go_wp2_with (first | (go_at_call 109; refine (cf _).mono ?_; rintro e w1 ⟨rfl, rfl⟩) | (go_at_call 71; refine (ca _).mono ?_; rintro e w1 ⟨rfl, rfl⟩) | (go_at_call 111; refine cp.mono ?_; rintro e w1 ⟨rfl, rfl⟩) | (go_at_call 112; fail))
  have cn := natOf_any q hqm w1
  clear cf ca cp hsh
  go_fit cn
  rintro e' w2 ⟨n1, rfl, hN1, hb1'⟩
  have hsz1 := hb1'.size
  have ct := text_big HC.out w1.heap.size (.slice (some ⟨w1.heap.size, 0, none⟩) n1 2) q b 2 hb1 hb2 (by omega) hqm w2 hN1 hsz1
  rw [← HT.out] at ct
  clear cn hN1
  go_wp2_with (first | (go_at_call 114; fail))
  go_fit ct
  rintro e' w3 ⟨rfl, hb3⟩
  have hbw3 : Below w1.heap.size w1 w3 := hb1'.trans hb3
  have cfr := CFR.out w3
  rw [← HFF.out] at cfr
  clear ct hb1' hb3 CFR
  go_wp2_with (first | (go_at_call 107; refine (cm _).mono ?_; rintro e w1 ⟨rfl, rfl⟩) | (go_at_call 115; fail))
  go_fit cfr
  rintro e' w5 ⟨rfl, hb5⟩
  clear cfr
  go_wp2
  go_ret2
  exact ⟨rfl, hbw3.trans (hb5.mono hbw3.size)⟩
end Go.Proofs.YtellndmbllmjgaaGreatDoor
/- finite at what is no number; Fixed, Exponential, Precision, Radix where Text answers; Precision: too few or too many digits. -/
set_option linter.unusedVariables false
namespace Go.Proofs.YtellndmbllmjgaaGreatDoor
open Go.RowKit Go.Shelf Go.Sort Fs Fl

/-- A NaN that is drawn. -/
theorem nan_drawn (x y t : Nat) : ∃ s r, Question.cut (.nanBits .f64 x y) t = wd s r ∧ 9218868437227405312 < r ∧ r < 9223372036854775808 := by
  refine ⟨decide (t % 2 = 1), 9218868437227405313 + t / 2 % 4503599627370495, ?_, by omega, by omega⟩
  have e : Question.cut (.nanBits .f64 x y) t = t % 2 * 9223372036854775808 + 9218868437227405312 + 1 + t / 2 % 4503599627370495 := rfl
  rw [e]
  rcases Nat.mod_two_eq_zero_or_one t with h | h
  · rw [h, show decide (0 = 1) = false from rfl, wd_false]; try omega
  · rw [h, show decide (1 = 1) = true from rfl, wd_true]; try omega
theorem sub_drawn (x : Nat) (h : Ieee.double.sub x x = none) (t : TypeId) (w : World) : ∃ N, (FloatKind.f64.format.order N 0 == some .eq) = false ∧ (binOp .sub t (.float .f64 x) (.float .f64 x)).run Tryz.prog w = .ok (.float .f64 N) w.drew := by
  obtain ⟨s, r, he, h1, h2⟩ := nan_drawn x x (w.tape w.drawn (.nanBits .f64 x x))
  refine ⟨wd s r, by have e : FloatKind.f64.format.order (wd s r) 0 = none := order_nan 0 s r h1 h2; rw [e]; rfl, ?_⟩
  have h' : FloatKind.f64.format.sub x x = none := h
  have hf : (Question.nanBits .f64 x x).forced = false := rfl
  simp [binOp, Op.floatArith, h', hf, he]
theorem finite_not (x : Nat) (h : Ieee.double.sub x x = none) (w : World) : Calls Tryz.prog 109 #[.float .f64 x] w fun e w' => e = .returned (.bool false) ∧ w' = w.drew := by
  obtain ⟨N, h2, h1⟩ := sub_drawn x h 23 w
  clear h
  go_enter Tryz.func109, Tryz.ntmps109
  go_wp2
  go_ret
  exact ⟨rfl, rfl⟩
theorem below_drew (w : World) : Below w.heap.size w w.drew := (Below.refl _ _).drew
/-- What Text says, wherever. -/
def TextC (x : Nat) (PT : ByteArray → Prop) (w : World) : Prop := ∀ W, Below w.heap.size w W → Calls Tryz.prog 8 #[.float .f64 x] W fun e w' => ∃ T, PT T ∧ e = .returned (.string T) ∧ Below W.heap.size W w'
set_option maxRecDepth 100000 in
set_option maxHeartbeats 1000000 in
theorem fixW_farP (x r : Nat) (n : Nat) (hn : n ≤ 20) (PT : ByteArray → Prop) (w : World)
    (ho : (FloatKind.f64.format.order r 4921056587992461136 == some .lt) = false)
    (ca : ∀ w, Calls Tryz.prog 71 #[.float .f64 x] w fun e w' => e = .returned (.float .f64 r) ∧ w' = w)
    (ct : TextC x PT w) :
    Calls Tryz.prog 56 #[.float .f64 x, .int .i64 (n : Int)] w fun e w' => ∃ T, PT T ∧ e = .returned (.tuple #[.string T, .nilIface]) ∧ Below w.heap.size w w' := by
  have c1 := ct w (Below.refl _ _)
  clear ct
  go_enter Tryz.func56, Tryz.ntmps56
  go_wp2_with (first | (go_at_call 71; refine (ca _).mono ?_; rintro e w1 ⟨rfl, rfl⟩) | (go_at_call 8; refine c1.mono ?_; rintro e w2 ⟨T, hT, rfl, hb2⟩; have HT : Hid (PT T) := hT; clear hT))
  go_ret2
  exact ⟨T, HT.out, rfl, hb2⟩
set_option maxRecDepth 100000 in
set_option maxHeartbeats 1000000 in
/-- Exponential, of what is no number. -/
theorem expW_text (x : Nat) (n : Int) (PT : ByteArray → Prop) (w : World)
    (cf : ∀ w, Calls Tryz.prog 109 #[.float .f64 x] w fun e w' => e = .returned (.bool false) ∧ w' = w.drew)
    (ct : TextC x PT w) :
    Calls Tryz.prog 57 #[.float .f64 x, .int .i64 n] w fun e w' => ∃ T, PT T ∧ e = .returned (.tuple #[.string T, .nilIface]) ∧ Below w.heap.size w w' := by
  have c1 := ct w.drew (below_drew w)
  clear ct
  go_enter Tryz.func57, Tryz.ntmps57
  go_wp2_with (first | (go_at_call 109; refine (cf _).mono ?_; rintro e w1 ⟨rfl, rfl⟩) | (go_at_call 8; refine c1.mono ?_; rintro e w2 ⟨T, hT, rfl, hb2⟩; have HT : Hid (PT T) := hT; clear hT))
  go_ret2
  exact ⟨T, HT.out, rfl, (below_drew w).trans hb2⟩
set_option maxRecDepth 100000 in
set_option maxHeartbeats 1000000 in
/-- Precision, of what is no number. -/
theorem precW_text (x : Nat) (n : Int) (PT : ByteArray → Prop) (w : World)
    (cf : ∀ w, Calls Tryz.prog 109 #[.float .f64 x] w fun e w' => e = .returned (.bool false) ∧ w' = w.drew)
    (ct : TextC x PT w) :
    Calls Tryz.prog 58 #[.float .f64 x, .int .i64 n] w fun e w' => ∃ T, PT T ∧ e = .returned (.tuple #[.string T, .nilIface]) ∧ Below w.heap.size w w' := by
  have c1 := ct w.drew (below_drew w)
  clear ct
  go_enter Tryz.func58, Tryz.ntmps58
  go_wp2_with (first | (go_at_call 109; refine (cf _).mono ?_; rintro e w1 ⟨rfl, rfl⟩) | (go_at_call 8; refine c1.mono ?_; rintro e w2 ⟨T, hT, rfl, hb2⟩; have HT : Hid (PT T) := hT; clear hT))
  go_ret2
  exact ⟨T, HT.out, rfl, (below_drew w).trans hb2⟩
set_option maxRecDepth 100000 in
set_option maxHeartbeats 1000000 in
/-- Precision: too few digits, or too many. -/
theorem precW_no (x : Nat) (n : Int) (hn : n < 1 ∨ 21 < n) (w : World)
    (cf : ∀ w, Calls Tryz.prog 109 #[.float .f64 x] w fun e w' => e = .returned (.bool true) ∧ w' = w) :
    Calls Tryz.prog 58 #[.float .f64 x, .int .i64 n] w fun e w' => e = .returned (.tuple #[.string ⟨#[]⟩, .iface 35 (.int .i64 5)]) ∧ w' = w := by
  rcases hn with h | h
  · go_enter Tryz.func58, Tryz.ntmps58
    go_wp2_with (first | (go_at_call 109; refine (cf _).mono ?_; rintro e w1 ⟨rfl, rfl⟩))
    go_ret2
    exact ⟨rfl, rfl⟩
  · have h2 : ¬ n < 1 := by omega
    go_enter Tryz.func58, Tryz.ntmps58
    go_wp2_with (first | (go_at_call 109; refine (cf _).mono ?_; rintro e w1 ⟨rfl, rfl⟩))
    go_ret2
    exact ⟨rfl, rfl⟩
set_option maxRecDepth 100000 in
set_option maxHeartbeats 1000000 in
/-- Radix, of what is no number. -/
theorem radW_odd (x : Nat) (b : Int) (hb1 : 2 ≤ b) (hb2 : b ≤ 36) (PT : ByteArray → Prop) (w : World)
    (cf : ∀ w, Calls Tryz.prog 109 #[.float .f64 x] w fun e w' => e = .returned (.bool false) ∧ w' = w.drew)
    (ct : TextC x PT w) :
    Calls Tryz.prog 59 #[.float .f64 x, .int .i64 b] w fun e w' => ∃ T, PT T ∧ e = .returned (.tuple #[.string T, .nilIface]) ∧ Below w.heap.size w w' := by
  have k1 : ¬ b < 2 := by omega
  have k2 : ¬ 36 < b := by omega
  have c1 := ct w.drew (below_drew w)
  clear ct
  go_enter Tryz.func59, Tryz.ntmps59
  go_wp2_with (first | (go_at_call 109; refine (cf _).mono ?_; rintro e w1 ⟨rfl, rfl⟩) | (go_at_call 8; refine c1.mono ?_; rintro e w2 ⟨T, hT, rfl, hb2⟩; have HT : Hid (PT T) := hT; clear hT))
  go_ret2
  exact ⟨T, HT.out, rfl, (below_drew w).trans hb2⟩
set_option maxRecDepth 100000 in
set_option maxHeartbeats 1000000 in
/-- Radix at nought, and to ten. -/
theorem radW_textP (x : Nat) (b : Int) (hb1 : 2 ≤ b) (hb2 : b ≤ 36) (z : Bool) (PT : ByteArray → Prop) (w : World)
    (hz : (FloatKind.f64.format.order x 0 == some .eq) = z) (h : z = true ∨ b = 10)
    (cf : ∀ w, Calls Tryz.prog 109 #[.float .f64 x] w fun e w' => e = .returned (.bool true) ∧ w' = w)
    (ct : TextC x PT w) :
    Calls Tryz.prog 59 #[.float .f64 x, .int .i64 b] w fun e w' => ∃ T, PT T ∧ e = .returned (.tuple #[.string T, .nilIface]) ∧ Below w.heap.size w w' := by
  have k1 : ¬ b < 2 := by omega
  have k2 : ¬ 36 < b := by omega
  have c1 := ct w (Below.refl _ _)
  clear ct
  cases z
  · have h10 : b = 10 := by simpa using h
    subst h10
    clear h
    go_enter Tryz.func59, Tryz.ntmps59
    go_wp2_with (first | (go_at_call 109; refine (cf _).mono ?_; rintro e w1 ⟨rfl, rfl⟩) | (go_at_call 8; refine c1.mono ?_; rintro e w2 ⟨T, hT, rfl, hb2⟩; have HT : Hid (PT T) := hT; clear hT))
    go_ret2
    exact ⟨T, HT.out, rfl, hb2⟩
  · clear h
    go_enter Tryz.func59, Tryz.ntmps59
    go_wp2_with (first | (go_at_call 109; refine (cf _).mono ?_; rintro e w1 ⟨rfl, rfl⟩) | (go_at_call 8; refine c1.mono ?_; rintro e w2 ⟨T, hT, rfl, hb2⟩; have HT : Hid (PT T) := hT; clear hT))
    go_ret2
    exact ⟨T, HT.out, rfl, hb2⟩
end Go.Proofs.YtellndmbllmjgaaGreatDoor
