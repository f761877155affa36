/- nat.text of greater numbers, given what part does. -/
import Derived.Test.YtellndmbllmjgaaGreatDoorCDa5
import Derived.Test.YtellndmbllmjgaaGreatDoorCDb1x
set_option linter.unusedVariables false
namespace Go.Proofs.YtellndmbllmjgaaGreatDoor
open Go.RowKit Go.Shelf Go.Sort Fs Fl

theorem round_lt2 {x b K B : Nat} (hb : 2 ≤ b) (hx : x < 4294967296 ^ B) (h : 0 < x / b ^ K) : K < 32 * B := by
  have h1 : b ^ K ≤ x := by
    rcases Nat.lt_or_ge x (b ^ K) with h2 | h2
    · rw [Nat.div_eq_of_lt h2] at h; omega
    · exact h2
  have h2 : 2 ^ K ≤ b ^ K := Nat.pow_le_pow_left hb _
  have h3 : (4294967296 : Nat) ^ B = 2 ^ (32 * B) := by rw [show (4294967296 : Nat) = 2 ^ 32 from rfl, ← Nat.pow_mul]
  rw [h3] at hx
  exact (Nat.pow_lt_pow_iff_right (show 1 < 2 by omega)).1 (by omega)
/-- A round of text: t digits are laid. -/
inductive TxS (base : Nat) (w : World) (b x s B : Nat) : Value → Value → World → Prop
  | mk (t : Nat) (a : Option Addr) (n c : Nat) (v : Value) (W : World) (ht : s * t ≤ 32 * B + 32) (ha : NatP base W (.slice a n c) (x / b ^ (s * t))) (ho : OwnB base W v (leB b (s * t) x)) (hb : Below base w W) : TxS base w b x s B (.slice a n c) v W
set_option maxRecDepth 1000000 in
set_option maxHeartbeats 1000000 in
theorem text_big (hC : PartC) (base : Nat) (v : Value) (x b B : Nat) (hb2 : 2 ≤ b) (hb36 : b ≤ 36) (hB : B ≤ 120) (hx : x < 4294967296 ^ B) (w : World) (hv : NatP base w v x) (hbs : base ≤ w.heap.size) :
    Calls Tryz.prog 114 #[v, .int .u32 (b : Int)] w fun e w' => e = .returned (.string (txt (toB b x))) ∧ Below base w w' := by
  obtain ⟨va, vn, vc, rfl⟩ := hv.slice
  have HV : Hid (NatP base w (.slice va vn vc) x) := hv
  have HC : Hid PartC := hC
  have HX : Hid (x < 4294967296 ^ B) := hx
  clear hv hC hx
  go_enter Tryz.func114, Tryz.ntmps114
  go_wp2
  go_loopw [5, 6] (fun u s wr => UnR b u s ∧ wr = w) (fun _ s _ => 40 - (RowKit.intOf s).toNat)
  case atStart => exact ⟨.mk b 1 (by simp) (by omega) (by omega) (by omega), rfl⟩
  case round =>
    obtain ⟨⟨u, s, hu, hs, hs2, hl⟩, rfl⟩ := hrel
    have hup : u * b ≤ 154618822656 := Nat.le_trans (Nat.mul_le_mul (show u ≤ 4294967296 by omega) hb36) (by decide)
    have hu0 : 1 ≤ u := by rw [hu]; exact Nat.pow_pos (by omega)
    have hub : u ≤ u * b := Nat.le_mul_of_pos_right _ (by omega)
    obtain ⟨y, hy⟩ : ∃ y, y = u * b := ⟨_, rfl⟩
    have hw1 : IntKind.u64.wrap ((u : Int) * (b : Int)) = (y : Int) := by
      rw [IntKind.wrap_u64, ← Int.natCast_mul, ← hy]
      omega
    have HU : Hid (u = b ^ s) := hu
    have HY : Hid (y = u * b) := hy
    rw [← hy] at hup hub
    rcases Nat.lt_or_ge y 4294967296 with hlt | hge
    · have hw2 : IntKind.u32.wrap ((u : Int) * (b : Int)) = (y : Int) := by
        rw [IntKind.wrap_u32, ← Int.natCast_mul, ← hy]
        omega
      have k1 : (y : Int) < 4294967296 := by omega
      clear hu hy
      go_wp2
      have e1 : (s : Int) + 1 = ((s + 1 : Nat) : Int) := rfl
      rw [e1]
      have hys : y = b ^ (s + 1) := by rw [HY.out, HU.out, Nat.pow_succ]
      have hs3 : s + 1 < 32 := by
        have h1 : 2 ^ (s + 1) ≤ b ^ (s + 1) := Nat.pow_le_pow_left hb2 _
        have h2 : 2 ^ (s + 1) < 2 ^ 32 := by omega
        exact (Nat.pow_lt_pow_iff_right (by omega)).1 h2
      refine ⟨⟨.mk y (s + 1) hys (by omega) (by omega) hlt, trivial⟩, ?_⟩
      simp only [RowKit.intOf, Int.toNat_natCast]
      omega
    · have hu2 : 1 < u := by
        rcases Nat.lt_or_ge 1 u with h | h
        · exact h
        · exfalso
          have : u * b ≤ 1 * 36 := Nat.mul_le_mul h hb36
          omega
      have k1 : ¬ (y : Int) < 4294967296 := by omega
      have hs40 : s ≤ 32 := hs2
      clear hu hy hub hup
      go_wp2
      rename World => wB
      go_loopw [0, 7] (fun va vo wr => TxS base wB b x s B va vo wr) (fun _ vo _ => 100000 - slN vo)
      case atStart => exact .mk 0 _ _ _ _ _ (by rw [Nat.mul_zero]; omega) (by rw [Nat.mul_zero, Nat.pow_zero, Nat.div_one]; exact HV.out) (by rw [Nat.mul_zero]; exact World.ownsRow_nil _ _ _ _) (Below.refl _ _)
      case round =>
        obtain ⟨t, a, n, c, vo, W, ht, ha, ho, hbw⟩ := hrel
        have hws := hbw.size
        have hln := ha.len
        have HA : Hid (NatP base wr (.slice a n c) (x / b ^ (s * t))) := ha
        have HO : Hid (OwnB base wr u7 (leB b (s * t) x)) := ho
        obtain ⟨oa, oc, hoe⟩ := ho.slice
        rw [leB_length] at hoe
        have hst : s * t ≤ 3872 := by omega
        have hn40 : n ≤ B := hln.2 B (Nat.lt_of_le_of_lt (Nat.div_le_self _ _) HX.out)
        rcases Nat.eq_zero_or_pos n with h0 | h0
        · subst h0
          have hx0 := hln.1.1 rfl
          have HX0 : Hid (x / b ^ (s * t) = 0) := hx0
          clear hln hx0 ha ho hw1 k1
          subst hoe
          generalize s * t = K at *
          have HXB : Hid (x < b ^ K) := by
            show x < b ^ K
            rcases Nat.lt_or_ge x (b ^ K) with h | h
            · exact h
            · have := Nat.div_pos h (Nat.pow_pos (by omega))
              have := HX0.out
              omega
          rcases HO.out.forms with ⟨h1, h2⟩ | ⟨g, cap, h1, hg0, hg1, hlc⟩
          · cases h1
            have hx0 : x = 0 := by have := HXB.out; simpa using this
            subst hx0
            go_wp2
            go_loopw [7] (fun v w3 => v = .slice none 0 0 ∧ w3 = wr) (fun _ _ => 0)
            case atStart => exact ⟨rfl, rfl⟩
            case round =>
              obtain ⟨rfl, rfl⟩ := hrel
              go_wp2
              go_ret
              refine ⟨?_, hbw⟩
              rw [toB_small (by omega)]
              rfl
          · rw [leB_length] at hlc h1
            cases h1
            rename World => wC
            go_wp2
            go_loopw [7] (fun v w3 => TbR base g oc wC (leB b K x) v w3) (fun v _ => slN v)
            case atStart => exact .mk (leB b K x) 0 _ (leB_length _ _ _) (by simp) (by rw [leB_length]; exact HO.out)
            case round =>
              obtain ⟨M, k, m, hm, hL, hO⟩ := hrel
              have HM : Hid (leB b K x = M ++ List.replicate k 48) := hL
              have HO2 : Hid (OwnB base wC (.slice (some ⟨g, 0, none⟩) M.length oc) M) := hO
              have Hm : Hid (M.length = m) := hm
              have hmK : m ≤ K := by
                have := congrArg List.length hL
                rw [leB_length, List.length_append, List.length_replicate] at this
                omega
              clear HC HX HV HU HY HA HO hu0 hge hu2 hl hs hs2 hs40 ht hws hn40 hL
              rcases List.eq_nil_or_concat M with hM | ⟨M', z, hM⟩
              · have h00 : m = 0 := by rw [← hm, hM]; rfl
                subst h00
                have hx0 : x = 0 := by
                  rcases Nat.eq_zero_or_pos x with h | h
                  · exact h
                  · exfalso
                    obtain ⟨M2, k2, e1, e2, e3, e4⟩ := le_trim hb2 K x h HXB.out
                    have h5 := HM.out
                    rw [e1, hM] at h5
                    have := trim_one h5 e4 (fun z hz => by simp at hz)
                    exact e3 this
                subst hx0
                clear hm hO hM HM
                go_wp2
                go_ret
                refine ⟨?_, hbw⟩
                rw [toB_small (by omega)]
                rfl
              · obtain ⟨j, hj⟩ : ∃ j, M'.length = j := ⟨_, rfl⟩
                have hmj : m = j + 1 := by rw [← hm, hM]; simp; omega
                have hcell := hO.cell j (by omega)
                have hz : M[j]?.getD 0 = z := by rw [hM, ← hj]; simp
                rw [hz] at hcell
                subst hmj
                have k0 : (0 : Int) < ((j + 1 : Nat) : Int) := by omega
                have k1 : ((j + 1 : Nat) : Int) - 1 = (j : Int) := by omega
                have k2 : (j : Int) < ((j + 1 : Nat) : Int) := by omega
                have HMc : Hid (M = M'.concat z) := hM
                have Hj : Hid (M'.length = j) := hj
                clear hm hO hM hj hz
                by_cases hz0 : z = 48
                · subst hz0
                  go_wp2
                  refine ⟨.mk M' (k + 1) j Hj.out ?_ ?_, by simp [slN]⟩
                  · rw [HM.out, HMc.out, List.concat_eq_append, List.append_assoc, List.replicate_succ]
                    rfl
                  · have := HO2.out
                    rw [HMc.out, List.concat_eq_append] at this
                    exact this.pop
                · have hzz : ((z : Int) == 48) = false := by rw [beq_eq_false_iff_ne]; omega
                  have hx0 : 0 < x := by
                    rcases Nat.eq_zero_or_pos x with h | h
                    · exfalso
                      subst h
                      have h5 := HM.out
                      rw [leB_zero] at h5
                      have h6 := trim_one (M := []) (M' := M) (k := K) (k' := k) (c := 48) (by simpa using h5) (fun z hz => by simp at hz) (fun y hy => by rw [HMc.out] at hy; simp at hy; omega)
                      rw [← h6] at HMc
                      have := HMc.out
                      simp at this
                    · exact h
                  have hrev : M.reverse = toB b x := by
                    obtain ⟨M2, k2, e1, e2, e3, e4⟩ := le_trim hb2 K x hx0 HXB.out
                    have h5 := HM.out
                    rw [e1] at h5
                    have := trim_one h5 e4 (fun y hy => by rw [HMc.out] at hy; simp at hy; omega)
                    rw [← this]
                    exact e2
                  have hO3 : OwnB base wC (.slice (some ⟨g, 0, none⟩) M.length oc) M := HO2.out
                  have cr := reverse_any base g oc M (by rw [Hm.out]; omega) wC hO3 hg0
                  rw [Hm.out, hrev] at cr
                  have HD : Hid (∀ c ∈ toB b x, c < 256) := by
                    show ∀ c ∈ toB b x, c < 256
                    exact toB_lt hb2 hb36 x x (Nat.le_refl _)
                  have Hln : Hid ((toB b x).length = j + 1) := by
                    show (toB b x).length = j + 1
                    rw [← hrev, List.length_reverse, Hm.out]
                  clear hO3 hrev HMc HO2 HM
                  go_wp2_with (first | (go_at_call 160; fail))
                  go_fit cr
                  rintro e w3 ⟨⟨ur, rfl⟩, hO4, hb3⟩
                  unfold OwnB at hO4
                  have hcv := conv_row (bs := toB b x) (W := w3) (base := base) (g := g) (cap := oc) HD.out (by rw [Hln.out]; rw [Hln.out] at hO4; exact hO4)
                  rw [Hln.out] at hcv
                  clear hO4 cr
                  go_wp2
                  go_ret
                  exact ⟨rfl, hbw.trans hb3⟩
        · have hxp : 0 < x / b ^ (s * t) := by
            rcases Nat.eq_zero_or_pos (x / b ^ (s * t)) with h | h
            · have := hln.1.2 h; omega
            · exact h
          have htB := round_lt2 hb2 HX.out hxp
          have hcp := HC.out base (.slice a n c) (x / b ^ (s * t)) u B hu2 hl (by omega) (Nat.lt_of_le_of_lt (Nat.div_le_self _ _) HX.out) hxp wr ha (by omega)
          clear hln ha ho hw1 k1 hxp
          subst hoe
          have k0 : (0 : Int) < (n : Int) := by omega
          go_wp2_with (first | (go_at_call 159; fail))
          go_fit hcp
          rintro e w2 ⟨v2, rfl, hv2, hk2, hb2'⟩
          obtain ⟨a2, n2, c2, rfl⟩ := hv2.slice
          have HO2 : Hid (OwnB base w2 (.slice oa (s * t) oc) (leB b (s * t) x)) := HO.out.keep hk2
          have hbw2 : Below base wB w2 := hbw.trans hb2'
          have HV2 := (show Hid _ from hv2)
          obtain ⟨l0, hl0⟩ : ∃ l0, l0 = x / b ^ (s * t) % u := ⟨_, rfl⟩
          rw [← hl0]
          have HL0 : Hid (l0 = x / b ^ (s * t) % u) := hl0
          have hl0u : l0 < u := by rw [hl0]; exact Nat.mod_lt _ (by omega)
          obtain ⟨K, hK⟩ : ∃ K, K = s * t := ⟨_, rfl⟩
          rw [← hK] at HO2 hst ⊢
          have HK : Hid (K = s * t) := hK
          clear hcp HO HA hv2 hk2 hb2' hl0 hK HC
          go_wp2
          rename World => wC
          have hlS : ∀ i, l0 / b ^ i ≤ l0 := fun i => Nat.div_le_self _ _
          have HlS := (show Hid _ from hlS)
          obtain ⟨q, hq⟩ : ∃ q, q = x / b ^ (s * t) / u := ⟨_, rfl⟩
          have HV3 : Hid (NatP base wC (.slice a2 n2 c2) q) := by rw [hq]; exact HV2.out
          have HQ : Hid (q = x / b ^ (s * t) / u) := hq
          clear HV2 hq hlS
          go_loopw [7, 8, 31] (fun vo vl vi w3 => DiR base wB b K x l0 s q a2 n2 c2 vo vl vi w3) (fun _ _ vi _ => s - (RowKit.intOf vi).toNat)
          case atStart => exact .mk 0 l0 _ _ (Nat.zero_le _) (by simp) (by rw [leB, List.append_nil]; exact HO2.out) HV3.out hbw2
          case round =>
            clear HO2 HV3 hbw2
            obtain ⟨i, l, vo, W, hi, hlv, ho, ha, hbw3⟩ := hrel
            have hws3 := hbw3.size
            obtain ⟨oa2, oc2, hoe⟩ := ho.slice
            rw [List.length_append, leB_length, leB_length] at hoe
            have hlu : l < u := by rw [hlv]; have := HlS.out i; omega
            have HL : Hid (l = l0 / b ^ i) := hlv
            have HA : Hid (NatP base wr (.slice a2 n2 c2) q) := ha
            have hob : wr.ownsRow base 5 1 (.slice oa2 (K + i) oc2) (K + i) ((leB b K x ++ leB b i l0).map bv) := by
              have := ho
              unfold OwnB at this
              rw [List.length_append, leB_length, leB_length, hoe] at this
              exact this
            subst hoe
            clear hlv ha ho
            rcases Nat.lt_or_ge i s with hlt | hge2
            · have k3 : (i : Int) < (s : Int) := by omega
              have hbz : ((b : Int) == 0) = false := by rw [beq_eq_false_iff_ne]; omega
              obtain ⟨r, hr⟩ : ∃ r, r = l % b := ⟨_, rfl⟩
              have hrb : r < b := by rw [hr]; exact Nat.mod_lt _ (by omega)
              have er : (l : Int) % (b : Int) = (r : Int) := by rw [hr]; rfl
              have HR : Hid (r = l % b) := hr
              clear hr
              go_wp2_with (first | (at_builtin; refine app1 rfl _ _ rfl base _ _ _ wB _ _ hob rfl rfl (by omega) hbs hbw3 ?_; intro v' w4 hob' hbw4 hk4))
              have hob2 : OwnB base w4 v' (leB b K x ++ leB b (i + 1) l0) := by
                have e := tab_dgc r (by omega)
                have e2 : leB b (i + 1) l0 = leB b i l0 ++ [dgc r] := by
                  rw [leB_append b i 1 l0, HR.out, HL.out]
                  rfl
                unfold OwnB
                rw [e2, List.length_append, List.length_append, leB_length, leB_length, ← List.append_assoc, List.map_append (l₂ := [dgc r])]
                have e3 : [dgc r].map bv = [Value.int .u8 (((tabZ[r]'(by rw [tabZ_size]; omega)).toNat : Nat) : Int)] := by rw [e]; rfl
                rw [e3]
                exact hob'
              have el : (l : Int) / (b : Int) = ((l / b : Nat) : Int) := rfl
              have ei : (i : Int) + 1 = ((i + 1 : Nat) : Int) := rfl
              have hld : l / b ≤ l := Nat.div_le_self _ _
              have em : ((l / b : Nat) : Int) % 4294967296 = ((l / b : Nat) : Int) := by
                generalize l / b = lq at *
                omega
              rw [el, ei, em]
              refine ⟨.mk (i + 1) (l / b) _ _ hlt ?_ hob2 (HA.out.keep hk4) hbw4, ?_⟩
              · rw [HL.out, Nat.div_div_eq_div_mul, ← Nat.pow_succ]
              · simp only [RowKit.intOf, Int.toNat_natCast]
                omega
            · have his : i = s := by omega
              subst his
              have k3 : ¬ (i : Int) < (i : Int) := by omega
              have hfin : OwnB base wr (.slice oa2 (K + i) oc2) (leB b (i * (t + 1)) x) := by
                unfold OwnB
                have e0 : i * (t + 1) = K + i := by rw [HK.out, Nat.mul_add, Nat.mul_one]
                rw [leB_length, e0, leB_append b K i x]
                have e1 : leB b i (x / b ^ K) = leB b i l0 := by rw [HL0.out, HU.out, ← HK.out, leB_mod b (by omega)]
                rw [e1]
                exact hob
              have HF := (show Hid _ from hfin)
              have HAq : Hid (NatP base wr (.slice a2 n2 c2) (x / b ^ (i * (t + 1)))) := by
                show NatP base wr (.slice a2 n2 c2) (x / b ^ (i * (t + 1)))
                rw [Nat.mul_add, Nat.mul_one, Nat.pow_add, ← Nat.div_div_eq_div_mul, ← HU.out, ← HQ.out]
                exact HA.out
              clear hfin hob HA
              go_wp2
              refine ⟨.mk (t + 1) _ _ _ _ _ (by rw [Nat.mul_add, Nat.mul_one]; omega) HAq.out HF.out hbw3, ?_⟩
              have := HK.out
              simp only [slN]
              omega
end Go.Proofs.YtellndmbllmjgaaGreatDoor
/- exact: all digits of a number. -/
set_option linter.unusedVariables false
namespace Go.Proofs.YtellndmbllmjgaaGreatDoor
open Go.RowKit Go.Shelf Go.Sort Fs Fl

/-- X by 10 to the k is the number of the word r. -/
def ExD (r X k : Nat) : Prop := ∃ y, y = 1074 ∧ valR r * 10 ^ k = X * 2 ^ y
theorem two_lt (e m E B : Nat) (hE : E = 1100) (hB : B = 40) (he : e ≤ E) (hm : m < 18446744073709551616) : 2 ^ e * m < 4294967296 ^ B := by
  have h1 : 2 ^ e ≤ 2 ^ E := Nat.pow_le_pow_right (by omega) he
  have h2 : 2 ^ e * m < 2 ^ E * 18446744073709551616 := Nat.lt_of_le_of_lt (Nat.mul_le_mul_right _ h1) (Nat.mul_lt_mul_of_pos_left hm (Nat.pow_pos (by omega)))
  have e3 : (4294967296 : Nat) ^ B = 2 ^ (32 * B) := by rw [show (4294967296 : Nat) = 2 ^ 32 from rfl, ← Nat.pow_mul]
  have e2 : (18446744073709551616 : Nat) = 2 ^ 64 := rfl
  rw [e2, ← Nat.pow_add] at h2
  rw [e3]
  exact Nat.lt_of_lt_of_le h2 (Nat.pow_le_pow_right (by omega) (by omega))
theorem five_big (k m B : Nat) (hB : B = 110) (hk : k ≤ 1100) (hm : m < 18446744073709551616) : 5 ^ k * m < 4294967296 ^ B := by
  have h1 : 5 ^ k ≤ 8 ^ k := Nat.pow_le_pow_left (show 5 ≤ 8 by omega) _
  have h2 : 5 ^ k * m < 8 ^ k * 18446744073709551616 := Nat.lt_of_le_of_lt (Nat.mul_le_mul_right _ h1) (Nat.mul_lt_mul_of_pos_left hm (Nat.pow_pos (by omega)))
  refine Nat.lt_of_lt_of_le h2 ?_
  have e1 : (8 : Nat) ^ k = 2 ^ (3 * k) := by rw [show (8 : Nat) = 2 ^ 3 from rfl, ← Nat.pow_mul]
  have e2 : (18446744073709551616 : Nat) = 2 ^ 64 := rfl
  have e3 : (4294967296 : Nat) ^ B = 2 ^ (32 * B) := by rw [show (4294967296 : Nat) = 2 ^ 32 from rfl, ← Nat.pow_mul]
  rw [e1, e2, e3, ← Nat.pow_add]
  exact Nat.pow_le_pow_right (by omega) (by omega)
theorem digits_few (x B : Nat) (hB : B ≤ 200) (hx : x < 4294967296 ^ B) : Lib.nDigits x ≤ 6401 := by
  have e3 : (4294967296 : Nat) ^ B = 2 ^ (32 * B) := by rw [show (4294967296 : Nat) = 2 ^ 32 from rfl, ← Nat.pow_mul]
  have h1 : 2 ^ (32 * B) ≤ 10 ^ (32 * B + 1) := Nat.le_trans (Nat.pow_le_pow_left (show 2 ≤ 10 by omega) _) (Nat.pow_le_pow_right (by omega) (by omega))
  have := nDigits_le x (32 * B + 1) (by omega) (by omega)
  omega
set_option maxRecDepth 1000000 in
set_option maxHeartbeats 1000000 in
theorem exactD_up (hC : PartC) (r m e : Nat) (hm : m < 18446744073709551616) (he : e ≤ 1100) (hm0 : m = 0 → e = 0) (w : World)
    (cp : ∀ W, Below w.heap.size w W → Calls Tryz.prog 111 #[.float .f64 r] W fun ee w' => ee = .returned (.tuple #[.int .u64 (m : Int), .int .i64 (e : Int)]) ∧ w' = W) :
    Calls Tryz.prog 106 #[.float .f64 r] w fun ee w' => ee = .returned (.agg #[.string (txt (decN (2 ^ e * m))), .int .i64 (Lib.nDigits (2 ^ e * m) : Int)]) ∧ Below w.heap.size w w' := by
  have hb0 : Below w.heap.size w (w.alloc (Obj.cells #[Value.string ⟨#[]⟩, Value.int IntKind.i64 0] 46)) := (Below.refl _ _).alloc (Nat.le_refl _) _
  have cp1 := cp _ hb0
  obtain ⟨B, hB⟩ : ∃ B, B = 40 := ⟨_, rfl⟩
  have HM := (show Hid _ from hm0)
  have HC : Hid PartC := hC
  clear cp hm0 hC
  go_enter Tryz.func106, Tryz.ntmps106
  go_wp2_with (first | (go_at_call 111; refine cp1.mono ?_; rintro ee w1 ⟨rfl, rfl⟩) | (go_at_call 112; fail))
  obtain ⟨W0, hW0⟩ : ∃ W0, W0 = w.alloc (Obj.cells #[Value.string ⟨#[]⟩, Value.int IntKind.i64 0] 46) := ⟨_, rfl⟩
  have hs0 : W0.heap.size = w.heap.size + 1 := by rw [hW0]; simp
  have hc0 : W0.heap[w.heap.size]? = some (Obj.cells #[Value.string ⟨#[]⟩, Value.int IntKind.i64 0] 46 (0, 0)) := by rw [hW0]; exact heap_alloc_new w _
  rw [← hW0] at hb0 ⊢
  clear hW0 cp1
  refine (natOf_any m hm W0).mono ?_
  rintro ee w1 ⟨n, rfl, hv, hb⟩
  have hs1 := hb.size
  have cs := shifted_any W0.heap.size W0.heap.size n 2 m e (by omega) hm HM.out w1 hv hs1
  have hb1 : Below W0.heap.size W0 w1 := hb
  rw [hs0] at cs ⊢
  clear hv hb HM
  go_wp2_with (first | (go_at_call 113; fail))
  go_fit cs
  rintro ee w2 ⟨v2, rfl, hv2, hb2⟩
  have ct := text_big HC.out w1.heap.size v2 (2 ^ e * m) 10 B (by omega) (by omega) (by omega) (two_lt e m _ B rfl hB he hm) w2 hv2 hb2.size
  rw [toB_ten _ _ (Nat.le_refl _)] at ct
  obtain ⟨va, vn, vc, rfl⟩ := hv2.slice
  clear hv2 cs HC
  go_wp2_with (first | (go_at_call 114; fail))
  go_fit ct
  rintro ee w3 ⟨rfl, hb3⟩
  have hb23 : Below w1.heap.size w1 w3 := hb2.trans hb3
  have hb13 : Below W0.heap.size W0 w3 := hb1.trans (hb23.mono hs1)
  have hc3 : w3.heap[w.heap.size]? = some (Obj.cells #[Value.string ⟨#[]⟩, Value.int IntKind.i64 0] 46 (0, 0)) := (hb13.block _ (by omega)).trans hc0
  have cA : w3.cell? ⟨w.heap.size, 0, none⟩ = some (.string ⟨#[]⟩) := by simp [World.cell?, hc3]
  have cB : w3.cell? ⟨w.heap.size, 1, none⟩ = some (.int .i64 0) := by simp [World.cell?, hc3]
  have fA : ∀ j, w3.frozen? ⟨w.heap.size, j, none⟩ = false := fun j => by simp [World.frozen?, hc3]
  have hbw : Below w.heap.size w w3 := hb0.trans (hb13.mono (by omega))
  have hsz := txt_size (decN (2 ^ e * m))
  rw [decN_length] at hsz
  have hN1 := digits_few (2 ^ e * m) B (by omega) (two_lt e m _ B rfl hB he hm)
  obtain ⟨T, hT⟩ : ∃ T, T = txt (decN (2 ^ e * m)) := ⟨_, rfl⟩
  obtain ⟨N, hN⟩ : ∃ N, N = Lib.nDigits (2 ^ e * m) := ⟨_, rfl⟩
  rw [← hT, ← hN] at hsz
  rw [← hT]
  rw [← hN] at hN1
  have HT : Hid (T = txt (decN (2 ^ e * m))) := hT
  have HN : Hid (N = Lib.nDigits (2 ^ e * m)) := hN
  clear ct hT hN hb1 hb2 hb3 hb23 hB
  go_wp2
  refine bodyPost_ret (results_cell_row rfl _ _ w.heap.size 46 _ (0, 0) _ rfl (heap_two hc3 _ _) Tryz.underlying46 rfl (by kernel_rfl)) rfl ?_
  refine ⟨?_, (hbw.setCell (Nat.le_refl _) _).setCell (Nat.le_refl _) _⟩
  rw [← HT.out, ← HN.out]
set_option maxRecDepth 1000000 in
set_option maxHeartbeats 1000000 in
theorem exactD_down (hC : PartC) (r m k : Nat) (hm : m < 18446744073709551616) (hk0 : 0 < k) (hk : k ≤ 1100) (w : World)
    (cp : ∀ W, Below w.heap.size w W → Calls Tryz.prog 111 #[.float .f64 r] W fun ee w' => ee = .returned (.tuple #[.int .u64 (m : Int), .int .i64 (-(k : Int))]) ∧ w' = W) :
    Calls Tryz.prog 106 #[.float .f64 r] w fun ee w' => ee = .returned (.agg #[.string (txt (decN (5 ^ k * m))), .int .i64 ((Lib.nDigits (5 ^ k * m) : Int) - (k : Int))]) ∧ Below w.heap.size w w' := by
  have hb0 : Below w.heap.size w (w.alloc (Obj.cells #[Value.string ⟨#[]⟩, Value.int IntKind.i64 0] 46)) := (Below.refl _ _).alloc (Nat.le_refl _) _
  have cp1 := cp _ hb0
  obtain ⟨B, hB⟩ : ∃ B, B = 110 := ⟨_, rfl⟩
  have HF : Hid (5 ^ k * m < 4294967296 ^ B) := five_big k m B hB hk hm
  have HC : Hid PartC := hC
  have kk : ¬ (0 : Int) ≤ -(k : Int) := by omega
  have ek : -(-(k : Int)) = (k : Int) := by omega
  clear cp hC
  go_enter Tryz.func106, Tryz.ntmps106
  go_wp2_with (first | (go_at_call 111; refine cp1.mono ?_; rintro ee w1 ⟨rfl, rfl⟩) | (go_at_call 112; fail))
  obtain ⟨W0, hW0⟩ : ∃ W0, W0 = w.alloc (Obj.cells #[Value.string ⟨#[]⟩, Value.int IntKind.i64 0] 46) := ⟨_, rfl⟩
  have hs0 : W0.heap.size = w.heap.size + 1 := by rw [hW0]; simp
  have hc0 : W0.heap[w.heap.size]? = some (Obj.cells #[Value.string ⟨#[]⟩, Value.int IntKind.i64 0] 46 (0, 0)) := by rw [hW0]; exact heap_alloc_new w _
  rw [← hW0] at hb0 ⊢
  clear hW0 cp1
  refine (natOf_any m hm W0).mono ?_
  rintro ee w1 ⟨n, rfl, hv, hb⟩
  have hs1 := hb.size
  have cs := fives_any W0.heap.size _ m k hk hm w1 hv hs1
  have hb1 : Below W0.heap.size W0 w1 := hb
  rw [hs0] at cs ⊢
  clear hv hb
  go_wp2_with (first | (go_at_call 155; fail))
  go_fit cs
  rintro ee w2 ⟨v2, rfl, hv2, hb2⟩
  have hs2 := hb2.size
  have ct := text_big HC.out (w.heap.size + 1) v2 (5 ^ k * m) 10 B (by omega) (by omega) (by omega) HF.out w2 hv2 (by omega)
  rw [toB_ten _ _ (Nat.le_refl _)] at ct
  obtain ⟨va, vn, vc, rfl⟩ := hv2.slice
  clear hv2 cs HC
  go_wp2_with (first | (go_at_call 114; fail))
  go_fit ct
  rintro ee w3 ⟨rfl, hb3⟩
  have hb13 : Below (w.heap.size + 1) W0 w3 := by rw [← hs0] at hb2 hb3 ⊢; exact hb1.trans (hb2.trans hb3)
  have hc3 : w3.heap[w.heap.size]? = some (Obj.cells #[Value.string ⟨#[]⟩, Value.int IntKind.i64 0] 46 (0, 0)) := (hb13.block _ (by omega)).trans hc0
  have cA : w3.cell? ⟨w.heap.size, 0, none⟩ = some (.string ⟨#[]⟩) := by simp [World.cell?, hc3]
  have cB : w3.cell? ⟨w.heap.size, 1, none⟩ = some (.int .i64 0) := by simp [World.cell?, hc3]
  have fA : ∀ j, w3.frozen? ⟨w.heap.size, j, none⟩ = false := fun j => by simp [World.frozen?, hc3]
  have hbw : Below w.heap.size w w3 := hb0.trans (hb13.mono (by omega))
  have hsz := txt_size (decN (5 ^ k * m))
  rw [decN_length] at hsz
  have hN1 := digits_few (5 ^ k * m) B (by omega) HF.out
  obtain ⟨T, hT⟩ : ∃ T, T = txt (decN (5 ^ k * m)) := ⟨_, rfl⟩
  obtain ⟨N, hN⟩ : ∃ N, N = Lib.nDigits (5 ^ k * m) := ⟨_, rfl⟩
  rw [← hT, ← hN] at hsz
  rw [← hT]
  rw [← hN] at hN1
  have HT : Hid (T = txt (decN (5 ^ k * m))) := hT
  have HN : Hid (N = Lib.nDigits (5 ^ k * m)) := hN
  clear ct hT hN hb1 hb2 hb3 hB HF
  go_wp2
  refine bodyPost_ret (results_cell_row rfl _ _ w.heap.size 46 _ (0, 0) _ rfl (heap_two hc3 _ _) Tryz.underlying46 rfl (by kernel_rfl)) rfl ?_
  refine ⟨?_, (hbw.setCell (Nat.le_refl _) _).setCell (Nat.le_refl _) _⟩
  rw [← HT.out, ← HN.out, Int.sub_eq_add_neg]
theorem tab_below {w W : World} (h : TabAt 4 Lib.deBruijn64tab w) (hb : Below w.heap.size w W) : TabAt 4 Lib.deBruijn64tab W := fun j hj => by
  have h1 := h j hj
  exact (hb.cell (p := ⟨4, j, none⟩) (cell_block h1)).trans h1
theorem exd_up (r z E y : Nat) (hy : y = 1074) (m : Nat) (hm : magR r = m * 2 ^ z) (hE : (expR r : Int) - y + z = E) : valR r * 10 ^ 0 = 2 ^ E * m * 2 ^ y := by
  unfold valR
  rw [Nat.pow_zero, Nat.mul_one, hm]
  have e1 : z + expR r = E + y := by omega
  have e2 : 2 ^ z * 2 ^ expR r = 2 ^ E * 2 ^ y := by rw [← Nat.pow_add, e1, Nat.pow_add]
  calc m * 2 ^ z * 2 ^ expR r = m * (2 ^ z * 2 ^ expR r) := by rw [Nat.mul_assoc]
    _ = 2 ^ E * m * 2 ^ y := by rw [e2]; grind
theorem exd_down (r z k y : Nat) (hy : y = 1074) (m : Nat) (hm : magR r = m * 2 ^ z) (hE : (expR r : Int) - y + z = -(k : Int)) : valR r * 10 ^ k = 5 ^ k * m * 2 ^ y := by
  unfold valR
  rw [hm]
  have e1 : z + expR r + k = y := by omega
  have e0 : (10 : Nat) ^ k = 2 ^ k * 5 ^ k := by rw [show (10 : Nat) = 2 * 5 from rfl, Nat.mul_pow]
  have e2 : 2 ^ z * 2 ^ expR r * 2 ^ k = 2 ^ y := by rw [← Nat.pow_add, ← Nat.pow_add, e1]
  rw [e0, ← e2]
  grind
/-- **exact.** -/
theorem exactD_any (hC : PartC) (r : Nat) (h : r < 9218868437227405312) (w : World) (hT : TabAt 4 Lib.deBruijn64tab w) :
    Calls Tryz.prog 106 #[.float .f64 r] w fun ee w' => ∃ X k, ExD r X k ∧ k ≤ 1074 ∧ Lib.nDigits X ≤ 6401 ∧ (r = 0 → X = 0 ∧ k = 0) ∧ (0 < r → 0 < X) ∧ ee = .returned (.agg #[.string (txt (decN X)), .int .i64 ((Lib.nDigits X : Int) - (k : Int))]) ∧ Below w.heap.size w w' := by
  obtain ⟨y, hy⟩ : ∃ y, y = 1074 := ⟨_, rfl⟩
  rcases Nat.eq_zero_or_pos r with h0 | h0
  · subst h0
    refine (exactD_up hC 0 0 0 (by omega) (by omega) (fun _ => rfl) w (fun W _ => parts_zero W)).mono ?_
    rintro ee w' ⟨rfl, hb⟩
    refine ⟨0, 0, ?_, by omega, Nat.le_trans (nDigits_le 0 1 (by decide) (by omega)) (by omega), fun _ => ⟨rfl, rfl⟩, fun h => absurd h (by omega), ?_, hb⟩
    · refine ⟨y, hy, ?_⟩
      have : valR 0 = 0 := by decide
      rw [this, Nat.zero_mul, Nat.zero_mul]
    · simp
  · have hp := fun W (hW : Below w.heap.size w W) => partsD_any r (by omega) h W (tab_below hT hW)
    have hm0 : magR r ≠ 0 := fun e => by have := magR_zero.1 e; omega
    have hml := magR_lt r
    have hsp := ctz_split (magR r) hm0 (by omega)
    obtain ⟨m, hm⟩ : ∃ m, m = magR r / 2 ^ Lib.ctz 64 (magR r) := ⟨_, rfl⟩
    have hz := pa_ctz_lt (magR r) hm0 (by omega)
    rw [← hm] at hsp hp
    generalize Lib.ctz 64 (magR r) = z at *
    have hmle : m ≤ magR r := by rw [hsp]; exact Nat.le_mul_of_pos_right _ (Nat.pow_pos (by omega))
    have hmp : 0 < m := by
      rcases Nat.eq_zero_or_pos m with h1 | h1
      · rw [h1, Nat.zero_mul] at hsp; exact absurd hsp hm0
      · exact h1
    have hex : expR r ≤ 2045 := by unfold expR; omega
    have hz52 : z ≤ 52 := by
      rcases Nat.lt_or_ge z 53 with h1 | h1
      · omega
      · exfalso
        have h2 : 2 ^ 53 ≤ 2 ^ z := Nat.pow_le_pow_right (by omega) h1
        have h3 : 2 ^ z ≤ m * 2 ^ z := Nat.le_mul_of_pos_left _ hmp
        have h4 : (2 : Nat) ^ 53 = 9007199254740992 := by decide
        omega
    rcases Int.lt_or_le ((expR r : Int) - 1074 + z) 0 with hE | hE
    · obtain ⟨k, hk⟩ : ∃ k : Nat, (expR r : Int) - 1074 + z = -(k : Int) := ⟨((expR r : Int) - 1074 + z).natAbs, by omega⟩
      rw [hk] at hp
      refine (exactD_down hC r m k (by omega) (by omega) (by omega) w hp).mono ?_
      rintro ee w' ⟨rfl, hb⟩
      refine ⟨5 ^ k * m, k, ?_, by omega, digits_few _ 110 (by omega) (five_big k m 110 rfl (by omega) (by omega)), fun h => absurd h (by omega), fun _ => Nat.mul_pos (Nat.pow_pos (by omega)) hmp, rfl, hb⟩
      exact ⟨y, hy, exd_down r z k y hy m hsp (by rw [hy]; exact hk)⟩
    · obtain ⟨E, hE2⟩ : ∃ E : Nat, (expR r : Int) - 1074 + z = (E : Int) := ⟨((expR r : Int) - 1074 + z).toNat, by omega⟩
      rw [hE2] at hp
      refine (exactD_up hC r m E (by omega) (by omega) (fun h => absurd h (by omega)) w hp).mono ?_
      rintro ee w' ⟨rfl, hb⟩
      refine ⟨2 ^ E * m, 0, ?_, by omega, digits_few _ 40 (by omega) (two_lt E m _ 40 rfl rfl (by omega) (by omega)), fun h => absurd h (by omega), fun _ => Nat.mul_pos (Nat.pow_pos (by omega)) hmp, by simp, hb⟩
      exact ⟨y, hy, exd_up r z E y hy m hsp (by rw [hy]; exact hE2)⟩
end Go.Proofs.YtellndmbllmjgaaGreatDoor
