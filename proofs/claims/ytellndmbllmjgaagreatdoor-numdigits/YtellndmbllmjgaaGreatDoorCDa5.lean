/- nat.text, given what part does. -/
import Derived.Test.YtellndmbllmjgaaGreatDoorCDb1x
set_option linter.unusedVariables false
namespace Go.Proofs.YtellndmbllmjgaaGreatDoor
open Go.RowKit Go.Shelf Go.Sort Fs Fl

/-- All rows but those of words stay as they are. -/
def Kept108 (w w' : World) : Prop := ∀ (k : Nat) (C : Array Value) (t : TypeId) (fr : Nat × Nat), w.heap[k]? = some (Obj.cells C t fr) → t ≠ 108 → w'.heap[k]? = some (Obj.cells C t fr)
theorem Kept108.refl (w : World) : Kept108 w w := fun _ _ _ _ h _ => h
theorem Kept108.trans {a b c : World} (h : Kept108 a b) (k : Kept108 b c) : Kept108 a c := fun i C t fr h1 h2 => k i C t fr (h i C t fr h1 h2) h2
theorem OwnB.keep {base : Nat} {w w' : World} {v : Value} {L : List Nat} (h : OwnB base w v L) (hk : Kept108 w w') : OwnB base w' v L := by
  refine ⟨h.1, ?_⟩
  rcases h.2 with h1 | ⟨g, cap, cur, hv, hbg, hg, hr⟩
  · exact .inl h1
  · exact .inr ⟨g, cap, cur, hv, hbg, hk g _ _ _ hg (by decide), hr⟩
theorem NatP.keep {base : Nat} {w w' : World} {v : Value} {x : Nat} (h : NatP base w v x) (hk : Kept5 w w') : NatP base w' v x := by
  obtain ⟨L, h1, h2⟩ := h
  refine ⟨L, ⟨h1.1, ?_⟩, h2⟩
  rcases h1.2 with h3 | ⟨g, cap, cur, hv, hbg, hg, hr⟩
  · exact .inl h3
  · exact .inr ⟨g, cap, cur, hv, hbg, hk g _ _ _ hg (by decide), hr⟩
theorem NatP.len {base : Nat} {w : World} {a : Option Addr} {n c x : Nat} (h : NatP base w (.slice a n c) x) : (n = 0 ↔ x = 0) ∧ ∀ B, x < 4294967296 ^ B → n ≤ B := by
  obtain ⟨L, hO, hW, hT, hval⟩ := h
  have hn : L.length = n := by
    rcases hO.forms with ⟨h, h2⟩ | ⟨g', cap', h, _⟩
    · cases h; rw [h2]; rfl
    · cases h; rfl
  refine ⟨⟨fun h => ?_, fun h => ?_⟩, fun B hB => ?_⟩
  · rw [h] at hn
    rw [← hval, List.eq_nil_of_length_eq_zero hn]; rfl
  · rcases Nat.eq_zero_or_pos n with h1 | h1
    · exact h1
    · exfalso
      have h2 := top_pos hT hW (fun e => by rw [e] at hn; simp at hn; omega)
      have h3 : 0 < 4294967296 ^ (L.length - 1) := Nat.pow_pos (by omega)
      omega
  · rw [← hn]
    exact top_len hT hW (by rw [hval]; exact hB)
theorem toB_lt {b : Nat} (hb : 2 ≤ b) (hb2 : b ≤ 36) : ∀ f x, x ≤ f → ∀ c ∈ toB b x, c < 256
  | 0, x, h, c, hc => by
    rw [toB_small (by omega)] at hc
    simp at hc
    have := dgc_lt (d := x) (by omega)
    omega
  | f + 1, x, h, c, hc => by
    rcases Nat.lt_or_ge x b with h1 | h1
    · rw [toB_small h1] at hc
      simp at hc
      have := dgc_lt (d := x) (by omega)
      omega
    · rw [toB_big hb h1] at hc
      rcases List.mem_append.1 hc with h2 | h2
      · have h3 : x / b ≤ x / 2 := Nat.div_le_div_left hb (by omega)
        exact toB_lt hb hb2 f (x / b) (by omega) c h2
      · simp at h2
        have h4 : x % b < b := Nat.mod_lt _ (by omega)
        have := dgc_lt (d := x % b) (by omega)
        omega
/-- The signs of the digits. -/
def tabZ : ByteArray := ⟨#[48, 49, 50, 51, 52, 53, 54, 55, 56, 57, 97, 98, 99, 100, 101, 102, 103, 104, 105, 106, 107, 108, 109, 110, 111, 112, 113, 114, 115, 116, 117, 118, 119, 120, 121, 122]⟩
theorem tabZ_size : tabZ.size = 36 := by decide
theorem tabZ_all : ∀ r : Fin 36, (tabZ[r.val]'(by rw [tabZ_size]; exact r.2)).toNat = dgc r.val := by decide
theorem tab_dgc (r : Nat) (h : r < 36) : (tabZ[r]'(by rw [tabZ_size]; exact h)).toNat = dgc r := tabZ_all ⟨r, h⟩
/-- What part does. -/
def PartC : Prop := ∀ (base : Nat) (v : Value) (x d B : Nat), 1 < d → d < 4294967296 → B ≤ 1000 → x < 4294967296 ^ B → 0 < x → ∀ w, NatP base w v x → base ≤ w.heap.size →
  Calls Tryz.prog 159 #[v, .int .u32 (d : Int)] w fun e w' => ∃ v', e = .returned (.tuple #[v', .int .u32 ((x % d : Nat) : Int)]) ∧ NatP base w' v' (x / d) ∧ Kept108 w w' ∧ Below base w w'
theorem leB_mod (b : Nat) (hb : 0 < b) : ∀ s y, leB b s (y % b ^ s) = leB b s y
  | 0, _ => rfl
  | s + 1, y => by
    rw [leB, leB, Nat.pow_succ', Nat.mod_mul_right_mod]
    have e : y % (b * b ^ s) / b = y / b % b ^ s := by rw [Nat.mod_mul_right_div_self]
    rw [e, leB_mod b hb s]
theorem OwnB.len {base : Nat} {w : World} {v : Value} {L : List Nat} (h : OwnB base w v L) : slN v = L.length := by
  rcases h.forms with ⟨rfl, rfl⟩ | ⟨g, cap, rfl, _⟩
  · rfl
  · rfl
theorem OwnB.slice {base : Nat} {w : World} {v : Value} {L : List Nat} (h : OwnB base w v L) : ∃ a c, v = .slice a L.length c := by
  rcases h.forms with ⟨rfl, rfl⟩ | ⟨g, cap, rfl, _⟩
  · exact ⟨_, _, rfl⟩
  · exact ⟨_, _, rfl⟩
theorem round_lt {x b s t B : Nat} (hb : 2 ≤ b) (hs : 1 ≤ s) (hx : x < 4294967296 ^ B) (h : 0 < x / b ^ (s * t)) : t < 32 * B := by
  have h1 : b ^ (s * t) ≤ x := by
    rcases Nat.lt_or_ge x (b ^ (s * t)) with h2 | h2
    · rw [Nat.div_eq_of_lt h2] at h; omega
    · exact h2
  have h2 : 2 ^ t ≤ b ^ (s * t) := Nat.le_trans (Nat.pow_le_pow_right (by omega) (Nat.le_mul_of_pos_left t hs)) (Nat.pow_le_pow_left hb _)
  have h3 : (4294967296 : Nat) ^ B = 2 ^ (32 * B) := by rw [show (4294967296 : Nat) = 2 ^ 32 from rfl, ← Nat.pow_mul]
  rw [h3] at hx
  exact (Nat.pow_lt_pow_iff_right (show 1 < 2 by omega)).1 (by omega)
/-- The unit: as many digits as go into a word. -/
inductive UnR (b : Nat) : Value → Value → Prop
  | mk (u s : Nat) (hu : u = b ^ s) (hs : 1 ≤ s) (hs2 : s ≤ 32) (hl : u < 4294967296) : UnR b (.int .u32 (u : Int)) (.int .i64 (s : Int))
/-- A round of text: t digits are laid. -/
inductive TxR (base : Nat) (w : World) (b x s B : Nat) : Value → Value → World → Prop
  | mk (t : Nat) (a : Option Addr) (n c : Nat) (v : Value) (W : World) (ht : t ≤ 32 * B) (ha : NatP base W (.slice a n c) (x / b ^ (s * t))) (ho : OwnB base W v (leB b (s * t) x)) (hb : Below base w W) : TxR base w b x s B (.slice a n c) v W
inductive DiR (base : Nat) (w : World) (b K x l0 s q : Nat) (a2 : Option Addr) (n2 c2 : Nat) : Value → Value → Value → World → Prop
  | mk (i l : Nat) (v : Value) (W : World) (hi : i ≤ s) (hl : l = l0 / b ^ i) (ho : OwnB base W v (leB b K x ++ leB b i l0)) (ha : NatP base W (.slice a2 n2 c2) q) (hb : Below base w W) : DiR base w b K x l0 s q a2 n2 c2 v (.int .u32 (l : Int)) (.int .i64 (i : Int)) W
inductive TbR (base g cap : Nat) (w : World) (L : List Nat) : Value → World → Prop
  | mk (M : List Nat) (k n : Nat) (hn : M.length = n) (hL : L = M ++ List.replicate k 48) (hO : OwnB base w (.slice (some ⟨g, 0, none⟩) M.length cap) M) : TbR base g cap w L (.slice (some ⟨g, 0, none⟩) n cap) w
set_option maxRecDepth 1000000 in
set_option maxHeartbeats 1000000 in
theorem text_of (hC : PartC) (base : Nat) (v : Value) (x b B : Nat) (hb2 : 2 ≤ b) (hb36 : b ≤ 36) (hB : B ≤ 40) (hx : x < 4294967296 ^ B) (w : World) (hv : NatP base w v x) (hbs : base ≤ w.heap.size) :
    Calls Tryz.prog 114 #[v, .int .u32 (b : Int)] w fun e w' => e = .returned (.string (txt (toB b x))) ∧ Below base w w' := by
  obtain ⟨va, vn, vc, rfl⟩ := hv.slice
  have HV : Hid (NatP base w (.slice va vn vc) x) := hv
  have HC : Hid PartC := hC
  have HX : Hid (x < 4294967296 ^ B) := hx
  clear hv hC hx
  go_enter Tryz.func114, Tryz.ntmps114
  go_wp2
  go_loopw [5, 6] (fun u s wr => UnR b u s ∧ wr = w) (fun _ s _ => 40 - (RowKit.intOf s).toNat)
  case atStart => exact ⟨.mk b 1 (by simp) (by omega) (by omega) (by omega), rfl⟩
  case round =>
    obtain ⟨⟨u, s, hu, hs, hs2, hl⟩, rfl⟩ := hrel
    have hup : u * b ≤ 154618822656 := Nat.le_trans (Nat.mul_le_mul (show u ≤ 4294967296 by omega) hb36) (by decide)
    have hu0 : 1 ≤ u := by rw [hu]; exact Nat.pow_pos (by omega)
    have hub : u ≤ u * b := Nat.le_mul_of_pos_right _ (by omega)
    obtain ⟨y, hy⟩ : ∃ y, y = u * b := ⟨_, rfl⟩
    have hw1 : IntKind.u64.wrap ((u : Int) * (b : Int)) = (y : Int) := by
      rw [IntKind.wrap_u64, ← Int.natCast_mul, ← hy]
      omega
    have HU : Hid (u = b ^ s) := hu
    have HY : Hid (y = u * b) := hy
    rw [← hy] at hup hub
    rcases Nat.lt_or_ge y 4294967296 with hlt | hge
    · have hw2 : IntKind.u32.wrap ((u : Int) * (b : Int)) = (y : Int) := by
        rw [IntKind.wrap_u32, ← Int.natCast_mul, ← hy]
        omega
      have k1 : (y : Int) < 4294967296 := by omega
      clear hu hy
      go_wp2
      have e1 : (s : Int) + 1 = ((s + 1 : Nat) : Int) := rfl
      rw [e1]
      have hys : y = b ^ (s + 1) := by rw [HY.out, HU.out, Nat.pow_succ]
      have hs3 : s + 1 < 32 := by
        have h1 : 2 ^ (s + 1) ≤ b ^ (s + 1) := Nat.pow_le_pow_left hb2 _
        have h2 : 2 ^ (s + 1) < 2 ^ 32 := by omega
        exact (Nat.pow_lt_pow_iff_right (by omega)).1 h2
      refine ⟨⟨.mk y (s + 1) hys (by omega) (by omega) hlt, trivial⟩, ?_⟩
      simp only [RowKit.intOf, Int.toNat_natCast]
      omega
    · have hu2 : 1 < u := by
        rcases Nat.lt_or_ge 1 u with h | h
        · exact h
        · exfalso
          have : u * b ≤ 1 * 36 := Nat.mul_le_mul h hb36
          omega
      have k1 : ¬ (y : Int) < 4294967296 := by omega
      have hs40 : s ≤ 32 := hs2
      clear hu hy hub hup
      go_wp2
      rename World => wB
      go_loopw [0, 7] (fun va vo wr => TxR base wB b x s B va vo wr) (fun _ vo _ => 100000 - slN vo)
      case atStart => exact .mk 0 _ _ _ _ _ (by omega) (by rw [Nat.mul_zero, Nat.pow_zero, Nat.div_one]; exact HV.out) (by rw [Nat.mul_zero]; exact World.ownsRow_nil _ _ _ _) (Below.refl _ _)
      case round =>
        obtain ⟨t, a, n, c, vo, W, ht, ha, ho, hbw⟩ := hrel
        have hws := hbw.size
        have hln := ha.len
        have HA : Hid (NatP base wr (.slice a n c) (x / b ^ (s * t))) := ha
        have HO : Hid (OwnB base wr u7 (leB b (s * t) x)) := ho
        obtain ⟨oa, oc, hoe⟩ := ho.slice
        rw [leB_length] at hoe
        have hst : s * t ≤ 32 * 1280 := Nat.mul_le_mul hs40 (by omega)
        have hn40 : n ≤ B := hln.2 B (Nat.lt_of_le_of_lt (Nat.div_le_self _ _) HX.out)
        rcases Nat.eq_zero_or_pos n with h0 | h0
        · subst h0
          have hx0 := hln.1.1 rfl
          have HX0 : Hid (x / b ^ (s * t) = 0) := hx0
          clear hln hx0 ha ho hw1 k1
          subst hoe
          generalize s * t = K at *
          have HXB : Hid (x < b ^ K) := by
            show x < b ^ K
            rcases Nat.lt_or_ge x (b ^ K) with h | h
            · exact h
            · have := Nat.div_pos h (Nat.pow_pos (by omega))
              have := HX0.out
              omega
          rcases HO.out.forms with ⟨h1, h2⟩ | ⟨g, cap, h1, hg0, hg1, hlc⟩
          · cases h1
            have hx0 : x = 0 := by have := HXB.out; simpa using this
            subst hx0
            go_wp2
            go_loopw [7] (fun v w3 => v = .slice none 0 0 ∧ w3 = wr) (fun _ _ => 0)
            case atStart => exact ⟨rfl, rfl⟩
            case round =>
              obtain ⟨rfl, rfl⟩ := hrel
              go_wp2
              go_ret
              refine ⟨?_, hbw⟩
              rw [toB_small (by omega)]
              rfl
          · rw [leB_length] at hlc h1
            cases h1
            rename World => wC
            go_wp2
            go_loopw [7] (fun v w3 => TbR base g oc wC (leB b K x) v w3) (fun v _ => slN v)
            case atStart => exact .mk (leB b K x) 0 _ (leB_length _ _ _) (by simp) (by rw [leB_length]; exact HO.out)
            case round =>
              obtain ⟨M, k, m, hm, hL, hO⟩ := hrel
              have HM : Hid (leB b K x = M ++ List.replicate k 48) := hL
              have HO2 : Hid (OwnB base wC (.slice (some ⟨g, 0, none⟩) M.length oc) M) := hO
              have Hm : Hid (M.length = m) := hm
              have hmK : m ≤ K := by
                have := congrArg List.length hL
                rw [leB_length, List.length_append, List.length_replicate] at this
                omega
              clear HC HX HV HU HY HA HO hu0 hge hu2 hl hs hs2 hs40 ht hws hn40 hL
              rcases List.eq_nil_or_concat M with hM | ⟨M', z, hM⟩
              · have h00 : m = 0 := by rw [← hm, hM]; rfl
                subst h00
                have hx0 : x = 0 := by
                  rcases Nat.eq_zero_or_pos x with h | h
                  · exact h
                  · exfalso
                    obtain ⟨M2, k2, e1, e2, e3, e4⟩ := le_trim hb2 K x h HXB.out
                    have h5 := HM.out
                    rw [e1, hM] at h5
                    have := trim_one h5 e4 (fun z hz => by simp at hz)
                    exact e3 this
                subst hx0
                clear hm hO hM HM
                go_wp2
                go_ret
                refine ⟨?_, hbw⟩
                rw [toB_small (by omega)]
                rfl
              · obtain ⟨j, hj⟩ : ∃ j, M'.length = j := ⟨_, rfl⟩
                have hmj : m = j + 1 := by rw [← hm, hM]; simp; omega
                have hcell := hO.cell j (by omega)
                have hz : M[j]?.getD 0 = z := by rw [hM, ← hj]; simp
                rw [hz] at hcell
                subst hmj
                have k0 : (0 : Int) < ((j + 1 : Nat) : Int) := by omega
                have k1 : ((j + 1 : Nat) : Int) - 1 = (j : Int) := by omega
                have k2 : (j : Int) < ((j + 1 : Nat) : Int) := by omega
                have HMc : Hid (M = M'.concat z) := hM
                have Hj : Hid (M'.length = j) := hj
                clear hm hO hM hj hz
                by_cases hz0 : z = 48
                · subst hz0
                  go_wp2
                  refine ⟨.mk M' (k + 1) j Hj.out ?_ ?_, by simp [slN]⟩
                  · rw [HM.out, HMc.out, List.concat_eq_append, List.append_assoc, List.replicate_succ]
                    rfl
                  · have := HO2.out
                    rw [HMc.out, List.concat_eq_append] at this
                    exact this.pop
                · have hzz : ((z : Int) == 48) = false := by rw [beq_eq_false_iff_ne]; omega
                  have hx0 : 0 < x := by
                    rcases Nat.eq_zero_or_pos x with h | h
                    · exfalso
                      subst h
                      have h5 := HM.out
                      rw [leB_zero] at h5
                      have h6 := trim_one (M := []) (M' := M) (k := K) (k' := k) (c := 48) (by simpa using h5) (fun z hz => by simp at hz) (fun y hy => by rw [HMc.out] at hy; simp at hy; omega)
                      rw [← h6] at HMc
                      have := HMc.out
                      simp at this
                    · exact h
                  have hrev : M.reverse = toB b x := by
                    obtain ⟨M2, k2, e1, e2, e3, e4⟩ := le_trim hb2 K x hx0 HXB.out
                    have h5 := HM.out
                    rw [e1] at h5
                    have := trim_one h5 e4 (fun y hy => by rw [HMc.out] at hy; simp at hy; omega)
                    rw [← this]
                    exact e2
                  have hO3 : OwnB base wC (.slice (some ⟨g, 0, none⟩) M.length oc) M := HO2.out
                  have cr := reverse_any base g oc M (by rw [Hm.out]; omega) wC hO3 hg0
                  rw [Hm.out, hrev] at cr
                  have HD : Hid (∀ c ∈ toB b x, c < 256) := by
                    show ∀ c ∈ toB b x, c < 256
                    exact toB_lt hb2 hb36 x x (Nat.le_refl _)
                  have Hln : Hid ((toB b x).length = j + 1) := by
                    show (toB b x).length = j + 1
                    rw [← hrev, List.length_reverse, Hm.out]
                  clear hO3 hrev HMc HO2 HM
                  go_wp2_with (first | (go_at_call 160; fail))
                  go_fit cr
                  rintro e w3 ⟨⟨ur, rfl⟩, hO4, hb3⟩
                  unfold OwnB at hO4
                  have hcv := conv_row (bs := toB b x) (W := w3) (base := base) (g := g) (cap := oc) HD.out (by rw [Hln.out]; rw [Hln.out] at hO4; exact hO4)
                  rw [Hln.out] at hcv
                  clear hO4 cr
                  go_wp2
                  go_ret
                  exact ⟨rfl, hbw.trans hb3⟩
        · have hxp : 0 < x / b ^ (s * t) := by
            rcases Nat.eq_zero_or_pos (x / b ^ (s * t)) with h | h
            · have := hln.1.2 h; omega
            · exact h
          have htB := round_lt hb2 hs HX.out hxp
          have hcp := HC.out base (.slice a n c) (x / b ^ (s * t)) u B hu2 hl (by omega) (Nat.lt_of_le_of_lt (Nat.div_le_self _ _) HX.out) hxp wr ha (by omega)
          clear hln ha ho hw1 k1 hxp
          subst hoe
          have k0 : (0 : Int) < (n : Int) := by omega
          go_wp2_with (first | (go_at_call 159; fail))
          go_fit hcp
          rintro e w2 ⟨v2, rfl, hv2, hk2, hb2'⟩
          obtain ⟨a2, n2, c2, rfl⟩ := hv2.slice
          have HO2 : Hid (OwnB base w2 (.slice oa (s * t) oc) (leB b (s * t) x)) := HO.out.keep hk2
          have hbw2 : Below base wB w2 := hbw.trans hb2'
          have HV2 := (show Hid _ from hv2)
          obtain ⟨l0, hl0⟩ : ∃ l0, l0 = x / b ^ (s * t) % u := ⟨_, rfl⟩
          rw [← hl0]
          have HL0 : Hid (l0 = x / b ^ (s * t) % u) := hl0
          have hl0u : l0 < u := by rw [hl0]; exact Nat.mod_lt _ (by omega)
          obtain ⟨K, hK⟩ : ∃ K, K = s * t := ⟨_, rfl⟩
          rw [← hK] at HO2 hst ⊢
          have HK : Hid (K = s * t) := hK
          clear hcp HO HA hv2 hk2 hb2' hl0 hK HC
          go_wp2
          rename World => wC
          have hlS : ∀ i, l0 / b ^ i ≤ l0 := fun i => Nat.div_le_self _ _
          have HlS := (show Hid _ from hlS)
          obtain ⟨q, hq⟩ : ∃ q, q = x / b ^ (s * t) / u := ⟨_, rfl⟩
          have HV3 : Hid (NatP base wC (.slice a2 n2 c2) q) := by rw [hq]; exact HV2.out
          have HQ : Hid (q = x / b ^ (s * t) / u) := hq
          clear HV2 hq hlS
          go_loopw [7, 8, 31] (fun vo vl vi w3 => DiR base wB b K x l0 s q a2 n2 c2 vo vl vi w3) (fun _ _ vi _ => s - (RowKit.intOf vi).toNat)
          case atStart => exact .mk 0 l0 _ _ (Nat.zero_le _) (by simp) (by rw [leB, List.append_nil]; exact HO2.out) HV3.out hbw2
          case round =>
            clear HO2 HV3 hbw2
            obtain ⟨i, l, vo, W, hi, hlv, ho, ha, hbw3⟩ := hrel
            have hws3 := hbw3.size
            obtain ⟨oa2, oc2, hoe⟩ := ho.slice
            rw [List.length_append, leB_length, leB_length] at hoe
            have hlu : l < u := by rw [hlv]; have := HlS.out i; omega
            have HL : Hid (l = l0 / b ^ i) := hlv
            have HA : Hid (NatP base wr (.slice a2 n2 c2) q) := ha
            have hob : wr.ownsRow base 5 1 (.slice oa2 (K + i) oc2) (K + i) ((leB b K x ++ leB b i l0).map bv) := by
              have := ho
              unfold OwnB at this
              rw [List.length_append, leB_length, leB_length, hoe] at this
              exact this
            subst hoe
            clear hlv ha ho
            rcases Nat.lt_or_ge i s with hlt | hge2
            · have k3 : (i : Int) < (s : Int) := by omega
              have hbz : ((b : Int) == 0) = false := by rw [beq_eq_false_iff_ne]; omega
              obtain ⟨r, hr⟩ : ∃ r, r = l % b := ⟨_, rfl⟩
              have hrb : r < b := by rw [hr]; exact Nat.mod_lt _ (by omega)
              have er : (l : Int) % (b : Int) = (r : Int) := by rw [hr]; rfl
              have HR : Hid (r = l % b) := hr
              clear hr
              go_wp2_with (first | (at_builtin; refine app1 rfl _ _ rfl base _ _ _ wB _ _ hob rfl rfl (by omega) hbs hbw3 ?_; intro v' w4 hob' hbw4 hk4))
              have hob2 : OwnB base w4 v' (leB b K x ++ leB b (i + 1) l0) := by
                have e := tab_dgc r (by omega)
                have e2 : leB b (i + 1) l0 = leB b i l0 ++ [dgc r] := by
                  rw [leB_append b i 1 l0, HR.out, HL.out]
                  rfl
                unfold OwnB
                rw [e2, List.length_append, List.length_append, leB_length, leB_length, ← List.append_assoc, List.map_append (l₂ := [dgc r])]
                have e3 : [dgc r].map bv = [Value.int .u8 (((tabZ[r]'(by rw [tabZ_size]; omega)).toNat : Nat) : Int)] := by rw [e]; rfl
                rw [e3]
                exact hob'
              have el : (l : Int) / (b : Int) = ((l / b : Nat) : Int) := rfl
              have ei : (i : Int) + 1 = ((i + 1 : Nat) : Int) := rfl
              have hld : l / b ≤ l := Nat.div_le_self _ _
              have em : ((l / b : Nat) : Int) % 4294967296 = ((l / b : Nat) : Int) := by
                generalize l / b = lq at *
                omega
              rw [el, ei, em]
              refine ⟨.mk (i + 1) (l / b) _ _ hlt ?_ hob2 (HA.out.keep hk4) hbw4, ?_⟩
              · rw [HL.out, Nat.div_div_eq_div_mul, ← Nat.pow_succ]
              · simp only [RowKit.intOf, Int.toNat_natCast]
                omega
            · have his : i = s := by omega
              subst his
              have k3 : ¬ (i : Int) < (i : Int) := by omega
              have hfin : OwnB base wr (.slice oa2 (K + i) oc2) (leB b (i * (t + 1)) x) := by
                unfold OwnB
                have e0 : i * (t + 1) = K + i := by rw [HK.out, Nat.mul_add, Nat.mul_one]
                rw [leB_length, e0, leB_append b K i x]
                have e1 : leB b i (x / b ^ K) = leB b i l0 := by rw [HL0.out, HU.out, ← HK.out, leB_mod b (by omega)]
                rw [e1]
                exact hob
              have HF := (show Hid _ from hfin)
              have HAq : Hid (NatP base wr (.slice a2 n2 c2) (x / b ^ (i * (t + 1)))) := by
                show NatP base wr (.slice a2 n2 c2) (x / b ^ (i * (t + 1)))
                rw [Nat.mul_add, Nat.mul_one, Nat.pow_add, ← Nat.div_div_eq_div_mul, ← HU.out, ← HQ.out]
                exact HA.out
              clear hfin hob HA
              go_wp2
              refine ⟨.mk (t + 1) _ _ _ _ _ (by omega) HAq.out HF.out hbw3, ?_⟩
              have := HK.out
              simp only [slN]
              omega
end Go.Proofs.YtellndmbllmjgaaGreatDoor
