/- The walks of Trim and of the document's own Trim. -/
import Derived.Test.YtmjnmnnfpcaogaaDoorWhite
import Derived.Test.YtmjnmnnfpcaogaaDoorBack
set_option linter.unusedVariables false
namespace Go.Proofs.YtmjnmnnfpcaogaaDoor
open Go.RowKit Go.Shelf Go.Lib

/-- The slice value sv holds the units us; there is room for them. -/
def RowC (W : World) (sv : Value) (us : List Nat) : Prop :=
  ∃ a cap, sv = .slice a us.length cap ∧ us.length ≤ cap ∧ cap ≤ maxLen ∧ (us ≠ [] → ∃ b off, a = some ⟨b, off, none⟩ ∧ b < W.heap.size ∧ ∀ j, j < us.length → W.cell? ⟨b, off + j, none⟩ = some (.int .u16 ((us[j]?.getD 0 : Nat) : Int)))
theorem RowC.row {W : World} {sv : Value} {us : List Nat} (h : RowC W sv us) : Row16 W.heap.size W sv us := by
  obtain ⟨a, cap, rfl, h1, _, h2⟩ := h
  by_cases h0 : us = []
  · subst h0
    exact .inl ⟨⟨_, _, rfl⟩, rfl⟩
  · obtain ⟨b, off, rfl, hb, hc⟩ := h2 h0
    exact .inr ⟨b, off, cap, rfl, hb, hc⟩
theorem RowC.below {A B : World} (h : Below A.heap.size A B) {sv : Value} {us : List Nat} (hr : RowC A sv us) : RowC B sv us := by
  obtain ⟨a, cap, e, h1, hm, h2⟩ := hr
  refine ⟨a, cap, e, h1, hm, fun h0 => ?_⟩
  obtain ⟨b, off, ea, hb, hc⟩ := h2 h0
  exact ⟨b, off, ea, by have := h.size; omega, fun j hj => (h.cell (p := ⟨b, off + j, none⟩) hb).trans (hc j hj)⟩
theorem rowC_of_owns {W : World} {base : Nat} {v : Value} {us : List Nat} (h : W.ownsRow base 24 1 v us.length (us.map uv)) : RowC W v us := by
  have hr := row16_of_owns h
  rcases h.2 with ⟨rfl, h0⟩ | ⟨g, cap, cur, rfl, _, hgb, hcap, hm, _⟩
  · have e := List.eq_nil_of_length_eq_zero h0
    subst e
    exact ⟨_, _, rfl, Nat.le_refl _, by unfold maxLen; omega, fun h => absurd rfl h⟩
  · refine ⟨_, cap, rfl, hcap, hm, fun h0 => ?_⟩
    rcases hr with ⟨_, e⟩ | ⟨b, off, c, e, hb, hc⟩
    · exact absurd e h0
    · cases e
      exact ⟨_, _, rfl, hb, hc⟩
theorem addr_add (b off i : Nat) : (⟨b, off, none⟩ : Addr).add i = ⟨b, off + i, none⟩ := by
  unfold Addr.add
  split <;> simp_all
theorem RowC.sliced {W : World} {a : Option Addr} {n cap : Nat} {us : List Nat} (hr : RowC W (.slice a n cap) us) (i k : Nat) (hik : i ≤ k) (hk : k ≤ us.length) : RowC W (Go.sliced a i k cap 1) ((us.take k).drop i) := by
  obtain ⟨a', cap', e, h1, hm, h2⟩ := hr
  cases e
  have hlen : ((us.take k).drop i).length = k - i := by simp; omega
  refine ⟨if cap = i then a else a.map (·.add (i * 1)), cap - i, by rw [hlen]; rfl, by rw [hlen]; omega, by omega, fun h0 => ?_⟩
  have hki : i < k := by
    rcases Nat.lt_or_ge i k with h | h
    · exact h
    · exact absurd (List.eq_nil_of_length_eq_zero (by omega)) h0
  obtain ⟨b, off, rfl, hb, hc⟩ := h2 (fun e => by rw [e] at hk; simp at hk; omega)
  rw [if_neg (by omega)]
  refine ⟨b, off + i, by simp [addr_add], hb, fun j hj => ?_⟩
  rw [hlen] at hj
  rw [show off + i + j = off + (i + j) by omega, hc (i + j) (by omega)]
  rw [List.getElem?_drop, List.getElem?_take_of_lt (by omega)]

theorem rowC_none (W : World) (a : Option Addr) (c : Nat) (hc : c ≤ maxLen) : RowC W (.slice a 0 c) [] := ⟨a, c, rfl, Nat.zero_le _, hc, fun h => absurd rfl h⟩
theorem rowC_cut {W : World} {b off n cap : Nat} {us : List Nat} (hr : RowC W (.slice (some ⟨b, off, none⟩) n cap) us) (i k : Nat) (hik : i ≤ k) (hk : k ≤ us.length) (hc : i < cap) : RowC W (.slice (some ⟨b, off + i, none⟩) (k - i) (cap - i)) ((us.take k).drop i) := by
  have := hr.sliced i k hik hk
  have e : Go.sliced (some ⟨b, off, none⟩) i k cap 1 = .slice (some ⟨b, off + i, none⟩) (k - i) (cap - i) := by
    unfold Go.sliced
    rw [if_neg (by omega)]
    simp [addr_add]
  rwa [e] at this
/-- Without white space at the front. -/
def ltrim (us : List Nat) : List Nat := us.dropWhile whiteU
/-- Without white space at the end. -/
def rtrim (us : List Nat) : List Nat := (us.reverse.dropWhile whiteU).reverse
def trimU (us : List Nat) : List Nat := rtrim (ltrim us)
theorem rtrim_snoc (l : List Nat) (x : Nat) : rtrim (l ++ [x]) = if whiteU x = true then rtrim l else l ++ [x] := by
  unfold rtrim
  rw [List.reverse_append]
  simp only [List.reverse_cons, List.reverse_nil, List.nil_append, List.singleton_append, List.dropWhile_cons]
  split
  · rfl
  · simp
theorem drop_head (us : List Nat) (k : Nat) (h : k < us.length) : us.drop k = us[k]?.getD 0 :: us.drop (k + 1) := by
  rw [List.drop_eq_getElem_cons h, List.getElem?_eq_getElem h]
  rfl
theorem take_last (us : List Nat) (i k : Nat) (h : i < k) (hk : k ≤ us.length) : (us.take k).drop i = (us.take (k - 1)).drop i ++ [us[k - 1]?.getD 0] := by
  have h1 : k - 1 < us.length := by omega
  have e : us.take k = us.take (k - 1) ++ [us[k - 1]] := by
    have := List.take_succ_eq_append_getElem h1
    rwa [show k - 1 + 1 = k by omega] at this
  rw [e, List.drop_append_of_le_length (by simp; omega), List.getElem?_eq_getElem h1]
  rfl

set_option maxRecDepth 100000 in
set_option maxHeartbeats 4000000 in
theorem refTrim_any (sv : Value) (us : List Nat) (hu : ∀ u ∈ us, u < 65536) (hlen : us.length ≤ 200000) (w : World) (hR : RowC w sv us) (hZ : RVar 0 zsT w) :
    Calls Tryd.prog 13 #[sv] w fun e w' => ∃ sv', e = .returned sv' ∧ RowC w' sv' (trimU us) ∧ Below w.heap.size w w' := by
  have HG := (show Hid _ from (getD_lt hu))
  have hR0 := hR
  obtain ⟨a, cap, rfl, hcap, hcm, hcell⟩ := hR
  unfold maxLen at hcm
  have HC := (show Hid _ from hcell)
  clear hcell hu
  go_enter Tryd.func13, Tryd.ntmps13
  go_wp2
  go_loopw [3] (fun i wr => ∃ k : Nat, k ≤ us.length ∧ i = .int .i64 k ∧ (us.drop k).dropWhile whiteU = ltrim us ∧ Below w.heap.size w wr) (fun i _ => us.length - (intOf i).toNat)
  case atStart => exact ⟨0, Nat.zero_le _, rfl, rfl, Below.refl _ _⟩
  case round =>
    obtain ⟨k, hk, rfl, hdw, hbw⟩ := hrel
    have HD := (show Hid _ from hdw)
    clear hdw
    by_cases hlt : k < us.length
    · obtain ⟨b, off, rfl, hb, hc⟩ := HC.out (fun e => by rw [e] at hlt; simp at hlt)
      have hc0 : wr.cell? ⟨b, off + k, none⟩ = some (.int .u16 ((us[k]?.getD 0 : Nat) : Int)) := (hbw.cell (p := ⟨b, off + k, none⟩) hb).trans (hc k hlt)
      have hdh := drop_head us k hlt
      have hu0 := HG.out k
      have HH := (show Hid _ from hdh)
      clear hdh hc
      generalize us[k]?.getD 0 = x at *
      have cW := refWhite_any x hu0 wr (RVar_below hZ hbw)
      cases hwx : whiteU x
      · rw [hwx] at cW
        have hL : us.drop k = ltrim us := by
          have := HD.out
          rw [HH.out, List.dropWhile_cons, hwx] at this
          rw [HH.out]
          exact this
        have HL := (show Hid _ from hL)
        clear hL
        go_wp2_with (go_at_call 26; refine cW.mono ?_; rintro e w2 ⟨rfl, hb2⟩)
        have hbw2 := hbw.trans (hb2.mono hbw.size)
        clear hc0 cW
        go_loopw [4] (fun kk w3 => ∃ j : Nat, k ≤ j ∧ j ≤ us.length ∧ kk = .int .i64 j ∧ rtrim ((us.take j).drop k) = trimU us ∧ Below w.heap.size w w3) (fun kk _ => (intOf kk).toNat)
        case atStart => exact ⟨us.length, by omega, Nat.le_refl _, rfl, by rw [List.take_length, HL.out]; rfl, hbw2⟩
        case round =>
          obtain ⟨j, hj1, hj2, rfl, hrt, hbw3⟩ := hrel
          have HR := (show Hid _ from hrt)
          clear hrt
          by_cases hji : k < j
          · obtain ⟨j', rfl⟩ : ∃ j', j = j' + 1 := ⟨j - 1, by omega⟩
            have htl := take_last us k (j' + 1) hji hj2
            rw [show j' + 1 - 1 = j' by omega] at htl
            have HTL := (show Hid _ from htl)
            clear htl
            obtain ⟨b, off, ea, hb, hc⟩ := HC.out (fun e => by rw [e] at hj2; simp at hj2)
            cases ea
            have hc1 : wr.cell? ⟨b, off + j', none⟩ = some (.int .u16 ((us[j']?.getD 0 : Nat) : Int)) := (hbw3.cell (p := ⟨b, off + j', none⟩) hb).trans (hc j' (by omega))
            have hu1 := HG.out j'
            clear hc
            generalize us[j']?.getD 0 = y at *
            have cV := refWhite_any y hu1 wr (RVar_below hZ hbw3)
            cases hwy : whiteU y
            · rw [hwy] at cV
              have hE : (us.take (j' + 1)).drop k = trimU us := by
                have := HR.out
                rw [HTL.out, rtrim_snoc, if_neg (by rw [hwy]; simp)] at this
                rw [HTL.out]
                exact this
              have HE := (show Hid _ from hE)
              clear hE
              go_wp2_with (go_at_call 26; refine cV.mono ?_; rintro e w4 ⟨rfl, hb4⟩)
              have hbw4 := hbw3.trans (hb4.mono hbw3.size)
              go_ret
              refine ⟨_, rfl, ?_, hbw4⟩
              rw [← HE.out]
              exact rowC_cut (hR0.below hbw4) k (j' + 1) (by omega) hj2 (by omega)
            · rw [hwy] at cV
              have hE : rtrim ((us.take j').drop k) = trimU us := by
                have := HR.out
                rw [HTL.out, rtrim_snoc, if_pos hwy] at this
                exact this
              have HE := (show Hid _ from hE)
              clear hE
              go_wp2_with (go_at_call 26; refine cV.mono ?_; rintro e w4 ⟨rfl, hb4⟩)
              have hbw4 := hbw3.trans (hb4.mono hbw3.size)
              go_roundw
              case rel => exact ⟨j', by omega, by omega, by go_num, HE.out, hbw4⟩
              case measure => simp [intOf]
          · obtain rfl : j = k := by omega
            have hE : trimU us = [] := by
              have := HR.out
              rw [List.drop_of_length_le (by simp; omega)] at this
              exact this.symm
            have HE := (show Hid _ from hE)
            clear hE
            go_wp2
            go_ret
            refine ⟨_, rfl, ?_, hbw3⟩
            rw [HE.out]
            exact rowC_none _ _ _ (by unfold maxLen; omega)
      · rw [hwx] at cW
        have hnx : (us.drop (k + 1)).dropWhile whiteU = ltrim us := by
          have := HD.out
          rw [HH.out, List.dropWhile_cons, hwx] at this
          exact this
        have HX := (show Hid _ from hnx)
        clear hnx
        go_wp2_with (go_at_call 26; refine cW.mono ?_; rintro e w2 ⟨rfl, hb2⟩)
        go_roundw
        case rel => exact ⟨k + 1, by omega, by go_num, HX.out, hbw.trans (hb2.mono hbw.size)⟩
        case measure => simp [intOf]; omega
    · obtain rfl : k = us.length := by omega
      have hE : trimU us = [] := by
        have := HD.out
        rw [List.drop_length] at this
        unfold trimU
        rw [← this]
        rfl
      have HE := (show Hid _ from hE)
      clear hE
      go_wp2
      go_loopw [4] (fun kk w3 => kk = .int .i64 (us.length : Nat) ∧ Below w.heap.size w w3) (fun _ _ => 0)
      case atStart => exact ⟨rfl, hbw⟩
      case round =>
        obtain ⟨rfl, hbw3⟩ := hrel
        go_wp2
        all_goals
          go_ret
          refine ⟨_, rfl, ?_, hbw3⟩
          rw [HE.out]
          exact rowC_none _ _ _ (by unfold maxLen; omega)

theorem unitsL_len : ∀ (f : Nat) (bs : List Nat), (∀ b ∈ bs, b < 256) → (Un.unitsL f bs).length ≤ 2 * bs.length
  | 0, bs, _ => by simp [Un.unitsL]
  | f + 1, bs, hb => by
    unfold Un.unitsL
    split
    · simp
    · rename_i h
      have h1 := Un.ptL_bounds bs h hb
      have h2 := (Un.unR_len (Un.ptL bs).1).2
      have h3 := unitsL_len f (bs.drop (Un.ptL bs).2) (fun b hb' => hb b (List.mem_of_mem_drop hb'))
      rw [List.length_drop] at h3
      rw [List.length_append]
      omega
theorem unitsS_len (s : ByteArray) : (unitsS s).length ≤ 2 * s.size := by
  have := unitsL_len s.size (bytes s) (bytes_lt s)
  rwa [bytes_len] at this
theorem unitsS_lt (s : ByteArray) : ∀ u ∈ unitsS s, u < 65536 := Un.unitsL_lt s.size (bytes s) (bytes_lt s)

/-- How many elements a slice value has. -/
def sliceLen : Value → Nat
  | .slice _ n _ => n
  | _ => 0

theorem rowC_tail {W : World} {b off cap : Nat} {x : Nat} {t : List Nat} (hr : RowC W (.slice (some ⟨b, off, none⟩) (t.length + 1) cap) (x :: t)) : RowC W (.slice (if cap = 1 then some ⟨b, off, none⟩ else some ⟨b, off + 1, none⟩) t.length (cap - 1)) t := by
  have := hr.sliced 1 (t.length + 1) (by omega) (by simp)
  have e : Go.sliced (some ⟨b, off, none⟩) 1 (t.length + 1) cap 1 = .slice (if cap = 1 then some ⟨b, off, none⟩ else some ⟨b, off + 1, none⟩) t.length (cap - 1) := by
    unfold Go.sliced
    split <;> simp [addr_add]
  rw [e] at this
  simpa using this
theorem rowC_init {W : World} {b off cap n : Nat} {us : List Nat} (hr : RowC W (.slice (some ⟨b, off, none⟩) (n + 1) cap) us) (hn : us.length = n + 1) : RowC W (.slice (some ⟨b, off, none⟩) n cap) (us.take n) := by
  have := hr.sliced 0 n (by omega) (by omega)
  have e : Go.sliced (some ⟨b, off, none⟩) 0 n cap 1 = .slice (some ⟨b, off, none⟩) n cap := by
    unfold Go.sliced
    split <;> simp [addr_add]
  rw [e] at this
  simpa using this

set_option maxRecDepth 100000 in
set_option maxHeartbeats 4000000 in
theorem trim_any (s : ByteArray) (hs : s.size ≤ 100000) (w : World) (hT : Lib.Utf8Tabs 1 2 w) (hZ : RVar 0 zsT w) :
    Calls Tryd.prog 14 #[.string s] w fun e w' => e = .returned (.string (txt (trimU (unitsS s)))) ∧ Below w.heap.size w w' := by
  have cU := units_any s hs w hT
  have hul := unitsS_len s
  have hub := unitsS_lt s
  generalize unitsS s = U at *
  have HU := (show Hid _ from hub)
  clear hub
  go_enter Tryd.func14, Tryd.ntmps14
  go_wp2_with (go_at_call 5; refine cU.mono ?_; rintro e w1 ⟨v, rfl, hown, hnil, hb1⟩; clear hnil)
  go_loopw [3] (fun l wr => ∃ cur : List Nat, RowC wr l cur ∧ cur.length ≤ U.length ∧ (∀ u ∈ cur, u < 65536) ∧ cur.dropWhile whiteU = ltrim U ∧ Below w.heap.size w wr) (fun l _ => sliceLen l)
  case atStart => exact ⟨U, rowC_of_owns hown, Nat.le_refl _, HU.out, rfl, hb1⟩
  case round =>
    obtain ⟨cur, hR, hcl, hcu, hdw, hbw⟩ := hrel
    have HD := (show Hid _ from hdw)
    clear hdw hown hb1 cU
    have hR0 := hR
    obtain ⟨a, cap, rfl, hcap, hcm, hcell⟩ := hR
    unfold maxLen at hcm
    cases cur with
    | nil =>
      have hE : trimU U = [] := by
        have := HD.out
        unfold trimU
        rw [← this]
        rfl
      have HE := (show Hid _ from hE)
      clear hE hcu hcell
      simp only [List.length_nil] at hR0 hcap ⊢
      go_wp2
      go_loopw [3] (fun l w3 => ∃ cur : List Nat, RowC w3 l cur ∧ cur.length ≤ U.length ∧ (∀ u ∈ cur, u < 65536) ∧ rtrim cur = trimU U ∧ Below w.heap.size w w3) (fun l _ => sliceLen l)
      case atStart => exact ⟨[], hR0, Nat.zero_le _, by simp, HE.out.symm, hbw⟩
      case round =>
        obtain ⟨cur, hR, hcl3, hcu3, hrt, hbw3⟩ := hrel
        have HR3 := (show Hid _ from hrt)
        have cT := fun W (hW : Below wr.heap.size wr W) => text_any _ cur hcu3 (by omega) W (hR.below hW).row
        have HT := (show Hid _ from cT)
        have HC3 := (show Hid _ from hcu3)
        have hR3 := hR
        obtain ⟨a3, cap3, hl3, hcap3, hcm3, hcell3⟩ := hR
        unfold maxLen at hcm3
        clear hrt cT
        by_cases h0 : cur = []
        · subst h0
          subst hl3
          have hE : trimU U = [] := HR3.out.symm
          have HE3 := (show Hid _ from hE)
          clear hE hcell3 hcu3
          go_wp2_with (go_at_call 8; refine (HT.out _ (Below.refl _ _)).mono ?_; rintro e w4 ⟨rfl, hb4⟩)
          go_ret
          exact ⟨by rw [HE3.out]; rfl, hbw3.trans (hb4.mono hbw3.size)⟩
        · obtain ⟨n, hn⟩ : ∃ n, cur.length = n + 1 := ⟨cur.length - 1, by have := List.length_pos_iff.2 h0; omega⟩
          obtain ⟨b3, off3, rfl, hb3, hc3⟩ := hcell3 h0
          have hcy := hc3 n (by omega)
          have hy := getD_lt hcu3 n
          have htl := take_last cur 0 (n + 1) (by omega) (by omega)
          rw [List.drop_zero, List.drop_zero, show n + 1 - 1 = n by omega, List.take_of_length_le (by omega)] at htl
          have HTL := (show Hid _ from htl)
          have hin := fun W (h : Below wr.heap.size wr W) => rowC_init (n := n) (us := cur) (by have := hR3.below h; rw [hl3, hn] at this; exact this) hn
          have HIN := (show Hid _ from hin)
          have HN := (show Hid _ from hn)
          have hcu4 : ∀ u ∈ cur.take n, u < 65536 := fun u hu => hcu3 u (List.mem_of_mem_take hu)
          have HC4 := (show Hid _ from hcu4)
          have hlt4 : (cur.take n).length = n := by simp; omega
          have HL4 := (show Hid _ from hlt4)
          generalize cur[n]?.getD 0 = y at *
          have cV := white_any y hy wr (RVar_below hZ hbw3)
          rw [hn] at hl3 hcap3 hcl3
          subst hl3
          clear htl hin hcu4 hlt4 hc3 hcell3 hcu3 hn hR3 h0
          cases hwy : whiteU y
          · rw [hwy] at cV
            have hE : cur = trimU U := by
              have := HR3.out
              rw [HTL.out, rtrim_snoc, if_neg (by rw [hwy]; simp), ← HTL.out] at this
              exact this
            have HE3 := (show Hid _ from hE)
            clear hE
            go_wp2_with (first
              | (go_at_call 27; refine cV.mono ?_; rintro e w4 ⟨rfl, hb4⟩)
              | (go_at_call 8; refine (HT.out _ hb4).mono ?_; rintro e w5 ⟨rfl, hb5⟩))
            go_ret
            have hbw4 := hbw3.trans (hb4.mono hbw3.size)
            exact ⟨by rw [← HE3.out]; rfl, hbw4.trans (hb5.mono hbw4.size)⟩
          · rw [hwy] at cV
            have hE : rtrim (cur.take n) = trimU U := by
              have := HR3.out
              rw [HTL.out, rtrim_snoc, if_pos hwy] at this
              exact this
            have HE := (show Hid _ from hE)
            clear hE
            go_wp2_with (go_at_call 27; refine cV.mono ?_; rintro e w4 ⟨rfl, hb4⟩)
            have hbw4 := hbw3.trans (hb4.mono hbw3.size)
            go_roundw
            case rel => exact ⟨cur.take n, HIN.out _ hb4, by rw [HL4.out]; omega, HC4.out, HE.out, hbw4⟩
            case measure => simp [sliceLen]
    | cons x t =>
      obtain ⟨b, off, rfl, hb, hc⟩ := hcell (by simp)
      have hc0 := hc 0 (by simp)
      simp only [Nat.add_zero, List.getElem?_cons_zero, Option.getD_some] at hc0
      have hx := hcu x (by simp)
      have hcu' : ∀ u ∈ t, u < 65536 := fun u hu => hcu u (by simp [hu])
      have HC := (show Hid _ from hcu)
      have HC' := (show Hid _ from hcu')
      have cW := white_any x hx wr (RVar_below hZ hbw)
      simp only [List.length_cons] at *
      clear hc hcell hcu hcu'
      cases hwx : whiteU x
      · rw [hwx] at cW
        have hE : rtrim (x :: t) = trimU U := by
          have := HD.out
          rw [List.dropWhile_cons, hwx] at this
          unfold trimU
          rw [← this]
          rfl
        have HE := (show Hid _ from hE)
        clear hE
        go_wp2_with (go_at_call 27; refine cW.mono ?_; rintro e w2 ⟨rfl, hb2⟩)
        have hbw2 := hbw.trans (hb2.mono hbw.size)
        clear hc0 cW
        go_loopw [3] (fun l w3 => ∃ cur : List Nat, RowC w3 l cur ∧ cur.length ≤ U.length ∧ (∀ u ∈ cur, u < 65536) ∧ rtrim cur = trimU U ∧ Below w.heap.size w w3) (fun l _ => sliceLen l)
        case atStart => exact ⟨x :: t, hR0.below hb2, by simpa using hcl, HC.out, HE.out, hbw2⟩
        case round =>
          obtain ⟨cur, hR, hcl3, hcu3, hrt, hbw3⟩ := hrel
          have HR3 := (show Hid _ from hrt)
          have cT := fun W (hW : Below wr.heap.size wr W) => text_any _ cur hcu3 (by omega) W (hR.below hW).row
          have HT := (show Hid _ from cT)
          have HC3 := (show Hid _ from hcu3)
          have hR3 := hR
          obtain ⟨a3, cap3, hl3, hcap3, hcm3, hcell3⟩ := hR
          unfold maxLen at hcm3
          clear hrt cT
          by_cases h0 : cur = []
          · subst h0
            subst hl3
            have hE : trimU U = [] := HR3.out.symm
            have HE3 := (show Hid _ from hE)
            clear hE hcell3 hcu3
            go_wp2_with (go_at_call 8; refine (HT.out _ (Below.refl _ _)).mono ?_; rintro e w4 ⟨rfl, hb4⟩)
            go_ret
            exact ⟨by rw [HE3.out]; rfl, hbw3.trans (hb4.mono hbw3.size)⟩
          · obtain ⟨n, hn⟩ : ∃ n, cur.length = n + 1 := ⟨cur.length - 1, by have := List.length_pos_iff.2 h0; omega⟩
            obtain ⟨b3, off3, rfl, hb3, hc3⟩ := hcell3 h0
            have hcy := hc3 n (by omega)
            have hy := getD_lt hcu3 n
            have htl := take_last cur 0 (n + 1) (by omega) (by omega)
            rw [List.drop_zero, List.drop_zero, show n + 1 - 1 = n by omega, List.take_of_length_le (by omega)] at htl
            have HTL := (show Hid _ from htl)
            have hin := fun W (h : Below wr.heap.size wr W) => rowC_init (n := n) (us := cur) (by have := hR3.below h; rw [hl3, hn] at this; exact this) hn
            have HIN := (show Hid _ from hin)
            have HN := (show Hid _ from hn)
            have hcu4 : ∀ u ∈ cur.take n, u < 65536 := fun u hu => hcu3 u (List.mem_of_mem_take hu)
            have HC4 := (show Hid _ from hcu4)
            have hlt4 : (cur.take n).length = n := by simp; omega
            have HL4 := (show Hid _ from hlt4)
            generalize cur[n]?.getD 0 = y at *
            have cV := white_any y hy wr (RVar_below hZ hbw3)
            rw [hn] at hl3 hcap3 hcl3
            subst hl3
            clear htl hin hcu4 hlt4 hc3 hcell3 hcu3 hn hR3 h0
            cases hwy : whiteU y
            · rw [hwy] at cV
              have hE : cur = trimU U := by
                have := HR3.out
                rw [HTL.out, rtrim_snoc, if_neg (by rw [hwy]; simp), ← HTL.out] at this
                exact this
              have HE3 := (show Hid _ from hE)
              clear hE
              go_wp2_with (first
                | (go_at_call 27; refine cV.mono ?_; rintro e w4 ⟨rfl, hb4⟩)
                | (go_at_call 8; refine (HT.out _ hb4).mono ?_; rintro e w5 ⟨rfl, hb5⟩))
              go_ret
              have hbw4 := hbw3.trans (hb4.mono hbw3.size)
              exact ⟨by rw [← HE3.out]; rfl, hbw4.trans (hb5.mono hbw4.size)⟩
            · rw [hwy] at cV
              have hE : rtrim (cur.take n) = trimU U := by
                have := HR3.out
                rw [HTL.out, rtrim_snoc, if_pos hwy] at this
                exact this
              have HE := (show Hid _ from hE)
              clear hE
              go_wp2_with (go_at_call 27; refine cV.mono ?_; rintro e w4 ⟨rfl, hb4⟩)
              have hbw4 := hbw3.trans (hb4.mono hbw3.size)
              go_roundw
              case rel => exact ⟨cur.take n, HIN.out _ hb4, by rw [HL4.out]; omega, HC4.out, HE.out, hbw4⟩
              case measure => simp [sliceLen]
      · rw [hwx] at cW
        have hnx : t.dropWhile whiteU = ltrim U := by
          have := HD.out
          rw [List.dropWhile_cons, hwx] at this
          exact this
        have HX := (show Hid _ from hnx)
        have hRt := fun W (h : Below wr.heap.size wr W) => rowC_tail (hR0.below h)
        have HR := (show Hid _ from hRt)
        clear hnx hRt
        by_cases hc1 : cap = 1
        · subst hc1
          obtain rfl : t = [] := List.eq_nil_of_length_eq_zero (by omega)
          go_wp2_with (go_at_call 27; refine cW.mono ?_; rintro e w2 ⟨rfl, hb2⟩)
          have hbw2 := hbw.trans (hb2.mono hbw.size)
          go_roundw
          case rel => exact ⟨[], by have := HR.out _ hb2; simpa using this, Nat.zero_le _, HC'.out, HX.out, hbw2⟩
          case measure => simp [sliceLen]
        · go_wp2_with (go_at_call 27; refine cW.mono ?_; rintro e w2 ⟨rfl, hb2⟩)
          have hbw2 := hbw.trans (hb2.mono hbw.size)
          go_roundw
          case rel => exact ⟨t, by have := HR.out _ hb2; simpa [hc1] using this, by omega, HC'.out, HX.out, hbw2⟩
          case measure => simp [sliceLen]
end Go.Proofs.YtmjnmnnfpcaogaaDoor
