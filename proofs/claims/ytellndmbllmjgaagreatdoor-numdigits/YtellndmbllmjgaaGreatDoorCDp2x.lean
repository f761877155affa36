/- shortest at nought. -/
import Derived.Test.YtellndmbllmjgaaGreatDoorCFt2x
import Derived.Test.YtellndmbllmjgaaGreatDoorCPt1x
import Derived.Test.YtellndmbllmjgaaGreatDoorCDa5
import Derived.Test.YtellndmbllmjgaaGreatDoorCSc1x
set_option linter.unusedVariables false
namespace Go.Proofs.YtellndmbllmjgaaGreatDoor
open Go.RowKit Go.Shelf Go.Sort Fs

set_option maxRecDepth 100000 in
set_option maxHeartbeats 4000000 in
theorem fmtE_zero (base : Nat) (v : Value) (w : World) (hown' : w.ownsRow base 5 1 v 0 []) (hb : base ≤ w.heap.size) :
    Calls Tryz.prog 215 #[v, .bool false, .slice none 0 0, .int .i64 0, .int .i64 0, .int .i64 (-1), .int .u8 101, .bool true] w fun e w' => ∃ v', e = .returned v' ∧ w'.ownsRow base 5 1 v' (fmtS [48] 0).length ((fmtS [48] 0).map bv) ∧ Below base w w' := by
  have hbw : Below base w w := Below.refl _ _
  go_enter Tryz.func215, Tryz.ntmps215
  go_wp2_with (first | (at_builtin; refine app1 rfl _ _ rfl base _ _ _ w _ _ hown' rfl rfl (by omega) hb hbw ?_; intro v' w2 hown' hbw hk) | (at_builtin; refine app2 rfl _ _ rfl base _ _ _ w _ _ _ hown' rfl rfl (by omega) hb hbw ?_; intro v' w2 hown' hbw hk) | (at_builtin; refine app3 rfl _ _ rfl base _ _ _ w _ _ _ _ hown' rfl rfl (by omega) hb hbw ?_; intro v' w2 hown' hbw hk))
  go_ret
  refine ⟨_, rfl, own_as hown' ?_, hbw⟩
  rfl
set_option maxRecDepth 100000 in
set_option maxHeartbeats 4000000 in
theorem ftoa_z (z ex mt : Int) (v : Value) (base : Nat) (w : World) (x1 : ∀ w, (callFunc 212 #[.float .f64 0]).run Tryz.prog w = .ok (.value (.int .u64 z)) w)
    (t0 : (z / 9223372036854775808 != 0) = false)
    (hex : bits .and .i64 (wrap64 (z / 4503599627370496)) 2047 = ex) (hex1 : (ex == 2047) = false) (hex0 : (ex == 0) = true) (hexa : 0 ≤ ex) (hexb : ex ≤ 2046)
    (hmt : bits .and .u64 z 4503599627370495 = mt) (hM0 : (mt == 0) = true) (hown : w.ownsRow base 5 1 v 0 []) (hb : base ≤ w.heap.size) :
    Calls Tryz.prog 165 #[v, .float .f64 0, .int .u8 101, .int .i64 (-1)] w fun rr w' => ∃ v', rr = .returned v' ∧ w'.ownsRow base 5 1 v' (fmtS [48] 0).length ((fmtS [48] 0).map bv) ∧ Below base w w' := by
  have c := fun w => fmtE_zero base v w
  have C := (show Hid _ from c)
  have HO : Hid (w.ownsRow base 5 1 v 0 []) := hown
  obtain ⟨F, hF⟩ : ∃ F, F = fmtS [48] 0 := ⟨_, rfl⟩
  rw [← hF] at C ⊢
  clear c hF hown
  go_enter Tryz.func165, Tryz.ntmps165
  go_wp2_with (first | go_in)
  go_quiet (fail)
  go_wp2_with (first | (go_at_call 215; fail))
  refine (C.out _ ?_ ?_).mono ?_
  · exact ownsRow_later HO.out (below_drewN (Below.refl _ _))
  · exact hb
  rintro e w2 ⟨v', rfl, h2, h3⟩
  go_wp2
  go_ret
  exact ⟨_, rfl, h2, (below_drewN (Below.refl _ _)).trans h3⟩
theorem ftoa_zero (v : Value) (base : Nat) (w : World) (hown : w.ownsRow base 5 1 v 0 []) (hb : base ≤ w.heap.size) :
    Calls Tryz.prog 165 #[v, .float .f64 0, .int .u8 101, .int .i64 (-1)] w fun rr w' => ∃ v', rr = .returned v' ∧ w'.ownsRow base 5 1 v' (fmtS [48] 0).length ((fmtS [48] 0).map bv) ∧ Below base w w' :=
  ftoa_z ((0 : Nat) : Int) ((0 / 4503599627370496 : Nat) : Int) ((0 % 4503599627370496 : Nat) : Int) v base w (fun w => Tryz.tobits 0 w) (top_zero 0 (by omega)) (exp_and 0 (by omega)) (by decide) (by decide) (by omega) (by omega) (and_52 0 (by omega)) (by decide) hown hb
theorem fmt0_lt : ∀ b ∈ fmtS [48] 0, b < 256 := by decide
theorem formatIn_zero (w : World) :
    Calls Tryz.prog 119 #[.float .f64 0, .int .u8 101, .int .i64 (-1), .int .i64 64] w fun rr w' => rr = .returned (.string (txt (fmtS [48] 0))) ∧ Below w.heap.size w w' := by
  obtain ⟨i0, hi, hz0, hz1, hz2⟩ := info_parts info5
  have hpos := fmtS_pos [48] 0
  have hlt := fmt0_lt
  have C := (show Hid _ from fun v base w => ftoa_zero v base w)
  obtain ⟨F, hF⟩ : ∃ F, F = fmtS [48] 0 := ⟨_, rfl⟩
  rw [← hF] at hpos hlt C ⊢
  have HLT : Hid (∀ b ∈ F, b < 256) := hlt
  clear hF hlt
  go_enter Tryz.func119, Tryz.ntmps119
  go_wp2_with (first | (refine wpList_make_own _ rfl _ _ 92 rfl w.heap.size 5 i0 (.int .u8 0) 1 Tryz.underlying92 hi hz0 hz1 .i64 .i64 _ 24 rfl rfl rfl (by rw [hz2]; omega) (by unfold maxLen; omega) (Nat.le_refl _) ?_; intro w1 hown0 hg0) | (go_at_call 165; fail))
  have hb1 : Below w.heap.size w w1 := (Below.refl _ _).grown hg0 (Nat.le_refl _) (fun k e => by cases e)
  refine (C.out _ w.heap.size w1 hown0 hb1.size).mono ?_
  rintro ee w2 ⟨v', rfl, hown2, hb2⟩
  obtain ⟨g, cap, rfl⟩ := own_slice hpos hown2
  have hcv := conv_row HLT.out hown2
  clear hown2 C hown0
  go_wp2
  go_ret
  exact ⟨rfl, hb1.trans hb2⟩
theorem format_zero (w : World) :
    Calls Tryz.prog 73 #[.float .f64 0, .int .u8 101, .int .i64 (-1), .int .i64 64] w fun rr w' => rr = .returned (.string (txt (fmtS [48] 0))) ∧ Below w.heap.size w w' := by
  have c := formatIn_zero
  obtain ⟨F, hF⟩ : ∃ F, F = fmtS [48] 0 := ⟨_, rfl⟩
  rw [← hF] at c ⊢
  clear hF
  go_enter Tryz.func73, Tryz.ntmps73
  go_wp2_with (first | (go_at_call 119; refine (c w).mono ?_; rintro ee w1 ⟨rfl, hb⟩))
  go_ret
  exact ⟨rfl, hb⟩
set_option maxRecDepth 100000 in
set_option maxHeartbeats 1000000 in
theorem shortest_zero (w : World) (hlaid : Laid w) :
    Calls Tryz.prog 26 #[.float .f64 0] w fun rr w' => rr = .returned (.agg #[.string (txt [48]), .int .i64 1]) ∧ Below w.heap.size w w' := by
  obtain ⟨W0, hW0⟩ : ∃ W0, W0 = w.alloc (.cells #[.string ⟨#[]⟩, .int .i64 0] 46) := ⟨_, rfl⟩
  have hbz : Below w.heap.size w W0 := by rw [hW0]; exact (Below.refl _ _).alloc (Nat.le_refl _) _
  have hzb : W0.heap[w.heap.size]? = some (Obj.cells #[.string ⟨#[]⟩, .int .i64 0] 46 (0, 0)) := by rw [hW0]; exact heap_alloc_new w _
  have hzs : W0.heap.size = w.heap.size + 1 := by rw [hW0]; simp
  have cf := format_zero W0
  obtain ⟨d0, hd0⟩ : ∃ d0 : Nat, d0 = 0 := ⟨_, rfl⟩
  obtain ⟨x, hx⟩ : ∃ x : Int, x = 0 := ⟨_, rfl⟩
  have hD0 : decN d0 = [48] := by rw [hd0, decN_zero]
  rw [← hD0, ← hx] at cf
  have hn1 : Lib.nDigits d0 = 1 := by rw [hd0]; exact Lib.nDigits_small (by omega)
  have HLA : Hid (Laid w) := hlaid
  clear hlaid
  go_enter Tryz.func26, Tryz.ntmps26
  go_wp2_with (first | (go_at_call 73; fail))
  rw [← hW0]
  clear hW0
  refine cf.mono ?_
  rintro ee w1 ⟨rfl, hb⟩
  clear cf
  rw [hzs] at hb
  have hnl : Lib.nDigits d0 ≤ 19 := by omega
  have hnp := Lib.nDigits_pos d0
  have hne : decN d0 ≠ [] := fun h => by have := decN_length d0; rw [h] at this; simp at this; omega
  have hD := decN_ge d0
  have hxa : -1000 < x := by omega
  have hxb : x < 1000 := by omega
  have hb1 : Below w.heap.size w w1 := hbz.trans (hb.mono (by omega))
  have hz1 : w1.heap[w.heap.size]? = some (Obj.cells #[.string ⟨#[]⟩, .int .i64 0] 46 (0, 0)) := (hb.block _ (by omega)).trans hzb
  obtain ⟨mx, hmx⟩ := (HLA.out.below hb1).most
  have hmlen : (mantS (decN d0)).length ≤ 30 := by
    obtain ⟨c0, rest, he, h⟩ := mant_cases (decN d0) hne
    have hl := decN_length d0
    rcases h with ⟨_, h⟩ | ⟨_, h⟩
    · rw [h]; omega
    · rw [h, he] at *
      simp at hl ⊢
      omega
  have helen : (expS x).length ≤ 10 := by
    unfold expS
    have := exp_len x.natAbs
    simp
    omega
  have cc := Tryz.strings_Cut (txt (fmtS (decN d0) x)) ⟨#[101]⟩ mx w1 (by rw [txt_size, fmtS_eq]; simp; omega) hmx
  have ecut : Lib.cut (txt (fmtS (decN d0) x)).data.toList (ByteArray.mk #[101]).data.toList = ((mantS (decN d0)).map UInt8.ofNat, (expS x).map UInt8.ofNat, true) := by
    rw [txt_list, fmtS_eq, List.map_append, List.map_cons]
    exact cut_at 101 _ _ (mant_no101 (decN d0) hne hD)
  rw [ecut] at cc
  simp only at cc
  have hat := exp_atoi x hxa hxb
  have hrp := mant_replace (decN d0) hne hD
  have HX : Hid (x = 0) := hx
  have HT : Hid (decN d0 = [48]) := hD0
  have HB : Hid (Below w.heap.size w w1) := hb1
  have HZ : Hid (w1.heap[w.heap.size]? = some (Obj.cells #[.string ⟨#[]⟩, .int .i64 0] 46 (0, 0))) := hz1
  clear ecut hx hd0 hD0 hn1 hb1 hz1 hb hzb hbz hzs hnl hnp hne hD
  go_wp2_with (first | (go_at_call 72; refine cc.mono ?_; rintro ee w2 ⟨rfl, n1, rfl⟩) | (go_at_call 74; fail))
  refine (Tryz.strconv_Atoi ⟨((expS x).map UInt8.ofNat).toArray⟩ x (by simp [ByteArray.size]; omega) (by simpa using hat) (w1.drewN n1)).mono ?_
  rintro ee w2 ⟨rfl, tt, hw2⟩
  have hbe : Below (w1.drewN n1).heap.size (w1.drewN n1) w2 := by rw [hw2]; exact Lib.bytesWorld_below _ _ _
  have hs1 : w.heap.size < w1.heap.size := lt_of_get HZ.out
  have hb2 : Below w.heap.size w w2 := (below_drewN HB.out).trans (hbe.mono (Nat.le_of_lt hs1))
  have hz2 : w2.heap[w.heap.size]? = some (Obj.cells #[.string ⟨#[]⟩, .int .i64 0] 46 (0, 0)) := (hbe.block _ hs1).trans HZ.out
  have hs2 : w.heap.size < w2.heap.size := lt_of_get hz2
  obtain ⟨my, hmy⟩ := (HLA.out.below hb2).most
  have cr := Tryz.strings_Replace ⟨((mantS (decN d0)).map UInt8.ofNat).toArray⟩ ⟨#[46]⟩ ⟨#[]⟩ 1 my w2 (by simp [ByteArray.size]; omega) hmy (by decide) (by simp [ByteArray.size]; omega)
  have erp : Lib.replace (ByteArray.mk ((mantS (decN d0)).map UInt8.ofNat).toArray).data.toList (ByteArray.mk #[46]).data.toList (ByteArray.mk #[]).data.toList 1 = (decN d0).map UInt8.ofNat := hrp
  rw [erp] at cr
  have HB2 : Hid (Below w.heap.size w w2) := hb2
  have HZ2 : Hid (w2.heap[w.heap.size]? = some (Obj.cells #[.string ⟨#[]⟩, .int .i64 0] 46 (0, 0))) := hz2
  clear erp hrp hat hw2 hbe hb2 hz2 cc HB HZ hmx hmy hs1 hmlen helen
  go_wp2_with (first | (go_at_call 75; fail))
  refine cr.mono ?_
  rintro ee w3 ⟨rfl, hbe⟩
  have hb3 : Below w.heap.size w w3 := HB2.out.trans (hbe.mono (Nat.le_of_lt hs2))
  have hz3 : w3.heap[w.heap.size]? = some (Obj.cells #[.string ⟨#[]⟩, .int .i64 0] 46 (0, 0)) := (hbe.block _ hs2).trans HZ2.out
  have k0 : w3.cell? ⟨w.heap.size, 0, none⟩ = some (.string ⟨#[]⟩) := by simp [World.cell?, hz3]
  have k1 : w3.cell? ⟨w.heap.size, 1, none⟩ = some (.int .i64 0) := by simp [World.cell?, hz3]
  have f0 : w3.frozen? ⟨w.heap.size, 0, none⟩ = false := by simp [World.frozen?, hz3]
  have f1 : w3.frozen? ⟨w.heap.size, 1, none⟩ = false := by simp [World.frozen?, hz3]
  have HB3 : Hid (Below w.heap.size w w3) := hb3
  have HZ3 : Hid (w3.heap[w.heap.size]? = some (Obj.cells #[.string ⟨#[]⟩, .int .i64 0] 46 (0, 0))) := hz3
  clear hbe hb3 hz3 cr HB2 HZ2
  go_wp2
  refine bodyPost_ret (results_cell_row rfl _ _ w.heap.size 46 _ (0, 0) _ rfl (heap_two HZ3.out _ _) Tryz.underlying46 rfl (by kernel_rfl)) rfl ?_
  refine ⟨?_, (HB3.out.setCell (Nat.le_refl _) _).setCell (Nat.le_refl _) _⟩
  rw [HX.out, ← HT.out]
  rfl
end Go.Proofs.YtellndmbllmjgaaGreatDoor
/- Digits, to any base. -/
set_option linter.unusedVariables false
namespace Go.Proofs.YtellndmbllmjgaaGreatDoor
open Go.RowKit Go.Shelf Go.Sort Fs Fl

/-- What holds ahead of each round of Digits. -/
def DgB (w : World) (x b : Nat) (va vb : Value) (wr : World) : Prop :=
  ∃ (t : Nat), NatIs wr va (x / b ^ t) ∧ wr.ownsRow w.heap.size 5 1 vb t ((leB b t x).map bv) ∧ t ≤ 1600 ∧ (0 < t → b ^ (t - 1) ≤ x) ∧ Below w.heap.size w wr
theorem leB_toB {b : Nat} (hb : 2 ≤ b) : ∀ t x, 0 < t → b ^ (t - 1) ≤ x → x < b ^ t → (leB b t x).reverse = toB b x
  | 0, _, h, _, _ => absurd h (by omega)
  | 1, x, _, _, h => by
    rw [Nat.pow_one] at h
    rw [toB_small h, leB, leB, Nat.mod_eq_of_lt h]
    rfl
  | t + 2, x, _, h1, h2 => by
    rw [show t + 2 - 1 = t + 1 by omega] at h1
    have hbx : b ≤ x := by
      have : b ^ 1 ≤ b ^ (t + 1) := Nat.pow_le_pow_right (by omega) (by omega)
      rw [Nat.pow_one] at this
      exact Nat.le_trans this h1
    rw [toB_big hb hbx, leB, List.reverse_cons, leB_toB hb (t + 1) (x / b) (by omega) ?_ ?_]
    · rw [Nat.add_sub_cancel, Nat.le_div_iff_mul_le (by omega), ← Nat.pow_succ]
      exact h1
    · rw [Nat.div_lt_iff_lt_mul (by omega), ← Nat.pow_succ]
      exact h2
set_option maxRecDepth 100000 in
set_option maxHeartbeats 1000000 in
theorem digB_pos (u : Value) (x b : Nat) (hb2 : 2 ≤ b) (hb36 : b ≤ 36) (w : World) (hu : NatIs w u x) (hx : 0 < x) (bx : x < pw 100) :
    Calls Tryz.prog 33 #[u, .int .i64 (b : Int)] w fun e w' => e = .returned (.string (txt (toB b x))) ∧ Below w.heap.size w w' := by
  obtain ⟨sa, sl, sc, rfl, hs, hs2⟩ := hu.form (pw_lt bx (by omega))
  have t0 : ((sl : Int) == 0) = false := by rw [beq_eq_false_iff_ne]; omega
  have HX : Hid (x < pw 100) := bx
  clear bx hs
  go_enter Tryz.func33, Tryz.ntmps33
  go_wp2
  go_loopw [0, 5] (fun va vb wr => DgB w x b va vb wr) (fun _ vb _ => 1700 - slLen vb)
  case atStart => exact ⟨0, by simpa using hu, World.ownsRow_nil _ _ _ _, by omega, by omega, Below.refl _ _⟩
  case round =>
    obtain ⟨t, ha, hown, ht, hlow, hbw⟩ := hrel
    obtain ⟨sa2, sl2, sc2, rfl, hz, hz2⟩ := ha.form (pw_lt (Nat.lt_of_le_of_lt (Nat.div_le_self _ _) HX.out) (by omega))
    rcases Nat.eq_zero_or_pos (x / b ^ t) with h0 | h0
    · have hsl : sl2 = 0 := hz.2 h0
      subst hsl
      have ht0 : 0 < t := by
        rcases Nat.eq_zero_or_pos t with h | h
        · rw [h, Nat.pow_zero, Nat.div_one] at h0; omega
        · exact h
      have hxt : x < b ^ t := by
        rcases Nat.lt_or_ge x (b ^ t) with h | h
        · exact h
        · have := Nat.div_pos h (Nat.pow_pos (by omega)); omega
      have hrev := leB_toB hb2 t x ht0 (hlow ht0) hxt
      have hlen : (toB b x).length = t := by rw [← hrev, List.length_reverse, leB_length]
      obtain ⟨g, cap, rfl⟩ := owns_pos ht0 hown
      have hcell : ∀ m, m < t → wr.cell? ⟨g, t - 1 - m, none⟩ = some (.int .u8 (((toB b x)[m]?.getD 0 : Nat) : Int)) := by
        intro m hm
        have hc := hown.cells (g := g) rfl
        have hl : (leB b t x).length = t := leB_length _ _ _
        have e5 : (leB b t x)[t - 1 - m]? = some ((toB b x)[m]?.getD 0) := by
          rw [← hrev, List.getElem?_reverse (by rw [hl]; exact hm), hl, List.getElem?_eq_getElem (by rw [hl]; omega)]
          rfl
        have h1 := hc (t - 1 - m) (bv ((toB b x)[m]?.getD 0)) (by rw [List.getElem?_map, e5]; rfl)
        have e : (⟨g, 0, none⟩ : Addr).add (t - 1 - m) = ⟨g, t - 1 - m, none⟩ := by unfold Addr.add; split <;> simp_all
        rw [e] at h1
        exact h1
      have hgw : g < wr.heap.size := by
        rcases hown.2 with ⟨h1, _⟩ | ⟨g', cap', cur, h1, _, hg, _⟩
        · cases h1
        · cases h1; exact lt_of_get hg
      have HC := (show Hid _ from hcell)
      have HLEN : Hid ((toB b x).length = t) := hlen
      have H256 : Hid (∀ c ∈ toB b x, c < 256) := toB_lt hb2 hb36 x x (Nat.le_refl _)
      clear hcell hown hlow h0 hz ha hlen hrev hxt
      rename World => wB
      go_wp2
      go_loopw [8, 9] (fun vo vi w2 => ∃ m : Nat, m ≤ t ∧ vi = .int .i64 ((t : Int) - m - 1) ∧ w2.ownsRow wB.heap.size 5 1 vo m (((toB b x).take m).map bv) ∧ Below wB.heap.size wB w2) (fun _ vi _ => (RowKit.intOf vi + 1).toNat)
      case atStart => exact ⟨0, Nat.zero_le _, by go_num, World.ownsRow_nil _ _ _ _, Below.refl _ _⟩
      case round =>
        obtain ⟨m, hm, rfl, hown2, hbw2⟩ := hrel
        rcases Nat.lt_or_ge m t with hlt | hge
        · obtain ⟨i, hi⟩ : ∃ i : Nat, (t : Int) - m - 1 = (i : Int) := ⟨t - 1 - m, by omega⟩
          have hi2 : i = t - 1 - m := by omega
          have hcl := (hbw2.cell (p := ⟨g, t - 1 - m, none⟩) hgw).trans (HC.out m hlt)
          rw [← hi2] at hcl
          have hk1 : (i : Int) < (t : Int) := by omega
          obtain ⟨z, hz⟩ : ∃ z, z = (toB b x)[m]?.getD 0 := ⟨_, rfl⟩
          rw [← hz] at hcl
          have HZ : Hid (z = (toB b x)[m]?.getD 0) := hz
          have HI2 : Hid (i = t - 1 - m) := hi2
          rw [hi]
          clear hz hi hi2
          go_wp2_with (first | (at_builtin; refine app1 rfl _ _ rfl wB.heap.size _ _ _ wB _ _ hown2 rfl rfl (by omega) (Nat.le_refl _) hbw2 ?_; intro v' w3 hown' hbw' hkk))
          have hi2 := HI2.out
          refine ⟨⟨m + 1, by omega, by congr 1; omega, ?_, hbw'⟩, ?_⟩
          · have hlm : m < (toB b x).length := by rw [HLEN.out]; exact hlt
            rw [List.take_succ_eq_append_getElem hlm, List.map_append]
            have hz := HZ.out
            rw [List.getElem?_eq_getElem hlm] at hz
            simp only [Option.getD_some] at hz
            rw [← hz]
            exact hown'
          · simp only [RowKit.intOf]
            omega
        · have hmt : m = t := by omega
          subst hmt
          have hlen := HLEN.out
          rw [List.take_of_length_le (by omega)] at hown2
          obtain ⟨g2, cap2, rfl⟩ := owns_pos ht0 hown2
          have hcv := conv_row (bs := toB b x) (W := wr) (base := wB.heap.size) (g := g2) (cap := cap2) H256.out (by rw [hlen]; exact hown2)
          rw [hlen] at hcv
          have hk1 : ¬ (0 : Int) ≤ (m : Int) - m - 1 := by omega
          clear hown2
          go_wp2
          go_ret
          exact ⟨rfl, hbw.trans (hbw2.mono hbw.size)⟩
    · have hsl : 0 < sl2 := by rcases Nat.eq_zero_or_pos sl2 with h | h; (· have := hz.1 h; omega); (· exact h)
      have k1 : (0 : Int) < (sl2 : Int) := by omega
      have cs := small_any (.slice sa2 sl2 sc2) (x / b ^ t) b (by omega) hb36 wr ha h0 (pw_lt (Nat.lt_of_le_of_lt (Nat.div_le_self _ _) HX.out) (by omega))
      have HB : Hid ((0 < t → b ^ (t - 1) ≤ x) ∧ 0 < x / b ^ t) := ⟨hlow, h0⟩
      clear hlow h0 hz ha
      obtain ⟨d, hd⟩ : ∃ d, d = x / b ^ t % b := ⟨_, rfl⟩
      have hd9 : d < b := by rw [hd]; exact Nat.mod_lt _ (by omega)
      have hd36 : d < 36 := by omega
      rw [← hd] at cs
      have HD : Hid (d = x / b ^ t % b) := hd
      clear hd
      have cs' : Calls Tryz.prog 85 #[.slice sa2 sl2 sc2, .int .u32 (b : Int)] wr fun e w' => ∃ v, e = .returned (.tuple #[v, .int .u32 (d : Int)]) ∧ NatIs w' v (x / b ^ t / b) ∧ T108 w' v ∧ Below wr.heap.size wr w' := cs
      clear cs
      go_wp2_with (first | (go_at_call 85; refine cs'.mono ?_; rintro e w1 ⟨x1, rfl, hx1, hT1, hw1⟩; clear cs'; have hown1 := owns_below hown hw1; have hbw1 : Below w.heap.size w w1 := hbw.trans (hw1.mono hbw.size)) | (at_builtin; refine app1 rfl _ _ rfl w.heap.size _ _ _ w _ _ hown1 rfl rfl (by omega) (Nat.le_refl _) hbw1 ?_; intro v' w2 hown' hbw' hkk; have hsz2 := hbw'.size))
      have hd := HD.out
      have hown2 : w2.ownsRow w.heap.size 5 1 v' (t + 1) ((leB b (t + 1) x).map bv) := by
        have e := tab_dgc d hd36
        have e2 : leB b (t + 1) x = leB b t x ++ [dgc d] := by
          rw [leB_append b t 1 x, hd]
          rfl
        rw [e2, List.map_append]
        have e3 : [dgc d].map bv = [Value.int .u8 (((tabZ[d]'(by rw [tabZ_size]; exact hd36)).toNat : Nat) : Int)] := by rw [e]; rfl
        rw [e3]
        exact hown'
      obtain ⟨b3, b4⟩ := HB.out
      have hle : b ^ t ≤ x := by
        rcases Nat.lt_or_ge x (b ^ t) with h | h
        · rw [Nat.div_eq_of_lt h] at b4; omega
        · exact h
      have ht24 : t < 1600 := by
        have h1 : 2 ^ t ≤ b ^ t := Nat.pow_le_pow_left hb2 _
        have h3 := HX.out
        have h4 : pw 100 = 2 ^ (16 * 100) := by show 65536 ^ 100 = 2 ^ (16 * 100); rw [show (65536 : Nat) = 2 ^ 16 from rfl, ← Nat.pow_mul]
        rw [h4] at h3
        exact (Nat.pow_lt_pow_iff_right (show 1 < 2 by omega)).1 (by omega)
      have hl1 := owns_len hown2
      have hl0 := owns_len hown
      refine ⟨⟨t + 1, ?_, hown2, by omega, fun _ => by rw [Nat.add_sub_cancel]; exact hle, hbw'⟩, by omega⟩
      rw [Nat.pow_succ, ← Nat.div_div_eq_div_mul]
      exact hx1.keep hT1 hkk
set_option maxRecDepth 100000 in
set_option maxHeartbeats 1000000 in
/-- **Digits.** -/
theorem digB_any (u : Value) (x b : Nat) (hb2 : 2 ≤ b) (hb36 : b ≤ 36) (w : World) (hu : NatIs w u x) (bx : x < pw 100) :
    Calls Tryz.prog 33 #[u, .int .i64 (b : Int)] w fun e w' => e = .returned (.string (txt (toB b x))) ∧ Below w.heap.size w w' := by
  rcases Nat.eq_zero_or_pos x with h0 | h0
  · subst h0
    obtain ⟨sa, sl, sc, rfl, hs, hs2⟩ := hu.form (pw_lt bx (by omega))
    have hsl : sl = 0 := hs.2 rfl
    subst hsl
    clear hu bx hs hs2
    go_enter Tryz.func33, Tryz.ntmps33
    go_wp2
    go_ret
    refine ⟨?_, Below.refl _ _⟩
    rw [toB_small (by omega)]
    rfl
  · exact digB_pos u x b hb2 hb36 w hu h0 bx
end Go.Proofs.YtellndmbllmjgaaGreatDoor
/- nearest. -/
set_option linter.unusedVariables false
namespace Go.Proofs.YtellndmbllmjgaaGreatDoor
open Go.RowKit Go.Shelf Go.Sort Fs Fl

theorem natIs_nil (w : World) : NatIs w (.slice none 0 0) 0 := ⟨[], .inl ⟨⟨none, 0, rfl, by omega⟩, rfl⟩, ⟨by simp, by simp⟩, rfl⟩
/-- What holds ahead of each round of nearest. -/
def NqR (w wB : World) (P Q t1 : Nat) (vp vo vi : Value) (wr : World) : Prop :=
  ∃ (i : Int) (cur o : Nat), vi = .int .i64 i ∧ -16001 ≤ i ∧ i ≤ (t1 : Int) ∧ NatIs wr vp cur ∧ NatIs wr vo o ∧ P = o * Q + cur ∧ cur < 2 ^ (i + 1).toNat * Q ∧ Below wB.heap.size wB wr
theorem pw_bits {x n t : Nat} (h : x < pw n) (h2 : 2 ^ (t - 1) ≤ x) : t ≤ 16 * n := by
  have h4 : 2 ^ (t - 1) < 2 ^ (16 * n) := by
    refine Nat.lt_of_le_of_lt h2 (Nat.lt_of_lt_of_le h (Nat.le_of_eq ?_))
    show 65536 ^ n = 2 ^ (16 * n)
    rw [show (65536 : Nat) = 2 ^ 16 from rfl, ← Nat.pow_mul]
  have := (Nat.pow_lt_pow_iff_right (show 1 < 2 by omega)).1 h4
  omega
theorem lt_pw_add {a b m k : Nat} (h : m < k) (h1 : a < pw m) (h2 : b < pw m) : a + b < pw k := by
  have h3 : pw (m + 1) ≤ pw k := pw_mono h
  have h4 : pw (m + 1) = pw m * 65536 := by unfold pw; rw [Nat.pow_succ]
  omega
set_option maxRecDepth 100000 in
set_option maxHeartbeats 1000000 in
theorem nearR_any (r : Nat) (k : Int) (h : r < 9218868437227405312) (hk1 : -2100 ≤ k) (hk2 : k ≤ 2100) (bp : pS (magR r) (expR r) k < pw 400) (bq : qS (expR r) k < pw 400) (hq0 : 0 < qS (expR r) k) (w : World) :
    Calls Tryz.prog 61 #[.float .f64 r, .int .i64 k] w fun e w' => ∃ v, e = .returned v ∧ NatIs w' v ((2 * pS (magR r) (expR r) k + qS (expR r) k) / (2 * qS (expR r) k)) ∧ Below w.heap.size w w' := by
  have cs := scaled_any r k h hk1 hk2 w
  generalize pS (magR r) (expR r) k = p at *
  generalize qS (expR r) k = q at *
  have HB : Hid (p < pw 400 ∧ q < pw 400 ∧ 0 < q) := ⟨bp, bq, hq0⟩
  clear bp bq hq0 h
  go_enter Tryz.func61, Tryz.ntmps61
  go_wp2_with (first | (go_at_call 87; fail))
  go_fit cs
  rintro e w1 ⟨vp, vq, rfl, hp, hq, hb1⟩
  obtain ⟨pa, pl, pc, rfl, _, _⟩ := hp.form (pw_lt HB.out.1 (by omega))
  obtain ⟨qa, ql, qc, rfl, _, _⟩ := hq.form (pw_lt HB.out.2.1 (by omega))
  have c2 := add_any _ _ _ _ _ hp hp (pw_lt HB.out.1 (by omega)) (pw_lt HB.out.1 (by omega))
  clear cs
  go_wp2_with (first | (go_at_call 69; fail))
  go_fit c2
  rintro e w2 ⟨v2, rfl, hp2, hb2⟩
  have hq2 := hq.below hb2
  have l2 : p + p < pw 401 := lt_pw_add (by omega) HB.out.1 HB.out.1
  have c3 := add_any _ _ _ _ _ hp2 hq2 (pw_lt l2 (by omega)) (pw_lt HB.out.2.1 (by omega))
  clear c2
  go_wp2_with (first | (go_at_call 69; fail))
  go_fit c3
  rintro e w3 ⟨v3, rfl, hp3, hb3⟩
  have hq3 := hq2.below hb3
  have c4 := add_any _ _ _ _ _ hq3 hq3 (pw_lt HB.out.2.1 (by omega)) (pw_lt HB.out.2.1 (by omega))
  clear c3
  go_wp2_with (first | (go_at_call 69; fail))
  go_fit c4
  rintro e w4 ⟨v4, rfl, hq4, hb4⟩
  have hp4 := hp3.below hb4
  have hbw4 : Below w.heap.size w w4 := hb1.trans ((hb2.trans ((hb3.trans (hb4.mono hb3.size)).mono hb2.size)).mono hb1.size)
  have hP : p + p + q < pw 402 := lt_pw_add (by omega) l2 (pw_lt HB.out.2.1 (by omega))
  have hQ : q + q < pw 401 := lt_pw_add (by omega) HB.out.2.1 HB.out.2.1
  have hQ0 : 0 < q + q := by have := HB.out.2.2; omega
  have eP : p + p + q = 2 * p + q := by omega
  have eQ : q + q = 2 * q := by omega
  rw [eP] at hp4 hP
  rw [eQ] at hq4 hQ hQ0
  obtain ⟨P, hPP⟩ : ∃ P, P = 2 * p + q := ⟨_, rfl⟩
  obtain ⟨Q, hQQ⟩ : ∃ Q, Q = 2 * q := ⟨_, rfl⟩
  rw [← hPP] at hp4 hP
  rw [← hQQ] at hq4 hQ hQ0
  have HPQ : Hid (P = 2 * p + q ∧ Q = 2 * q) := ⟨hPP, hQQ⟩
  have HL : Hid (P < pw 402 ∧ Q < pw 401 ∧ 0 < Q) := ⟨hP, hQ, hQ0⟩
  have cb1 := bits_any _ _ _ hp4 (pw_lt hP (by omega))
  have CB2 := (show Hid _ from fun w1 (hb : Below w4.heap.size w4 w1) => bits_any _ _ _ (hq4.below hb) (pw_lt hQ (by omega)))
  obtain ⟨pa4, pl4, pc4, rfl, _, _⟩ := hp4.form (pw_lt hP (by omega))
  obtain ⟨qa4, ql4, qc4, rfl, _, _⟩ := hq4.form (pw_lt hQ (by omega))
  clear c4 hp hq hp2 hq2 hp3 hq3 l2 eP eQ hPP hQQ hP hQ hQ0 hb1 hb2 hb3 hb4
  go_wp2_with (first | (go_at_call 66; refine cb1.mono ?_; rintro e w5 ⟨t1, rfl, ht1, ht1b, hw5⟩; clear cb1; have cb2 := CB2.out w5 hw5; clear CB2) | (go_at_call 66; go_fit cb2; rintro e w6 ⟨t2, rfl, ht2, ht2b, hw6⟩; clear cb2))
  have hw6' : Below w4.heap.size w4 w6 := hw5.trans (hw6.mono hw5.size)
  have hbw6 : Below w.heap.size w w6 := hbw4.trans (hw6'.mono hbw4.size)
  have hpB := hp4.below hw6'
  have hqB := hq4.below hw6'
  obtain ⟨g1, g3, g4⟩ : t1 ≤ 6432 ∧ P < 2 ^ t1 ∧ (t1 = 0 → P = 0) := by
    rcases ht1 with ⟨h1, h2⟩ | ⟨h1, h2, h3⟩
    · refine ⟨by omega, by rw [h1, h2]; omega, fun _ => h1⟩
    · refine ⟨?_, h3, by omega⟩
      have := pw_bits HL.out.1 h2
      omega
  obtain ⟨f1, f2⟩ : 1 ≤ t2 ∧ 2 ^ (t2 - 1) ≤ Q := by
    rcases ht2 with ⟨h1, h2⟩ | ⟨h1, h2, h3⟩
    · have := HL.out.2.2; omega
    · exact ⟨h1, h2⟩
  have HST : Hid (P < 2 ^ ((t1 : Int) - t2 + 1).toNat * Q) := by
    show P < 2 ^ ((t1 : Int) - t2 + 1).toNat * Q
    rcases Nat.lt_or_ge t1 t2 with h1 | h1
    · rw [show ((t1 : Int) - t2 + 1).toNat = 0 by omega, Nat.pow_zero, Nat.one_mul]
      exact Nat.lt_of_lt_of_le (Nat.lt_of_lt_of_le g3 (Nat.pow_le_pow_right (by omega) (by omega))) f2
    · refine Nat.lt_of_lt_of_le g3 ?_
      rw [show ((t1 : Int) - t2 + 1).toNat = t1 - t2 + 1 by omega]
      refine Nat.le_trans (Nat.le_of_eq ?_) (Nat.mul_le_mul_left _ f2)
      rw [← Nat.pow_add]
      congr 1
      omega
  clear ht1 ht2 g3 g4 f2 hp4 hq4 hw5 hw6 hw6' hbw4
  go_loopw [5, 7, 9] (fun vp vo vi wr => NqR w w6 P Q t1 vp vo vi wr) (fun _ _ vi _ => (RowKit.intOf vi + 1).toNat)
  case atStart => exact ⟨(t1 : Int) - t2, P, 0, rfl, by omega, by omega, hpB, natIs_nil _, by omega, HST.out, Below.refl _ _⟩
  case round =>
    obtain ⟨i, cur, o, rfl, hi1, hi2, hcur, ho, hP, hc, hbw⟩ := hrel
    have HC : Hid (P = o * Q + cur ∧ cur < 2 ^ (i + 1).toNat * Q) := ⟨hP, hc⟩
    have bcur : cur < pw 402 := Nat.lt_of_le_of_lt (by rw [hP]; exact Nat.le_add_left _ _) HL.out.1
    have bo : o < pw 402 := by
      refine Nat.lt_of_le_of_lt ?_ HL.out.1
      rw [hP]
      exact Nat.le_trans (Nat.le_mul_of_pos_right _ HL.out.2.2) (Nat.le_add_right _ _)
    have HBC : Hid (cur < pw 402 ∧ o < pw 402) := ⟨bcur, bo⟩
    obtain ⟨pa5, pl5, pc5, hpe, _, _⟩ := hcur.form (pw_lt bcur (by omega))
    obtain ⟨oa5, ol5, oc5, hoe, _, _⟩ := ho.form (pw_lt bo (by omega))
    subst hpe hoe
    have hqr := hqB.below hbw
    clear hP hc bcur bo
    rcases Int.lt_or_le i 0 with h0 | h0
    · have HF : Hid (o = (2 * p + q) / (2 * q)) := by
        show o = (2 * p + q) / (2 * q)
        rw [← HPQ.out.1, ← HPQ.out.2]
        obtain ⟨a1, a2⟩ := HC.out
        rw [show (i + 1).toNat = 0 by omega, Nat.pow_zero, Nat.one_mul] at a2
        rw [a1, Nat.mul_comm o, Nat.mul_add_div HL.out.2.2, Nat.div_eq_of_lt a2, Nat.add_zero]
      have k0 : ¬ (0 : Int) ≤ i := by omega
      go_wp2
      go_ret
      rw [← HF.out]
      exact ⟨_, rfl, ho, hbw6.trans (hbw.mono hbw6.size)⟩
    · obtain ⟨j, rfl⟩ : ∃ j : Nat, i = (j : Int) := ⟨i.toNat, by omega⟩
      have l1 : 2 ^ j < pw 403 := Nat.lt_of_le_of_lt (two_pw3 (n := 402) (by omega)) (pw_strict (by omega))
      have cp : Calls Tryz.prog 64 #[.int .u64 2, .int .i64 (j : Int)] wr fun e w' => ∃ v, e = .returned v ∧ NatIs w' v (2 ^ j) ∧ Below wr.heap.size wr w' := by
        have := power_any 2 (j : Int) (by omega) (by omega) (by omega) (by omega) (by rw [Int.toNat_natCast]; exact pw_lt l1 (by omega)) wr
        rw [Int.toNat_natCast] at this
        exact this
      have CM := (show Hid _ from fun (w1 : World) (x : Value) (hx : NatIs w1 x (2 ^ j)) (hb : Below wr.heap.size wr w1) => mul_any x _ (2 ^ j) Q w1 hx (hqr.below hb) (pw_lt l1 (by omega)) (pw_lt HL.out.2.1 (by omega)))
      have l2 : 2 ^ j * Q < pw 1000 := pw_lt_mul (Nat.le_of_lt l1) HL.out.2.1 (by omega)
      have CC := (show Hid _ from fun (w1 : World) (x : Value) (hx : NatIs w1 x (2 ^ j * Q)) (hb : Below wr.heap.size wr w1) => cmp_any (.slice pa5 pl5 pc5) x cur (2 ^ j * Q) w1 (hcur.below hb) hx (pw_lt HBC.out.1 (by omega)) l2)
      have CS := (show Hid _ from fun (w1 : World) (x : Value) (hx : NatIs w1 x (2 ^ j * Q)) (hb : Below wr.heap.size wr w1) (hle : 2 ^ j * Q ≤ cur) => sub_any (.slice pa5 pl5 pc5) x cur (2 ^ j * Q) w1 (hcur.below hb) hx (pw_lt HBC.out.1 (by omega)) hle)
      have CA := (show Hid _ from fun (w1 : World) (x : Value) (hx : NatIs w1 x (2 ^ j)) (hb : Below wr.heap.size wr w1) => add_any (.slice oa5 ol5 oc5) x o (2 ^ j) w1 (ho.below hb) hx (pw_lt HBC.out.2 (by omega)) (pw_lt l1 (by omega)))
      have kj : (0 : Int) ≤ (j : Int) := by omega
      clear l1 l2
      by_cases hge : 2 ^ j * Q ≤ cur
      · have HGE : Hid (2 ^ j * Q ≤ cur) := hge
        clear hge
        go_wp2_with (first | (go_at_call 64; refine cp.mono ?_; rintro e w1 ⟨x1, rfl, hx1, hw1⟩; have cm1 := CM.out w1 x1 hx1 hw1; clear cp) | (go_at_call 65; refine cm1.mono ?_; rintro e w2 ⟨x2, rfl, hx2, hw2⟩; have hw12 := hw1.trans (hw2.mono hw1.size); have hx12 := hx1.below hw2; have cc1 := CC.out w2 x2 hx2 hw12; clear cm1) | (go_at_call 67; refine cc1.mono ?_; rintro e w3 ⟨c, rfl, hcmp, nn, rfl⟩; have kc : (0 : Int) ≤ c := cmp_ge hcmp HGE.out; have cs1 := CS.out (w2.drewN nn) x2 hx2.drewN (below_drewN hw12) HGE.out; clear cc1 hcmp) | (go_at_call 68; refine cs1.mono ?_; rintro e w4 ⟨x4, rfl, hx4, hw4⟩; have hd12 : Below wr.heap.size wr (w2.drewN nn) := below_drewN hw12; have hw14 := hd12.trans (hw4.mono hd12.size); have hxd : NatIs (w2.drewN nn) x1 (2 ^ j) := hx12.drewN; have ca1 := CA.out w4 x1 (hxd.below hw4) hw14; clear cs1) | (go_at_call 69; refine ca1.mono ?_; rintro e w5 ⟨x5, rfl, hx5, hw5⟩; clear ca1))
        have hw15 := hw14.trans (hw5.mono hw14.size)
        obtain ⟨a1, a2⟩ := HC.out
        rw [show ((j : Int) + 1).toNat = j + 1 by omega, Nat.pow_succ] at a2
        have hge := HGE.out
        refine ⟨⟨(j : Int) - 1, cur - 2 ^ j * Q, o + 2 ^ j, rfl, by omega, by omega, hx4.below hw5, hx5, ?_, ?_, hbw.trans (hw15.mono hbw.size)⟩, ?_⟩
        · rw [Nat.add_mul]
          omega
        · rw [show ((j : Int) - 1 + 1).toNat = j by omega]
          have : 2 ^ j * 2 * Q = 2 ^ j * Q + 2 ^ j * Q := by grind
          omega
        · simp only [RowKit.intOf]
          omega
      · have HGE : Hid (cur < 2 ^ j * Q) := Nat.lt_of_not_le hge
        clear hge
        go_wp2_with (first | (go_at_call 64; refine cp.mono ?_; rintro e w1 ⟨x1, rfl, hx1, hw1⟩; have cm1 := CM.out w1 x1 hx1 hw1; clear cp) | (go_at_call 65; refine cm1.mono ?_; rintro e w2 ⟨x2, rfl, hx2, hw2⟩; have hw12 := hw1.trans (hw2.mono hw1.size); have cc1 := CC.out w2 x2 hx2 hw12; clear cm1) | (go_at_call 67; refine cc1.mono ?_; rintro e w3 ⟨c, rfl, hcmp, nn, rfl⟩; have kc : ¬ (0 : Int) ≤ c := Int.not_le.2 (cmp_neg hcmp HGE.out); clear cc1 hcmp))
        have hw3' : Below wr.heap.size wr (w2.drewN nn) := below_drewN hw12
        obtain ⟨a1, a2⟩ := HC.out
        have hge := HGE.out
        refine ⟨⟨(j : Int) - 1, cur, o, rfl, by omega, by omega, (hcur.below hw12).drewN, (ho.below hw12).drewN, a1, by rw [show ((j : Int) - 1 + 1).toNat = j by omega]; exact hge, hbw.trans (hw3'.mono hbw.size)⟩, ?_⟩
        simp only [RowKit.intOf]
        omega
end Go.Proofs.YtellndmbllmjgaaGreatDoor
