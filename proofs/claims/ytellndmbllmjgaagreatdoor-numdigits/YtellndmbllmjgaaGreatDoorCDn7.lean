/- Radix of the document. -/
import Derived.Test.YtellndmbllmjgaaGreatDoorCDn6x
import Derived.Test.YtellndmbllmjgaaGreatDoorCDe3x
set_option linter.unusedVariables false
namespace Go.Proofs.YtellndmbllmjgaaGreatDoor
open Go.RowKit Go.Shelf Go.Sort Fs Fl Fl2

set_option maxRecDepth 100000 in
set_option maxHeartbeats 1000000 in
theorem radR_no (x : Nat) (b : Int) (hb : b < 2 ∨ 36 < b) (w : World) :
    Calls Tryz.prog 22 #[.float .f64 x, .int .i64 b] w fun e w' => e = .returned (.tuple #[.string ⟨#[]⟩, .bool false]) ∧ w' = w := by
  rcases hb with h | h
  · go_enter Tryz.func22, Tryz.ntmps22
    go_wp2
    go_ret2
    exact ⟨rfl, rfl⟩
  · have h2 : ¬ b < 2 := by omega
    go_enter Tryz.func22, Tryz.ntmps22
    go_wp2
    go_ret2
    exact ⟨rfl, rfl⟩
set_option maxRecDepth 100000 in
set_option maxHeartbeats 1000000 in
theorem radR_odd (x : Nat) (b : Int) (hb1 : 2 ≤ b) (hb2 : b ≤ 36) (S : ByteArray) (w : World)
    (co : ∀ w, Calls Tryz.prog 30 #[.float .f64 x] w fun e w' => e = .returned (.tuple #[.string S, .bool true]) ∧ w' = w) :
    Calls Tryz.prog 22 #[.float .f64 x, .int .i64 b] w fun e w' => e = .returned (.tuple #[.string S, .bool true]) ∧ w' = w := by
  have k1 : ¬ b < 2 := by omega
  have k2 : ¬ 36 < b := by omega
  go_enter Tryz.func22, Tryz.ntmps22
  go_wp2_with (first | (go_at_call 30; refine (co _).mono ?_; rintro e w1 ⟨rfl, rfl⟩))
  go_ret2
  exact ⟨rfl, rfl⟩
set_option maxRecDepth 100000 in
set_option maxHeartbeats 1000000 in
theorem radR_ten (x : Nat) (S T : ByteArray) (w : World)
    (co : ∀ w, Calls Tryz.prog 30 #[.float .f64 x] w fun e w' => e = .returned (.tuple #[.string S, .bool false]) ∧ w' = w)
    (ct : Calls Tryz.prog 9 #[.float .f64 x] w fun e w' => e = .returned (.string T) ∧ Below w.heap.size w w') :
    Calls Tryz.prog 22 #[.float .f64 x, .int .i64 10] w fun e w' => e = .returned (.tuple #[.string T, .bool true]) ∧ Below w.heap.size w w' := by
  go_enter Tryz.func22, Tryz.ntmps22
  go_wp2_with (first | (go_at_call 30; refine (co _).mono ?_; rintro e w1 ⟨rfl, rfl⟩) | (go_at_call 9; refine ct.mono ?_; rintro e w2 ⟨rfl, hb2⟩))
  go_ret2
  exact ⟨rfl, hb2⟩
set_option maxRecDepth 100000 in
set_option maxHeartbeats 1000000 in
theorem radR_neg (x r b : Nat) (S0 S : ByteArray) (hS : S.size ≤ 100000) (hb1 : 2 ≤ b) (hb2 : b ≤ 36) (hb10 : b ≠ 10) (w : World)
    (o2 : (FloatKind.f64.format.order x 0 == some .lt) = true) (hng : ∀ w, (Go.Op.unary .neg (.float .f64 x)).run Tryz.prog w = .ok (.float .f64 r) w)
    (co : ∀ w, Calls Tryz.prog 30 #[.float .f64 x] w fun e w' => e = .returned (.tuple #[.string S0, .bool false]) ∧ w' = w)
    (c : Calls Tryz.prog 22 #[.float .f64 r, .int .i64 (b : Int)] w fun e w' => e = .returned (.tuple #[.string S, .bool true]) ∧ Below w.heap.size w w') :
    Calls Tryz.prog 22 #[.float .f64 x, .int .i64 (b : Int)] w fun e w' => e = .returned (.tuple #[.string (⟨#[45]⟩ ++ S), .bool true]) ∧ Below w.heap.size w w' := by
  have k1 : ¬ (b : Int) < 2 := by omega
  have k2 : ¬ 36 < (b : Int) := by omega
  have k3 : ((b : Int) == 10) = false := by rw [beq_eq_false_iff_ne]; omega
  go_enter Tryz.func22, Tryz.ntmps22
  go_wp2_with (first | (go_at_call 30; refine (co _).mono ?_; rintro e w1 ⟨rfl, rfl⟩) | (go_at_call 22; refine c.mono ?_; rintro e w2 ⟨rfl, hb⟩))
  go_ret2
  exact ⟨rfl, hb⟩
theorem toB_pw {b x n : Nat} (hb : 2 ≤ b) (h : x < pw n) : (toB b x).length ≤ 16 * n + 1 := by
  have h1 : x < b ^ (16 * n + 1) := by
    refine Nat.lt_of_lt_of_le h ?_
    unfold pw
    rw [show (65536 : Nat) = 2 ^ 16 from rfl, ← Nat.pow_mul]
    exact Nat.le_trans (Nat.pow_le_pow_left hb _) (Nat.pow_le_pow_right (by omega) (by omega))
  rcases Nat.eq_zero_or_pos x with h0 | h0
  · rw [h0, toB_small (by omega)]
    simp
  · obtain ⟨M, k, e1, e2, _⟩ := le_trim hb (16 * n + 1) x h0 h1
    have h3 := congrArg List.length e1
    rw [leB_length, List.length_append, List.length_replicate] at h3
    rw [← e2, List.length_reverse]
    omega
theorem tab_ext_all : ∀ d : Fin 36, (tabZ.extract d.val (d.val + 1)).data.toList = [UInt8.ofNat (dgc d.val)] := by decide
theorem tab_ext (d : Nat) (h : d < 36) : tabZ.extract d (d + 1) = txt [dgc d] := by
  have h1 := tab_ext_all ⟨d, h⟩
  apply ByteArray.ext
  apply Array.ext'
  exact h1
/-- What holds ahead of each round of the digits behind the point. -/
inductive RaR (wB : World) (W : List Nat) (b Q R0 : Nat) : Value → Value → Value → World → Prop
  | mk (j cur : Nat) (D : List Nat) (S : ByteArray) (a : Option Addr) (l c : Nat) (wr : World) (hj : j ≤ 52) (hDl : D.length = j) (hS : S = txt (W ++ 46 :: D)) (hcur : NatIs wr (.slice a l c) cur) (hl : l = 0 ↔ cur = 0) (hl2 : l ≤ 1000) (hlt : cur < Q) (hF : D ++ frD b Q (52 - j) cur = frD b Q 52 R0) (hb : Below wB.heap.size wB wr) : RaR wB W b Q R0 (.string S) (.slice a l c) (.int .i64 (j : Int)) wr
/-- What Radix says of P over Q. -/
def radL (b P Q : Nat) : List Nat := toB b (P / Q) ++ (if P % Q = 0 then [] else 46 :: frD b Q 52 (P % Q))
set_option maxRecDepth 100000 in
set_option maxHeartbeats 2000000 in
theorem radR_mid (r b : Nat) (S0 : ByteArray) (hb1 : 2 ≤ b) (hb2 : b ≤ 36) (hb10 : b ≠ 10) (h0 : 0 < r) (h : r < 9218868437227405312) (hE : ¬ 1074 ≤ expR r) (w : World)
    (o4 : (FloatKind.f64.format.order r 0 == some .lt) = false)
    (co : ∀ w, Calls Tryz.prog 30 #[.float .f64 r] w fun e w' => e = .returned (.tuple #[.string S0, .bool false]) ∧ w' = w) :
    Calls Tryz.prog 22 #[.float .f64 r, .int .i64 (b : Int)] w fun e w' => e = .returned (.tuple #[.string (txt (radL b (magR r) (2 ^ (1074 - expR r)))), .bool true]) ∧ Below w.heap.size w w' := by
  have k1 : ¬ (b : Int) < 2 := by omega
  have k2 : ¬ 36 < (b : Int) := by omega
  have k3 : ((b : Int) == 10) = false := by rw [beq_eq_false_iff_ne]; omega
  have cp := parts_any r h w
  have hM := magR_lt r
  obtain ⟨k, hk⟩ : ∃ k, k = 1074 - expR r := ⟨_, rfl⟩
  have hek : (expR r : Int) - 1074 = -(k : Int) := by omega
  rw [hek] at cp
  rw [← hk]
  have hk0 : 0 < k := by omega
  have hk74 : k ≤ 1074 := by omega
  generalize magR r = M at *
  clear hk hek hE h h0
  have HC : Hid (M < 9007199254740992 ∧ M < pw 4) := ⟨hM, Nat.lt_trans hM (by decide)⟩
  have C32 := (show Hid _ from fun (m : Nat) (hm : m < 18446744073709551616) (w : World) => nat_any m hm w)
  have CT : Hid (∀ w, Calls Tryz.prog 64 #[.int .u64 2, .int .i64 (-(k : Int))] w fun e w' => ∃ v, e = .returned v ∧ NatIs w' v (2 ^ (-(k : Int)).toNat) ∧ Below w.heap.size w w') := fun w => power_any 2 (-(k : Int)) (by omega) (by omega) (by omega) (by omega) (by rw [show (-(k : Int)).toNat = 0 by omega]; exact Nat.lt_of_lt_of_le (by decide : 2 ^ 0 < pw 1) (pw_mono (by omega))) w
  have lQ : 2 ^ k < pw 69 := Nat.lt_of_le_of_lt (two_pw3 (n := 68) (by omega)) (pw_strict (by omega))
  have CQ : Hid (∀ w, Calls Tryz.prog 64 #[.int .u64 2, .int .i64 (k : Int)] w fun e w' => ∃ v, e = .returned v ∧ NatIs w' v (2 ^ k) ∧ Below w.heap.size w w') := by
    intro w
    have := power_any 2 (k : Int) (by omega) (by omega) (by omega) (by omega) (by rw [Int.toNat_natCast]; exact pw_lt lQ (by omega)) w
    rw [Int.toNat_natCast] at this
    exact this
  obtain ⟨Q, hQ⟩ : ∃ Q, Q = 2 ^ k := ⟨_, rfl⟩
  rw [← hQ] at CQ lQ
  rw [← hQ]
  have hQ0 : 0 < Q := by rw [hQ]; exact Nat.pow_pos (by omega)
  have HQ : Hid (Q = 2 ^ k ∧ Q < pw 69 ∧ 0 < Q) := ⟨hQ, lQ, hQ0⟩
  obtain ⟨A, hA⟩ : ∃ A, A = txt (radL b M Q) := ⟨_, rfl⟩
  rw [← hA]
  have HA : Hid (A = txt (radL b M Q)) := hA
  have hwk : IntKind.i64.wrap (-(-(k : Int))) = (k : Int) := by rw [IntKind.wrap_i64]; omega
  clear hQ lQ hQ0 hA hM
  go_enter Tryz.func22, Tryz.ntmps22
  go_wp2_with (first | (go_at_call 30; refine (co _).mono ?_; rintro e w1 ⟨rfl, rfl⟩) | (go_at_call 63; refine cp.mono ?_; rintro e w1 ⟨rfl, rfl⟩) | (go_at_call 32; fail))
  have c1 := C32.out M (by have := HC.out.1; omega) w1
  clear cp
  go_fit c1
  rintro e w2 ⟨v2, rfl, hv2, hb2'⟩
  obtain ⟨pa, pl, pc, rfl, _, _⟩ := hv2.form (pw_lt HC.out.2 (by omega))
  have c2 : Calls Tryz.prog 32 #[.int .u64 1] w2 fun e w' => ∃ v, e = .returned v ∧ NatIs w' v 1 ∧ Below w2.heap.size w2 w' := C32.out 1 (by omega) w2
  clear c1
  go_wp2_with (first | (go_at_call 32; fail))
  go_fit c2
  rintro e w3 ⟨v3, rfl, hv3, hb3⟩
  have c3 := CT.out w3
  clear c2 CT
  go_wp2_with (first | (go_at_call 64; fail))
  go_fit c3
  rintro e w4 ⟨v4, rfl, hv4, hb4⟩
  have c4 := CQ.out w4
  clear c3 CQ
  go_wp2_with (first | (go_at_call 64; fail))
  go_fit c4
  rintro e w5 ⟨v5, rfl, hv5, hb5⟩
  obtain ⟨qa, ql, qc, rfl, _, _⟩ := hv5.form (pw_lt HQ.out.2.1 (by omega))
  have hb25 : Below w2.heap.size w2 w5 := hb3.trans ((hb4.trans (hb5.mono hb4.size)).mono hb3.size)
  have hp5 := hv2.below hb25
  have hbw5 : Below w1.heap.size w1 w5 := hb2'.trans (hb25.mono hb2'.size)
  have cb1 := bits_any _ _ _ hp5 (pw_lt HC.out.2 (by omega))
  have CB2 := (show Hid _ from fun w1 (hb : Below w5.heap.size w5 w1) => bits_any _ _ _ (hv5.below hb) (pw_lt HQ.out.2.1 (by omega)))
  clear c4 hv2 hv3 hv4 hb2' hb3 hb4 hb5 hb25
  go_wp2_with (first | (go_at_call 66; refine cb1.mono ?_; rintro e w6 ⟨t1, rfl, ht1, ht1b, hw6⟩; clear cb1; have cb2 := CB2.out w6 hw6; clear CB2) | (go_at_call 66; go_fit cb2; rintro e w7 ⟨t2, rfl, ht2, ht2b, hw7⟩; clear cb2))
  obtain ⟨P, hPM⟩ : ∃ P, P = M := ⟨_, rfl⟩
  rw [← hPM] at hp5 ht1
  have lP : P < pw 70 := by rw [hPM]; exact pw_lt HC.out.2 (by omega)
  have HAP : Hid (A = txt (radL b P Q)) := by rw [hPM]; exact HA
  clear hPM HA HC
  have hw7' : Below w5.heap.size w5 w7 := hw6.trans (hw7.mono hw6.size)
  have hbw7 : Below w1.heap.size w1 w7 := hbw5.trans (hw7'.mono hbw5.size)
  have hpB := hp5.below hw7'
  have hqB := hv5.below hw7'
  obtain ⟨g1, g3⟩ : t1 ≤ 1120 ∧ P < 2 ^ t1 := by
    rcases ht1 with ⟨h1, h2⟩ | ⟨h1, h2, h3⟩
    · exact ⟨by omega, by rw [h1, h2]; omega⟩
    · refine ⟨?_, h3⟩
      have := pw_bits lP h2
      omega
  obtain ⟨f1, f2⟩ : 1 ≤ t2 ∧ 2 ^ (t2 - 1) ≤ Q := by
    rcases ht2 with ⟨h1, h2⟩ | ⟨h1, h2, h3⟩
    · have := HQ.out.2.2; omega
    · exact ⟨h1, h2⟩
  have HST : Hid (P < 2 ^ ((t1 : Int) - t2 + 1).toNat * Q) := by
    show P < 2 ^ ((t1 : Int) - t2 + 1).toNat * Q
    rcases Nat.lt_or_ge t1 t2 with h1 | h1
    · rw [show ((t1 : Int) - t2 + 1).toNat = 0 by omega, Nat.pow_zero, Nat.one_mul]
      exact Nat.lt_of_lt_of_le (Nat.lt_of_lt_of_le g3 (Nat.pow_le_pow_right (by omega) (by omega))) f2
    · refine Nat.lt_of_lt_of_le g3 ?_
      rw [show ((t1 : Int) - t2 + 1).toNat = t1 - t2 + 1 by omega]
      refine Nat.le_trans (Nat.le_of_eq ?_) (Nat.mul_le_mul_left _ f2)
      rw [← Nat.pow_add]
      congr 1
      omega
  have HL : Hid (P < pw 70 ∧ Q < pw 69 ∧ 0 < Q) := ⟨lP, HQ.out.2⟩
  clear ht1 ht2 g3 f2 hp5 hv5 hw6 hw7 hw7' hbw5 lP
  go_loopw [10, 12, 13, 14] (fun vp _ vo vi wr => NqR w1 w7 P Q t1 vp vo vi wr) (fun _ _ _ vi _ => (RowKit.intOf vi + 1).toNat)
  case atStart => exact ⟨(t1 : Int) - t2, P, 0, rfl, by omega, by omega, hpB, natIs_nil _, by omega, HST.out, Below.refl _ _⟩
  case round =>
    obtain ⟨i, cur, o, rfl, hi1, hi2, hcur, ho, hP, hc, hbw⟩ := hrel
    have HC : Hid (P = o * Q + cur ∧ cur < 2 ^ (i + 1).toNat * Q) := ⟨hP, hc⟩
    have bcur : cur < pw 70 := Nat.lt_of_le_of_lt (by rw [hP]; exact Nat.le_add_left _ _) HL.out.1
    have bo : o < pw 70 := by
      refine Nat.lt_of_le_of_lt ?_ HL.out.1
      rw [hP]
      exact Nat.le_trans (Nat.le_mul_of_pos_right _ HL.out.2.2) (Nat.le_add_right _ _)
    have HBC : Hid (cur < pw 70 ∧ o < pw 70) := ⟨bcur, bo⟩
    obtain ⟨pa5, pl5, pc5, hpe, hpz, hpl⟩ := hcur.form (pw_lt bcur (by omega))
    obtain ⟨oa5, ol5, oc5, hoe, _, _⟩ := ho.form (pw_lt bo (by omega))
    subst hpe hoe
    have hqr := hqB.below hbw
    have hbwr : Below w1.heap.size w1 wr := hbw7.trans (hbw.mono hbw7.size)
    clear hP hc bcur bo
    rcases Int.lt_or_le i 0 with h0 | h0
    · have HF : Hid (o = P / Q ∧ cur = P % Q ∧ cur < Q) := by
        obtain ⟨a1, a2⟩ := HC.out
        rw [show (i + 1).toNat = 0 by omega, Nat.pow_zero, Nat.one_mul] at a2
        refine ⟨?_, ?_, a2⟩
        · rw [a1, Nat.mul_comm o, Nat.mul_add_div HL.out.2.2, Nat.div_eq_of_lt a2, Nat.add_zero]
        · rw [a1, Nat.mul_comm o, Nat.mul_add_mod, Nat.mod_eq_of_lt a2]
      have k0 : ¬ (0 : Int) ≤ i := by omega
      have cd := digB_any _ o b hb1 hb2 wr ho (pw_lt HBC.out.2 (by omega))
      have hTs : (txt (toB b o)).size ≤ 1700 := by
        rw [txt_size]
        exact Nat.le_trans (toB_pw hb1 HBC.out.2) (by omega)
      obtain ⟨T, hT⟩ : ∃ T, T = txt (toB b o) := ⟨_, rfl⟩
      rw [← hT] at cd hTs
      have HT : Hid (T = txt (toB b o)) := hT
      clear hT HST HC hbw7 hpB hqB hbw ho
      by_cases hcz : cur = 0
      · have hpl0 : pl5 = 0 := hpz.2 hcz
        subst hpl0
        have HE : Hid (A = T) := by
          show A = T
          rw [HAP.out, HT.out, HF.out.1]
          unfold radL
          rw [if_pos (by rw [← HF.out.2.1]; exact hcz), List.append_nil]
        clear hpz hcur hcz hqr
        go_wp2_with (first | (go_at_call 33; go_fit cd; rintro e w9 ⟨rfl, hb9⟩; clear cd))
        go_ret2
        exact ⟨by rw [HE.out]; rfl, hbwr.trans (hb9.mono hbwr.size)⟩
      · have hpl0 : pl5 ≠ 0 := fun h => hcz (hpz.1 h)
        have kpl : ((pl5 : Int) == 0) = false := by rw [beq_eq_false_iff_ne]; omega
        have CB : Hid (∀ w, Calls Tryz.prog 32 #[.int .u64 (b : Int)] w fun e w' => ∃ v, e = .returned v ∧ NatIs w' v b ∧ Below w.heap.size w w') := fun w => nat_any b (by omega) w
        have HCZ : Hid (cur ≠ 0) := hcz
        clear hpz hcz hpl0
        go_wp2_with (first | (go_at_call 33; go_fit cd; rintro e w9 ⟨rfl, hb9⟩; clear cd) | (go_at_call 32; fail))
        have cb := CB.out w9
        clear CB
        go_fit cb
        rintro e w10 ⟨vb, rfl, hvb, hb10'⟩
        clear cb
        go_wp2
        have hb910 := hb9.trans (hb10'.mono hb9.size)
        have hcur10 := hcur.below hb910
        have hq10 := hqr.below hb910
        have hbw10 : Below w1.heap.size w1 w10 := hbwr.trans (hb910.mono hbwr.size)
        have HP10 : Hid (NatIs w10 (.slice pa5 pl5 pc5) cur) := hcur10
        obtain ⟨ba, bl, bc, hbe, _, _⟩ := hvb.form (Nat.lt_of_le_of_lt hb2 (Nat.lt_of_lt_of_le (by decide : 36 < pw 1) (pw_mono (by omega))))
        subst hbe
        have hWs : (toB b o).length ≤ 1700 := by rw [HT.out, txt_size] at hTs; exact hTs
        have HWs : Hid ((toB b o).length ≤ 1700) := hWs
        clear hcur hqr hb9 hb10' hb910 hbwr hcur10 hWs hTs
        go_loopw [6, 10, 18] (fun vs vp vi w11 => RaR w10 (toB b o) b Q cur vs vp vi w11) (fun _ _ vi _ => 52 - (RowKit.intOf vi).toNat)
        case atStart =>
          refine .mk 0 cur [] _ _ _ _ _ (by omega) rfl ?_ HP10.out ⟨fun h => absurd h (by intro h; rw [h] at kpl; exact absurd kpl (by decide)), fun h => absurd h HCZ.out⟩ hpl HF.out.2.2 rfl (Below.refl _ _)
          rw [HT.out, txt_dot, txt_append]
        case round =>
          obtain ⟨j, cu, D, S, a2, l2, c2, wq, hj, hDl, hS, hcu, hl2, hl2b, hcQ, hFD, hbq⟩ := hrel
          have HS : Hid (S = txt (toB b o ++ 46 :: D)) := hS
          have hSs : S.size ≤ 1800 := by
            rw [hS, txt_size, List.length_append, List.length_cons]
            have := HWs.out
            omega
          have HFD : Hid (D ++ frD b Q (52 - j) cu = frD b Q 52 cur) := hFD
          have HDl : Hid (D.length = j) := hDl
          clear hS hFD HP10
          have fin : ∀ F, D = F → F = frD b Q 52 cur → S = A := by
            intro F e1 e2
            rw [HS.out, HAP.out, e1, e2]
            unfold radL
            rw [← HF.out.1, ← HF.out.2.1, if_neg HCZ.out]
          have FIN := (show Hid _ from fin)
          clear fin
          rcases Nat.lt_or_ge j 52 with hlt | hge
          · have kj : (j : Int) < 52 := by omega
            rcases Nat.eq_zero_or_pos l2 with hl0 | hl0
            · have hc0 : cu = 0 := hl2.1 hl0
              subst hl0
              have HE : Hid (S = A) := FIN.out D rfl (by have := HFD.out; rw [hc0, frD_zero, List.append_nil] at this; exact this)
              clear hl2 hcu FIN
              go_wp2
              go_ret2
              exact ⟨by rw [← HE.out]; rfl, hbw10.trans (hbq.mono hbw10.size)⟩
            · have kl : (0 : Int) < (l2 : Int) := by omega
              have hc0 : cu ≠ 0 := fun h => by have := hl2.2 h; omega
              have lcu : cu < pw 69 := Nat.lt_trans hcQ HL.out.2.1
              have hqq := hq10.below hbq
              have hbb := hvb.below hbq
              have cm := mul_any (.slice a2 l2 c2) (.slice ba bl bc) cu b _ hcu hbb (pw_lt lcu (by omega)) (Nat.lt_of_le_of_lt hb2 (Nat.lt_of_lt_of_le (by decide : 36 < pw 1) (pw_mono (by omega))))
              have lcb : cu * b < pw 71 := by
                rw [Nat.mul_comm]
                exact pw_lt_mul (m := 1) (Nat.le_trans hb2 (by decide)) lcu (by omega)
              have hcb : cu * b < 2 ^ 61 * Q := by
                have h1 : cu * b < Q * b := Nat.mul_lt_mul_of_pos_right hcQ (by omega)
                have h2 : Q * b ≤ Q * 36 := Nat.mul_le_mul_left _ hb2
                have h3 : Q * 36 ≤ 2 ^ 61 * Q := by rw [Nat.mul_comm Q]; exact Nat.mul_le_mul_right _ (by decide)
                omega
              have CQ := (show Hid _ from fun (w1 : World) (x : Value) (hx : NatIs w1 x (cu * b)) (hb : Below wr.heap.size wr w1) => quo_any x (.slice qa ql qc) (cu * b) Q w1 hx (hqq.below hb) (pw_lt lcb (by omega)) (pw_lt HL.out.2.1 (by omega)) HL.out.2.2 hcb)
              obtain ⟨d, hd⟩ : ∃ d, d = cu * b / Q := ⟨_, rfl⟩
              have hd36 : d < 36 := by
                rw [hd, Nat.div_lt_iff_lt_mul HL.out.2.2]
                have h1 : cu * b < Q * b := Nat.mul_lt_mul_of_pos_right hcQ (by omega)
                have h2 : Q * b ≤ Q * 36 := Nat.mul_le_mul_left _ hb2
                omega
              rw [← hd] at CQ
              have HDD : Hid (d = cu * b / Q) := hd
              have HC0 : Hid (cu ≠ 0) := hc0
              have kd : (d : Int) + 1 ≤ 36 := by omega
              clear hd hl2 hcu hqq hbb lcb hcb lcu hc0 FIN
              go_wp2_with (first | (go_at_call 65; go_fit cm; rintro e w12 ⟨v12, rfl, hv12, hb12⟩; have cq := CQ.out w12 v12 hv12 hb12; clear cm CQ) | (go_at_call 70; go_fit cq; rintro e w13 ⟨v13, rfl, hv13, hb13⟩; clear cq))
              have hcm : cu * b = b * cu := Nat.mul_comm _ _
              have hmQ : cu * b % Q < Q := Nat.mod_lt _ HL.out.2.2
              obtain ⟨a3, l3, c3, hve, hz3, hl3⟩ := hv13.form (pw_lt (Nat.lt_trans hmQ HL.out.2.1) (by omega))
              subst hve
              have ei : (j : Int) + 1 = ((j + 1 : Nat) : Int) := rfl
              have hb13' : Below wr.heap.size wr w13 := hb12.trans (hb13.mono hb12.size)
              rw [ei]
              refine ⟨.mk (j + 1) (cu * b % Q) (D ++ [dgc d]) _ a3 l3 c3 w13 hlt (by rw [List.length_append, HDl.out]; rfl) ?_ hv13 hz3 hl3 hmQ ?_ (hbq.trans (hb13'.mono hbq.size)), ?_⟩
              · have e6 : S ++ tabZ.extract d (d + 1) = txt (toB b o ++ 46 :: (D ++ [dgc d])) := by
                  rw [tab_ext d hd36, HS.out, txt_append]
                  congr 1
                  simp
                exact e6
              · rw [← HFD.out, List.append_assoc]
                congr 1
                obtain ⟨f, hf⟩ : ∃ f, 52 - j = f + 1 := ⟨51 - j, by omega⟩
                rw [hf, show 52 - (j + 1) = f by omega, frD, if_neg HC0.out, ← hcm, ← HDD.out]
                rfl
              · simp only [RowKit.intOf, Int.toNat_natCast]
                omega
          · have hj52 : j = 52 := by omega
            subst hj52
            have HE : Hid (S = A) := FIN.out D rfl (by have := HFD.out; rw [Nat.sub_self, frD, List.append_nil] at this; exact this)
            clear hl2 hcu FIN
            go_wp2
            go_ret2
            exact ⟨by rw [← HE.out]; rfl, hbw10.trans (hbq.mono hbw10.size)⟩
    · obtain ⟨j, rfl⟩ : ∃ j : Nat, i = (j : Int) := ⟨i.toNat, by omega⟩
      have l1 : 2 ^ j < pw 71 := Nat.lt_of_le_of_lt (two_pw3 (n := 70) (by omega)) (pw_strict (by omega))
      have cp : Calls Tryz.prog 64 #[.int .u64 2, .int .i64 (j : Int)] wr fun e w' => ∃ v, e = .returned v ∧ NatIs w' v (2 ^ j) ∧ Below wr.heap.size wr w' := by
        have := power_any 2 (j : Int) (by omega) (by omega) (by omega) (by omega) (by rw [Int.toNat_natCast]; exact pw_lt l1 (by omega)) wr
        rw [Int.toNat_natCast] at this
        exact this
      have CM := (show Hid _ from fun (w1 : World) (x : Value) (hx : NatIs w1 x (2 ^ j)) (hb : Below wr.heap.size wr w1) => mul_any x _ (2 ^ j) Q w1 hx (hqr.below hb) (pw_lt l1 (by omega)) (pw_lt HL.out.2.1 (by omega)))
      have l2 : 2 ^ j * Q < pw 1000 := pw_lt_mul (Nat.le_of_lt l1) HL.out.2.1 (by omega)
      have CC := (show Hid _ from fun (w1 : World) (x : Value) (hx : NatIs w1 x (2 ^ j * Q)) (hb : Below wr.heap.size wr w1) => cmp_any (.slice pa5 pl5 pc5) x cur (2 ^ j * Q) w1 (hcur.below hb) hx (pw_lt HBC.out.1 (by omega)) l2)
      have CS := (show Hid _ from fun (w1 : World) (x : Value) (hx : NatIs w1 x (2 ^ j * Q)) (hb : Below wr.heap.size wr w1) (hle : 2 ^ j * Q ≤ cur) => sub_any (.slice pa5 pl5 pc5) x cur (2 ^ j * Q) w1 (hcur.below hb) hx (pw_lt HBC.out.1 (by omega)) hle)
      have CA := (show Hid _ from fun (w1 : World) (x : Value) (hx : NatIs w1 x (2 ^ j)) (hb : Below wr.heap.size wr w1) => add_any (.slice oa5 ol5 oc5) x o (2 ^ j) w1 (ho.below hb) hx (pw_lt HBC.out.2 (by omega)) (pw_lt l1 (by omega)))
      have kj : (0 : Int) ≤ (j : Int) := by omega
      clear l1 l2
      by_cases hge : 2 ^ j * Q ≤ cur
      · have HGE : Hid (2 ^ j * Q ≤ cur) := hge
        clear hge
        go_wp2_with (first | (go_at_call 64; refine cp.mono ?_; rintro e w1 ⟨x1, rfl, hx1, hw1⟩; have cm1 := CM.out w1 x1 hx1 hw1; clear cp) | (go_at_call 65; refine cm1.mono ?_; rintro e w2 ⟨x2, rfl, hx2, hw2⟩; have hw12 := hw1.trans (hw2.mono hw1.size); have hx12 := hx1.below hw2; have cc1 := CC.out w2 x2 hx2 hw12; clear cm1) | (go_at_call 67; refine cc1.mono ?_; rintro e w3 ⟨c, rfl, hcmp, nn, rfl⟩; have kc : (0 : Int) ≤ c := cmp_ge hcmp HGE.out; have cs1 := CS.out (w2.drewN nn) x2 hx2.drewN (below_drewN hw12) HGE.out; clear cc1 hcmp) | (go_at_call 68; refine cs1.mono ?_; rintro e w4 ⟨x4, rfl, hx4, hw4⟩; have hd12 : Below wr.heap.size wr (w2.drewN nn) := below_drewN hw12; have hw14 := hd12.trans (hw4.mono hd12.size); have hxd : NatIs (w2.drewN nn) x1 (2 ^ j) := hx12.drewN; have ca1 := CA.out w4 x1 (hxd.below hw4) hw14; clear cs1) | (go_at_call 69; refine ca1.mono ?_; rintro e w5 ⟨x5, rfl, hx5, hw5⟩; clear ca1))
        have hw15 := hw14.trans (hw5.mono hw14.size)
        obtain ⟨a1, a2⟩ := HC.out
        rw [show ((j : Int) + 1).toNat = j + 1 by omega, Nat.pow_succ] at a2
        have hge := HGE.out
        refine ⟨⟨(j : Int) - 1, cur - 2 ^ j * Q, o + 2 ^ j, rfl, by omega, by omega, hx4.below hw5, hx5, ?_, ?_, hbw.trans (hw15.mono hbw.size)⟩, ?_⟩
        · rw [Nat.add_mul]
          omega
        · rw [show ((j : Int) - 1 + 1).toNat = j by omega]
          have : 2 ^ j * 2 * Q = 2 ^ j * Q + 2 ^ j * Q := by grind
          omega
        · simp only [RowKit.intOf]
          omega
      · have HGE : Hid (cur < 2 ^ j * Q) := Nat.lt_of_not_le hge
        clear hge
        go_wp2_with (first | (go_at_call 64; refine cp.mono ?_; rintro e w1 ⟨x1, rfl, hx1, hw1⟩; have cm1 := CM.out w1 x1 hx1 hw1; clear cp) | (go_at_call 65; refine cm1.mono ?_; rintro e w2 ⟨x2, rfl, hx2, hw2⟩; have hw12 := hw1.trans (hw2.mono hw1.size); have cc1 := CC.out w2 x2 hx2 hw12; clear cm1) | (go_at_call 67; refine cc1.mono ?_; rintro e w3 ⟨c, rfl, hcmp, nn, rfl⟩; have kc : ¬ (0 : Int) ≤ c := Int.not_le.2 (cmp_neg hcmp HGE.out); clear cc1 hcmp))
        have hw3' : Below wr.heap.size wr (w2.drewN nn) := below_drewN hw12
        obtain ⟨a1, a2⟩ := HC.out
        have hge := HGE.out
        refine ⟨⟨(j : Int) - 1, cur, o, rfl, by omega, by omega, (hcur.below hw12).drewN, (ho.below hw12).drewN, a1, by rw [show ((j : Int) - 1 + 1).toNat = j by omega]; exact hge, hbw.trans (hw3'.mono hbw.size)⟩, ?_⟩
        simp only [RowKit.intOf]
        omega
end Go.Proofs.YtellndmbllmjgaaGreatDoor
