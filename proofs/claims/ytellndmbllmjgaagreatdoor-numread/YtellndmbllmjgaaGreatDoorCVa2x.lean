/- The document's valued. -/
import Derived.Test.YtellndmbllmjgaaGreatDoorCWf6x
import Derived.Test.YtellndmbllmjgaaGreatDoorCUtAx
import Derived.Test.YtellndmbllmjgaaGreatDoorCAe1x
import Derived.Test.YtellndmbllmjgaaGreatDoorCUt3x
set_option linter.unusedVariables false
namespace Go.Proofs.YtellndmbllmjgaaGreatDoor
open Go.RowKit Go.Shelf Go.Sort Fs Fl
/-- Noughts that are left. -/
inductive VzR (w : World) (z : Nat) (D : List Nat) : Value → World → Prop
  | mk (k : Nat) (hk : k ≤ z) : VzR w z D (.string (txt (List.replicate k 48 ++ D))) w
inductive VfR (w : World) (D : List Nat) : Value → Value → World → Prop
  | mk (k : Nat) (hk : k ≤ D.length) : VfR w D (.float .f64 (floatOfInt .f64 ((vD (D.take k) : Nat) : Int))) (.int .i64 (k : Int)) w
def strLen : Value → Nat
  | .string s => s.size
  | _ => 0
theorem dec_small {D : List Nat} {k : Nat} (h : Dig D) (hl : D.length < 16) : vD (D.take k) < 1000000000000000 := by
  have h1 := vD_lt (D.take k) (h.take k)
  have h2 : 10 ^ (D.take k).length ≤ 10 ^ 15 := Nat.pow_le_pow_right (by omega) (by rw [List.length_take]; omega)
  have h3 : (10 : Nat) ^ 15 = 1000000000000000 := by decide
  omega
theorem vD_pos_take {D : List Nat} {k : Nat} (h : Dig D) (hf : D[0]? ≠ some 48) (hk : k < D.length) : 0 < vD (D.take (k + 1)) := by
  cases D with
  | nil => simp at hk
  | cons c t =>
    have hc : 48 < c := by
      have := h c (by simp)
      have : c ≠ 48 := fun e => hf (by simp [e])
      omega
    rw [List.take_succ_cons]
    have := vD_ge c (t.take k) hc
    exact Nat.lt_of_lt_of_le (Nat.pow_pos (by omega)) this
theorem nearQ_whole {D : List Nat} {k : Int} {R : Nat} (h : Near (vD D * 10 ^ k.toNat) (10 ^ (-k).toNat) R) : NearQ D ((D.length : Int) + k) R := by
  unfold NearQ
  refine near_cross (p10 _) (p10 _) ?_ h
  rw [Nat.mul_assoc, Nat.mul_assoc, ← Nat.pow_add, ← Nat.pow_add]
  congr 2
  omega
set_option maxRecDepth 100000 in
set_option maxHeartbeats 4000000 in
theorem valued_any (z : Nat) (D : List Nat) (k : Int) (hD : Dig D) (hf : D[0]? ≠ some 48) (hz : z + D.length ≤ 4000) (hk1 : -2000000 ≤ k) (hk2 : k ≤ 2000000) (w : World) :
    Calls Tryz.prog 50 #[.string (txt (List.replicate z 48 ++ D)), .int .i64 k] w fun e w' => ∃ R, NearQ D ((D.length : Int) + k) R ∧ e = .returned (.float .f64 (min R 9218868437227405312)) ∧ Below w.heap.size w w' := by
  obtain ⟨N, hN⟩ : ∃ N, N = D.length := ⟨_, rfl⟩
  have HN := (show Hid (N = D.length) from hN)
  have hz' : z + N ≤ 4000 := by omega
  have hsz : ∀ j, (txt (List.replicate j 48 ++ D)).size = j + N := fun j => by rw [txt_size, List.length_append, List.length_replicate, hN]
  have HSZ := (show Hid (∀ j, (txt (List.replicate j 48 ++ D)).size = j + N) from hsz)
  have HD := (show Hid (Dig D) from hD)
  have HF := (show Hid (D[0]? ≠ some 48) from hf)
  rw [← hN]
  clear hN hz hsz hD hf
  go_enter Tryz.func50, Tryz.ntmps50
  go_upto_block 0 with fail
  go_cut [0] (fun v wx => v = .string (txt D) ∧ wx = w)
  case first =>
    go_wp2_with fail
    go_loopw [0] (fun v wr => VzR w z D v wr) (fun v _ => strLen v)
    case atStart => exact .mk z (Nat.le_refl _)
    case round =>
      obtain ⟨j, hj⟩ := hrel
      have hs := HSZ.out j
      cases j with
      | zero =>
        rw [Nat.zero_add] at hs
        rw [List.replicate_zero, List.nil_append] at hs ⊢
        rcases Nat.eq_zero_or_pos N with h0 | h0
        · have k1 : ¬ (0 : Int) < (N : Int) := by omega
          clear h0
          go_wp2
          go_meet
          exact ⟨rfl, rfl⟩
        · have hkS : 0 < (txt D).size := by omega
          obtain ⟨c, hc⟩ : ∃ c, ((txt D)[0]'hkS).toNat = c := ⟨_, rfl⟩
          have hget := byte_of (txt D) D (Ut.bytes_txt D (fun c hc => by have := HD.out c hc; omega)) 0 hkS
          rw [hc] at hget
          have hne : c ≠ 48 := fun e => HF.out (by rw [hget, e])
          have k1 : (0 : Int) < (N : Int) := by omega
          have k2 : ((c : Int) == 48) = false := by rw [beq_eq_false_iff_ne]; omega
          clear hget hne h0
          go_wp2
          go_meet
          exact ⟨rfl, rfl⟩
      | succ j =>
        have hkS : 0 < (txt (List.replicate (j + 1) 48 ++ D)).size := by omega
        have hget : ((txt (List.replicate (j + 1) 48 ++ D))[0]'hkS).toNat = 48 := txt_get _ 0 48 (by rw [List.replicate_succ]; rfl) (by omega) hkS
        have hnx : (txt (List.replicate (j + 1) 48 ++ D)).extract 1 (j + 1 + N) = txt (List.replicate j 48 ++ D) := by
          rw [txt_extract, List.replicate_succ, List.cons_append, List.drop_succ_cons, List.drop_zero, List.take_of_length_le]
          rw [List.length_append, List.length_replicate, ← HN.out]
          omega
        obtain ⟨T, hT⟩ : ∃ T, T = txt (List.replicate (j + 1) 48 ++ D) := ⟨_, rfl⟩
        have hgT : ∀ h : 0 < T.size, (T[0]'h).toNat = 48 := by subst hT; intro _; exact hget
        clear hget
        rw [← hT] at hs hnx
        rw [← hT]
        have hTS : 0 < T.size := by omega
        have hget := hgT hTS
        have HNX := (show Hid (T.extract 1 (j + 1 + N) = txt (List.replicate j 48 ++ D)) from hnx)
        have HJ := (show Hid (j ≤ z) from by show j ≤ z; omega)
        obtain ⟨P, hP⟩ : ∃ P, P = j + 1 + N := ⟨_, rfl⟩
        have HP := (show Hid (P = j + 1 + N) from hP)
        rw [← hP] at hs HNX
        have hP0 : 0 < P := by omega
        have hPb : P ≤ 5000 := by omega
        clear hnx hT hgT hkS hP hj
        go_wp2
        refine ⟨?_, ?_⟩
        · rw [HNX.out]
          exact .mk j HJ.out
        · rw [HNX.out]
          simp only [strLen]
          rw [HSZ.out j, hs, HP.out]
          omega
  case rest =>
  obtain ⟨rfl, hwc⟩ := hcut
  obtain rfl := hwc.symm
  have hs := HSZ.out 0
  rw [Nat.zero_add, List.replicate_zero, List.nil_append] at hs
  rcases Nat.eq_zero_or_pos N with h0 | h0
  · have hnil : D = [] := List.eq_nil_of_length_eq_zero (by rw [← HN.out]; exact h0)
    have hem : (txt D).toList.isEmpty = true := empty_yes _ (by omega)
    have HR : Hid (NearQ D ((N : Int) + k) 0) := by show NearQ _ _ _; rw [hnil]; exact nearQ_nil _
    clear hnil h0
    go_wp2
    go_ret
    exact ⟨0, HR.out, rfl, Below.refl _ _⟩
  have hem : (txt D).toList.isEmpty = false := ne_empty _ (by omega)
  have hNb : N ≤ 4000 := by omega
  rcases (by omega : (N : Int) + k < -330 ∨ (310 : Int) < (N : Int) + k ∨ (-330 ≤ (N : Int) + k ∧ (N : Int) + k ≤ 310)) with h1 | h1 | ⟨h1, h2⟩
  · have HR : Hid (NearQ D ((N : Int) + k) 0) := nearQ_under HD.out (by omega)
    go_wp2
    go_ret
    exact ⟨0, HR.out, rfl, Below.refl _ _⟩
  · obtain ⟨R, hR⟩ := nearQ_ex D ((N : Int) + k)
    have hov := nearQ_over HD.out (by rw [← HN.out]; exact h0) HF.out h1 hR
    have HR : Hid (NearQ D ((N : Int) + k) R) := hR
    have HOV : Hid (min R 9218868437227405312 = 9218868437227405312) := hov
    have k1 : ¬ (N : Int) + k < -330 := by omega
    have ci := inf_any
    clear hR hov
    go_wp2_with (first | (go_at_call 48; refine (ci _).mono ?_; rintro e w4 ⟨rfl, hw4⟩; obtain rfl := hw4.symm))
    go_ret
    exact ⟨R, HR.out, by rw [HOV.out]; rfl, Below.refl _ _⟩
  · have k1 : ¬ (N : Int) + k < -330 := by omega
    have k2 : ¬ (310 : Int) < (N : Int) + k := by omega
    by_cases hs16 : k = 0 ∧ N < 16
    · obtain ⟨rfl, h16⟩ := hs16
      have k3 : (N : Int) < 16 := by omega
      have HSM : Hid (∀ j, vD (D.take j) < 1000000000000000) := fun j => dec_small HD.out (by rw [← HN.out]; exact h16)
      clear h1 h2
      go_wp2
      go_loopw [5, 6] (fun vx vi wr => VfR w D vx vi wr) (fun _ vi _ => N - (intOf vi).toNat)
      case atStart =>
        have := VfR.mk (w := w) (D := D) 0 (Nat.zero_le _)
        rw [List.take_zero, show ((vD [] : Nat) : Int) = 0 from rfl, fl_zero] at this
        exact this
      case round =>
        obtain ⟨j, hj⟩ := hrel
        rw [← HN.out] at hj
        rcases Nat.lt_or_ge j N with hlt | hge
        · have hjS : j < (txt D).size := by omega
          obtain ⟨c, hc⟩ : ∃ c, ((txt D)[j]'hjS).toNat = c := ⟨_, rfl⟩
          have hget := byte_of (txt D) D (Ut.bytes_txt D (fun c hc => by have := HD.out c hc; omega)) j hjS
          rw [hc] at hget
          have hcd := HD.out c (List.mem_of_getElem? hget)
          have htk := take_next D j c hget
          have hv1 : vD (D.take (j + 1)) = vD (D.take j) * 10 + (c - 48) := by rw [htk, vD_snoc]
          have hpos := vD_pos_take HD.out HF.out (k := j) (by rw [← HN.out]; exact hlt)
          have hsm := HSM.out j
          have hsm1 := HSM.out (j + 1)
          rw [hv1] at hsm1
          obtain ⟨V, hV⟩ : ∃ V, V = vD (D.take j) := ⟨_, rfl⟩
          rw [← hV] at hv1 hsm hsm1 ⊢
          rw [hv1] at hpos
          have m1 := fl_mul V (by omega)
          have m2 := fl_add (V * 10) (c - 48) (by omega) (by omega) hpos
          rw [show ((c - 48 : Nat) : Int) = (c : Int) - 48 by omega] at m2
          have hm : ∀ ty w, (binOp .mul ty (.float .f64 (floatOfInt .f64 (V : Int))) (.float .f64 4621819117588971520)).run Tryz.prog w = .ok (.float .f64 (floatOfInt .f64 ((V * 10 : Nat) : Int))) w := fun ty w => run_float_arith w .mul ty .f64 _ _ _ m1
          have ha : ∀ ty w, (binOp .add ty (.float .f64 (floatOfInt .f64 ((V * 10 : Nat) : Int))) (.float .f64 (floatOfInt .f64 ((c : Int) - 48)))).run Tryz.prog w = .ok (.float .f64 (floatOfInt .f64 ((V * 10 + (c - 48) : Nat) : Int))) w := fun ty w => run_float_arith w .add ty .f64 _ _ _ m2
          have HV1 := (show Hid (vD (D.take (j + 1)) = V * 10 + (c - 48)) from hv1)
          generalize floatOfInt .f64 (V : Int) = fa at *
          generalize floatOfInt .f64 ((V * 10 : Nat) : Int) = fb at *
          obtain ⟨fc, hfc⟩ : ∃ fc, fc = floatOfInt .f64 ((V * 10 + (c - 48) : Nat) : Int) := ⟨_, rfl⟩
          have HFC := (show Hid (fc = floatOfInt .f64 ((V * 10 + (c - 48) : Nat) : Int)) from hfc)
          rw [← hfc] at ha
          obtain ⟨h3, h4⟩ := hcd
          have HJ := (show Hid (j + 1 ≤ D.length) from by show j + 1 ≤ D.length; rw [← HN.out]; exact hlt)
          clear hget htk hv1 hpos hV m1 m2 hfc hj hsm1
          go_wp2
          refine ⟨?_, by simp [intOf]; omega⟩
          have := VfR.mk (w := w) (D := D) (j + 1) HJ.out
          rw [HV1.out, ← HFC.out, show ((j + 1 : Nat) : Int) = (j : Int) + 1 by omega] at this
          exact this
        · have hjn : j = N := by omega
          have e : D.take j = D := List.take_of_length_le (by rw [← HN.out]; omega)
          rw [e]
          obtain ⟨R, hR, hfl⟩ := near_int (vD D)
          have HR : Hid (NearQ D ((N : Int) + 0) R) := by
            show NearQ _ _ _
            have := nearQ_whole (D := D) (k := 0) (R := R) (by simpa using hR)
            rw [← HN.out] at this
            exact this
          have HFL := (show Hid (floatOfInt .f64 ((vD D : Nat) : Int) = min R 9218868437227405312) from hfl)
          generalize floatOfInt .f64 ((vD D : Nat) : Int) = fa at *
          have k4 : ¬ (j : Int) < (N : Int) := by omega
          clear hjn hge hj e hR hfl
          go_wp2
          go_ret
          exact ⟨R, HR.out, by rw [← HFL.out]; rfl, Below.refl _ _⟩
    · have cw := whole_any (txt D) 10 D (Ut.bytes_txt D (fun c hc => by have := HD.out c hc; omega)) (by omega) (by omega) (by rw [← HN.out]; omega) (fun c hc => (digV_dig c).2 (HD.out c hc)) w
      rw [vB_dec D HD.out] at cw
      have hpos : 0 < vD D := by
        have := vD_pos_take HD.out HF.out (k := N - 1) (by rw [← HN.out]; omega)
        rw [List.take_of_length_le (by rw [← HN.out]; omega)] at this
        exact this
      have hpw : vD D < pw 1600 := by
        have := vB_pw (b := 10) (by omega) (by rw [← HN.out]; omega) (fun c hc => (digV_dig c).2 (HD.out c hc))
        rw [vB_dec D HD.out] at this
        exact pw_lt this (by omega)
      have CD := (show Hid _ from fun (W : World) (x : Value) (hx : NatIs W x (vD D)) => dec_big x (vD D) W hx hpos hpw k (by omega) (by omega))
      have HQ : Hid (∀ R, Near (vD D * 10 ^ k.toNat) (10 ^ (-k).toNat) R → NearQ D ((N : Int) + k) R) := by
        intro R h
        have := nearQ_whole h
        rw [← HN.out] at this
        exact this
      rcases (by omega : k ≠ 0 ∨ (k = 0 ∧ 16 ≤ N)) with hk0 | ⟨hk0, h16⟩
      · have k3 : (k == 0) = false := by rw [beq_eq_false_iff_ne]; exact hk0
        clear hpos hpw hs16 hk0 h1 h2
        go_wp2_with (first | (go_at_call 101; refine cw.mono ?_; rintro e w1 ⟨v1, rfl, hv1, hw1⟩; clear cw; have cd := CD.out w1 v1 hv1; clear CD) | (go_at_call 88; refine cd.mono ?_; rintro e w2 ⟨R, hR, rfl, hw2⟩; clear cd))
        have HR := (show Hid (NearQ D ((N : Int) + k) R) from HQ.out R hR)
        clear hR
        go_ret
        exact ⟨R, HR.out, rfl, hw1.trans (hw2.mono hw1.size)⟩
      · have k3 : (k == 0) = true := by rw [beq_iff_eq]; exact hk0
        have k4 : ¬ (N : Int) < 16 := by omega
        clear hpos hpw hs16 hk0 h1 h2
        go_wp2_with (first | (go_at_call 101; refine cw.mono ?_; rintro e w1 ⟨v1, rfl, hv1, hw1⟩; clear cw; have cd := CD.out w1 v1 hv1; clear CD) | (go_at_call 88; refine cd.mono ?_; rintro e w2 ⟨R, hR, rfl, hw2⟩; clear cd))
        have HR := (show Hid (NearQ D ((N : Int) + k) R) from HQ.out R hR)
        clear hR
        go_ret
        exact ⟨R, HR.out, rfl, hw1.trans (hw2.mono hw1.size)⟩
end Go.Proofs.YtellndmbllmjgaaGreatDoor
/- The walk of AppendRune onto a row of bytes that the call owns: a code point that is no half. -/
set_option linter.unusedVariables false
namespace Go.Proofs.YtellndmbllmjgaaGreatDoor.Ut
open Go.RowKit

set_option maxHeartbeats 1000000 in
set_option maxRecDepth 100000 in
theorem apr_one (B : Nat) (v : Value) (n : Nat) (xs : List Value) (r : Int) (h0 : 0 ≤ r) (h1 : r < 128) (w : World) (hown : w.ownsRow B 5 1 v n xs) (hlen : n + 4 ≤ 140737488355328) (hBw : B ≤ w.heap.size) :
    Calls Tryz.prog 153 #[v, .int .i32 r] w fun e w' => ∃ v', e = .returned v' ∧ w'.ownsRow B 5 1 v' (n + 1) (xs ++ [.int .u8 r]) ∧ ∃ o, (w.alloc o).grownBy w' v.ownBlock := by
  obtain ⟨i0, hi, hz0, hz1, hz2⟩ := info_parts info5
  have q3 : n + 1 ≤ maxLen := by unfold maxLen; omega
  go_enter Tryz.func153, Tryz.ntmps153
  go_wp2_with (first | (at_builtin; refine wpList_append_own _ rfl _ _ 92 rfl B 5 i0 (.int .u8 0) 1 1 Tryz.underlying92 hi hz0 hz1 hz2 rfl (by decide) _ _ _ rfl (hown.alloc _) ⟨w.heap.size, 0, none⟩ 1 1 [.int .u8 r] rfl rfl (cells_new w [.int .u8 r] 5) (one_ints .u8 [r]) q3 (by omega) (by simp; omega) ?_; intro v' w2 hown' hgrow _) | go_in)
  go_ret
  exact ⟨_, rfl, hown', _, hgrow⟩

set_option maxHeartbeats 1000000 in
set_option maxRecDepth 100000 in
theorem apr_two (B : Nat) (v : Value) (n : Nat) (xs : List Value) (r : Int) (h0 : 128 ≤ r) (h1 : r < 2048) (w : World) (hown : w.ownsRow B 5 1 v n xs) (hlen : n + 4 ≤ 140737488355328) (hBw : B ≤ w.heap.size) :
    Calls Tryz.prog 153 #[v, .int .i32 r] w fun e w' => ∃ v', e = .returned v' ∧ w'.ownsRow B 5 1 v' (n + 2) (xs ++ [.int .u8 (192 + r / 64), .int .u8 (128 + r % 64)]) ∧ ∃ o, (w.alloc o).grownBy w' v.ownBlock := by
  obtain ⟨i0, hi, hz0, hz1, hz2⟩ := info_parts info5
  have q3 : n + 2 ≤ maxLen := by unfold maxLen; omega
  go_enter Tryz.func153, Tryz.ntmps153
  go_wp2_with (first | (at_builtin; refine wpList_append_own _ rfl _ _ 92 rfl B 5 i0 (.int .u8 0) 1 1 Tryz.underlying92 hi hz0 hz1 hz2 rfl (by decide) _ _ _ rfl (hown.alloc _) ⟨w.heap.size, 0, none⟩ 2 2 [.int .u8 (192 + r / 64), .int .u8 (128 + r % 64)] rfl rfl (cells_new w [.int .u8 (192 + r / 64), .int .u8 (128 + r % 64)] 5) (one_ints .u8 [192 + r / 64, 128 + r % 64]) q3 (by omega) (by simp; omega) ?_; intro v' w2 hown' hgrow _) | go_in)
  go_ret
  exact ⟨_, rfl, hown', _, hgrow⟩

set_option maxHeartbeats 1000000 in
set_option maxRecDepth 100000 in
theorem apr_three (B : Nat) (v : Value) (n : Nat) (xs : List Value) (r : Int) (hr : (2048 ≤ r ∧ r < 55296) ∨ (57343 < r ∧ r ≤ 65535)) (w : World) (hown : w.ownsRow B 5 1 v n xs) (hlen : n + 4 ≤ 140737488355328) (hBw : B ≤ w.heap.size) :
    Calls Tryz.prog 153 #[v, .int .i32 r] w fun e w' => ∃ v', e = .returned v' ∧ w'.ownsRow B 5 1 v' (n + 3) (xs ++ [.int .u8 (224 + r / 4096), .int .u8 (128 + r / 64 % 64), .int .u8 (128 + r % 64)]) ∧ ∃ o, (w.alloc o).grownBy w' v.ownBlock := by
  obtain ⟨i0, hi, hz0, hz1, hz2⟩ := info_parts info5
  have q3 : n + 3 ≤ maxLen := by unfold maxLen; omega
  rcases hr with ⟨h0, h1⟩ | ⟨h0, h1⟩
  all_goals
    go_enter Tryz.func153, Tryz.ntmps153
    go_wp2_with (first | (at_builtin; refine wpList_append_own _ rfl _ _ 92 rfl B 5 i0 (.int .u8 0) 1 1 Tryz.underlying92 hi hz0 hz1 hz2 rfl (by decide) _ _ _ rfl (hown.alloc _) ⟨w.heap.size, 0, none⟩ 3 3 [.int .u8 (224 + r / 4096), .int .u8 (128 + r / 64 % 64), .int .u8 (128 + r % 64)] rfl rfl (cells_new w [.int .u8 (224 + r / 4096), .int .u8 (128 + r / 64 % 64), .int .u8 (128 + r % 64)] 5) (one_ints .u8 [224 + r / 4096, 128 + r / 64 % 64, 128 + r % 64]) q3 (by omega) (by simp; omega) ?_; intro v' w2 hown' hgrow _) | go_in)
    go_ret
    exact ⟨_, rfl, hown', _, hgrow⟩

set_option maxHeartbeats 1000000 in
set_option maxRecDepth 100000 in
theorem apr_four (B : Nat) (v : Value) (n : Nat) (xs : List Value) (r : Int) (h0 : 65535 < r) (h1 : r ≤ 1114111) (w : World) (hown : w.ownsRow B 5 1 v n xs) (hlen : n + 4 ≤ 140737488355328) (hBw : B ≤ w.heap.size) :
    Calls Tryz.prog 153 #[v, .int .i32 r] w fun e w' => ∃ v', e = .returned v' ∧ w'.ownsRow B 5 1 v' (n + 4) (xs ++ [.int .u8 (240 + r / 262144), .int .u8 (128 + r / 4096 % 64), .int .u8 (128 + r / 64 % 64), .int .u8 (128 + r % 64)]) ∧ ∃ o, (w.alloc o).grownBy w' v.ownBlock := by
  obtain ⟨i0, hi, hz0, hz1, hz2⟩ := info_parts info5
  have q3 : n + 4 ≤ maxLen := by unfold maxLen; omega
  go_enter Tryz.func153, Tryz.ntmps153
  go_wp2_with (first | (at_builtin; refine wpList_append_own _ rfl _ _ 92 rfl B 5 i0 (.int .u8 0) 1 1 Tryz.underlying92 hi hz0 hz1 hz2 rfl (by decide) _ _ _ rfl (hown.alloc _) ⟨w.heap.size, 0, none⟩ 4 4 [.int .u8 (240 + r / 262144), .int .u8 (128 + r / 4096 % 64), .int .u8 (128 + r / 64 % 64), .int .u8 (128 + r % 64)] rfl rfl (cells_new w [.int .u8 (240 + r / 262144), .int .u8 (128 + r / 4096 % 64), .int .u8 (128 + r / 64 % 64), .int .u8 (128 + r % 64)] 5) (one_ints .u8 [240 + r / 262144, 128 + r / 4096 % 64, 128 + r / 64 % 64, 128 + r % 64]) q3 (by omega) (by simp; omega) ?_; intro v' w2 hown' hgrow _) | go_in)
  go_ret
  exact ⟨_, rfl, hown', _, hgrow⟩

/-- **AppendRune, at every code point that is no half.** -/
theorem appendRune_any (B : Nat) (v : Value) (n : Nat) (xs : List Value) (r : Nat) (hr : r ≤ 1114111) (hh : ¬ (55296 ≤ r ∧ r < 57344)) (w : World) (hown : w.ownsRow B 5 1 v n xs) (hlen : n + 4 ≤ 140737488355328) (hBw : B ≤ w.heap.size) :
    Calls Tryz.prog 153 #[v, .int .i32 (r : Int)] w fun e w' => ∃ v', e = .returned v' ∧ w'.ownsRow B 5 1 v' (n + (Un.encR r).length) (xs ++ (Un.encR r).map bv) ∧ ∃ o, (w.alloc o).grownBy w' v.ownBlock := by
  unfold Un.encR
  by_cases h1 : r < 128
  · rw [if_pos h1]
    exact apr_one B v n xs r (by omega) (by omega) w hown hlen hBw
  rw [if_neg h1]
  by_cases h2 : r < 2048
  · rw [if_pos h2]
    exact apr_two B v n xs r (by omega) (by omega) w hown hlen hBw
  rw [if_neg h2]
  by_cases h3 : r < 65536
  · rw [if_pos h3]
    exact apr_three B v n xs r (by omega) w hown hlen hBw
  rw [if_neg h3]
  exact apr_four B v n xs r (by omega) (by omega) w hown hlen hBw

namespace Un
/-- The halves, as the document's answer looks for them. -/
theorem pointN_half (n b0 b1 b2 b3 : Nat) (hn : 3 ≤ n) (h0 : b0 = 237) (h1 : 160 ≤ b1) (h1' : b1 < 192) (h2 : 128 ≤ b2) (h2' : b2 < 192) : pointN n b0 b1 b2 b3 = (53248 + (b1 - 128) * 64 + (b2 - 128), 3) := by
  have g1 : ¬ (b0 < 128) := by omega
  have g2 : ¬ (b0 / 32 = 6 ∧ (1 < n ∧ b1 / 64 = 2)) := by omega
  have g3 : b0 / 16 = 14 ∧ (1 < n ∧ b1 / 64 = 2) ∧ (2 < n ∧ b2 / 64 = 2) := by omega
  have hd : Lib.decodeN n b0 b1 b2 b3 = (65533, 1) := by
    unfold Lib.decodeN
    rw [if_neg g1, if_neg g2, if_pos g3, if_neg (by omega)]
  unfold pointN
  rw [hd, if_pos ⟨rfl, hn, h0, by omega, by omega⟩]
  refine Prod.ext ?_ rfl
  show 55296 + b1 % 32 * 64 + b2 % 64 = 53248 + (b1 - 128) * 64 + (b2 - 128)
  omega
theorem pointN_plain (n b0 b1 b2 b3 : Nat) (h : ¬ (3 ≤ n ∧ b0 = 237 ∧ 160 ≤ b1 ∧ b1 < 192 ∧ 128 ≤ b2 ∧ b2 < 192)) : pointN n b0 b1 b2 b3 = Lib.decodeN n b0 b1 b2 b3 := by
  unfold pointN
  rw [if_neg (fun hc => h ⟨hc.2.1, hc.2.2.1, by omega, by omega, by omega, by omega⟩)]
end Un
end Go.Proofs.YtellndmbllmjgaaGreatDoor.Ut
