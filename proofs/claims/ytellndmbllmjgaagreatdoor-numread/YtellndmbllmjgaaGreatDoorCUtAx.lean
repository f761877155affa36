/- Trim, of bytes below 128 with no white space at the ends. -/
import Derived.Test.YtellndmbllmjgaaGreatDoorCFs1x
import Derived.Test.YtellndmbllmjgaaGreatDoorCAe1x
import Derived.Test.YtellndmbllmjgaaGreatDoorCSwCx
import Derived.Deep.DeepCutAuto
import Derived.Deep.CutBlock
import Derived.Deep.LoopGhost
set_option linter.unusedVariables false
namespace Go.Proofs.YtellndmbllmjgaaGreatDoor.Ut
open Go.RowKit Go.Shelf Go.Lib

theorem bytes_txt (l : List Nat) (h : ∀ c ∈ l, c < 256) : bytes (YtellndmbllmjgaaGreatDoor.txt l) = l := by
  unfold bytes
  rw [txt_list]
  induction l with
  | nil => rfl
  | cons c l ih =>
    rw [List.map_cons, List.map_cons, ih (fun x hx => h x (by simp [hx])), UInt8.toNat_ofNat', Nat.mod_eq_of_lt (h c (by simp))]
end Go.Proofs.YtellndmbllmjgaaGreatDoor.Ut
/- num.Read at a number's shape: the nearest word. -/
set_option linter.unusedVariables false
namespace Go.Proofs.YtellndmbllmjgaaGreatDoor
open Go.RowKit Go.Shelf Go.Sort Fs Fl

end Go.Proofs.YtellndmbllmjgaaGreatDoor
/- num.Read at 0, Infinity, NaN. -/
set_option linter.unusedVariables false
namespace Go.Proofs.YtellndmbllmjgaaGreatDoor
open Go.RowKit Go.Shelf Go.Sort Fs Fl

theorem frombits_7 (x : Int) (w : World) : (callFunc 7 #[.int .u64 x]).run Tryz.prog w = .ok (.value (.float .f64 x.toNat)) w := by
  rw [run_callFunc_extern (P := Tryz.prog) (f := 7) (e := Extern.MathFloatBits.float64frombits) Tryz.func7 (by kernel_rfl) (by kernel_rfl) (by kernel_rfl) (by kernel_rfl)]
  rfl
theorem to_i64 (b : Nat) (v : Int) (h : floatToIntVal .f64 b .i64 = some v) (w : World) : (convert 23 3 (.float .f64 b)).run Tryz.prog w = .ok (.int .i64 v) w :=
  run_convert_float_int w 23 3 .f64 .i64 b v (by rw [Tryz.underlying23]; rfl) Tryz.underlying3 h
set_option maxRecDepth 100000 in
theorem infS_any (s : Bool) (w : World) : Calls Tryz.prog 48 #[.int .i64 (if s then -1 else 1)] w fun e w' => e = .returned (.float .f64 (wd s 9218868437227405312)) ∧ w' = w := by
  have x1 := frombits_7 9218868437227405312
  have x2 := frombits_7 18442240474082181120
  cases s with
  | false =>
    go_enter Tryz.func48, Tryz.ntmps48
    go_wp2
    go_ret
    exact ⟨by rw [wd_false]; rfl, rfl⟩
  | true =>
    go_enter Tryz.func48, Tryz.ntmps48
    go_wp2
    go_ret
    exact ⟨by rw [wd_true]; rfl, rfl⟩
set_option maxRecDepth 100000 in
theorem nan_any (w : World) : Calls Tryz.prog 43 #[] w fun e w' => e = .returned (.float .f64 9221120237041090561) ∧ w' = w := by
  have x1 := frombits_7 9221120237041090561
  go_enter Tryz.func43, Tryz.ntmps43
  go_wp2
  go_ret
  exact ⟨rfl, rfl⟩
theorem one_int (s : Bool) (w : World) : (convert 23 3 (.float .f64 (wd s 4607182418800017408))).run Tryz.prog w = .ok (.int .i64 (if s then -1 else 1)) w := by
  cases s with
  | false => rw [wd_false]; exact to_i64 _ _ (by decide +kernel) w
  | true => rw [wd_true]; exact to_i64 _ _ (by decide +kernel) w
def infL : List Nat := [73, 110, 102, 105, 110, 105, 116, 121]
/-- The bits of what has no word. -/
def nb (a b : Nat) (w : World) : Nat := (Question.nanBits .f64 a b).cut (w.tape w.drawn (.nanBits .f64 a b))
theorem mul_nan (a b : Nat) (h : FloatKind.f64.format.mul a b = none) (ty : TypeId) (w : World) : (binOp .mul ty (.float .f64 a) (.float .f64 b)).run Tryz.prog w = .ok (.float .f64 (nb a b w)) w.drew := by
  simp [binOp, Op.floatArith, h, nb, Question.forced]
end Go.Proofs.YtellndmbllmjgaaGreatDoor
/- frontDecimal where there is no digit. -/
set_option linter.unusedVariables false
namespace Go.Proofs.YtellndmbllmjgaaGreatDoor
open Go.RowKit Go.Shelf Go.Sort Fs Fl
set_option maxRecDepth 100000 in
set_option maxHeartbeats 1000000 in
theorem fdec_nan (S : ByteArray) (hs : S.size ≤ 100000) (w : World)
    (hdot : ∀ h : 0 < S.size, (S[0]'h).toNat ≠ 46)
    (cr : ∀ w, Calls Tryz.prog 54 #[.string (S.extract 0 S.size), .int .i64 10] w fun e w' => e = .returned (.int .i64 0) ∧ w' = w) (nn : Nat)
    (cn : ∀ w, Calls Tryz.prog 43 #[] w fun e w' => e = .returned (.float .f64 nn) ∧ w' = w) :
    Calls Tryz.prog 97 #[.string S] w fun r w' => r = .returned (.tuple #[.float .f64 nn, .int .i64 0]) ∧ Below w.heap.size w w' := by
  have CR := (show Hid _ from cr)
  have HD := (show Hid _ from hdot)
  clear cr hdot
  go_enter Tryz.func97, Tryz.ntmps97
  go_wp2_with (first | (go_at_call 147; fail))
  have f0 := FdW.start w S
  refine (dh_any _ (w.heap.size + 1) w.heap.size 0 0 S _ hs (by omega) (by omega) f0.cella f0.cellb f0.fz rfl CR.out).mono ?_
  rintro ee W1 ⟨rfl, hW1⟩
  have f1 : FdW w W1 S 0 := by
    rw [hW1]
    exact (f0.set 0).drew
  have ca := f1.cella
  have cb := f1.cellb
  have HF1 : Hid (FdW w W1 S 0) := f1
  have hemp : S.extract 0 (0 + 0) = ByteArray.empty := by simp
  rw [hemp]
  obtain ⟨N, hN⟩ : ∃ N, S.size = N := ⟨_, rfl⟩
  rw [hN] at hs
  clear hW1 f0 f1 CR hemp
  rcases Nat.eq_zero_or_pos N with h0 | h0
  · subst h0
    clear HD
    go_wp2_with (first | (go_at_call 43; refine (cn _).mono ?_; rintro e w2 ⟨rfl, rfl⟩))
    go_ret2
    exact ⟨rfl, HF1.out.be⟩
  · have hlS : 0 < S.size := by omega
    obtain ⟨c, hc⟩ : ∃ c, (S[0]'hlS).toNat = c := ⟨_, rfl⟩
    have hc46 : ((c : Int) == 46) = false := by
      have := HD.out hlS
      rw [hc] at this
      rw [beq_eq_false_iff_ne]
      omega
    clear HD
    go_wp2_with (first | (go_at_call 43; refine (cn _).mono ?_; rintro e w2 ⟨rfl, rfl⟩))
    go_ret2
    exact ⟨rfl, HF1.out.be⟩
set_option maxRecDepth 100000 in
set_option maxHeartbeats 1000000 in
theorem fdec_point (S : ByteArray) (hs : S.size ≤ 100000) (hs0 : 0 < S.size) (w : World)
    (hdot : (S[0]'hs0).toNat = 46)
    (cr : ∀ w, Calls Tryz.prog 54 #[.string (S.extract 0 S.size), .int .i64 10] w fun e w' => e = .returned (.int .i64 0) ∧ w' = w)
    (cr2 : ∀ w, Calls Tryz.prog 54 #[.string (S.extract 1 S.size), .int .i64 10] w fun e w' => e = .returned (.int .i64 0) ∧ w' = w) (nn : Nat)
    (cn : ∀ w, Calls Tryz.prog 43 #[] w fun e w' => e = .returned (.float .f64 nn) ∧ w' = w) :
    Calls Tryz.prog 97 #[.string S] w fun r w' => r = .returned (.tuple #[.float .f64 nn, .int .i64 0]) ∧ Below w.heap.size w w' := by
  have CR := (show Hid _ from cr)
  have CR2 := (show Hid _ from cr2)
  clear cr cr2
  go_enter Tryz.func97, Tryz.ntmps97
  go_wp2_with (first | (go_at_call 147; fail))
  have f0 := FdW.start w S
  refine (dh_any _ (w.heap.size + 1) w.heap.size 0 0 S _ hs (by omega) (by omega) f0.cella f0.cellb f0.fz rfl CR.out).mono ?_
  rintro ee W1 ⟨rfl, hW1⟩
  have f1 : FdW w W1 S 0 := by
    rw [hW1]
    exact (f0.set 0).drew
  have ca := f1.cella
  have cb := f1.cellb
  have fz := f1.fz
  have HF1 : Hid (FdW w W1 S 0) := f1
  have hemp : S.extract 0 (0 + 0) = ByteArray.empty := by simp
  rw [hemp]
  have HS : Hid (S.size ≤ 100000) := hs
  obtain ⟨N, hN⟩ : ∃ N, S.size = N := ⟨_, rfl⟩
  have hN0 : 0 < N := by omega
  rw [hN] at hs
  clear hW1 f0 f1 CR hemp
  go_wp2_with (first | (go_at_call 147; fail))
  have f2 := HF1.out.set 1
  refine (dh_any _ (w.heap.size + 1) w.heap.size 1 0 S _ HS.out (by omega) (by omega) f2.cella f2.cellb f2.fz rfl CR2.out).mono ?_
  rintro ee W2 ⟨rfl, hW2⟩
  have f3 : FdW w W2 S 1 := by
    rw [hW2]
    exact (f2.set 1).drew
  have HF3 : Hid (FdW w W2 S 1) := f3
  have hemp : S.extract 1 (1 + 0) = ByteArray.empty := by simp
  rw [hemp]
  clear hW2 f2 f3 CR2 ca cb fz HF1 hemp
  go_wp2_with (first | (go_at_call 43; refine (cn _).mono ?_; rintro e w2 ⟨rfl, rfl⟩))
  go_ret2
  exact ⟨rfl, HF3.out.be⟩
end Go.Proofs.YtellndmbllmjgaaGreatDoor
/- ParseFloat and fromDecimal at digits of any number. -/
set_option linter.unusedVariables false
namespace Go.Proofs.YtellndmbllmjgaaGreatDoor
open Go.RowKit Go.Shelf Go.Sort Fs Fl

/-- ParseFloat at digits with a point ahead of them. -/
theorem parse_long (D X sg : List Nat) (n : Int) (hD : Dig D) (hD0 : 0 < D.length) (hDl : D.length ≤ 25000) (hfirst : D[0]? ≠ some 48) (hX : Dig X) (hX0 : 0 < X.length) (hX3 : X.length ≤ 3) (hsg : (sg = [] ∧ n = (vD X : Int)) ∨ (sg = [45] ∧ n = -(vD X : Int)))
    (hn : -400 ≤ n) (hn2 : n ≤ 400) (w : World) (hL : RLaid w) (hSL : SLaid w) :
    Calls Tryz.prog 193 #[.string (txt (48 :: 46 :: (D ++ 101 :: (sg ++ X)))), .int .i64 64] w fun r w' => ∃ F err, (∃ R, NearD D n R ∧ F = min R 9218868437227405312) ∧ r = .returned (.tuple #[.float .f64 F, err]) ∧ Below w.heap.size w w' := by
  have hsz : (txt (48 :: 46 :: (D ++ 101 :: (sg ++ X)))).size = 3 + D.length + sg.length + X.length := by rw [txt_size]; simp; omega
  have hsl : sg.length ≤ 1 := by rcases hsg with ⟨h, _⟩ | ⟨h, _⟩ <;> rw [h] <;> simp
  have hlt : ∀ (k c : Nat), (48 :: 46 :: (D ++ 101 :: (sg ++ X)))[k]? = some c → c < 256 := by
    intro k c h
    have hm := List.mem_of_getElem? h
    simp only [List.mem_cons, List.mem_append] at hm
    rcases hm with h | h | h | h | h | h
    · omega
    · omega
    · have := hD c h; omega
    · omega
    · rcases hsg with ⟨e, _⟩ | ⟨e, _⟩
      · rw [e] at h; simp at h
      · rw [e] at h; simp at h; omega
    · have := hX c h; omega
  have hat : ∀ (k c : Nat), (48 :: 46 :: (D ++ 101 :: (sg ++ X)))[k]? = some c → ∀ h : k < (txt (48 :: 46 :: (D ++ 101 :: (sg ++ X)))).size, ((txt (48 :: 46 :: (D ++ 101 :: (sg ++ X))))[k]'h).toNat = c := fun k c h => txt_get _ k c h (hlt k c h)
  refine public_of _ (by omega) (fun F => ∃ R, NearD D n R ∧ F = min R 9218868437227405312) w hL (parse_of _ (by omega) (fun F err => (∃ R, NearD D n R ∧ F = min R 9218868437227405312) ∧ (err = .nilIface ∨ err = .iface 182 (.int .i64 1))) w (prefix_of _ _ w ((atof_long _ D X sg n hsz hat hD hD0 hDl hfirst hX hX0 hX3 hsg hn hn2 w hL hSL).mono ?_)))
  rintro r w' ⟨R, err, h1, rfl, h3, h4⟩
  exact ⟨_, err, ⟨⟨R, h1, rfl⟩, h3⟩, rfl, h4⟩
/-- R is the word nearest to 0.D times 10 to the n, for every n. -/
def NearQ (D : List Nat) (n : Int) (R : Nat) : Prop := Near (vD D * 10 ^ n.toNat) (10 ^ ((-n).toNat + D.length)) R
theorem nearQ_ex (D : List Nat) (n : Int) : ∃ R, NearQ D n R := near_ex (p10 _)
theorem nearQ_one {D : List Nat} {n : Int} {R R' : Nat} (h : NearQ D n R) (h' : NearQ D n R') : R = R' := near_one (p10 _) h h'
theorem nearQ_of {D : List Nat} {n : Int} {R : Nat} (hn : -400 ≤ n) (h : NearD D n R) : NearQ D n R := by
  obtain ⟨H, hH⟩ : ∃ H, H = 400 := ⟨_, rfl⟩
  refine near_cross (p10 _) (p10 _) ?_ h
  rw [Nat.mul_assoc, Nat.mul_assoc, ← Nat.pow_add, ← Nat.pow_add]
  congr 2
  omega
theorem nearQ_nil (n : Int) : NearQ [] n 0 := by
  unfold NearQ Near Inn
  rw [up_zero, lo_zero, if_pos rfl]
  simp [vD]
theorem nearQ_over {D : List Nat} {n : Int} {R : Nat} (hD : Dig D) (hD0 : 0 < D.length) (hf : D[0]? ≠ some 48) (hn : 310 < n) (h : NearQ D n R) : min R 9218868437227405312 = 9218868437227405312 := by
  have hb := (vD_bounds D hD hD0 hf).1
  obtain ⟨H, hH⟩ : ∃ H, H = 309 := ⟨_, rfl⟩
  refine Nat.min_eq_right (near_over (d := H) (p10 _) (by omega) ?_ h)
  have h1 := Nat.mul_le_mul_right (10 ^ n.toNat) hb
  rw [← Nat.pow_add] at h1
  rw [← Nat.pow_add]
  exact Nat.le_trans (ten_mono (by omega)) h1
theorem nearQ_under {D : List Nat} {n : Int} (hD : Dig D) (hn : n ≤ -324) : NearQ D n 0 := by
  obtain ⟨H, hH⟩ : ∃ H, H = 324 := ⟨_, rfl⟩
  refine near_nothing (d := H) (by omega) ?_
  have hb := vD_lt D hD
  rw [show n.toNat = 0 by omega, Nat.pow_zero, Nat.mul_one]
  have h1 : vD D * 10 ^ H ≤ 10 ^ D.length * 10 ^ H := Nat.mul_le_mul_right _ (Nat.le_of_lt hb)
  rw [← Nat.pow_add] at h1
  exact Nat.le_trans h1 (ten_mono (by omega))
set_option maxRecDepth 100000 in
set_option maxHeartbeats 1000000 in
theorem fromDec_none (S T : ByteArray) (n n' : Int) (hs : S.size ≤ 30000) (hTs : T.size ≤ S.size) (hn' : n - ((S.size : Int) - (T.size : Int)) = n') (hb1 : -30000000000000000 ≤ n) (hb2 : n ≤ 30000000000000000) (hne : T.toList.isEmpty = true) (w : World)
    (ct : ∀ w, Calls Tryz.prog 93 #[.string S, .string ⟨#[48]⟩] w fun e w' => e = .returned (.string T) ∧ w' = w) :
    Calls Tryz.prog 149 #[.string S, .int .i64 n] w fun r w' => r = .returned (.float .f64 0) ∧ Below w.heap.size w w' := by
  go_enter Tryz.func149, Tryz.ntmps149
  go_wp2_with (first | (go_at_call 93; refine (ct _).mono ?_; rintro e w1 ⟨rfl, rfl⟩))
  go_ret
  exact ⟨rfl, Below.refl _ _⟩
set_option maxRecDepth 100000 in
set_option maxHeartbeats 1000000 in
theorem fromDec_far (S T : ByteArray) (n n' : Int) (hs : S.size ≤ 30000) (hTs : T.size ≤ S.size) (hn' : n - ((S.size : Int) - (T.size : Int)) = n') (hb1 : -30000000000000000 ≤ n) (hb2 : n ≤ 30000000000000000) (hne : T.toList.isEmpty = false) (hlow : n' < -400) (w : World)
    (ct : ∀ w, Calls Tryz.prog 93 #[.string S, .string ⟨#[48]⟩] w fun e w' => e = .returned (.string T) ∧ w' = w) :
    Calls Tryz.prog 149 #[.string S, .int .i64 n] w fun r w' => r = .returned (.float .f64 0) ∧ Below w.heap.size w w' := by
  go_enter Tryz.func149, Tryz.ntmps149
  go_wp2_with (first | (go_at_call 93; refine (ct _).mono ?_; rintro e w1 ⟨rfl, rfl⟩))
  go_ret
  exact ⟨rfl, Below.refl _ _⟩
set_option maxRecDepth 100000 in
set_option maxHeartbeats 1000000 in
theorem fromDec_high (S T : ByteArray) (n n' : Int) (hs : S.size ≤ 30000) (hTs : T.size ≤ S.size) (hn' : n - ((S.size : Int) - (T.size : Int)) = n') (hb1 : -30000000000000000 ≤ n) (hb2 : n ≤ 30000000000000000) (hne : T.toList.isEmpty = false) (hh : 400 < n') (w : World)
    (ct : ∀ w, Calls Tryz.prog 93 #[.string S, .string ⟨#[48]⟩] w fun e w' => e = .returned (.string T) ∧ w' = w) :
    Calls Tryz.prog 149 #[.string S, .int .i64 n] w fun r w' => r = .returned (.float .f64 9218868437227405312) ∧ Below w.heap.size w w' := by
  have h1 : ¬ n' < -400 := by omega
  go_enter Tryz.func149, Tryz.ntmps149
  have ci := infS_any false
  rw [wd_false] at ci
  go_wp2_with (first | (go_at_call 93; refine (ct _).mono ?_; rintro e w1 ⟨rfl, rfl⟩) | (go_at_call 48; refine (ci _).mono ?_; rintro e w2 ⟨rfl, rfl⟩))
  go_ret
  exact ⟨rfl, Below.refl _ _⟩
set_option maxRecDepth 100000 in
set_option maxHeartbeats 1000000 in
theorem fromDec_walk2 (S : ByteArray) (T : ByteArray) (I : ByteArray) (n n' : Int) (hs : S.size ≤ 30000) (hT0 : 0 < T.size) (hTs : T.size ≤ S.size) (hI : I.size ≤ 100) (hn' : n - ((S.size : Int) - (T.size : Int)) = n') (hn1 : -400 ≤ n') (hn2 : n' ≤ 400) (w : World) (hL : RLaid w) (F : Nat) (P : Nat → Prop)
    (ct : ∀ w, Calls Tryz.prog 93 #[.string S, .string ⟨#[48]⟩] w fun e w' => e = .returned (.string T) ∧ w' = w)
    (cf : ∀ w, RLaid w → Calls Tryz.prog 194 #[.int .i64 n', .int .i64 10] w fun e w' => e = .returned (.string I) ∧ Below w.heap.size w w')
    (cp : ∀ W, Below w.heap.size w W → Calls Tryz.prog 193 #[.string (⟨#[48, 46]⟩ ++ T ++ ⟨#[101]⟩ ++ I), .int .i64 64] W fun r w' => ∃ F err, P F ∧ r = .returned (.tuple #[.float .f64 F, err]) ∧ Below W.heap.size W w') :
    Calls Tryz.prog 149 #[.string S, .int .i64 n] w fun r w' => ∃ F, P F ∧ r = .returned (.float .f64 F) ∧ Below w.heap.size w w' := by
  have HL : Hid (RLaid w) := hL
  have CF := (show Hid _ from cf)
  have CP := (show Hid _ from cp)
  clear hL cf cp
  have q1 : ¬ n' < -400 := by omega
  have q2 : ¬ (400 : Int) < n' := by omega
  have hne : T.toList.isEmpty = false := by
    rw [Lib.toList_data]
    cases h : T.data.toList with
    | nil => exact absurd (by rw [Lib.size_eq, h]; rfl) (Nat.ne_of_gt hT0)
    | cons _ _ => rfl
  go_enter Tryz.func149, Tryz.ntmps149
  go_wp2_with (first | (go_at_call 93; refine (ct _).mono ?_; rintro e w1 ⟨rfl, rfl⟩) | (go_at_call 194; fail))
  refine (CF.out _ HL.out).mono ?_
  rintro e w2 ⟨rfl, hb2⟩
  have cp := CP.out w2 hb2
  have z1 : (ByteArray.mk #[48, 46]).size = 2 := rfl
  have z2 : (ByteArray.mk #[101]).size = 1 := rfl
  clear CP CF ct hne
  go_wp2_with (first | (go_at_call 193; fail))
  refine cp.mono ?_
  rintro e w3 ⟨F, err, hP, rfl, hb3⟩
  have HP : Hid (P F) := hP
  clear hP cp
  go_wp2
  go_ret
  exact ⟨F, HP.out, rfl, hb2.trans (hb3.mono hb2.size)⟩
theorem trim_all (D : List Nat) (hD : Dig D) (hf : D[0]? ≠ some 48) (z : Nat) (w : World) : Calls Tryz.prog 93 #[.string (txt (List.replicate z 48 ++ D)), .string ⟨#[48]⟩] w fun e w' => e = .returned (.string (txt D)) ∧ w' = w := by
  have := Tryz.strings_TrimLeft_one (txt (List.replicate z 48 ++ D)) 48 (by decide) w
  rw [trim_zeros D hD hf z] at this
  exact this
/-- **fromDecimal: digits of any number, any power of ten: the nearest word.** -/
theorem fromDecimal_all (z : Nat) (D : List Nat) (n : Int) (hz0 : z + D.length ≤ 25000) (hD : Dig D) (hf : D[0]? ≠ some 48) (hb1 : -30000000000000000 ≤ n) (hb2 : n ≤ 30000000000000000) (w : World) (hL : RLaid w) (hSL : SLaid w) :
    Calls Tryz.prog 149 #[.string (txt (List.replicate z 48 ++ D)), .int .i64 n] w fun r w' => ∃ R, NearQ D (n - z) R ∧ r = .returned (.float .f64 (min R 9218868437227405312)) ∧ Below w.heap.size w w' := by
  obtain ⟨n', hn'⟩ : ∃ n' : Int, n' = n - (z : Int) := ⟨_, rfl⟩
  rw [← hn']
  have ct := trim_all D hD hf z
  have hs1 := txt_size (List.replicate z 48 ++ D)
  have hs2 := txt_size D
  rw [List.length_append, List.length_replicate] at hs1
  rcases Nat.eq_zero_or_pos D.length with h0 | h0
  · have hnil : D = [] := List.eq_nil_of_length_eq_zero h0
    subst hnil
    refine (fromDec_none _ _ n n' (by omega) (by omega) (by rw [hs1, hs2]; omega) hb1 hb2 (by rw [Lib.toList_data]; rfl) w ct).mono ?_
    rintro r w' ⟨rfl, hb⟩
    exact ⟨0, nearQ_nil n', rfl, hb⟩
  · have hne : (txt D).toList.isEmpty = false := by
      rw [Lib.toList_data]
      cases h : (txt D).data.toList with
      | nil => exact absurd (by rw [← hs2, Lib.size_eq, h]; rfl) (Nat.ne_of_gt h0)
      | cons _ _ => rfl
    rcases (by omega : n' < -400 ∨ 400 < n' ∨ (-400 ≤ n' ∧ n' ≤ 400)) with h1 | h1 | ⟨h1, h2⟩
    · refine (fromDec_far _ _ n n' (by omega) (by omega) (by rw [hs1, hs2]; omega) hb1 hb2 hne h1 w ct).mono ?_
      rintro r w' ⟨rfl, hb⟩
      exact ⟨0, nearQ_under hD (by omega), rfl, hb⟩
    · refine (fromDec_high _ _ n n' (by omega) (by omega) (by rw [hs1, hs2]; omega) hb1 hb2 hne h1 w ct).mono ?_
      rintro r w' ⟨rfl, hb⟩
      obtain ⟨R, hR⟩ := nearQ_ex D n'
      exact ⟨R, hR, by rw [nearQ_over hD h0 hf (by omega) hR], hb⟩
    · obtain ⟨sg, hsg1, hsg2⟩ := itoa_txt n'
      have hXl := nDigits_le n'.natAbs 3 (by omega) (by decide)
      have hs3 := txt_size (sg ++ decN n'.natAbs)
      rw [List.length_append, decN_length] at hs3
      have hsl : sg.length ≤ 1 := by rcases hsg2 with ⟨h, _⟩ | ⟨h, _⟩ <;> rw [h] <;> simp
      have key := fromDec_walk2 (txt (List.replicate z 48 ++ D)) (txt D) (txt (sg ++ decN n'.natAbs)) n n' (by omega) (by omega) (by omega) (by omega) (by rw [hs1, hs2]; omega) (by omega) (by omega) w hL 0 (fun F => ∃ R, NearQ D n' R ∧ F = min R 9218868437227405312) ct
      have e1 : (⟨#[48, 46]⟩ : ByteArray) ++ txt D ++ ⟨#[101]⟩ ++ txt (sg ++ decN n'.natAbs) = txt (48 :: 46 :: (D ++ 101 :: (sg ++ decN n'.natAbs))) := by
        have a1 : (⟨#[48, 46]⟩ : ByteArray) = txt [48, 46] := rfl
        have a2 : (⟨#[101]⟩ : ByteArray) = txt [101] := rfl
        rw [a1, a2, txt_append, txt_append, txt_append]
        simp
      refine (key (fun w hw => by have := format_int n' (by omega) (by omega) w hw.laid; rwa [hsg1] at this) ?_).mono ?_
      · intro W hW
        rw [e1]
        refine (parse_long D (decN n'.natAbs) sg n' hD h0 (by omega) hf (dig_decN _) (by rw [decN_length]; exact Lib.nDigits_pos _) (by rw [decN_length]; exact hXl) hsg2 h1 h2 W (hL.below hW) (hSL.below hW)).mono ?_
        rintro r w' ⟨F, err, ⟨R, q1, q2⟩, q3, q4⟩
        exact ⟨F, err, ⟨R, nearQ_of h1 q1, q2⟩, q3, q4⟩
      · rintro r w' ⟨F, ⟨R, q1, q2⟩, q3, q4⟩
        exact ⟨R, q1, by rw [q3, q2], q4⟩
end Go.Proofs.YtellndmbllmjgaaGreatDoor
/- frontDecimal at any text: what it is taken for. -/
set_option linter.unusedVariables false
namespace Go.Proofs.YtellndmbllmjgaaGreatDoor
open Go.RowKit Go.Shelf Go.Sort Fs Fl

/-- A decimal number at the front: its digits, how many stand ahead of the point, its exponent, how many bytes stand ahead of that. -/
def numL (l : List Nat) : Option (List Nat × Nat × Option (Bool × List Nat × Nat) × Nat) :=
  if (l.drop (digL l).length).head? = some 46 then
    (if digL l ++ digL (l.drop ((digL l).length + 1)) = [] then none
     else some (digL l ++ digL (l.drop ((digL l).length + 1)), (digL l).length, expL (l.drop ((digL l).length + 1 + (digL (l.drop ((digL l).length + 1))).length)), (digL l).length + 1 + (digL (l.drop ((digL l).length + 1))).length))
  else if digL l = [] then none else some (digL l, (digL l).length, expL (l.drop (digL l).length), (digL l).length)
/-- What the exponent is. -/
def ExIs (far : Nat) (ex : Option (Bool × List Nat × Nat)) (e : Int) : Prop :=
  match ex with
  | none => e = 0
  | some r => ∃ v : Nat, CapE far r.2.1 v ∧ e = (if r.1 then -1 else 1) * (v : Int)
def exN (ex : Option (Bool × List Nat × Nat)) : Nat := match ex with | none => 0 | some r => r.2.2
/-- What the number is. -/
def NumIs (far : Nat) (A : List Nat) (P : Nat) (ex : Option (Bool × List Nat × Nat)) (F : Nat) : Prop :=
  ∃ z D e R, A = List.replicate z 48 ++ D ∧ Dig D ∧ D[0]? ≠ some 48 ∧ ExIs far ex e ∧ NearQ D ((P : Int) + e - z) R ∧ F = min R 9218868437227405312
theorem zeros_split : ∀ (A : List Nat), ∃ z D, A = List.replicate z 48 ++ D ∧ D[0]? ≠ some 48
  | [] => ⟨0, [], rfl, by simp⟩
  | c :: A => by
    by_cases h : c = 48
    · subst h
      obtain ⟨z, D, h1, h2⟩ := zeros_split A
      exact ⟨z + 1, D, by rw [h1, List.replicate_succ]; rfl, h2⟩
    · exact ⟨0, c :: A, rfl, by simpa using h⟩
theorem of_bytes (U : ByteArray) (l : List Nat) (h : Ut.bytes U = l) : U = txt l := by
  rw [← h]
  unfold Ut.bytes txt
  apply ByteArray.ext
  apply Array.ext'
  have back : ∀ l : List UInt8, (l.map UInt8.toNat).map UInt8.ofNat = l := by
    intro l
    induction l with
    | nil => rfl
    | cons x l ih => rw [List.map_cons, List.map_cons, ih, UInt8.ofNat_toNat]
  rw [back]
theorem bytes_cut (S : ByteArray) (i j : Nat) (hij : i ≤ j) (hj : j ≤ S.size) : Ut.bytes (S.extract i j) = ((Ut.bytes S).drop i).take (j - i) := by
  unfold Ut.bytes
  rw [← List.map_drop, ← List.map_take]
  congr 1
  simp
theorem digL_take (l : List Nat) : l.take (digL l).length = digL l := (List.prefix_iff_eq_take.1 (List.takeWhile_prefix (fun c => decide (digV c < 10)) (l := l))).symm
theorem exIs_bounds {ex : Option (Bool × List Nat × Nat)} {e : Int} (h : ExIs 1125899906842624 ex e) : -20000000000000000 ≤ e ∧ e ≤ 20000000000000000 := by
  unfold ExIs at h
  cases ex with
  | none => simp at h; omega
  | some r =>
    obtain ⟨v, ⟨h1, _⟩, h2⟩ := h
    cases hr : r.1
    · rw [hr] at h2; simp at h2; omega
    · rw [hr] at h2; simp at h2; omega
/-- frontExponent, said by what it is. -/
theorem fe_is (S : ByteArray) (hs : S.size ≤ 100000) (w : World) : Calls Tryz.prog 148 #[.string S] w fun r w' => ∃ e, ExIs 1125899906842624 (expL (Ut.bytes S)) e ∧ r = .returned (.tuple #[.int .i64 e, .int .i64 (exN (expL (Ut.bytes S)) : Int)]) ∧ Below w.heap.size w w' := by
  refine (fe_all S hs w).mono ?_
  rintro r w' ⟨h, hb⟩
  cases hx : expL (Ut.bytes S) with
  | none =>
    rw [hx] at h
    simp only at h
    exact ⟨0, rfl, h, hb⟩
  | some q =>
    rw [hx] at h
    simp only at h
    obtain ⟨v, h1, h2⟩ := h
    exact ⟨_, ⟨v, h1, rfl⟩, h2, hb⟩
theorem exN_le (l : List Nat) : exN (expL l) ≤ l.length := by
  cases l with
  | nil => simp [expL, exN]
  | cons c t =>
    simp only [expL]
    split
    · split
      · simp [exN]
      · simp only [exN, List.length_cons]
        have h1 := runL_le 10 (t.drop (signL t).2)
        rw [← digL_len, List.length_drop] at h1
        have h2 := signL_le t
        omega
    · simp [exN]
/-- fromDecimal at digits of any kind. -/
theorem fromDecimal_is (A : List Nat) (hA : Dig A) (hl : A.length ≤ 25000) (P : Nat) (hP : P ≤ 100000) (ex : Option (Bool × List Nat × Nat)) (e : Int) (he : ExIs 1125899906842624 ex e) (w : World) (hL : RLaid w) (hSL : SLaid w) :
    Calls Tryz.prog 149 #[.string (txt A), .int .i64 ((P : Int) + e)] w fun r w' => ∃ F, NumIs 1125899906842624 A P ex F ∧ r = .returned (.float .f64 F) ∧ Below w.heap.size w w' := by
  obtain ⟨z, D, h1, h2⟩ := zeros_split A
  have hD : Dig D := by rw [h1] at hA; exact hA.right
  have hb := exIs_bounds he
  have hzl : z + D.length ≤ 25000 := by rw [h1, List.length_append, List.length_replicate] at hl; exact hl
  have := fromDecimal_all z D ((P : Int) + e) hzl hD h2 (by omega) (by omega) w hL hSL
  rw [← h1] at this
  refine this.mono ?_
  rintro r w' ⟨R, q1, q2, q3⟩
  exact ⟨_, ⟨z, D, e, R, h1, hD, h2, he, q1, rfl⟩, q2, q3⟩
set_option maxHeartbeats 1000000 in
/-- **frontDecimal at any text.** -/
theorem frontDecimal_all (S : ByteArray) (hs : S.size ≤ 25000) (w : World) (hL : RLaid w) (hSL : SLaid w) :
    Calls Tryz.prog 97 #[.string S] w fun r w' =>
      (match numL (Ut.bytes S) with
        | none => r = .returned (.tuple #[.float .f64 9221120237041090561, .int .i64 0])
        | some q => ∃ F, NumIs 1125899906842624 q.1 q.2.1 q.2.2.1 F ∧ r = .returned (.tuple #[.float .f64 F, .int .i64 ((q.2.2.2 + exN q.2.2.1 : Nat) : Int)])) ∧ Below w.heap.size w w' := by
  have hl := Ut.bytes_len S
  obtain ⟨l, hlb⟩ : ∃ l, Ut.bytes S = l := ⟨_, rfl⟩
  rw [hlb] at hl
  have hrl := runL_le 10 l
  rw [← digL_len, hl] at hrl
  obtain ⟨L, hLd⟩ : ∃ L, L = (digL l).length := ⟨_, rfl⟩
  have crun : ∀ k, k ≤ S.size → ∀ w, Calls Tryz.prog 54 #[.string (S.extract k S.size), .int .i64 10] w fun e w' => e = .returned (.int .i64 ((digL (l.drop k)).length : Int)) ∧ w' = w := by
    intro k hk w
    have := run_any (S.extract k S.size) 10 (by decide) (by rw [size_drop]; omega) w
    rw [Ut.bytes_drop, hlb] at this
    exact this
  have cr0 := crun 0 (by omega)
  rw [List.drop_zero, ← hLd] at cr0
  have cexp : ∀ k w, Calls Tryz.prog 148 #[.string (S.extract k S.size)] w fun r w' => ∃ e, ExIs 1125899906842624 (expL (l.drop k)) e ∧ r = .returned (.tuple #[.int .i64 e, .int .i64 (exN (expL (l.drop k)) : Int)]) ∧ Below w.heap.size w w' := by
    intro k w
    have := fe_is (S.extract k S.size) (by rw [size_drop]; omega) w
    rw [Ut.bytes_drop, hlb] at this
    exact this
  have hA0 : S.extract 0 L = txt (digL l) := by
    refine of_bytes _ _ ?_
    rw [bytes_cut S 0 L (by omega) (by omega), hlb, List.drop_zero, Nat.sub_zero, hLd, digL_take]
  have hget : ∀ (h : L < S.size), (Ut.bytes S)[L]? = some ((S[L]'h).toNat) := by
    intro h
    have h2 : L < (Ut.bytes S).length := by rw [Ut.bytes_len]; exact h
    have := Ut.bytes_at S L h
    rw [List.getElem?_eq_getElem h2] at this ⊢
    simp at this
    rw [this]
  rw [hlb] at hget ⊢
  have hhead : (l.drop L).head? = l[L]? := List.head?_drop ..
  by_cases hdot : (l.drop L).head? = some 46
  · have hLs : L < S.size := by
      rw [hhead] at hdot
      have := (List.getElem?_eq_some_iff.1 hdot).1
      omega
    have hch : (S[L]'hLs).toNat = 46 := by
      have := hget hLs
      rw [← hhead, hdot] at this
      injection this with h; exact h.symm
    obtain ⟨M, hM⟩ : ∃ M, M = (digL (l.drop (L + 1))).length := ⟨_, rfl⟩
    have hMl : L + 1 + M ≤ S.size := by
      have := runL_le 10 (l.drop (L + 1))
      rw [← digL_len, List.length_drop] at this
      omega
    have cr1 := crun (L + 1) (by omega)
    rw [← hM] at cr1
    by_cases hnone : digL l ++ digL (l.drop (L + 1)) = []
    · have hz := List.append_eq_nil_iff.1 hnone
      have hL0 : L = 0 := by rw [hLd, hz.1]; rfl
      have hM0 : M = 0 := by rw [hM, hz.2]; rfl
      have hnum : numL l = none := by
        unfold numL
        rw [← hLd, if_pos hdot, if_pos hnone]
      rw [hnum]
      subst hL0
      rw [hM0] at cr1
      refine (fdec_point S (by omega) hLs w hch cr0 cr1 9221120237041090561 nan_any).mono ?_
      rintro r w' ⟨rfl, hb⟩
      exact ⟨rfl, hb⟩
    · have hnum : numL l = some (digL l ++ digL (l.drop (L + 1)), L, expL (l.drop (L + 1 + M)), L + 1 + M) := by
        unfold numL
        rw [← hLd, if_pos hdot, if_neg hnone, ← hM]
      rw [hnum]
      have hpos : 0 < L + M := by
        rcases Nat.eq_zero_or_pos (L + M) with h | h
        · exfalso
          apply hnone
          have e1 : (digL l).length = 0 := by omega
          have e2 : (digL (l.drop (L + 1))).length = 0 := by omega
          rw [List.eq_nil_of_length_eq_zero e1, List.eq_nil_of_length_eq_zero e2]; rfl
        · exact h
      have hen := exN_le (l.drop (L + 1 + M))
      rw [List.length_drop] at hen
      have hB0 : S.extract (L + 1) (L + 1 + M) = txt (digL (l.drop (L + 1))) := by
        refine of_bytes _ _ ?_
        rw [bytes_cut S (L + 1) (L + 1 + M) (by omega) hMl, hlb, show L + 1 + M - (L + 1) = M by omega, hM, digL_take]
      refine (fdecDotG_any S L M (exN (expL (l.drop (L + 1 + M)))) (ExIs 1125899906842624 (expL (l.drop (L + 1 + M)))) (NumIs 1125899906842624 (digL l ++ digL (l.drop (L + 1))) L (expL (l.drop (L + 1 + M)))) (by omega) hpos (by omega) (fun e he => exIs_bounds he) w (fun h => hch) cr0 cr1 (cexp (L + 1 + M)) (fun e he W hW => ?_)).mono ?_
      · rw [hA0, hB0, txt_append]
        refine fromDecimal_is _ ((digL_dig _).append (digL_dig _)) ?_ L (by omega) _ e he W (hL.below hW) (hSL.below hW)
        rw [List.length_append, ← hLd, ← hM]; omega
      · rintro r w' ⟨F, h1, rfl, h3⟩
        exact ⟨⟨F, h1, rfl⟩, h3⟩
  · by_cases hnone : digL l = []
    · have hL0 : L = 0 := by rw [hLd, hnone]; rfl
      have hnum : numL l = none := by
        unfold numL
        rw [← hLd, if_neg hdot, if_pos hnone]
      rw [hnum]
      subst hL0
      refine (fdec_nan S (by omega) w (fun h e => hdot ?_) cr0 9221120237041090561 nan_any).mono ?_
      · rw [hhead, hget h, e]
      · rintro r w' ⟨rfl, hb⟩
        exact ⟨rfl, hb⟩
    · have hnum : numL l = some (digL l, L, expL (l.drop L), L) := by
        unfold numL
        rw [← hLd, if_neg hdot, if_neg hnone]
      rw [hnum]
      have hpos : 0 < L := by
        rcases Nat.eq_zero_or_pos L with h | h
        · exact absurd (List.eq_nil_of_length_eq_zero (by omega)) hnone
        · exact h
      have hen := exN_le (l.drop L)
      rw [List.length_drop] at hen
      refine (fdecG_any S L (exN (expL (l.drop L))) (ExIs 1125899906842624 (expL (l.drop L))) (NumIs 1125899906842624 (digL l) L (expL (l.drop L))) (by omega) hpos (by omega) (by omega) (fun e he => exIs_bounds he) w (fun h e => hdot (by rw [hhead, hget h, e])) cr0 (cexp L) (fun e he W hW => ?_)).mono ?_
      · rw [hA0]
        exact fromDecimal_is _ (digL_dig _) (by omega) L (by omega) _ e he W (hL.below hW) (hSL.below hW)
      · rintro r w' ⟨F, h1, rfl, h3⟩
        exact ⟨⟨F, h1, rfl⟩, h3⟩
end Go.Proofs.YtellndmbllmjgaaGreatDoor
/- The document's number: what stands ahead of the exponent. -/
set_option linter.unusedVariables false
namespace Go.Proofs.YtellndmbllmjgaaGreatDoor
open Go.RowKit Go.Shelf Go.Sort Fs Fl
/-- Digits so far. -/
inductive NuR (w : World) (l : List Nat) (L : Nat) : Value → Value → World → Prop
  | mk (k : Nat) (hk : k ≤ L) : NuR w l L (.int .i64 (k : Int)) (.string (txt (l.take k))) w
/-- Digits behind the point so far. -/
inductive NvR (w : World) (A B : List Nat) (L M : Nat) : Value → Value → Value → World → Prop
  | mk (k : Nat) (hk : k ≤ M) : NvR w A B L M (.string (txt (A ++ B.take k))) (.int .i64 (-(k : Int))) (.int .i64 ((L + 1 + k : Nat) : Int)) w
/-- The exponent's digits so far. -/
inductive NwR (w : World) (X : List Nat) (j0 : Nat) : Value → Value → World → Prop
  | mk (k v : Nat) (hk : k ≤ X.length) (hv : CapE 100000 (X.take k) v) (hv2 : v < 1000000) : NwR w X j0 (.int .i64 ((j0 + k : Nat) : Int)) (.int .i64 (v : Int)) w
theorem txt_snocE (S : ByteArray) (l : List Nat) (hl : Ut.bytes S = l) (A : List Nat) (k c : Nat) (hk : l[k]? = some c) : txt A ++ S.extract k (k + 1) = txt (A ++ [c]) := by
  have e : S = txt l := of_bytes S l hl
  obtain ⟨hlt, hc⟩ := List.getElem?_eq_some_iff.1 hk
  rw [e, txt_extract, txt_append]
  congr 2
  rw [show k + 1 - k = 1 by omega, List.drop_eq_getElem_cons hlt, hc]
  rfl
theorem cut_one (S : ByteArray) (k : Nat) (h : k < S.size) : (S.extract k (k + 1)).size = 1 := by
  rw [← Ut.bytes_len, bytes_cut S k (k + 1) (by omega) (by omega), List.length_take, List.length_drop, Ut.bytes_len]
  omega
theorem byte_of (S : ByteArray) (l : List Nat) (hl : Ut.bytes S = l) (k : Nat) (h : k < S.size) : l[k]? = some (S[k]'h).toNat := by
  have h2 : k < l.length := by rw [← hl, Ut.bytes_len]; exact h
  have := Ut.bytes_at S k h
  rw [hl, List.getElem?_eq_getElem h2] at this
  rw [List.getElem?_eq_getElem h2, this]
  rfl
theorem take_next (B : List Nat) (k c : Nat) (h : B[k]? = some c) : B.take (k + 1) = B.take k ++ [c] := by
  obtain ⟨hlt, hc⟩ := List.getElem?_eq_some_iff.1 h
  rw [List.take_succ_eq_append_getElem hlt, hc]
/-- Is there a point behind the digits; all digits; how many behind the point; where the exponent would stand. -/
def ptQ (l : List Nat) : Bool := decide (l[(digL l).length]? = some 46)
def dgB (l : List Nat) : List Nat := if ptQ l then digL (l.drop ((digL l).length + 1)) else []
def dgA (l : List Nat) : List Nat := digL l ++ dgB l
def exAt (l : List Nat) : Nat := if ptQ l && !(dgA l).isEmpty then (digL l).length + 1 + (dgB l).length else (digL l).length
theorem numL_is (l : List Nat) : numL l = if dgA l = [] then none else some (dgA l, (digL l).length, expL (l.drop (exAt l)), exAt l) := by
  unfold numL
  rw [List.head?_drop]
  by_cases h : l[(digL l).length]? = some 46
  · have hp : ptQ l = true := by unfold ptQ; rw [decide_eq_true h]
    have eB : dgB l = digL (l.drop ((digL l).length + 1)) := by unfold dgB; rw [hp]; rfl
    rw [if_pos h]
    have eA : digL l ++ digL (l.drop ((digL l).length + 1)) = dgA l := by unfold dgA; rw [eB]
    rw [eA]
    split
    · rfl
    · rename_i hne
      have hx : exAt l = (digL l).length + 1 + (digL (l.drop ((digL l).length + 1))).length := by
        unfold exAt
        have : (dgA l).isEmpty = false := by
          cases hh : dgA l with
          | nil => exact absurd hh hne
          | cons _ _ => rfl
        rw [hp, this, eB]
        rfl
      rw [hx]
  · have hp : ptQ l = false := by unfold ptQ; rw [decide_eq_false h]
    have eB : dgB l = [] := by unfold dgB; rw [hp]; rfl
    rw [if_neg h]
    have eA : dgA l = digL l := by unfold dgA; rw [eB, List.append_nil]
    have hx : exAt l = (digL l).length := by unfold exAt; rw [hp]; rfl
    rw [eA, hx]
theorem expL_at (l : List Nat) (C c0 : Nat) (h : l[C]? = some c0) : expL (l.drop C) = if c0 = 101 ∨ c0 = 69 then (if digL (l.drop (C + 1 + (signL (l.drop (C + 1))).2)) = [] then none else some ((signL (l.drop (C + 1))).1, digL (l.drop (C + 1 + (signL (l.drop (C + 1))).2)), 1 + (signL (l.drop (C + 1))).2 + (digL (l.drop (C + 1 + (signL (l.drop (C + 1))).2))).length)) else none := by
  obtain ⟨hlt, hc⟩ := List.getElem?_eq_some_iff.1 h
  rw [List.drop_eq_getElem_cons hlt, hc]
  simp only [expL, List.drop_drop]
theorem expL_end (l : List Nat) (C : Nat) (h : l.length ≤ C) : expL (l.drop C) = none := by
  rw [List.drop_of_length_le h]
  rfl
theorem sign_at (l : List Nat) (C c : Nat) (h : l[C]? = some c) : signL (l.drop C) = if c = 45 then (true, 1) else if c = 43 then (false, 1) else (false, 0) := by
  obtain ⟨hlt, hc⟩ := List.getElem?_eq_some_iff.1 h
  rw [List.drop_eq_getElem_cons hlt, hc]
  rfl
theorem sign_end (l : List Nat) (C : Nat) (h : l.length ≤ C) : signL (l.drop C) = (false, 0) := by
  rw [List.drop_of_length_le h]
  rfl
theorem exAt_le (l : List Nat) : exAt l ≤ l.length := by
  have h1 := runL_le 10 l
  rw [← digL_len] at h1
  unfold exAt
  split
  · rename_i h
    rw [Bool.and_eq_true] at h
    have hp : l[(digL l).length]? = some 46 := of_decide_eq_true h.1
    have h2 := (List.getElem?_eq_some_iff.1 hp).1
    have h3 := runL_le 10 (l.drop ((digL l).length + 1))
    rw [← digL_len, List.length_drop] at h3
    have h4 : dgB l = digL (l.drop ((digL l).length + 1)) := by unfold dgB; rw [h.1]; rfl
    rw [h4]
    omega
  · exact h1
end Go.Proofs.YtellndmbllmjgaaGreatDoor
