/- num.Read at 0, Infinity, NaN. -/
import Derived.Test.YtellndmbllmjgaaGreatDoorCRsA
set_option linter.unusedVariables false
namespace Go.Proofs.YtellndmbllmjgaaGreatDoor
open Go.RowKit Go.Shelf Go.Sort Fs Fl

theorem frombits_7 (x : Int) (w : World) : (callFunc 7 #[.int .u64 x]).run Tryz.prog w = .ok (.value (.float .f64 x.toNat)) w := by
  rw [run_callFunc_extern (P := Tryz.prog) (f := 7) (e := Extern.MathFloatBits.float64frombits) Tryz.func7 (by kernel_rfl) (by kernel_rfl) (by kernel_rfl) (by kernel_rfl)]
  rfl
theorem to_i64 (b : Nat) (v : Int) (h : floatToIntVal .f64 b .i64 = some v) (w : World) : (convert 23 3 (.float .f64 b)).run Tryz.prog w = .ok (.int .i64 v) w :=
  run_convert_float_int w 23 3 .f64 .i64 b v (by rw [Tryz.underlying23]; rfl) Tryz.underlying3 h
set_option maxRecDepth 100000 in
theorem inf_any (s : Bool) (w : World) : Calls Tryz.prog 48 #[.int .i64 (if s then -1 else 1)] w fun e w' => e = .returned (.float .f64 (wd s 9218868437227405312)) ∧ w' = w := by
  have x1 := frombits_7 9218868437227405312
  have x2 := frombits_7 18442240474082181120
  cases s with
  | false =>
    go_enter Tryz.func48, Tryz.ntmps48
    go_wp2
    go_ret
    exact ⟨by rw [wd_false]; rfl, rfl⟩
  | true =>
    go_enter Tryz.func48, Tryz.ntmps48
    go_wp2
    go_ret
    exact ⟨by rw [wd_true]; rfl, rfl⟩
set_option maxRecDepth 100000 in
theorem nan_any (w : World) : Calls Tryz.prog 43 #[] w fun e w' => e = .returned (.float .f64 9221120237041090561) ∧ w' = w := by
  have x1 := frombits_7 9221120237041090561
  go_enter Tryz.func43, Tryz.ntmps43
  go_wp2
  go_ret
  exact ⟨rfl, rfl⟩
theorem one_int (s : Bool) (w : World) : (convert 23 3 (.float .f64 (wd s 4607182418800017408))).run Tryz.prog w = .ok (.int .i64 (if s then -1 else 1)) w := by
  cases s with
  | false => rw [wd_false]; exact to_i64 _ _ (by decide +kernel) w
  | true => rw [wd_true]; exact to_i64 _ _ (by decide +kernel) w
def infL : List Nat := [73, 110, 102, 105, 110, 105, 116, 121]
set_option maxRecDepth 100000 in
set_option maxHeartbeats 1000000 in
theorem front_inf (S T : ByteArray) (s : Bool) (hs : S.size ≤ 100000) (hts : T.size ≤ S.size) (hT8 : T.size = 8) (hpre : Lib.hasPrefix T.data.toList [73, 110, 102, 105, 110, 105, 116, 121] = true) (w : World)
    (cs : ∀ w, Calls Tryz.prog 52 #[.string S] w fun e w' => e = .returned (.tuple #[.string T, .float .f64 (wd s 4607182418800017408)]) ∧ w' = w) :
    Calls Tryz.prog 42 #[.string S] w fun e w' => e = .returned (.tuple #[.float .f64 (wd s 9218868437227405312), .int .i64 (S.size : Int)]) ∧ w' = w := by
  have cp := Tryz.strings_HasPrefix T ⟨#[73, 110, 102, 105, 110, 105, 116, 121]⟩
  have hpre' : Lib.hasPrefix T.data.toList (ByteArray.mk #[73, 110, 102, 105, 110, 105, 116, 121]).data.toList = true := hpre
  rw [hpre'] at cp
  clear hpre hpre'
  have ci := inf_any s
  have cc := one_int s
  generalize wd s 4607182418800017408 = us at *
  generalize wd s 9218868437227405312 = ui at *
  generalize (if s then (-1 : Int) else 1) = sg at *
  obtain ⟨N, hN⟩ : ∃ N, S.size = N := ⟨_, rfl⟩
  go_enter Tryz.func42, Tryz.ntmps42
  go_wp2_with (first | (go_at_call 52; refine (cs _).mono ?_; rintro e w1 ⟨rfl, rfl⟩) | (go_at_call 77; refine (cp _).mono ?_; rintro e w1 ⟨rfl, rfl⟩) | (go_at_call 48; refine (ci _).mono ?_; rintro e w1 ⟨rfl, rfl⟩))
  go_ret2
  exact ⟨by rw [hN]; rfl, rfl⟩
/-- The bits of what has no word. -/
def nb (a b : Nat) (w : World) : Nat := (Question.nanBits .f64 a b).cut (w.tape w.drawn (.nanBits .f64 a b))
theorem mul_nan (a b : Nat) (h : FloatKind.f64.format.mul a b = none) (ty : TypeId) (w : World) : (binOp .mul ty (.float .f64 a) (.float .f64 b)).run Tryz.prog w = .ok (.float .f64 (nb a b w)) w.drew := by
  simp [binOp, Op.floatArith, h, nb, Question.forced]
theorem mul_one_nan : FloatKind.f64.format.mul 4607182418800017408 9221120237041090561 = none := by decide +kernel
set_option maxRecDepth 100000 in
set_option maxHeartbeats 1000000 in
theorem front_nan (S : ByteArray) (hs : S.size ≤ 100000) (hpre : Lib.hasPrefix S.data.toList [73, 110, 102, 105, 110, 105, 116, 121] = false) (w : World)
    (cs : ∀ w, Calls Tryz.prog 52 #[.string S] w fun e w' => e = .returned (.tuple #[.string S, .float .f64 4607182418800017408]) ∧ w' = w)
    (cd : Calls Tryz.prog 97 #[.string S] w fun e w' => e = .returned (.tuple #[.float .f64 9221120237041090561, .int .i64 0]) ∧ Below w.heap.size w w') :
    Calls Tryz.prog 42 #[.string S] w fun e w' => ∃ x, e = .returned (.tuple #[.float .f64 x, .int .i64 0]) ∧ Below w.heap.size w w' := by
  have cp := Tryz.strings_HasPrefix S ⟨#[73, 110, 102, 105, 110, 105, 116, 121]⟩
  have hpre' : Lib.hasPrefix S.data.toList (ByteArray.mk #[73, 110, 102, 105, 110, 105, 116, 121]).data.toList = false := hpre
  rw [hpre'] at cp
  clear hpre hpre'
  have hm := mul_nan 4607182418800017408 9221120237041090561 mul_one_nan
  obtain ⟨N, hN⟩ : ∃ N, S.size = N := ⟨_, rfl⟩
  go_enter Tryz.func42, Tryz.ntmps42
  go_wp2_with (first | (go_at_call 52; refine (cs _).mono ?_; rintro e w1 ⟨rfl, rfl⟩) | (go_at_call 77; refine (cp _).mono ?_; rintro e w1 ⟨rfl, rfl⟩) | (go_at_call 97; refine cd.mono ?_; rintro e w2 ⟨rfl, hb⟩))
  go_ret2
  exact ⟨_, rfl, hb.drew⟩
set_option maxRecDepth 100000 in
set_option maxHeartbeats 1000000 in
theorem fdec_none (S : ByteArray) (hs : S.size ≤ 100000) (hs0 : 0 < S.size) (w : World)
    (hdot : ∀ h : 0 < S.size, (S[0]'h).toNat ≠ 46)
    (cr : ∀ w, Calls Tryz.prog 54 #[.string (S.extract 0 S.size), .int .i64 10] w fun e w' => e = .returned (.int .i64 ((0 : Nat) : Int)) ∧ w' = w) :
    Calls Tryz.prog 97 #[.string S] w fun r w' => r = .returned (.tuple #[.float .f64 9221120237041090561, .int .i64 0]) ∧ Below w.heap.size w w' := by
  have CR := (show Hid _ from cr)
  have HD := (show Hid _ from hdot)
  have cn := nan_any
  clear cr hdot
  go_enter Tryz.func97, Tryz.ntmps97
  go_wp2_with (first | (go_at_call 147; fail))
  have f0 := FdW.start w S
  refine (dh_any _ (w.heap.size + 1) w.heap.size 0 0 S _ hs (by omega) (by omega) f0.cella f0.cellb f0.fz rfl CR.out).mono ?_
  rintro ee W1 ⟨rfl, hW1⟩
  have f1 : FdW w W1 S ((0 : Nat) : Int) := by
    rw [hW1]
    exact (f0.set (((0 : Nat) : Int) + ((0 : Nat) : Int))).drew
  have ca := f1.cella
  have cb := f1.cellb
  have HF1 : Hid (FdW w W1 S ((0 : Nat) : Int)) := f1
  clear hW1 f0 f1 CR
  obtain ⟨c, hc⟩ : ∃ c, (S[0]'hs0).toNat = c := ⟨_, rfl⟩
  have hc46 : ((c : Int) == 46) = false := by
    have := HD.out hs0
    rw [hc] at this
    rw [beq_eq_false_iff_ne]
    omega
  clear HD
  obtain ⟨N, hN⟩ : ∃ N, S.size = N := ⟨_, rfl⟩
  have hl0 : (0 : Int) < (N : Int) := by omega
  rw [Nat.add_zero, show S.extract 0 0 = ByteArray.empty by simp]
  go_wp2_with (first | (go_at_call 43; refine (cn _).mono ?_; rintro e w2 ⟨rfl, rfl⟩))
  go_ret2
  exact ⟨rfl, HF1.out.be⟩
set_option maxRecDepth 100000 in
set_option maxHeartbeats 1000000 in
theorem read_odd (S : ByteArray) (hs0 : 0 < S.size) (hs : S.size ≤ 100000) (w : World)
    (ct : Calls Tryz.prog 39 #[.string S] w fun e w' => e = .returned (.string S) ∧ Below w.heap.size w w')
    (ch : ∀ w, Calls Tryz.prog 40 #[.string S] w fun e w' => e = .returned (.tuple #[.string S, .bool false]) ∧ w' = w)
    (cf : ∀ W, Below w.heap.size w W → Calls Tryz.prog 42 #[.string S] W fun e w' => ∃ x, e = .returned (.tuple #[.float .f64 x, .int .i64 0]) ∧ Below W.heap.size W w') :
    Calls Tryz.prog 11 #[.string S] w fun e w' => e = .returned (.float .f64 9221120237041090561) ∧ Below w.heap.size w w' := by
  have hne : S.toList.isEmpty = false := by
    rw [Lib.toList_data]
    cases h : S.data.toList with
    | nil => exact absurd (by rw [Lib.size_eq, h]; rfl) (Nat.ne_of_gt hs0)
    | cons _ _ => rfl
  have CF := (show Hid _ from cf)
  have cn := nan_any
  clear cf
  go_enter Tryz.func11, Tryz.ntmps11
  go_wp2_with (first | (go_at_call 39; refine ct.mono ?_; rintro e w1 ⟨rfl, hb1⟩; have cf := CF.out _ hb1) | (go_at_call 40; refine (ch _).mono ?_; rintro e w2 ⟨rfl, rfl⟩) | (go_at_call 42; fail))
  refine cf.mono ?_
  rintro e w3 ⟨x, rfl, hb3⟩
  have hl0 : (0 : Int) < (S.size : Int) := by omega
  clear cf ct ch CF
  go_wp2_with (first | (go_at_call 43; refine (cn _).mono ?_; rintro e w4 ⟨rfl, rfl⟩))
  go_ret
  exact ⟨rfl, hb1.trans (hb3.mono hb1.size)⟩
set_option maxRecDepth 100000 in
set_option maxHeartbeats 1000000 in
/-- fromDecimal, where all digits are noughts. -/
theorem fromDec_zero (S : ByteArray) (n : Int) (hs : S.size ≤ 10000) (hn1 : -10000 ≤ n) (hn2 : n ≤ 10000) (w : World)
    (ct : ∀ w, Calls Tryz.prog 93 #[.string S, .string ⟨#[48]⟩] w fun e w' => e = .returned (.string ByteArray.empty) ∧ w' = w) :
    Calls Tryz.prog 149 #[.string S, .int .i64 n] w fun r w' => r = .returned (.float .f64 0) ∧ w' = w := by
  go_enter Tryz.func149, Tryz.ntmps149
  go_wp2_with (first | (go_at_call 93; refine (ct _).mono ?_; rintro e w1 ⟨rfl, rfl⟩))
  go_ret
  exact ⟨rfl, rfl⟩
end Go.Proofs.YtellndmbllmjgaaGreatDoor
/- num.Read at 0, Infinity, NaN: the whole of it. -/
set_option linter.unusedVariables false
namespace Go.Proofs.YtellndmbllmjgaaGreatDoor
open Go.RowKit Go.Shelf Go.Sort Fs Fl

theorem zero_trim (w : World) : Calls Tryz.prog 93 #[.string (txt [48]), .string ⟨#[48]⟩] w fun e w' => e = .returned (.string ByteArray.empty) ∧ w' = w := by
  have h := Tryz.strings_TrimLeft_one (txt [48]) 48 (by decide) w
  have e : Lib.trimLeftB (txt [48]).data.toList 48 = [] := trim_zeros [] (by intro x hx; simp at hx) (by simp) 1
  rw [e] at h
  exact h
theorem read_zero (w : World) (hL : RLaid w) (hU : Lib.Utf8Tabs 1 2 w) (hZ : Lib.RVar 3 Ut.zsT w) :
    Calls Tryz.prog 11 #[.string (txt [48])] w fun e w' => e = .returned (.float .f64 0) ∧ Below w.heap.size w w' := by
  have hsz : (txt [48]).size = 1 := txt_size [48]
  have cs : ∀ w, Calls Tryz.prog 52 #[.string (txt [48])] w fun e w' => e = .returned (.tuple #[.string (txt [48]), .float .f64 (wd false 4607182418800017408)]) ∧ w' = w := by
    intro w
    rw [wd_false]
    exact cutSign_none _ ((pre_one 48 45 [] (by decide) (by decide)).trans (by decide)) ((pre_one 48 43 [] (by decide) (by decide)).trans (by decide)) w
  refine (read_of (txt [48]) (fun x => x = 0) (by omega) (by omega) w (Ut.trim_ascii [48] (fun c hc => by simp at hc; omega) (by simp) w hU hZ) (fun w => cutHex_no _ (by omega) (fun hk => by omega) w) (fun W hW => ?_)).mono ?_
  · refine (front_of (txt [48]) (txt [48]) false (fun F => F = 0) (by omega) (by omega) (fun F hF => by omega) ?_ W cs ?_).mono ?_
    · rw [txt_list]
      rfl
    · refine fdec_plain (txt [48]) 1 0 0 (fun F => F = 0) (by omega) (by omega) (by omega) (by omega) (by omega) (by omega) W (fun hk => by omega) (fun w => ?_) (fun w => ?_) (fun W2 hW2 => ?_)
      · rw [ext_all]
        exact run_txt [48] [] (by intro x hx; simp at hx; omega) (by intro c hc; simp at hc) (by simp) (by intro c hc; simp at hc) w
      · have e1 : (txt [48]).extract 1 (txt [48]).size = txt [] := ext_drop [48] []
        rw [e1]
        exact fe_any [] 0 (.inl ⟨rfl, rfl⟩) w
      · have e1 : (txt [48]).extract 0 1 = txt [48] := ext_take [48] []
        rw [e1]
        refine (fromDec_zero (txt [48]) _ (by omega) (by omega) (by omega) W2 zero_trim).mono ?_
        rintro r w' ⟨rfl, rfl⟩
        exact ⟨0, rfl, rfl, Below.refl _ _⟩
    · rintro r w' ⟨F, rfl, rfl, hb⟩
      exact ⟨_, by rw [wd_false], rfl, hb⟩
  · rintro r w' ⟨x, rfl, rfl, hb⟩
    exact ⟨rfl, hb⟩
theorem read_infinity (s : Bool) (w : World) (hU : Lib.Utf8Tabs 1 2 w) (hZ : Lib.RVar 3 Ut.zsT w) :
    Calls Tryz.prog 11 #[.string (txt ((if s then [45] else []) ++ infL))] w fun e w' => e = .returned (.float .f64 (wd s 9218868437227405312)) ∧ Below w.heap.size w w' := by
  have hT8 : (txt infL).size = 8 := txt_size infL
  have hSs := txt_size ((if s then [45] else []) ++ infL)
  have hSl : ((if s then [45] else []) ++ infL).length ≤ 9 := by cases s <;> decide
  have hS8 : 8 ≤ ((if s then [45] else []) ++ infL).length := by cases s <;> decide
  have hSc : ∀ c ∈ (if s then [45] else []) ++ infL, 32 < c ∧ c < 128 := by cases s <;> decide
  have h1c : ∃ c, ((if s then [45] else []) ++ infL)[1]? = some c ∧ c ≠ 120 ∧ c ≠ 88 := by
    cases s
    · exact ⟨110, rfl, by decide, by decide⟩
    · exact ⟨73, rfl, by decide, by decide⟩
  have cs : ∀ w, Calls Tryz.prog 52 #[.string (txt ((if s then [45] else []) ++ infL))] w fun e w' => e = .returned (.tuple #[.string (txt infL), .float .f64 (wd s 4607182418800017408)]) ∧ w' = w := by
    intro w
    cases s with
    | false =>
      rw [wd_false]
      exact cutSign_none _ ((pre_one 73 45 _ (by decide) (by decide)).trans (by decide)) ((pre_one 73 43 _ (by decide) (by decide)).trans (by decide)) w
    | true =>
      have h2 := cutSign_minus (txt ([45] ++ infL)) (by rw [txt_size]; simp) (by rw [txt_size]; decide) (pre_one 45 45 infL (by decide) (by decide)) w
      have e2 : (txt ([45] ++ infL)).extract 1 (txt ([45] ++ infL)).size = txt infL := ext_drop [45] infL
      rw [e2] at h2
      exact h2
  refine (read_of (txt ((if s then [45] else []) ++ infL)) (fun x => x = wd s 9218868437227405312) (by omega) (by omega) w (Ut.trim_ascii _ hSc (by omega) w hU hZ) (fun w => cutHex_no _ (by omega) (fun hk => ?_) w) (fun W hW => ?_)).mono ?_
  · obtain ⟨c, hc, hn⟩ := h1c
    rw [get_txt _ (fun c hc => by have := hSc c hc; omega) 1 c hc hk]
    exact hn
  · refine (front_inf (txt ((if s then [45] else []) ++ infL)) (txt infL) s (by omega) (by omega) hT8 (by rw [txt_list]; rfl) W cs).mono ?_
    rintro r w' ⟨rfl, rfl⟩
    exact ⟨_, rfl, rfl, Below.refl _ _⟩
  · rintro r w' ⟨x, rfl, rfl, hb⟩
    exact ⟨rfl, hb⟩
theorem read_none (w : World) (hU : Lib.Utf8Tabs 1 2 w) (hZ : Lib.RVar 3 Ut.zsT w) :
    Calls Tryz.prog 11 #[.string (txt [78, 97, 78])] w fun e w' => e = .returned (.float .f64 9221120237041090561) ∧ Below w.heap.size w w' := by
  have hsz : (txt [78, 97, 78]).size = 3 := txt_size [78, 97, 78]
  have hSc : ∀ c ∈ [78, 97, 78], 32 < c ∧ c < 128 := by decide
  have cs : ∀ w, Calls Tryz.prog 52 #[.string (txt [78, 97, 78])] w fun e w' => e = .returned (.tuple #[.string (txt [78, 97, 78]), .float .f64 4607182418800017408]) ∧ w' = w := fun w =>
    cutSign_none _ ((pre_one 78 45 _ (by decide) (by decide)).trans (by decide)) ((pre_one 78 43 _ (by decide) (by decide)).trans (by decide)) w
  refine read_odd (txt [78, 97, 78]) (by omega) (by omega) w (Ut.trim_ascii _ hSc (by simp) w hU hZ) (fun w => cutHex_no _ (by omega) (fun hk => ?_) w) (fun W hW => ?_)
  · rw [get_txt _ (fun c hc => by have := hSc c hc; omega) 1 97 rfl hk]
    decide
  · refine front_nan _ (by omega) (by rw [txt_list]; rfl) W cs (fdec_none _ (by omega) (by omega) W (fun hk => ?_) (fun w => ?_))
    · rw [get_txt _ (fun c hc => by have := hSc c hc; omega) 0 78 rfl hk]
      decide
    · rw [ext_all]
      exact run_txt [] [78, 97, 78] (by intro x hx; simp at hx) (fun c hc => by have := hSc c hc; omega) (by simp) (by intro c hc; simp at hc; subst hc; unfold Stop10; omega) w
end Go.Proofs.YtellndmbllmjgaaGreatDoor
