/- minus, finite, Abs; Exponential, given what it calls. -/
import Derived.Test.YtellndmbllmjgaaGreatDoorCMo1x
import Derived.Test.YtellndmbllmjgaaGreatDoorCDa8x
import Derived.Test.YtellndmbllmjgaaGreatDoorCTx3x
import Derived.Test.YtellndmbllmjgaaGreatDoorCRtx
import Derived.Deep.RegionWith
import Derived.Test.YtellndmbllmjgaaGreatDoorCDa2x
set_option linter.unusedVariables false
namespace Go.Proofs.YtellndmbllmjgaaGreatDoor
open Go.RowKit Go.Shelf Go.Sort Fs Fl

theorem minus_any (x : Nat) (s : Bool) (h : (FloatKind.f64.format.order x 0 == some .lt) = s) (w : World) : Calls Tryz.prog 107 #[.float .f64 x] w fun e w' => e = .returned (.string (txt (if s then [45] else []))) ∧ w' = w := by
  cases s
  · go_enter Tryz.func107, Tryz.ntmps107
    go_wp2
    go_ret
    exact ⟨rfl, rfl⟩
  · go_enter Tryz.func107, Tryz.ntmps107
    go_wp2
    go_ret
    exact ⟨rfl, rfl⟩
theorem abs_any (s : Bool) (r : Nat) (h : r < 9223372036854775808) (w : World) : Calls Tryz.prog 71 #[.float .f64 (wd s r)] w fun e w' => e = .returned (.float .f64 r) ∧ w' = w := by
  cases s
  · rw [wd_false]; exact abs_pos r h w
  · rw [wd_true]
    obtain ⟨B, hB⟩ : ∃ B, B = 9223372036854775808 + r := ⟨_, rfl⟩
    have h1 : bits .andNot .u64 (B : Int) 9223372036854775808 = (r : Int) := by
      refine (u64_andNot_nat B 9223372036854775808 (by omega) (by omega)).trans ?_
      have e : B &&& (2 ^ 63 - 1) = B % 2 ^ 63 := Nat.and_two_pow_sub_one_eq_mod _ _
      have e2 : B % 2 ^ 63 = r := by omega
      rw [e2] at e
      exact congrArg Int.ofNat e
    have x1 := Tryz.tobits103 B
    have x2 := Tryz.frombits7 (r : Int)
    rw [Int.toNat_natCast] at x2
    rw [← hB]
    clear hB h
    go_enter Tryz.func71, Tryz.ntmps71
    go_wp2
    go_ret
    exact ⟨rfl, rfl⟩
theorem finite_yes (s : Bool) (r : Nat) (h : r < 9218868437227405312) (w : World) : Calls Tryz.prog 109 #[.float .f64 (wd s r)] w fun e w' => e = .returned (.bool true) ∧ w' = w := by
  have hm : ∀ ty w, (binOp .sub ty (.float .f64 (wd s r)) (.float .f64 (wd s r))).run Tryz.prog w = .ok (.float .f64 0) w := fun ty w => run_float_arith w .sub ty .f64 _ _ _ (sub_self s r h)
  have ho : (FloatKind.f64.format.order 0 0 == some .eq) = true := by decide +kernel
  go_enter Tryz.func109, Tryz.ntmps109
  go_wp2
  go_ret
  exact ⟨rfl, rfl⟩
set_option maxRecDepth 100000 in
set_option maxHeartbeats 1000000 in
theorem expW_of (x r : Nat) (M : ByteArray) (n : Nat) (hn : n ≤ 20) (hM : M.size ≤ 1) (PS PR : ByteArray → Int → Prop) (PT : ByteArray → Prop) (w : World)
    (cf : ∀ w, Calls Tryz.prog 109 #[.float .f64 x] w fun e w' => e = .returned (.bool true) ∧ w' = w)
    (cm : ∀ w, Calls Tryz.prog 107 #[.float .f64 x] w fun e w' => e = .returned (.string M) ∧ w' = w)
    (ca : ∀ w, Calls Tryz.prog 71 #[.float .f64 x] w fun e w' => e = .returned (.float .f64 r) ∧ w' = w)
    (ce : Calls Tryz.prog 106 #[.float .f64 r] w fun e w' => ∃ S m, PS S m ∧ e = .returned (.agg #[.string S, .int .i64 m]) ∧ Below w.heap.size w w')
    (cr : ∀ S m, PS S m → ∀ W, Calls Tryz.prog 110 #[.agg #[.string S, .int .i64 m], .int .i64 ((n : Int) + 1)] W fun e w' => ∃ S2 m2, PR S2 m2 ∧ e = .returned (.agg #[.string S2, .int .i64 m2]) ∧ Below W.heap.size W w')
    (cw : ∀ S m, PR S m → ∀ W, Below w.heap.size w W → Calls Tryz.prog 29 #[.agg #[.string S, .int .i64 m]] W fun e w' => ∃ T, PT T ∧ T.size ≤ 100 ∧ e = .returned (.string T) ∧ Below W.heap.size W w') :
    Calls Tryz.prog 57 #[.float .f64 x, .int .i64 (n : Int)] w fun e w' => ∃ T, PT T ∧ e = .returned (.tuple #[.string (M ++ T), .nilIface]) ∧ Below w.heap.size w w' := by
  have CR := (show Hid _ from cr)
  have CW := (show Hid _ from cw)
  clear cr cw
  go_enter Tryz.func57, Tryz.ntmps57
  go_wp2_with (first | (go_at_call 109; refine (cf _).mono ?_; rintro e w1 ⟨rfl, rfl⟩) | (go_at_call 107; refine (cm _).mono ?_; rintro e w1 ⟨rfl, rfl⟩) | (go_at_call 71; refine (ca _).mono ?_; rintro e w1 ⟨rfl, rfl⟩) | (go_at_call 106; fail))
  refine ce.mono ?_
  rintro e w2 ⟨S, m, hS, rfl, hb2⟩
  have cr := CR.out S m hS w2
  clear ce CR hS
  go_wp2_with (first | (go_at_call 110; fail))
  go_fit cr
  rintro e w3 ⟨S2, m2, hS2, rfl, hb3⟩
  have cw := CW.out S2 m2 hS2 w3 (hb2.trans (hb3.mono hb2.size))
  clear cr CW hS2
  go_wp2_with (first | (go_at_call 29; fail))
  go_fit cw
  rintro e w4 ⟨T, hT, hTs, rfl, hb4⟩
  have HT : Hid (PT T) := hT
  clear cw hT
  go_wp2
  go_ret2
  exact ⟨T, HT.out, rfl, hb2.trans ((hb3.trans (hb4.mono hb3.size)).mono hb2.size)⟩
set_option maxRecDepth 100000 in
set_option maxHeartbeats 1000000 in
/-- Exponential, where as many digits as tell it are asked for. -/
theorem expW_few (x r : Nat) (M : ByteArray) (n : Int) (hn : n < 0) (hM : M.size ≤ 1) (PS : ByteArray → Int → Prop) (PT : ByteArray → Prop) (w : World)
    (cf : ∀ w, Calls Tryz.prog 109 #[.float .f64 x] w fun e w' => e = .returned (.bool true) ∧ w' = w)
    (cm : ∀ w, Calls Tryz.prog 107 #[.float .f64 x] w fun e w' => e = .returned (.string M) ∧ w' = w)
    (ca : ∀ w, Calls Tryz.prog 71 #[.float .f64 x] w fun e w' => e = .returned (.float .f64 r) ∧ w' = w)
    (ce : Calls Tryz.prog 26 #[.float .f64 r] w fun e w' => ∃ S m, PS S m ∧ e = .returned (.agg #[.string S, .int .i64 m]) ∧ Below w.heap.size w w')
    (cw : ∀ S m, PS S m → ∀ W, Below w.heap.size w W → Calls Tryz.prog 29 #[.agg #[.string S, .int .i64 m]] W fun e w' => ∃ T, PT T ∧ T.size ≤ 100 ∧ e = .returned (.string T) ∧ Below W.heap.size W w') :
    Calls Tryz.prog 57 #[.float .f64 x, .int .i64 n] w fun e w' => ∃ T, PT T ∧ e = .returned (.tuple #[.string (M ++ T), .nilIface]) ∧ Below w.heap.size w w' := by
  have CW := (show Hid _ from cw)
  have k1 : ¬ (20 : Int) < n := by omega
  clear cw
  go_enter Tryz.func57, Tryz.ntmps57
  go_wp2_with (first | (go_at_call 109; refine (cf _).mono ?_; rintro e w1 ⟨rfl, rfl⟩) | (go_at_call 107; refine (cm _).mono ?_; rintro e w1 ⟨rfl, rfl⟩) | (go_at_call 71; refine (ca _).mono ?_; rintro e w1 ⟨rfl, rfl⟩) | (go_at_call 26; fail))
  refine ce.mono ?_
  rintro e w2 ⟨S, m, hS, rfl, hb2⟩
  have cw := CW.out S m hS w2 hb2
  clear ce CW hS
  go_wp2_with (first | (go_at_call 29; fail))
  go_fit cw
  rintro e w4 ⟨T, hT, hTs, rfl, hb4⟩
  have HT : Hid (PT T) := hT
  clear cw hT
  go_wp2
  go_ret2
  exact ⟨T, HT.out, rfl, hb2.trans (hb4.mono hb2.size)⟩
set_option maxRecDepth 100000 in
set_option maxHeartbeats 1000000 in
/-- Exponential: too many digits. -/
theorem expW_no (x : Nat) (n : Int) (hn : 20 < n) (w : World)
    (cf : ∀ w, Calls Tryz.prog 109 #[.float .f64 x] w fun e w' => e = .returned (.bool true) ∧ w' = w) :
    Calls Tryz.prog 57 #[.float .f64 x, .int .i64 n] w fun e w' => e = .returned (.tuple #[.string ⟨#[]⟩, .iface 35 (.int .i64 5)]) ∧ w' = w := by
  go_enter Tryz.func57, Tryz.ntmps57
  go_wp2_with (first | (go_at_call 109; refine (cf _).mono ?_; rintro e w1 ⟨rfl, rfl⟩))
  go_ret2
  exact ⟨rfl, rfl⟩
set_option maxRecDepth 100000 in
set_option maxHeartbeats 1000000 in
/-- Precision. -/
theorem precW_of (x r : Nat) (M : ByteArray) (n : Nat) (hn0 : 1 ≤ n) (hn : n ≤ 21) (hM : M.size ≤ 1) (PS PR : ByteArray → Int → Prop) (hPR : ∀ S m, PR S m → -2000 ≤ m ∧ m ≤ 2000) (PT : ByteArray → Prop) (w : World)
    (cf : ∀ w, Calls Tryz.prog 109 #[.float .f64 x] w fun e w' => e = .returned (.bool true) ∧ w' = w)
    (cm : ∀ w, Calls Tryz.prog 107 #[.float .f64 x] w fun e w' => e = .returned (.string M) ∧ w' = w)
    (ca : ∀ w, Calls Tryz.prog 71 #[.float .f64 x] w fun e w' => e = .returned (.float .f64 r) ∧ w' = w)
    (ce : ∀ W, Below w.heap.size w W → Calls Tryz.prog 106 #[.float .f64 r] W fun e w' => ∃ S m, PS S m ∧ e = .returned (.agg #[.string S, .int .i64 m]) ∧ Below W.heap.size W w')
    (cr : ∀ S m, PS S m → ∀ W, Calls Tryz.prog 110 #[.agg #[.string S, .int .i64 m], .int .i64 (n : Int)] W fun e w' => ∃ S2 m2, PR S2 m2 ∧ e = .returned (.agg #[.string S2, .int .i64 m2]) ∧ Below W.heap.size W w')
    (cw : ∀ S m, PR S m → (m - 1 < -6 ∨ (n : Int) ≤ m - 1) → ∀ W, Below w.heap.size w W → Calls Tryz.prog 29 #[.agg #[.string S, .int .i64 m]] W fun e w' => ∃ T, PT T ∧ T.size ≤ 100 ∧ e = .returned (.string T) ∧ Below W.heap.size W w')
    (cp : ∀ S m, PR S m → ¬ (m - 1 < -6 ∨ (n : Int) ≤ m - 1) → ∀ W, Calls Tryz.prog 28 #[.string S, .int .i64 ((n : Int) - m)] W fun e w' => ∃ T, PT T ∧ T.size ≤ 100 ∧ e = .returned (.string T) ∧ Below W.heap.size W w') :
    Calls Tryz.prog 58 #[.float .f64 x, .int .i64 (n : Int)] w fun e w' => ∃ T, PT T ∧ e = .returned (.tuple #[.string (M ++ T), .nilIface]) ∧ Below w.heap.size w w' := by
  have CE := (show Hid _ from ce)
  have CR := (show Hid _ from cr)
  have CW := (show Hid _ from cw)
  have CP := (show Hid _ from cp)
  have HPR := (show Hid _ from hPR)
  clear ce cr cw cp hPR
  go_enter Tryz.func58, Tryz.ntmps58
  go_wp2_with (first | (go_at_call 109; refine (cf _).mono ?_; rintro e w1 ⟨rfl, rfl⟩) | (go_at_call 71; refine (ca _).mono ?_; rintro e w1 ⟨rfl, rfl⟩) | (go_at_call 106; fail))
  have ce := CE.out _ (Below.refl _ _)
  clear CE
  go_fit ce
  rintro e w2 ⟨S, m, hS, rfl, hb2⟩
  have cr := CR.out S m hS w2
  clear ce CR hS
  go_wp2_with (first | (go_at_call 110; fail))
  go_fit cr
  rintro e w3 ⟨S2, m2, hS2, rfl, hb3⟩
  have hm := HPR.out S2 m2 hS2
  obtain ⟨hm1, hm2⟩ := hm
  have hb23 := hb2.trans (hb3.mono hb2.size)
  have CW2 := (show Hid _ from fun h => CW.out S2 m2 hS2 h)
  have CP2 := (show Hid _ from fun h => CP.out S2 m2 hS2 h)
  clear cr CW CP HPR hS2 hb2 hb3
  by_cases hc : m2 - 1 < -6 ∨ (n : Int) ≤ m2 - 1
  · have cw := CW2.out hc
    have CWW := (show Hid _ from cw)
    clear CW2 CP2 cw
    rcases hc with hc | hc
    · go_wp2
      obtain ⟨W4, hW4⟩ : ∃ W4, W4 = w3.alloc (Obj.cells #[Value.string S2, Value.int IntKind.i64 m2] 46) := ⟨_, rfl⟩
      have hz4 : W4.heap[w3.heap.size]? = some (Obj.cells #[Value.string S2, Value.int IntKind.i64 m2] 46 (0, 0)) := by rw [hW4]; exact heap_alloc_new w3 _
      have hb4 : Below w3.heap.size w3 W4 := by rw [hW4]; exact (Below.refl _ _).alloc (Nat.le_refl _) _
      have c0 : W4.cell? ⟨w3.heap.size, 0, none⟩ = some (.string S2) := by simp [World.cell?, hz4]
      have c1 : W4.cell? ⟨w3.heap.size, 1, none⟩ = some (.int .i64 m2) := by simp [World.cell?, hz4]
      rw [← hW4]
      have cz := CWW.out W4.drew (hb23.trans (hb4.drew.mono hb23.size))
      clear hW4 hz4
      have mixed := mixedR
      go_region_with (first | (go_at_call 107; refine (cm _).mono ?_; rintro e wq ⟨rfl, rfl⟩) | (go_at_call 29; go_fit cz; rintro e w5 ⟨T, hT, hTs, rfl, hb5⟩; have HT : Hid (PT T) := hT; clear hT))
      all_goals
        go_wp2
        go_ret2
        exact ⟨T, HT.out, rfl, hb23.trans ((hb4.drew.trans (hb5.mono hb4.size)).mono hb23.size)⟩
    · have hc6 : ¬ m2 - 1 < -6 := by omega
      go_wp2
      obtain ⟨W4, hW4⟩ : ∃ W4, W4 = w3.alloc (Obj.cells #[Value.string S2, Value.int IntKind.i64 m2] 46) := ⟨_, rfl⟩
      have hz4 : W4.heap[w3.heap.size]? = some (Obj.cells #[Value.string S2, Value.int IntKind.i64 m2] 46 (0, 0)) := by rw [hW4]; exact heap_alloc_new w3 _
      have hb4 : Below w3.heap.size w3 W4 := by rw [hW4]; exact (Below.refl _ _).alloc (Nat.le_refl _) _
      have c0 : W4.cell? ⟨w3.heap.size, 0, none⟩ = some (.string S2) := by simp [World.cell?, hz4]
      have c1 : W4.cell? ⟨w3.heap.size, 1, none⟩ = some (.int .i64 m2) := by simp [World.cell?, hz4]
      rw [← hW4]
      have cz := CWW.out W4.drew (hb23.trans (hb4.drew.mono hb23.size))
      clear hW4 hz4
      have mixed := mixedR
      go_region_with (first | (go_at_call 107; refine (cm _).mono ?_; rintro e wq ⟨rfl, rfl⟩) | (go_at_call 29; go_fit cz; rintro e w5 ⟨T, hT, hTs, rfl, hb5⟩; have HT : Hid (PT T) := hT; clear hT))
      all_goals
        go_wp2
        go_ret2
        exact ⟨T, HT.out, rfl, hb23.trans ((hb4.drew.trans (hb5.mono hb4.size)).mono hb23.size)⟩
  · have cp := CP2.out hc
    have hc6 : ¬ m2 - 1 < -6 := fun h => hc (Or.inl h)
    have hcn : ¬ (n : Int) ≤ m2 - 1 := fun h => hc (Or.inr h)
    have hwn : IntKind.i64.wrap ((n : Int) - m2) = (n : Int) - m2 := by rw [IntKind.wrap_i64]; omega
    have CPP := (show Hid _ from cp)
    clear CW2 CP2 cp hc
    go_wp2
    obtain ⟨W4, hW4⟩ : ∃ W4, W4 = w3.alloc (Obj.cells #[Value.string S2, Value.int IntKind.i64 m2] 46) := ⟨_, rfl⟩
    have hz4 : W4.heap[w3.heap.size]? = some (Obj.cells #[Value.string S2, Value.int IntKind.i64 m2] 46 (0, 0)) := by rw [hW4]; exact heap_alloc_new w3 _
    have hb4 : Below w3.heap.size w3 W4 := by rw [hW4]; exact (Below.refl _ _).alloc (Nat.le_refl _) _
    have c0 : W4.cell? ⟨w3.heap.size, 0, none⟩ = some (.string S2) := by simp [World.cell?, hz4]
    have c1 : W4.cell? ⟨w3.heap.size, 1, none⟩ = some (.int .i64 m2) := by simp [World.cell?, hz4]
    rw [← hW4]
    have cz := CPP.out W4.drew
    clear hW4 hz4
    have mixed := mixedR
    go_region_with (first | (go_at_call 107; refine (cm _).mono ?_; rintro e wq ⟨rfl, rfl⟩) | (go_at_call 28; go_fit cz; rintro e w5 ⟨T, hT, hTs, rfl, hb5⟩; have HT : Hid (PT T) := hT; clear hT))
    all_goals
      go_wp2
      go_ret2
      exact ⟨T, HT.out, rfl, hb23.trans ((hb4.drew.trans (hb5.mono hb4.size)).mono hb23.size)⟩
end Go.Proofs.YtellndmbllmjgaaGreatDoor
/- Fixed, given what it calls. -/
set_option linter.unusedVariables false
namespace Go.Proofs.YtellndmbllmjgaaGreatDoor
open Go.RowKit Go.Shelf Go.Sort Fs Fl

set_option maxRecDepth 100000 in
set_option maxHeartbeats 1000000 in
theorem fixW_no (x : Nat) (n : Int) (hn : n < 0 ∨ 20 < n) (w : World) :
    Calls Tryz.prog 56 #[.float .f64 x, .int .i64 n] w fun e w' => e = .returned (.tuple #[.string ⟨#[]⟩, .iface 35 (.int .i64 5)]) ∧ w' = w := by
  rcases hn with h | h
  · go_enter Tryz.func56, Tryz.ntmps56
    go_wp2
    go_ret2
    exact ⟨rfl, rfl⟩
  · have h2 : ¬ n < 0 := by omega
    go_enter Tryz.func56, Tryz.ntmps56
    go_wp2
    go_ret2
    exact ⟨rfl, rfl⟩
set_option maxRecDepth 100000 in
set_option maxHeartbeats 1000000 in
theorem fixW_far (x r : Nat) (n : Nat) (hn : n ≤ 20) (T : ByteArray) (w : World)
    (ho : (FloatKind.f64.format.order r 4921056587992461136 == some .lt) = false)
    (ca : ∀ w, Calls Tryz.prog 71 #[.float .f64 x] w fun e w' => e = .returned (.float .f64 r) ∧ w' = w)
    (ct : ∀ W, Below w.heap.size w W → Calls Tryz.prog 8 #[.float .f64 x] W fun e w' => e = .returned (.string T) ∧ Below W.heap.size W w') :
    Calls Tryz.prog 56 #[.float .f64 x, .int .i64 (n : Int)] w fun e w' => e = .returned (.tuple #[.string T, .nilIface]) ∧ Below w.heap.size w w' := by
  have c1 := ct w (Below.refl _ _)
  clear ct
  go_enter Tryz.func56, Tryz.ntmps56
  go_wp2_with (first | (go_at_call 71; refine (ca _).mono ?_; rintro e w1 ⟨rfl, rfl⟩) | (go_at_call 8; refine c1.mono ?_; rintro e w2 ⟨rfl, hb2⟩))
  go_ret2
  exact ⟨rfl, hb2⟩
set_option maxRecDepth 100000 in
set_option maxHeartbeats 1000000 in
theorem fixW_of (x r : Nat) (M : ByteArray) (n : Nat) (hn : n ≤ 20) (hM : M.size ≤ 1) (PS : ByteArray → Int → Prop) (hPS : ∀ S m, PS S m → -20000 ≤ m ∧ m ≤ 20000) (PN PT : ByteArray → Prop) (w : World)
    (ho : (FloatKind.f64.format.order r 4921056587992461136 == some .lt) = true)
    (cm : ∀ w, Calls Tryz.prog 107 #[.float .f64 x] w fun e w' => e = .returned (.string M) ∧ w' = w)
    (ca : ∀ w, Calls Tryz.prog 71 #[.float .f64 x] w fun e w' => e = .returned (.float .f64 r) ∧ w' = w)
    (ce : ∀ W, Below w.heap.size w W → Calls Tryz.prog 106 #[.float .f64 r] W fun e w' => ∃ S m, PS S m ∧ e = .returned (.agg #[.string S, .int .i64 m]) ∧ Below W.heap.size W w')
    (cn : ∀ S m, PS S m → ∀ W, Calls Tryz.prog 108 #[.agg #[.string S, .int .i64 m], .int .i64 (m + (n : Int))] W fun e w' => ∃ U, PN U ∧ e = .returned (.string U) ∧ Below W.heap.size W w')
    (cp : ∀ U, PN U → ∀ W, Calls Tryz.prog 28 #[.string U, .int .i64 (n : Int)] W fun e w' => ∃ T, PT T ∧ T.size ≤ 100 ∧ e = .returned (.string T) ∧ Below W.heap.size W w') :
    Calls Tryz.prog 56 #[.float .f64 x, .int .i64 (n : Int)] w fun e w' => ∃ T, PT T ∧ e = .returned (.tuple #[.string (M ++ T), .nilIface]) ∧ Below w.heap.size w w' := by
  have CE := (show Hid _ from ce)
  have CN := (show Hid _ from cn)
  have CP := (show Hid _ from cp)
  have HPS := (show Hid _ from hPS)
  clear ce cn cp hPS
  go_enter Tryz.func56, Tryz.ntmps56
  go_wp2_with (first | (go_at_call 71; refine (ca _).mono ?_; rintro e w1 ⟨rfl, rfl⟩) | (go_at_call 106; fail))
  have ce := CE.out _ (Below.refl _ _)
  clear CE
  go_fit ce
  rintro e w3 ⟨S2, m2, hS2, rfl, hb23⟩
  obtain ⟨hm1, hm2⟩ := HPS.out S2 m2 hS2
  have CN2 := (show Hid _ from CN.out S2 m2 hS2)
  clear ce CN HPS hS2
  have hwn : IntKind.i64.wrap (m2 + (n : Int)) = m2 + (n : Int) := by rw [IntKind.wrap_i64]; omega
  go_wp2
  obtain ⟨W4, hW4⟩ : ∃ W4, W4 = w3.alloc (Obj.cells #[Value.string S2, Value.int IntKind.i64 m2] 46) := ⟨_, rfl⟩
  have hz4 : W4.heap[w3.heap.size]? = some (Obj.cells #[Value.string S2, Value.int IntKind.i64 m2] 46 (0, 0)) := by rw [hW4]; exact heap_alloc_new w3 _
  have hb4 : Below w3.heap.size w3 W4 := by rw [hW4]; exact (Below.refl _ _).alloc (Nat.le_refl _) _
  have c0 : W4.cell? ⟨w3.heap.size, 0, none⟩ = some (.string S2) := by simp [World.cell?, hz4]
  have c1 : W4.cell? ⟨w3.heap.size, 1, none⟩ = some (.int .i64 m2) := by simp [World.cell?, hz4]
  rw [← hW4]
  have cz := CN2.out W4.drew
  clear hW4 hz4 CN2
  have mixed := mixedR
  go_region_with (first | (go_at_call 107; refine (cm _).mono ?_; rintro e wq ⟨rfl, rfl⟩) | (go_at_call 108; go_fit cz; rintro e w5 ⟨U, hU, rfl, hb5⟩; have cy := CP.out U hU w5; clear hU) | (go_at_call 28; go_fit cy; rintro e w6 ⟨T, hT, hTs, rfl, hb6⟩; have HT : Hid (PT T) := hT; clear hT))
  all_goals
    go_wp2
    go_ret2
    exact ⟨T, HT.out, rfl, hb23.trans ((hb4.drew.trans ((hb5.trans (hb6.mono hb5.size)).mono hb4.size)).mono hb23.size)⟩
end Go.Proofs.YtellndmbllmjgaaGreatDoor
/- isZero. -/
set_option linter.unusedVariables false
namespace Go.Proofs.YtellndmbllmjgaaGreatDoor
open Go.RowKit Go.Shelf Go.Sort Fs Fl

theorem val32_zero_iff : ∀ (L : List Nat), val32 L = 0 ↔ ∀ d ∈ L, d = 0
  | [] => by simp [val32]
  | d :: l => by
    have := val32_zero_iff l
    rw [val32]
    constructor
    · intro h x hx
      rcases List.mem_cons.1 hx with rfl | hx
      · omega
      · exact this.1 (by omega) x hx
    · intro h
      have h1 := h d (by simp)
      have h2 := this.2 (fun x hx => h x (by simp [hx]))
      omega
theorem isz_one (z : Nat) (w : World) : Calls Tryz.prog 190 #[.int .u32 (z : Int)] w fun e w' => e = .returned (.bool (decide (z ≠ 0))) ∧ w' = w := by
  by_cases h : z = 0
  · subst h
    go_enter Tryz.func190, Tryz.ntmps190
    go_wp2
    go_ret
    exact ⟨rfl, rfl⟩
  · have hz : ((z : Int) == 0) = false := by rw [beq_eq_false_iff_ne]; omega
    have hz' : ((z : Int) != 0) = true := by rw [bne, hz]; rfl
    have hd : decide (z ≠ 0) = true := by simp [h]
    rw [hd]
    go_enter Tryz.func190, Tryz.ntmps190
    go_wp2
    go_ret
    exact ⟨rfl, rfl⟩
set_option maxRecDepth 100000 in
set_option maxHeartbeats 1000000 in
theorem indexF_any (base : Nat) (v : Value) (L : List Nat) (hl : L.length ≤ 100000) (w : World) (hv : Own base w v L) :
    Calls Tryz.prog 236 #[v, .func (.func 190) #[] #[]] w fun e w' => ∃ k : Int, e = .returned (.int .i64 k) ∧ (0 ≤ k ↔ val32 L ≠ 0) ∧ w' = w := by
  rcases hv.forms with ⟨rfl, rfl⟩ | ⟨g, cap, rfl, hg0, hg1, hlc⟩
  · clear hv
    go_enter Tryz.func236, Tryz.ntmps236
    go_wp2
    go_loopw [8] (fun i wr => i = .int .i64 0 ∧ wr = w) (fun _ _ => 0)
    case atStart => exact ⟨rfl, rfl⟩
    case round =>
      obtain ⟨rfl, rfl⟩ := hrel
      go_wp2
      go_ret
      exact ⟨-1, rfl, by simp [val32], rfl⟩
  · obtain ⟨n, hn⟩ : ∃ n, L.length = n := ⟨_, rfl⟩
    rw [hn] at hl hlc
    have HV : Hid (Own base w (.slice (some ⟨g, 0, none⟩) L.length cap) L) := hv
    have HN : Hid (L.length = n) := hn
    rw [hn]
    clear hv hn
    go_enter Tryz.func236, Tryz.ntmps236
    go_wp2
    go_loopw [8] (fun i wr => ∃ j : Nat, i = .int .i64 (j : Int) ∧ j ≤ n ∧ (∀ d ∈ L.take j, d = 0) ∧ wr = w) (fun i _ => n - (RowKit.intOf i).toNat)
    case atStart => exact ⟨0, rfl, Nat.zero_le _, by simp, rfl⟩
    case round =>
      obtain ⟨j, rfl, hj, hz, rfl⟩ := hrel
      have HZ : Hid (∀ d ∈ L.take j, d = 0) := hz
      clear hz
      rcases Nat.lt_or_ge j n with hlt | hge
      · have hjL : j < L.length := by rw [HN.out]; exact hlt
        have hcell := HV.out.cell j hjL
        have HE : Hid (L.take (j + 1) = L.take j ++ [L[j]?.getD 0]) := by
          show _ = _
          rw [List.take_succ_eq_append_getElem hjL, List.getElem?_eq_getElem hjL]
          rfl
        have HM : Hid (L[j]?.getD 0 ∈ L) := by
          show _ ∈ _
          rw [List.getElem?_eq_getElem hjL]
          exact List.getElem_mem _
        generalize L[j]?.getD 0 = z at *
        have k1 : (j : Int) < (n : Int) := by omega
        clear hjL
        by_cases h0 : z = 0
        · subst h0
          have ci : ∀ w, Calls Tryz.prog 190 #[.int .u32 0] w fun e w' => e = .returned (.bool false) ∧ w' = w := fun w => isz_one 0 w
          go_wp2_with (go_at_call 190; refine (ci _).mono ?_; rintro e w1 ⟨rfl, rfl⟩)
          refine ⟨⟨j + 1, rfl, hlt, ?_, trivial⟩, ?_⟩
          · rw [HE.out]
            intro d hd
            rcases List.mem_append.1 hd with h | h
            · exact HZ.out d h
            · simpa using h
          · simp only [RowKit.intOf]
            omega
        · have hd : decide (z ≠ 0) = true := by simp [h0]
          have ci := isz_one z
          rw [hd] at ci
          go_wp2_with (go_at_call 190; refine (ci _).mono ?_; rintro e w1 ⟨rfl, rfl⟩)
          go_ret
          refine ⟨(j : Int), rfl, ⟨fun _ h => h0 ((val32_zero_iff L).1 h z HM.out), fun _ => by omega⟩, rfl⟩
      · have hjn : j = n := by omega
        subst hjn
        go_wp2
        go_ret
        refine ⟨-1, rfl, ⟨fun h => by omega, fun h => ?_⟩, rfl⟩
        exfalso
        apply h
        rw [val32_zero_iff]
        have h2 := HZ.out
        rw [List.take_of_length_le (by rw [HN.out]; omega)] at h2
        exact h2
set_option maxRecDepth 100000 in
set_option maxHeartbeats 1000000 in
theorem isZero_any (base : Nat) (v : Value) (L : List Nat) (hl : L.length ≤ 100000) (w : World) (hv : Own base w v L) :
    Calls Tryz.prog 145 #[v] w fun e w' => e = .returned (.bool (decide (val32 L = 0))) ∧ w' = w := by
  obtain ⟨a, n, c, hvs⟩ : ∃ a n c, v = .slice a n c := by
    rcases hv.forms with ⟨rfl, rfl⟩ | ⟨g, cap, rfl, _, _, _⟩
    · exact ⟨_, _, _, rfl⟩
    · exact ⟨_, _, _, rfl⟩
  have ci := indexF_any base v L hl w hv
  subst hvs
  have CI : Hid (Calls Tryz.prog 236 #[.slice a n c, .func (.func 190) #[] #[]] w fun e w' => ∃ k : Int, e = .returned (.int .i64 k) ∧ (0 ≤ k ↔ val32 L ≠ 0) ∧ w' = w) := ci
  clear ci hv
  have cc : Calls Tryz.prog 189 #[.slice a n c, .func (.func 190) #[] #[]] w fun e w' => e = .returned (.bool (decide (val32 L ≠ 0))) ∧ w' = w := by
    go_enter Tryz.func189, Tryz.ntmps189
    go_wp2_with (first | (go_at_call 236; fail))
    have ci := CI.out
    go_fit ci
    rintro e w1 ⟨k, rfl, hk, rfl⟩
    obtain ⟨b, hb⟩ : ∃ b, decide (0 ≤ k) = b := ⟨_, rfl⟩
    have HK : Hid (b = decide (val32 L ≠ 0)) := hb.symm.trans (decide_eq_decide.2 hk)
    clear ci hk
    go_wp2
    go_ret
    exact ⟨congrArg (fun b => Ending.returned (Value.bool b)) HK.out, rfl⟩
  have hb : (!decide (val32 L ≠ 0)) = decide (val32 L = 0) := by simp
  rw [← hb]
  clear hb CI
  generalize decide (val32 L ≠ 0) = b at *
  have hnot : ∀ (x : Bool) (w : World), (Op.unary .not (.bool x)).run Tryz.prog w = .ok (.bool (!x)) w := fun _ _ => rfl
  go_enter Tryz.func145, Tryz.ntmps145
  go_wp2_with (first | (go_at_call 189; refine cc.mono ?_; rintro e w1 ⟨rfl, rfl⟩))
  go_ret
  exact ⟨rfl, rfl⟩
end Go.Proofs.YtellndmbllmjgaaGreatDoor
/- fraction: append(x, make(..)...), scale with what it keeps. -/
set_option linter.unusedVariables false
namespace Go.Proofs.YtellndmbllmjgaaGreatDoor
open Go.RowKit Go.Shelf Go.Sort Fs Fl

theorem zeroC (s : Nat) : (Builtin.zeroCells #[Value.int .u32 0] s).toList = (List.replicate s 0).map dv := by
  rw [List.map_replicate]
  apply List.ext_getElem
  · simp [Builtin.zeroCells]
  · intro i h1 h2
    simp [Builtin.zeroCells, dv]
    rw [Nat.mod_one]
    rfl
theorem run_append_made (w : World) (base : Nat) (ty : TypeId) (g n cap s : Nat) (xs : List Value) (hs : 1 ≤ s) (hns : n + s ≤ 1000000) (hown : w.ownsRow base 108 1 (.slice (some ⟨g, 0, none⟩) n cap) n xs) (hbase : base ≤ w.heap.size) :
    ∃ v' w', (Builtin.append_ #[117, 3] ty #[.slice (some ⟨g, 0, none⟩) n cap, .int .i64 (s : Int)]).run Tryz.prog w = .ok v' w' ∧ w'.ownsRow base 108 1 v' (n + s) (xs ++ (List.replicate s 0).map dv) ∧ w.grownBy w' (some g) := by
  obtain ⟨i0, hi, hz0, hz1, hz2⟩ := info_parts info108
  have hu := run_underlying (P := Tryz.prog) (Tryz.underlying117)
  have hu3 := run_underlying (P := Tryz.prog) (Tryz.underlying3)
  have hzc : (Value.int .u32 0).cells = #[Value.int .u32 0] := rfl
  have hw64 : IntKind.i64.wrap (s : Int) = (s : Int) := by rw [IntKind.wrap_i64]; omega
  have hai : ∀ w, Sem.run Tryz.prog (asInt (.int .i64 (s : Int))) w = .ok (s : Int) w := fun _ => rfl
  have hneg : ¬ ((s : Int) < 0) := by omega
  have hbig : ¬ ((281474976710656 : Int) < (s : Int) * 4) := by omega
  have hs0 : s ≠ 0 := by omega
  have hlen : (xs ++ (List.replicate s 0).map dv).length = (n + s) * 1 := by rw [List.length_append, hown.1, List.length_map, List.length_replicate, Nat.add_mul, Nat.mul_one s]
  rcases hown.2 with ⟨h, _⟩ | ⟨g', cap', cur, hve, hbg, hg, hnc, hcm, hcs, htake⟩
  · cases h
  · cases hve
    have hzl := zeroC s
    by_cases hroom : n + s ≤ cap
    · have hfit : n + ((List.replicate s 0).map dv).length ≤ cur.size := by rw [List.length_map, List.length_replicate, hcs]; omega
      have hst := run_storeCells_at Tryz.prog g n 108 ((List.replicate s 0).map dv) 0 cur w hg (by simpa using hfit) (u32_one _)
      simp only [Nat.add_zero] at hst
      have hst2 := hst
      simp only [List.map_replicate, List.length_replicate, List.append_assoc] at hst2
      refine ⟨.slice (some ⟨g, 0, none⟩) (n + s) cap, w.setRow g (cur.toList.take n ++ (List.replicate s 0).map dv ++ cur.toList.drop (n + ((List.replicate s 0).map dv).length)).toArray, ?_, ⟨hlen, .inr ⟨g, cap, _, rfl, hbg, setRow_heap w g cur _ 108 _ hg, hroom, hcm, ?_, ?_⟩⟩, ⟨rfl, rfl, rfl, by simp, fun k _ hk => setRow_other w g k _ (fun e => hk (by simp [e]))⟩⟩
      · simp [Builtin.append_, hu, hu3, sizeOf, typeInfo, zeroValue, hai, hi, hz0, hz1, hz2, hw64, hneg, hbig, hs0, hroom, Addr.add_lit, hzc, hzl, hst2]
      · simp only [List.size_toArray, List.length_append, List.length_take, List.length_drop, Array.length_toList]
        omega
      · rw [Nat.mul_one] at htake hlen
        rw [htake, Nat.mul_one, ← hlen]
        exact List.take_left
    · have holds : ∀ j u, xs[j]? = some u → w.cell? ((⟨g, 0, none⟩ : Addr).add j) = some u := hown.cells (g := g) rfl
      have h63' : ¬ (9223372036854775807 < ((n : Int) + (s : Int))) := by omega
      have h48' : ¬ (281474976710656 < Builtin.nextslicecap (n + s) cap * 4) := by
        have := growslice_fits (bytes := 4) (show cap < n + s by omega) (by omega)
        omega
      have hfo := run_firstCells_some (P := Tryz.prog) w.drew 1 n ⟨g, 0, none⟩ n cap xs hown.1 (by simpa using holds)
      have hge := grownCap_ge w (n + s) cap 108
      have hcm2 : grownCap w (n + s) cap 108 ≤ maxLen := grownCap_le_maxLen w (n + s) cap 108 (by unfold maxLen; omega)
      refine ⟨.slice (some ⟨w.heap.size, 0, none⟩) (n + s) (grownCap w (n + s) cap 108), w.drew.alloc (.cells (xs.toArray ++ Builtin.zeroCells #[Value.int .u32 0] s ++ Builtin.zeroCells #[Value.int .u32 0] (grownCap w (n + s) cap 108 - (n + s))) 108), ?_, ⟨hlen, .inr ⟨w.heap.size, _, _, rfl, hbase, heap_alloc_new w.drew _, hge, hcm2, ?_, ?_⟩⟩, ⟨rfl, rfl, rfl, by simp, fun k hk _ => (World.grownBy_alloc w.drew _ none).block k hk (by simp)⟩⟩
      · simp [Builtin.append_, hu, hu3, sizeOf, typeInfo, zeroValue, hai, hi, hz0, hz1, hz2, hw64, hneg, hbig, hs0, hroom, hzc, h63', h48', Question.forced, hfo, newRow, grownCap]
      · have h1 := hown.1
        simp only [Array.size_append, List.size_toArray, size_zeroCells, h1]
        simp
        omega
      · simp only [Array.toList_append, List.append_assoc]
        rw [← List.append_assoc, ← hlen, zeroC]
        exact List.take_left
theorem kset {base : Nat} {w W : World} {g cap j : Nat} {L : List Nat} (h : Kept108 w W) (hO : Own base W (.slice (some ⟨g, 0, none⟩) L.length cap) L) (u : Value) : Kept108 w (W.setCell ⟨g, j, none⟩ u) := by
  intro i C t fr hi ht
  have h1 := h i C t fr hi ht
  refine (heap_setCell_other W ⟨g, j, none⟩ i u ?_).trans h1
  intro e
  rcases hO.2 with ⟨h3, _⟩ | ⟨g', cap', cur, hv, hbg, hgg, hrr⟩
  · cases h3
  · cases hv
    simp at e
    rw [← e, h1] at hgg
    cases hgg
    exact ht rfl
inductive ScK (base g cap n : Nat) (w : World) (L : List Nat) (f more : Nat) : Value → Value → World → Prop
  | mk (M : List Nat) (j carry : Nat) (W : World) (hj : j ≤ n) (hS : ScS L M f more j carry) (hO : Own base W (.slice (some ⟨g, 0, none⟩) M.length cap) M) (hb : Below base w W) (hk : Kept108 w W) : ScK base g cap n w L f more (.int .u64 (carry : Int)) (.int .i64 (j : Int)) W
set_option maxRecDepth 100000 in
set_option maxHeartbeats 1000000 in
theorem scale_kept (base : Nat) (v : Value) (L : List Nat) (hl : L.length ≤ 100000) (hL : W32 L) (f more : Nat) (hf : f < 4294967296) (hm : more < 4294967296) (w : World) (hv : Own base w v L) :
    Calls Tryz.prog 143 #[v, .int .u32 (f : Int), .int .u32 (more : Int)] w fun e w' => ∃ (M : List Nat) (over : Nat), e = .returned (.int .u32 (over : Int)) ∧ M.length = L.length ∧ W32 M ∧ over < 4294967296 ∧ val32 M + 4294967296 ^ L.length * over = f * val32 L + more ∧ Own base w' v M ∧ Below base w w' ∧ Kept108 w w' := by
  rcases hv.forms with ⟨rfl, rfl⟩ | ⟨g, cap, rfl, hg0, hg1, hlc⟩
  · have HV : Hid (Own base w (.slice none 0 0) []) := hv
    clear hv
    go_enter Tryz.func143, Tryz.ntmps143
    go_wp2
    go_loopw [7, 14] (fun c i wr => c = .int .u64 (more : Int) ∧ i = .int .i64 0 ∧ wr = w) (fun _ _ _ => 0)
    case atStart => exact ⟨rfl, rfl, rfl⟩
    case round =>
      obtain ⟨rfl, rfl, rfl⟩ := hrel
      go_wp2
      go_ret
      exact ⟨[], more, rfl, rfl, fun x hx => by simp at hx, hm, by simp [val32], HV.out, Below.refl _ _, Kept108.refl _⟩
  · obtain ⟨n, hn⟩ : ∃ n, L.length = n := ⟨_, rfl⟩
    rw [hn] at hl hlc
    have HV : Hid (Own base w (.slice (some ⟨g, 0, none⟩) L.length cap) L) := hv
    have HN : Hid (L.length = n) := hn
    have HW : Hid (W32 L) := hL
    rw [hn]
    clear hv hn hL
    go_enter Tryz.func143, Tryz.ntmps143
    go_wp2
    go_loopw [7, 14] (fun c i wr => ScK base g cap n w L f more c i wr) (fun _ i _ => n - (RowKit.intOf i).toNat)
    case atStart => exact .mk L 0 more _ (Nat.zero_le _) ⟨rfl, by simp [val32], rfl, hm, HW.out⟩ HV.out (Below.refl _ _) (Kept108.refl _)
    case round =>
      obtain ⟨M, j, carry, W, hj, hS, hO, hbw, hkw⟩ := hrel
      have HKW : Hid (Kept108 w wr) := hkw
      clear hkw
      have HS : Hid (ScS L M f more j carry) := hS
      have HO : Hid (Own base wr (.slice (some ⟨g, 0, none⟩) M.length cap) M) := hO
      have hcb := hS.carry
      rcases Nat.lt_or_ge j n with hlt | hge
      · have hjM : j < M.length := by rw [hS.len, HN.out]; exact hlt
        have hcell := hO.cell j hjM
        have hfz := hO.frozen j
        have hmb := w32_get hS.w32 j
        have HST := (show Hid _ from fun (x : Nat) => scale_step (x := x) hS (by rw [HN.out]; exact hlt) hf)
        generalize M[j]?.getD 0 = m at *
        have k1 : (j : Int) < (n : Int) := by omega
        clear hS hO hjM
        have hxm : m * f ≤ 18446744065119617025 := Nat.le_trans (Nat.mul_le_mul (show m ≤ 4294967295 by omega) (show f ≤ 4294967295 by omega)) (by decide)
        have hw1 : IntKind.u64.wrap ((m : Int) * (f : Int)) = ((m * f : Nat) : Int) := by
          rw [IntKind.wrap_u64, ← Int.natCast_mul]
          omega
        obtain ⟨y, hy⟩ : ∃ y, y = m * f := ⟨_, rfl⟩
        rw [← hy] at hw1 hxm
        rw [← hy] at HST
        have hw2 : IntKind.u64.wrap ((carry : Int) + (y : Int)) = ((carry + y : Nat) : Int) := by
          rw [IntKind.wrap_u64]
          omega
        obtain ⟨x, hx⟩ : ∃ x, x = carry + y := ⟨_, rfl⟩
        rw [← hx] at hw2
        have HX : Hid (x = carry + y) := hx
        have hxb : x < 18446744073709551616 := by omega
        clear hy hx hxm
        go_wp2
        have hst := HST.out x HX.out
        have hset := HO.out.set j (x % 4294967296)
        have e1 : (x : Int) / 4294967296 = ((x / 4294967296 : Nat) : Int) := rfl
        have e2 : (x : Int) % 4294967296 = ((x % 4294967296 : Nat) : Int) := rfl
        have e3 : (j : Int) + 1 = ((j + 1 : Nat) : Int) := rfl
        rw [e1, e2, e3]
        refine ⟨.mk _ (j + 1) _ _ hlt hst hset (hbw.setCell hg0 _) (kset HKW.out HO.out _), ?_⟩
        simp only [RowKit.intOf, Int.toNat_natCast]
        omega
      · have hjn : j = n := by omega
        subst hjn
        clear hS hO
        go_wp2
        go_ret
        have hS := HS.out
        have hlow := hS.low
        have hlen := HN.out
        rw [List.take_of_length_le (by rw [hS.len]; omega), List.take_of_length_le (by omega)] at hlow
        have hO := HO.out
        rw [hS.len, hlen] at hO
        exact ⟨M, carry, rfl, by rw [hS.len, hlen], hS.w32, hcb, hlow, hO, hbw, HKW.out⟩
theorem Own.mono {base base' : Nat} {w : World} {v : Value} {L : List Nat} (h : Own base w v L) (hb : base' ≤ base) : Own base' w v L := by
  refine ⟨h.1, ?_⟩
  rcases h.2 with h1 | ⟨g, cap, cur, hv, hbg, hg, hr⟩
  · exact .inl h1
  · exact .inr ⟨g, cap, cur, hv, Nat.le_trans hb hbg, hg, hr⟩
theorem own_keep5 {base : Nat} {w w' : World} {v : Value} {L : List Nat} (h : Own base w v L) (hk : Kept5 w w') : Own base w' v L := by
  refine ⟨h.1, ?_⟩
  rcases h.2 with h3 | ⟨g, cap, cur, hv, hbg, hg, hr⟩
  · exact .inl h3
  · exact .inr ⟨g, cap, cur, hv, hbg, hk g _ _ _ hg (by decide), hr⟩
theorem own_cut {base : Nat} {w : World} {g cap n k : Nat} {L : List Nat} (h : Own base w (.slice (some ⟨g, 0, none⟩) n cap) L) (hn : L.length = n) (hk : k ≤ n) : Own base w (.slice (some ⟨g, 0, none⟩) k cap) (L.take k) := by
  have hl : (L.take k).length = k := by rw [List.length_take, hn]; omega
  unfold Own
  rw [hl]
  refine ⟨by rw [List.length_map, hl, Nat.mul_one], ?_⟩
  rcases h.2 with ⟨h3, _⟩ | ⟨g', cap', cur, hv, hbg, hgg, h1, h2, h3, h4⟩
  · cases h3
  · cases hv
    refine .inr ⟨g, cap, cur, rfl, hbg, hgg, by omega, h2, h3, ?_⟩
    rw [List.map_take, ← h4, Nat.mul_one, Nat.mul_one, List.take_take, Nat.min_eq_left (by omega)]
section
variable {ops : Array Oper} {rest : List Oper} {o : Oper} {a : Act} {Q : Exit → Act → World → Prop}
/-- append of as many noughts. -/
theorem appZ (hgd : o.guard = none) (s x : Operand) (ho : o.op = .call { callee := .builtin .append, args := #[s, x], argTypes := #[117, 3] })
    (base g n cap k : Nat) (L : List Nat) (w : World) (hL : L.length = n) (hown : Own base w (.slice (some ⟨g, 0, none⟩) n cap) L) (hs : a.eval s = .slice (some ⟨g, 0, none⟩) n cap) (hx : a.eval x = .int .i64 (k : Int))
    (hk : 1 ≤ k) (hn : n + k ≤ 1000000) (hb : base ≤ w.heap.size)
    (h : ∀ g' cap' w', Own base w' (.slice (some ⟨g', 0, none⟩) (n + k) cap') (L ++ List.replicate k 0) → n + k ≤ cap' → Below base w w' → wpList Tryz.prog ops Q rest (a.put o.dst (.slice (some ⟨g', 0, none⟩) (n + k) cap')) w') :
    wpList Tryz.prog ops Q (o :: rest) a w := by
  unfold Own at hown
  rw [hL] at hown
  have hg := hown.lt g rfl
  obtain ⟨v', w', hr, h2, h3⟩ := run_append_made w base o.type g n cap k (L.map dv) hk hn hown hb
  obtain ⟨g', cap', hv, hc⟩ : ∃ g' cap', v' = .slice (some ⟨g', 0, none⟩) (n + k) cap' ∧ n + k ≤ cap' := by
    rcases h2.2 with ⟨_, h0⟩ | ⟨g', cap', cur, hv, _, _, h5, _⟩
    · omega
    · exact ⟨g', cap', hv, h5⟩
  subst hv
  refine wpList_plain hgd fun _ hK => ?_
  unfold Oper.wp execOp
  simp only [ho, resolve, invoke, builtin, Sem.run_bind, Sem.run_pure, Result.andThen_ok, List.map_toArray, List.map_cons, List.map_nil, hs, hx, hr]
  refine hK _ _ (h g' cap' w' ?_ hc ((Below.refl _ _).grown h3 hb (fun j e => by cases e; exact hg.1)))
  unfold Own
  rw [List.length_append, List.length_replicate, hL, List.map_append]
  exact h2
end
end Go.Proofs.YtellndmbllmjgaaGreatDoor
