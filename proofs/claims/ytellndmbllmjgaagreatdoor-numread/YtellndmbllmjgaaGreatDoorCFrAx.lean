/- front at any text. -/
import Derived.Test.YtellndmbllmjgaaGreatDoorCUtAx
import Derived.Test.YtellndmbllmjgaaGreatDoorCFs1x
import Derived.Test.YtellndmbllmjgaaGreatDoorCNu2x
import Derived.Test.YtellndmbllmjgaaGreatDoorCVa2x
import Derived.Test.YtellndmbllmjgaaGreatDoorCUr3x
import Derived.Test.YtellndmbllmjgaaGreatDoorCSc1x
import Derived.Test.YtellndmbllmjgaaGreatDoorCWf6x
set_option linter.unusedVariables false
namespace Go.Proofs.YtellndmbllmjgaaGreatDoor
open Go.RowKit Go.Shelf Go.Sort Fs Fl
set_option maxRecDepth 100000 in
set_option maxHeartbeats 1000000 in
theorem frontG_of (S T : ByteArray) (s : Bool) (c L : Nat) (P : Nat → Prop) (hs : S.size ≤ 100000) (hts : T.size ≤ S.size) (hcT : c ≤ T.size) (hL : L = S.size - T.size + c) (hP : ∀ F, P F → F ≤ 9218868437227405312) (hpre : Lib.hasPrefix T.data.toList [73, 110, 102, 105, 110, 105, 116, 121] = false) (w : World)
    (cs : ∀ w, Calls Tryz.prog 52 #[.string S] w fun e w' => e = .returned (.tuple #[.string T, .float .f64 (wd s 4607182418800017408)]) ∧ w' = w)
    (cd : Calls Tryz.prog 97 #[.string T] w fun e w' => ∃ F, P F ∧ e = .returned (.tuple #[.float .f64 F, .int .i64 (c : Int)]) ∧ Below w.heap.size w w') :
    Calls Tryz.prog 42 #[.string S] w fun e w' => ∃ F, P F ∧ e = .returned (.tuple #[.float .f64 (wd s F), .int .i64 (L : Int)]) ∧ Below w.heap.size w w' := by
  have cp := Tryz.strings_HasPrefix T ⟨#[73, 110, 102, 105, 110, 105, 116, 121]⟩
  have hpre' : Lib.hasPrefix T.data.toList (ByteArray.mk #[73, 110, 102, 105, 110, 105, 116, 121]).data.toList = false := hpre
  rw [hpre'] at cp
  have HP := (show Hid _ from hP)
  obtain ⟨NS, hNS⟩ : ∃ NS, S.size = NS := ⟨_, rfl⟩
  obtain ⟨NT, hNT⟩ : ∃ NT, T.size = NT := ⟨_, rfl⟩
  have HL : Hid ((L : Int) = (NS : Int) - (NT : Int) + (c : Int)) := by show _ = _; omega
  have h1 : NS ≤ 100000 := by omega
  have h2 : NT ≤ NS := by omega
  have h3 : c ≤ NT := by omega
  clear hpre hpre' hP hL hs hts hcT
  go_enter Tryz.func42, Tryz.ntmps42
  go_wp2_with (first | (go_at_call 52; refine (cs _).mono ?_; rintro e w1 ⟨rfl, rfl⟩) | (go_at_call 77; refine (cp _).mono ?_; rintro e w1 ⟨rfl, rfl⟩) | (go_at_call 97; fail))
  refine cd.mono ?_
  rintro e w2 ⟨F, hF, rfl, hb⟩
  have hm : ∀ ty w, (binOp .mul ty (.float .f64 (wd s 4607182418800017408)) (.float .f64 F)).run Tryz.prog w = .ok (.float .f64 (wd s F)) w := fun ty w => run_float_arith w .mul ty .f64 _ _ _ (mul_unit s F (HP.out F hF))
  have HF : Hid (P F) := hF
  clear hF HP cp cs cd
  generalize wd s 4607182418800017408 = us at *
  go_wp2
  go_ret2
  exact ⟨F, HF.out, by rw [HL.out]; rfl, hb⟩
set_option maxRecDepth 100000 in
set_option maxHeartbeats 1000000 in
theorem frontG_inf (S T : ByteArray) (s : Bool) (L : Nat) (hs : S.size ≤ 100000) (hts : T.size ≤ S.size) (hT8 : 8 ≤ T.size) (hL : L = S.size - T.size + 8) (hpre : Lib.hasPrefix T.data.toList [73, 110, 102, 105, 110, 105, 116, 121] = true) (w : World)
    (cs : ∀ w, Calls Tryz.prog 52 #[.string S] w fun e w' => e = .returned (.tuple #[.string T, .float .f64 (wd s 4607182418800017408)]) ∧ w' = w) :
    Calls Tryz.prog 42 #[.string S] w fun e w' => e = .returned (.tuple #[.float .f64 (wd s 9218868437227405312), .int .i64 (L : Int)]) ∧ w' = w := by
  have cp := Tryz.strings_HasPrefix T ⟨#[73, 110, 102, 105, 110, 105, 116, 121]⟩
  have hpre' : Lib.hasPrefix T.data.toList (ByteArray.mk #[73, 110, 102, 105, 110, 105, 116, 121]).data.toList = true := hpre
  rw [hpre'] at cp
  clear hpre hpre'
  have ci := infS_any s
  have cc := one_int s
  generalize wd s 4607182418800017408 = us at *
  generalize wd s 9218868437227405312 = ui at *
  generalize (if s then (-1 : Int) else 1) = sg at *
  obtain ⟨NS, hNS⟩ : ∃ NS, S.size = NS := ⟨_, rfl⟩
  obtain ⟨NT, hNT⟩ : ∃ NT, T.size = NT := ⟨_, rfl⟩
  have HL : Hid ((L : Int) = (NS : Int) - (NT : Int) + 8) := by show _ = _; omega
  have h1 : NS ≤ 100000 := by omega
  have h2 : NT ≤ NS := by omega
  clear hL hs hts hT8
  go_enter Tryz.func42, Tryz.ntmps42
  go_wp2_with (first | (go_at_call 52; refine (cs _).mono ?_; rintro e w1 ⟨rfl, rfl⟩) | (go_at_call 77; refine (cp _).mono ?_; rintro e w1 ⟨rfl, rfl⟩) | (go_at_call 48; refine (ci _).mono ?_; rintro e w1 ⟨rfl, rfl⟩))
  go_ret2
  exact ⟨by rw [HL.out]; rfl, rfl⟩
/-- A word that is no number. -/
def NanW (x : Nat) : Prop := ∃ s r, x = wd s r ∧ 9218868437227405312 < r ∧ r < 9223372036854775808
theorem nb_nan (a b : Nat) (w : World) : NanW (nb a b w) := by
  unfold nb
  generalize w.tape w.drawn (.nanBits .f64 a b) = t
  refine ⟨decide (t % 2 = 1), 9218868437227405313 + t / 2 % 4503599627370495, ?_, by omega, by omega⟩
  have e : Question.cut (.nanBits .f64 a b) t = t % 2 * 9223372036854775808 + 9218868437227405312 + 1 + t / 2 % 4503599627370495 := rfl
  rw [e]
  rcases Nat.mod_two_eq_zero_or_one t with h | h
  · rw [h, show decide (0 = 1) = false from rfl, wd_false]; try omega
  · rw [h, show decide (1 = 1) = true from rfl, wd_true]; try omega
theorem nan_nan : NanW 9221120237041090561 := ⟨false, 9221120237041090561, by rw [wd_false], by decide, by decide⟩
theorem mul_sone_nan (s : Bool) : FloatKind.f64.format.mul (wd s 4607182418800017408) 9221120237041090561 = none := by
  cases s
  · rw [wd_false]; decide +kernel
  · rw [wd_true]; decide +kernel
set_option maxRecDepth 100000 in
set_option maxHeartbeats 1000000 in
theorem frontG_nan (S T : ByteArray) (s : Bool) (L : Nat) (hs : S.size ≤ 100000) (hts : T.size ≤ S.size) (hL : L = S.size - T.size) (hpre : Lib.hasPrefix T.data.toList [73, 110, 102, 105, 110, 105, 116, 121] = false) (w : World)
    (cs : ∀ w, Calls Tryz.prog 52 #[.string S] w fun e w' => e = .returned (.tuple #[.string T, .float .f64 (wd s 4607182418800017408)]) ∧ w' = w)
    (cd : Calls Tryz.prog 97 #[.string T] w fun e w' => e = .returned (.tuple #[.float .f64 9221120237041090561, .int .i64 0]) ∧ Below w.heap.size w w') :
    Calls Tryz.prog 42 #[.string S] w fun e w' => ∃ x, NanW x ∧ e = .returned (.tuple #[.float .f64 x, .int .i64 (L : Int)]) ∧ Below w.heap.size w w' := by
  have cp := Tryz.strings_HasPrefix T ⟨#[73, 110, 102, 105, 110, 105, 116, 121]⟩
  have hpre' : Lib.hasPrefix T.data.toList (ByteArray.mk #[73, 110, 102, 105, 110, 105, 116, 121]).data.toList = false := hpre
  rw [hpre'] at cp
  clear hpre hpre'
  have hm := mul_nan (wd s 4607182418800017408) 9221120237041090561 (mul_sone_nan s)
  have hnn := nb_nan (wd s 4607182418800017408) 9221120237041090561
  have HNN := (show Hid _ from hnn)
  clear hnn
  obtain ⟨NS, hNS⟩ : ∃ NS, S.size = NS := ⟨_, rfl⟩
  obtain ⟨NT, hNT⟩ : ∃ NT, T.size = NT := ⟨_, rfl⟩
  have HL : Hid ((L : Int) = (NS : Int) - (NT : Int)) := by show _ = _; omega
  have h1 : NS ≤ 100000 := by omega
  have h2 : NT ≤ NS := by omega
  clear hL hs hts
  generalize wd s 4607182418800017408 = us at *
  go_enter Tryz.func42, Tryz.ntmps42
  go_wp2_with (first | (go_at_call 52; refine (cs _).mono ?_; rintro e w1 ⟨rfl, rfl⟩) | (go_at_call 77; refine (cp _).mono ?_; rintro e w1 ⟨rfl, rfl⟩) | (go_at_call 97; refine cd.mono ?_; rintro e w2 ⟨rfl, hb⟩))
  go_ret2
  exact ⟨_, HNN.out _, by rw [HL.out]; rfl, hb.drew⟩
/-- What the number at the front is (nothing: none); how many bytes it takes. -/
inductive FrontIs (far : Nat) (l : List Nat) : Nat → Nat → Prop
  | inf (h : infL.isPrefixOf (l.drop (signL l).2) = true) : FrontIs far l (wd (signL l).1 9218868437227405312) ((signL l).2 + 8)
  | nan (x : Nat) (h : infL.isPrefixOf (l.drop (signL l).2) = false) (hn : numL (l.drop (signL l).2) = none) (hx : NanW x) : FrontIs far l x (signL l).2
  | num (F : Nat) (q : List Nat × Nat × Option (Bool × List Nat × Nat) × Nat) (h : infL.isPrefixOf (l.drop (signL l).2) = false) (hn : numL (l.drop (signL l).2) = some q) (hF : NumIs far q.1 q.2.1 q.2.2.1 F) :
      FrontIs far l (wd (signL l).1 F) ((signL l).2 + (q.2.2.2 + exN q.2.2.1))
theorem pre_inf (T : ByteArray) : Lib.hasPrefix T.data.toList [73, 110, 102, 105, 110, 105, 116, 121] = infL.isPrefixOf (Ut.bytes T) := by
  unfold Lib.hasPrefix Ut.bytes
  have key : ∀ (p l : List UInt8), p.isPrefixOf l = (p.map UInt8.toNat).isPrefixOf (l.map UInt8.toNat) := by
    intro p
    induction p with
    | nil => intro l; cases l <;> rfl
    | cons a p ih =>
      intro l
      cases l with
      | nil => rfl
      | cons c l =>
        rw [List.map_cons, List.map_cons, List.isPrefixOf_cons_cons, List.isPrefixOf_cons_cons, ih]
        congr 1
        by_cases h : a = c
        · subst h; simp
        · have h2 : ¬ a.toNat = c.toNat := fun e => h (UInt8.toNat_inj.1 e)
          rw [beq_eq_false_iff_ne.2 h, beq_eq_false_iff_ne.2 h2]
  rw [key]
  rfl
theorem numL_le {l : List Nat} {q : List Nat × Nat × Option (Bool × List Nat × Nat) × Nat} (h : numL l = some q) : q.2.2.2 + exN q.2.2.1 ≤ l.length := by
  have h1 := runL_le 10 l
  rw [← digL_len] at h1
  unfold numL at h
  split at h
  · rename_i hd
    split at h
    · cases h
    · injection h with h
      subst h
      have hlt : (digL l).length < l.length := by
        rw [List.head?_drop] at hd
        exact (List.getElem?_eq_some_iff.1 hd).1
      have h2 := runL_le 10 (l.drop ((digL l).length + 1))
      rw [← digL_len, List.length_drop] at h2
      have h3 := exN_le (l.drop ((digL l).length + 1 + (digL (l.drop ((digL l).length + 1))).length))
      rw [List.length_drop] at h3
      show (digL l).length + 1 + (digL (l.drop ((digL l).length + 1))).length + exN (expL (l.drop ((digL l).length + 1 + (digL (l.drop ((digL l).length + 1))).length))) ≤ l.length
      omega
  · split at h
    · cases h
    · injection h with h
      subst h
      have h3 := exN_le (l.drop (digL l).length)
      rw [List.length_drop] at h3
      show (digL l).length + exN (expL (l.drop (digL l).length)) ≤ l.length
      omega
/-- **front at any text.** -/
theorem front_all (S : ByteArray) (hs : S.size ≤ 25000) (w : World) (hL : RLaid w) (hSL : SLaid w) :
    Calls Tryz.prog 42 #[.string S] w fun r w' => ∃ x c, FrontIs 1125899906842624 (Ut.bytes S) x c ∧ r = .returned (.tuple #[.float .f64 x, .int .i64 (c : Int)]) ∧ c ≤ S.size ∧ Below w.heap.size w w' := by
  obtain ⟨l, hl⟩ : ∃ l, Ut.bytes S = l := ⟨_, rfl⟩
  have hll : l.length = S.size := by rw [← hl]; exact Ut.bytes_len S
  have hsl := signL_le l
  have cs : ∀ w, Calls Tryz.prog 52 #[.string S] w fun e w' => e = .returned (.tuple #[.string (S.extract (signL l).2 S.size), .float .f64 (wd (signL l).1 4607182418800017408)]) ∧ w' = w := by
    intro w
    have := cutSign_any S (by omega) w
    rw [hl] at this
    exact this
  obtain ⟨T, hT⟩ : ∃ T, T = S.extract (signL l).2 S.size := ⟨_, rfl⟩
  have hTb : Ut.bytes T = l.drop (signL l).2 := by rw [hT, Ut.bytes_drop, hl]
  have hTs : T.size = S.size - (signL l).2 := by rw [hT, size_drop]
  rw [← hT] at cs
  rw [hl]
  have hp := pre_inf T
  rw [hTb] at hp
  cases hi : infL.isPrefixOf (l.drop (signL l).2) with
  | true =>
    rw [hi] at hp
    have h8 : 8 ≤ T.size := by
      rw [← Ut.bytes_len T, hTb]
      have := (List.isPrefixOf_iff_prefix.1 hi).length_le
      exact this
    refine (frontG_inf S T (signL l).1 ((signL l).2 + 8) (by omega) (by omega) h8 (by omega) hp w cs).mono ?_
    rintro e w' ⟨rfl, rfl⟩
    exact ⟨_, _, .inf hi, rfl, by omega, Below.refl _ _⟩
  | false =>
    rw [hi] at hp
    have cd := frontDecimal_all T (by omega) w hL hSL
    rw [hTb] at cd
    cases hn : numL (l.drop (signL l).2) with
    | none =>
      rw [hn] at cd
      refine (frontG_nan S T (signL l).1 (signL l).2 (by omega) (by omega) (by omega) hp w cs cd).mono ?_
      rintro e w' ⟨x, hx, rfl, hb⟩
      exact ⟨_, _, .nan x hi hn hx, rfl, by omega, hb⟩
    | some q =>
      rw [hn] at cd
      have hc := numL_le hn
      rw [List.length_drop, hll] at hc
      refine (frontG_of S T (signL l).1 (q.2.2.2 + exN q.2.2.1) ((signL l).2 + (q.2.2.2 + exN q.2.2.1)) (NumIs 1125899906842624 q.1 q.2.1 q.2.2.1) (by omega) (by omega) (by omega) (by omega) (fun F hF => ?_) hp w cs (cd.mono ?_)).mono ?_
      · obtain ⟨z, D, e, R, _, _, _, _, _, rfl⟩ := hF
        exact Nat.min_le_right _ _
      · rintro e w' ⟨⟨F, h1, h2⟩, h3⟩
        exact ⟨F, h1, h2, h3⟩
      · rintro e w' ⟨F, hF, rfl, hb⟩
        exact ⟨_, _, .num F q hi hn hF, rfl, by omega, hb⟩
end Go.Proofs.YtellndmbllmjgaaGreatDoor
/- The document's number and valued, said by what they are. -/
set_option linter.unusedVariables false
namespace Go.Proofs.YtellndmbllmjgaaGreatDoor
open Go.RowKit Go.Shelf Go.Sort Fs Fl
theorem digL_pre (l : List Nat) : digL l <+: l := List.takeWhile_prefix _
theorem digL_low (l : List Nat) : ∀ c ∈ digL l, c < 128 := fun c hc => by have := digL_dig l c hc; omega
theorem dgB_dig (l : List Nat) : Dig (dgB l) := by
  unfold dgB
  split
  · exact digL_dig _
  · intro c hc; simp at hc
theorem dgA_dig (l : List Nat) : Dig (dgA l) := (digL_dig l).append (dgB_dig l)
theorem low_drop (l : List Nat) (k : Nat) : Ut.Un.low (l.take k) + Ut.Un.low (l.drop k) = Ut.Un.low l := by rw [← Ut.Un.low_append, List.take_append_drop]
theorem dgA_low (l : List Nat) : (dgA l).length ≤ Ut.Un.low l := by
  have h1 := low_drop l (digL l).length
  rw [digL_take] at h1
  have h2 := Ut.Un.low_all (digL l) (digL_low l)
  unfold dgA
  rw [List.length_append]
  unfold dgB
  split
  · have h3 := Ut.Un.low_part (digL (l.drop ((digL l).length + 1))) (l.drop (digL l).length) 1 (digL_low _) (by rw [List.drop_drop]; exact digL_pre _)
    omega
  · simp
    omega
theorem numL_parts {l : List Nat} {q : List Nat × Nat × Option (Bool × List Nat × Nat) × Nat} (h : numL l = some q) : dgA l ≠ [] ∧ q = (dgA l, (digL l).length, expL (l.drop (exAt l)), exAt l) := by
  rw [numL_is] at h
  split at h
  · cases h
  · rename_i hn
    injection h with h
    exact ⟨hn, h.symm⟩
theorem numL_none {l : List Nat} (h : numL l = none) : dgA l = [] := by
  rw [numL_is] at h
  split at h
  · rename_i hn; exact hn
  · cases h
theorem exD_bounds {ex : Option (Bool × List Nat × Nat)} {e : Int} (h : ExIs 100000 ex e) : -1000000 ≤ e ∧ e ≤ 1000000 := by
  unfold ExIs at h
  cases ex with
  | none => simp at h; omega
  | some r =>
    obtain ⟨v, ⟨h1, _⟩, h2⟩ := h
    cases hr : r.1
    · rw [hr] at h2; simp at h2; omega
    · rw [hr] at h2; simp at h2; omega
/-- **number, by what it is.** -/
theorem numberD_none (S : ByteArray) (l : List Nat) (hl : Ut.bytes S = l) (hs : S.size ≤ 25000) (hn : numL l = none) (w : World) :
    Calls Tryz.prog 49 #[.string S] w fun e w' => e = .returned (.tuple #[.string (txt []), .int .i64 0, .int .i64 0]) ∧ w' = w := by
  refine (number_walk S l hl hs w).mono ?_
  rintro e w' ⟨h1, _⟩
  exact h1 (numL_none hn)
theorem numberD_some (S : ByteArray) (l : List Nat) (hl : Ut.bytes S = l) (hs : S.size ≤ 25000) (q : List Nat × Nat × Option (Bool × List Nat × Nat) × Nat) (hn : numL l = some q) (w : World) :
    Calls Tryz.prog 49 #[.string S] w fun e w' => ∃ v : Int, ExIs 100000 q.2.2.1 v ∧ e = .returned (.tuple #[.string (txt q.1), .int .i64 ((q.2.1 : Int) - (q.1.length : Int) + v), .int .i64 ((q.2.2.2 + exN q.2.2.1 : Nat) : Int)]) ∧ w' = w := by
  obtain ⟨hA, rfl⟩ := numL_parts hn
  refine (number_walk S l hl hs w).mono ?_
  rintro e w' ⟨_, h2⟩
  obtain ⟨v, h3, rfl, h5⟩ := h2 hA
  refine ⟨v, h3, ?_, h5⟩
  have e : ((digL l).length : Int) - ((dgA l).length : Int) + v = -((dgB l).length : Int) + v := by
    unfold dgA
    rw [List.length_append]
    omega
  rw [e]
/-- **valued, by what it is.** -/
theorem valuedD (l : List Nat) (hlow : Ut.Un.low l ≤ 4000) (hll : l.length ≤ 25000) (q : List Nat × Nat × Option (Bool × List Nat × Nat) × Nat) (hn : numL l = some q) (v : Int) (hv : ExIs 100000 q.2.2.1 v) (w : World) :
    Calls Tryz.prog 50 #[.string (txt q.1), .int .i64 ((q.2.1 : Int) - (q.1.length : Int) + v)] w fun e w' => ∃ F, NumIs 100000 q.1 q.2.1 q.2.2.1 F ∧ e = .returned (.float .f64 F) ∧ Below w.heap.size w w' := by
  have hb := exD_bounds hv
  obtain ⟨hA, rfl⟩ := numL_parts hn
  have hlen := dgA_low l
  have hL := runL_le 10 l
  rw [← digL_len] at hL
  obtain ⟨z, D, hz, hf⟩ := zeros_split (dgA l)
  have hd := dgA_dig l
  simp only at hv ⊢
  rw [hz] at hd hlen ⊢
  rw [List.length_append, List.length_replicate] at hlen
  have hDd : Dig D := hd.right
  refine (valued_any z D _ hDd hf (by omega) (by rw [List.length_append, List.length_replicate]; omega) (by rw [List.length_append, List.length_replicate]; omega) w).mono ?_
  rintro e w' ⟨R, hR, rfl, hbw⟩
  refine ⟨_, ⟨z, D, v, R, rfl, hDd, hf, hv, ?_, rfl⟩, rfl, hbw⟩
  rw [List.length_append, List.length_replicate] at hR
  have e : ((digL l).length : Int) + v - (z : Int) = (D.length : Int) + (((digL l).length : Int) - ((z + D.length : Nat) : Int) + v) := by omega
  rw [e]
  exact hR
end Go.Proofs.YtellndmbllmjgaaGreatDoor
/- The document's ReadFloat. -/
set_option linter.unusedVariables false
namespace Go.Proofs.YtellndmbllmjgaaGreatDoor
open Go.RowKit Go.Shelf Go.Sort Fs Fl
theorem list8 (X : ByteArray) : (X.toList == [73, 110, 102, 105, 110, 105, 116, 121]) = decide (Ut.bytes X = infL) := by
  rw [Lib.toList_data]
  unfold Ut.bytes
  generalize X.data.toList = L
  rw [Bool.eq_iff_iff, beq_iff_eq, decide_eq_true_eq]
  constructor
  · rintro rfl; rfl
  · intro h
    have e : infL = ([73, 110, 102, 105, 110, 105, 116, 121] : List UInt8).map UInt8.toNat := rfl
    rw [e] at h
    exact (List.map_inj_right (fun a b h => UInt8.toNat_inj.1 h)).1 h
theorem pre8 (U : ByteArray) (h : 8 ≤ U.size) : ((U.extract 0 8).toList == [73, 110, 102, 105, 110, 105, 116, 121]) = infL.isPrefixOf (Ut.bytes U) := by
  rw [list8, bytes_cut U 0 8 (by omega) h, List.drop_zero, Bool.eq_iff_iff, decide_eq_true_eq, List.isPrefixOf_iff_prefix, List.prefix_iff_eq_take]
  constructor
  · intro e; exact e.symm
  · intro e; exact e.symm
theorem pre8_short (U : ByteArray) (h : U.size < 8) : infL.isPrefixOf (Ut.bytes U) = false := by
  rw [Bool.eq_false_iff]
  intro e
  have := (List.isPrefixOf_iff_prefix.1 e).length_le
  rw [Ut.bytes_len] at this
  have : infL.length = 8 := rfl
  omega
theorem numL_pos {l : List Nat} {q : List Nat × Nat × Option (Bool × List Nat × Nat) × Nat} (h : numL l = some q) : 0 < q.2.2.2 := by
  obtain ⟨hA, rfl⟩ := numL_parts h
  show 0 < exAt l
  unfold exAt
  split
  · omega
  · rename_i hn
    rcases Nat.eq_zero_or_pos (digL l).length with h0 | h0
    · exfalso
      have hd : digL l = [] := List.eq_nil_of_length_eq_zero h0
      have he : (dgA l).isEmpty = false := by
        cases hh : dgA l with
        | nil => exact absurd hh hA
        | cons _ _ => rfl
      cases hp : ptQ l with
      | true => exact hn (by rw [hp, he]; rfl)
      | false =>
        apply hA
        unfold dgA dgB
        rw [hd, hp]
        rfl
    · exact h0
theorem NumIs.le {far : Nat} {A : List Nat} {P : Nat} {ex : Option (Bool × List Nat × Nat)} {F : Nat} (h : NumIs far A P ex F) : F ≤ 9218868437227405312 := by
  obtain ⟨z, D, e, R, _, _, _, _, _, rfl⟩ := h
  exact Nat.min_le_right _ _
set_option maxRecDepth 100000 in
set_option maxHeartbeats 2000000 in
theorem readFloatD (sv : Value) (sa : Option Addr) (sn sp : Nat) (hsv : sv = .slice sa sn sp) (T : ByteArray) (l : List Nat) (hl : Ut.bytes T = l) (hs : T.size ≤ 25000) (hlow : Ut.Un.low l ≤ 4000) (w : World)
    (cb : Calls Tryz.prog 44 #[sv] w fun e w' => e = .returned (.string T) ∧ Below w.heap.size w w') :
    Calls Tryz.prog 15 #[sv] w fun e w' => ∃ x c, FrontIs 100000 l x c ∧ e = .returned (.float .f64 x) ∧ Below w.heap.size w w' := by
  subst hsv
  have csg := signD_any T (by omega)
  rw [hl] at csg
  have hlow2 : Ut.Un.low (l.drop (signL l).2) ≤ 4000 := by have := low_drop l (signL l).2; omega
  have hll2 : (l.drop (signL l).2).length ≤ 25000 := by rw [List.length_drop, ← hl, Ut.bytes_len]; omega
  obtain ⟨sg, hsg⟩ : ∃ sg, sg = (signL l).1 := ⟨_, rfl⟩
  obtain ⟨t, ht⟩ : ∃ t, t = l.drop (signL l).2 := ⟨_, rfl⟩
  obtain ⟨U, hU⟩ : ∃ U, U = T.extract (signL l).2 T.size := ⟨_, rfl⟩
  have hUb : Ut.bytes U = t := by rw [hU, Ut.bytes_drop, hl, ht]
  have hUs : U.size ≤ 25000 := by rw [hU, size_drop]; omega
  rw [← hU, ← hsg] at csg
  rw [← ht] at hlow2 hll2
  have HT := (show Hid (t = l.drop (signL l).2) from ht)
  have HSG := (show Hid (sg = (signL l).1) from hsg)
  obtain ⟨N, hN⟩ : ∃ N, U.size = N := ⟨_, rfl⟩
  have hNb : N ≤ 25000 := by omega
  have hm1 : ∀ ty w, (binOp .mul ty (.float .f64 (wd sg 4607182418800017408)) (.float .f64 9218868437227405312)).run Tryz.prog w = .ok (.float .f64 (wd sg 9218868437227405312)) w := fun ty w => run_float_arith w .mul ty .f64 _ _ _ (mul_inf sg)
  have hm2 : ∀ F, F ≤ 9218868437227405312 → ∀ ty w, (binOp .mul ty (.float .f64 (wd sg 4607182418800017408)) (.float .f64 F)).run Tryz.prog w = .ok (.float .f64 (wd sg F)) w := fun F hF ty w => run_float_arith w .mul ty .f64 _ _ _ (mul_unit sg F hF)
  have ci := inf_any
  have cnn := nan_any
  cases hi : infL.isPrefixOf t with
  | true =>
    have h8 : 8 ≤ N := by
      rcases Nat.lt_or_ge N 8 with h | h
      · have := pre8_short U (by omega)
        rw [hUb, hi] at this
        cases this
      · exact h
    have hp := pre8 U (by omega)
    rw [hUb, hi] at hp
    have k1 : (8 : Int) ≤ (N : Int) := by omega
    have HI := (show Hid (infL.isPrefixOf (l.drop (signL l).2) = true) from by show _ = true; rw [← ht]; exact hi)
    generalize wd sg 4607182418800017408 = us at *
    have HW : Hid (∀ (ui : Nat), ui = wd sg 9218868437227405312 → FrontIs 100000 l ui ((signL l).2 + 8)) := by intro ui hu; rw [hu, HSG.out]; exact .inf HI.out
    obtain ⟨ui, hui⟩ : ∃ ui, ui = wd sg 9218868437227405312 := ⟨_, rfl⟩
    rw [← hui] at hm1
    have HUI := (show Hid (ui = wd sg 9218868437227405312) from hui)
    clear hm2 hui hsg ht hU hUb hi h8 hlow2 hll2
    go_enter Tryz.func15, Tryz.ntmps15
    go_wp2_with (first | (go_at_call 44; refine cb.mono ?_; rintro e w1 ⟨rfl, hw1⟩; clear cb) | (go_at_call 47; refine (csg _).mono ?_; rintro e w2 ⟨rfl, hw2⟩; clear csg) | (go_at_call 48; refine (ci _).mono ?_; rintro e w3 ⟨rfl, hw3⟩; obtain rfl := hw3.symm))
    go_ret
    exact ⟨ui, _, HW.out ui HUI.out, rfl, hw1.trans (hw2.mono hw1.size)⟩
  | false =>
    have HI := (show Hid (infL.isPrefixOf (l.drop (signL l).2) = false) from by show _ = false; rw [← ht]; exact hi)
    have hp : 8 ≤ N → ((U.extract 0 8).toList == [73, 110, 102, 105, 110, 105, 116, 121]) = false := by
      intro h
      have := pre8 U (by omega)
      rw [hUb, hi] at this
      exact this
    cases hn : numL t with
    | none =>
      have cn := numberD_none U t hUb hUs hn
      have HNN := (show Hid (numL (l.drop (signL l).2) = none) from by show _ = none; rw [← ht]; exact hn)
      generalize wd sg 4607182418800017408 = us at *
      clear hm1 hm2 hsg ht hU hUb hi hlow2 hll2 hn
      rcases Nat.lt_or_ge N 8 with h8 | h8
      · have k1 : ¬ (8 : Int) ≤ (N : Int) := by omega
        clear hp h8
        go_enter Tryz.func15, Tryz.ntmps15
        go_wp2_with (first | (go_at_call 44; refine cb.mono ?_; rintro e w1 ⟨rfl, hw1⟩; clear cb) | (go_at_call 47; refine (csg _).mono ?_; rintro e w2 ⟨rfl, hw2⟩; clear csg) | (go_at_call 49; refine (cn _).mono ?_; rintro e w3 ⟨rfl, hw3⟩; obtain rfl := hw3.symm) | (go_at_call 43; refine (cnn _).mono ?_; rintro e w4 ⟨rfl, hw4⟩; obtain rfl := hw4.symm))
        go_ret
        exact ⟨_, _, .nan _ HI.out HNN.out nan_nan, rfl, hw1.trans (hw2.mono hw1.size)⟩
      · have k1 : (8 : Int) ≤ (N : Int) := by omega
        have hq := hp h8
        clear hp h8
        go_enter Tryz.func15, Tryz.ntmps15
        go_wp2_with (first | (go_at_call 44; refine cb.mono ?_; rintro e w1 ⟨rfl, hw1⟩; clear cb) | (go_at_call 47; refine (csg _).mono ?_; rintro e w2 ⟨rfl, hw2⟩; clear csg) | (go_at_call 49; refine (cn _).mono ?_; rintro e w3 ⟨rfl, hw3⟩; obtain rfl := hw3.symm) | (go_at_call 43; refine (cnn _).mono ?_; rintro e w4 ⟨rfl, hw4⟩; obtain rfl := hw4.symm))
        go_ret
        exact ⟨_, _, .nan _ HI.out HNN.out nan_nan, rfl, hw1.trans (hw2.mono hw1.size)⟩
    | some q =>
      have cn := numberD_some U t hUb hUs q hn
      have cv := fun v hv => valuedD t hlow2 hll2 q hn v hv
      have CV := (show Hid _ from cv)
      have hpos := numL_pos hn
      have hcl := numL_le hn
      have HNN := (show Hid (numL (l.drop (signL l).2) = some q) from by show _ = some q; rw [← ht]; exact hn)
      obtain ⟨c, hc⟩ : ∃ c, c = q.2.2.2 + exN q.2.2.1 := ⟨_, rfl⟩
      have HC := (show Hid (c = q.2.2.2 + exN q.2.2.1) from hc)
      rw [← hc] at cn hcl
      have hc0 : 0 < c := by omega
      have hcb : c ≤ 25000 := by omega
      have k0 : ((c : Int) == 0) = false := by rw [beq_eq_false_iff_ne]; omega
      have HM2 := (show Hid _ from hm2)
      obtain ⟨us, hus⟩ : ∃ us, us = wd sg 4607182418800017408 := ⟨_, rfl⟩
      rw [← hus] at csg HM2
      have HW : Hid (∀ F, NumIs 100000 q.1 q.2.1 q.2.2.1 F → FrontIs 100000 l (wd sg F) ((signL l).2 + (q.2.2.2 + exN q.2.2.1))) := by intro F hF; rw [HSG.out]; exact .num F q HI.out HNN.out hF
      clear hm1 hm2 hsg ht hU hUb hi hlow2 hll2 hn hpos hcl cv hc hc0 hus
      rcases Nat.lt_or_ge N 8 with h8 | h8
      · have k1 : ¬ (8 : Int) ≤ (N : Int) := by omega
        clear hp h8
        go_enter Tryz.func15, Tryz.ntmps15
        go_wp2_with (first | (go_at_call 44; refine cb.mono ?_; rintro e w1 ⟨rfl, hw1⟩; clear cb) | (go_at_call 47; refine (csg _).mono ?_; rintro e w2 ⟨rfl, hw2⟩; clear csg) | (go_at_call 49; refine (cn _).mono ?_; rintro e w3 ⟨v, hv, rfl, hw3⟩; obtain rfl := hw3.symm; have cv := CV.out v hv w2; clear CV cn hv) | (go_at_call 50; fail))
        refine cv.mono ?_
        rintro e w4 ⟨F, hF, rfl, hw4⟩
        have hm := HM2.out F hF.le
        have HF := (show Hid (NumIs 100000 q.1 q.2.1 q.2.2.1 F) from hF)
        clear hF cv HM2
        go_wp2
        go_ret
        have hw12 := hw1.trans (hw2.mono hw1.size)
        exact ⟨_, _, HW.out F HF.out, rfl, hw12.trans (hw4.mono hw12.size)⟩
      · have k1 : (8 : Int) ≤ (N : Int) := by omega
        have hq := hp h8
        clear hp h8
        go_enter Tryz.func15, Tryz.ntmps15
        go_wp2_with (first | (go_at_call 44; refine cb.mono ?_; rintro e w1 ⟨rfl, hw1⟩; clear cb) | (go_at_call 47; refine (csg _).mono ?_; rintro e w2 ⟨rfl, hw2⟩; clear csg) | (go_at_call 49; refine (cn _).mono ?_; rintro e w3 ⟨v, hv, rfl, hw3⟩; obtain rfl := hw3.symm; have cv := CV.out v hv w2; clear CV cn hv) | (go_at_call 50; fail))
        refine cv.mono ?_
        rintro e w4 ⟨F, hF, rfl, hw4⟩
        have hm := HM2.out F hF.le
        have HF := (show Hid (NumIs 100000 q.1 q.2.1 q.2.2.1 F) from hF)
        clear hF cv HM2
        go_wp2
        go_ret
        have hw12 := hw1.trans (hw2.mono hw1.size)
        exact ⟨_, _, HW.out F HF.out, rfl, hw12.trans (hw4.mono hw12.size)⟩
end Go.Proofs.YtellndmbllmjgaaGreatDoor
/- The document's digitsTo, sign. -/
set_option linter.unusedVariables false
namespace Go.Proofs.YtellndmbllmjgaaGreatDoor
open Go.RowKit Go.Shelf Go.Sort Fs Fl
set_option maxRecDepth 100000 in
set_option maxHeartbeats 1000000 in
theorem digitsTo_any (S : ByteArray) (b : Nat) (hb : b ≤ 36) (hs : S.size ≤ 100000) (w : World) :
    Calls Tryz.prog 45 #[.string S, .int .i64 (b : Int)] w fun e w' => e = .returned (.int .i64 (runL b (Ut.bytes S) : Int)) ∧ w' = w := by
  obtain ⟨r, hr⟩ : ∃ r, r = runL b (Ut.bytes S) := ⟨_, rfl⟩
  have HR : Hid (r = runL b (Ut.bytes S)) := hr
  rw [← hr]
  obtain ⟨N, hN⟩ : ∃ N, S.size = N := ⟨_, rfl⟩
  have hl := runL_le b (Ut.bytes S)
  rw [Ut.bytes_len, ← hr, hN] at hl
  rw [hN] at hs
  clear hr
  go_enter Tryz.func45, Tryz.ntmps45
  go_wp2
  go_loopw [5] (fun vi wr => ∃ k : Nat, k ≤ r ∧ vi = .int .i64 (k : Int) ∧ wr = w) (fun vi _ => N - (intOf vi).toNat)
  case atStart => exact ⟨0, Nat.zero_le _, rfl, rfl⟩
  case round =>
    obtain ⟨k, hk, rfl, rfl⟩ := hrel
    rcases Nat.lt_or_ge k N with hkN | hkN
    · have hkS : k < S.size := by omega
      obtain ⟨c, hc⟩ : ∃ c, (S[k]'hkS).toNat = c := ⟨_, rfl⟩
      have hcb : c < 256 := by rw [← hc]; exact UInt8.toNat_lt _
      have hget : (Ut.bytes S)[k]? = some c := by
        have := Ut.bytes_at S k hkS
        rw [hc] at this
        have h2 : k < (Ut.bytes S).length := by rw [Ut.bytes_len]; exact hkS
        rw [List.getElem?_eq_getElem h2] at this ⊢
        simp at this
        rw [this]
      have cd := digitD_any c hcb
      have hle := digD_le c
      have hlt' := digD_lt c b hb
      obtain ⟨d, hd⟩ : ∃ d, d = digD c := ⟨_, rfl⟩
      rw [← hd] at cd hle hlt'
      rcases Nat.lt_or_eq_of_le hk with hlt | heq
      · obtain ⟨c', h1, h2⟩ := runL_in b (Ut.bytes S) k (by rw [← HR.out]; exact hlt)
        rw [hget] at h1
        have e : c = c' := by injection h1
        rw [← e, ← hlt'] at h2
        have k1 : ¬ (b : Int) ≤ (d : Int) := by omega
        clear hget h1 h2 hd e hlt'
        go_wp2_with (first | (go_at_call 100; refine (cd _).mono ?_; rintro e w1 ⟨rfl, rfl⟩))
        exact ⟨⟨k + 1, hlt, by simp, trivial⟩, by simp [intOf]; omega⟩
      · have h2 := runL_end b (Ut.bytes S) c (by rw [← HR.out, ← heq]; exact hget)
        rw [← hlt'] at h2
        have k1 : (b : Int) ≤ (d : Int) := by omega
        have HK : Hid (k = r) := heq
        clear hget h2 hd heq hk hlt'
        go_wp2_with (first | (go_at_call 100; refine (cd _).mono ?_; rintro e w1 ⟨rfl, rfl⟩))
        go_ret
        exact ⟨by rw [← HK.out]; rfl, rfl⟩
    · have hkn : k = N := by omega
      have HK : Hid (N = r) := by show N = r; omega
      subst hkn
      clear hk hkN
      go_wp2
      go_ret
      exact ⟨by rw [← HK.out]; rfl, rfl⟩
end Go.Proofs.YtellndmbllmjgaaGreatDoor
/- The walk of whole. -/
set_option linter.unusedVariables false
namespace Go.Proofs.YtellndmbllmjgaaGreatDoor
open Go.RowKit Go.Shelf Go.Sort Fs Fl
set_option maxRecDepth 100000 in
set_option maxHeartbeats 1000000 in
theorem whole_nan1 (S : ByteArray) (b : Nat) (hne : S.toList.isEmpty = true) (w : World) :
    Calls Tryz.prog 41 #[.string S, .int .i64 (b : Int)] w fun e w' => e = .returned (.float .f64 9221120237041090561) ∧ w' = w := by
  have cn := nan_any
  go_enter Tryz.func41, Tryz.ntmps41
  go_wp2_with (first | (go_at_call 43; refine (cn _).mono ?_; rintro e w4 ⟨rfl, rfl⟩))
  go_ret
  exact ⟨rfl, rfl⟩
set_option maxRecDepth 100000 in
set_option maxHeartbeats 1000000 in
theorem whole_nan2 (S : ByteArray) (b r N : Nat) (hne : S.toList.isEmpty = false) (hN : S.size = N) (hN2 : N ≤ 100000) (hr : r < N) (w : World)
    (cr : ∀ w, Calls Tryz.prog 54 #[.string S, .int .i64 (b : Int)] w fun e w' => e = .returned (.int .i64 (r : Int)) ∧ w' = w) :
    Calls Tryz.prog 41 #[.string S, .int .i64 (b : Int)] w fun e w' => e = .returned (.float .f64 9221120237041090561) ∧ w' = w := by
  have cn := nan_any
  have k1 : (r : Int) < (N : Int) := by omega
  go_enter Tryz.func41, Tryz.ntmps41
  go_wp2_with (first | (go_at_call 54; refine (cr _).mono ?_; rintro e w4 ⟨rfl, rfl⟩) | (go_at_call 43; refine (cn _).mono ?_; rintro e w4 ⟨rfl, rfl⟩))
  go_ret
  exact ⟨rfl, rfl⟩
set_option maxRecDepth 100000 in
set_option maxHeartbeats 1000000 in
theorem whole_inf (S T : ByteArray) (b N M : Nat) (hne : S.toList.isEmpty = false) (hN : S.size = N) (hN2 : N ≤ 100000) (hM : T.size = M) (hM1 : 1024 < M) (hM2 : M ≤ 100000) (w : World)
    (cr : ∀ w, Calls Tryz.prog 54 #[.string S, .int .i64 (b : Int)] w fun e w' => e = .returned (.int .i64 (N : Int)) ∧ w' = w)
    (ct : ∀ w, Calls Tryz.prog 93 #[.string S, .string ⟨#[48]⟩] w fun e w' => e = .returned (.string T) ∧ w' = w) :
    Calls Tryz.prog 41 #[.string S, .int .i64 (b : Int)] w fun e w' => e = .returned (.float .f64 9218868437227405312) ∧ w' = w := by
  have ci := inf_any
  have k1 : ¬ (N : Int) < (N : Int) := by omega
  have k2 : (1024 : Int) < (M : Int) := by omega
  go_enter Tryz.func41, Tryz.ntmps41
  go_wp2_with (first | (go_at_call 54; refine (cr _).mono ?_; rintro e w4 ⟨rfl, rfl⟩) | (go_at_call 93; refine (ct _).mono ?_; rintro e w4 ⟨rfl, rfl⟩) | (go_at_call 48; refine (ci _).mono ?_; rintro e w4 ⟨rfl, rfl⟩))
  go_ret
  exact ⟨rfl, rfl⟩
/-- So far. -/
inductive WlR (w : World) (b : Nat) (l : List Nat) : Value → Value → World → Prop
  | mk (k : Nat) (a : Value) (wr : World) (hk : k ≤ l.length) (ha : NatP w.heap.size wr a (vB b (l.take k))) (hb : Below w.heap.size w wr) : WlR w b l a (.int .i64 (k : Int)) wr
theorem natP_nil (base : Nat) (w : World) : NatP base w (.slice none 0 0) 0 := ⟨[], World.ownsRow_nil _ _ _ _, fun d hd => by simp at hd, fun z hz => by simp at hz, rfl⟩
theorem six_32 {b k n : Nat} (hb : b ≤ 36) (h : 3 * k ≤ 16 * n) : b ^ k ≤ 4294967296 ^ n := by
  have h1 : b ^ k ≤ 64 ^ k := Nat.pow_le_pow_left (by omega) k
  have h2 : (64 : Nat) ^ k = 2 ^ (6 * k) := by rw [Nat.pow_mul]
  have h3 : (2 : Nat) ^ (6 * k) ≤ 2 ^ (32 * n) := Nat.pow_le_pow_right (by omega) (by omega)
  have h4 : (2 : Nat) ^ (32 * n) = 4294967296 ^ n := by rw [Nat.pow_mul]
  omega
set_option maxRecDepth 100000 in
set_option maxHeartbeats 1000000 in
theorem whole_walk (S T : ByteArray) (b N M : Nat) (l : List Nat) (hl : Ut.bytes T = l) (hd : DigB b l) (hb0 : 2 ≤ b) (hb : b ≤ 36) (hne : S.toList.isEmpty = false) (hN : S.size = N) (hN2 : N ≤ 100000) (hM : T.size = M) (hM1 : M ≤ 1024) (w : World)
    (cr : ∀ w, Calls Tryz.prog 54 #[.string S, .int .i64 (b : Int)] w fun e w' => e = .returned (.int .i64 (N : Int)) ∧ w' = w)
    (ct : ∀ w, Calls Tryz.prog 93 #[.string S, .string ⟨#[48]⟩] w fun e w' => e = .returned (.string T) ∧ w' = w) :
    Calls Tryz.prog 41 #[.string S, .int .i64 (b : Int)] w fun e w' => ∃ R, Near (vB b l) 1 R ∧ e = .returned (.float .f64 (min R 9218868437227405312)) ∧ Below w.heap.size w w' := by
  have k1 : ¬ (N : Int) < (N : Int) := by omega
  have k2 : ¬ (1024 : Int) < (M : Int) := by omega
  have hlN : l.length = M := by rw [← hl, Ut.bytes_len, hM]
  obtain ⟨B, hB⟩ : ∃ B, B = 200 := ⟨_, rfl⟩
  have hpw : ∀ k, vB b (l.take k) < 4294967296 ^ B := fun k => Nat.lt_of_lt_of_le (vB_lt b _ (hd.take k)) (six_32 hb (by rw [List.length_take]; omega))
  have HPW := (show Hid _ from hpw)
  have HD := (show Hid (DigB b l) from hd)
  have HL := (show Hid (Ut.bytes T = l) from hl)
  have HLN := (show Hid (l.length = M) from hlN)
  clear hpw hd hl hlN
  go_enter Tryz.func41, Tryz.ntmps41
  go_wp2_with (first | (go_at_call 54; refine (cr _).mono ?_; rintro e w4 ⟨rfl, hw4⟩; obtain rfl := hw4.symm) | (go_at_call 93; refine (ct _).mono ?_; rintro e w4 ⟨rfl, hw4⟩; obtain rfl := hw4.symm))
  go_loopw [5, 26] (fun va vi wr => WlR w b l va vi wr) (fun _ vi _ => M - (intOf vi).toNat)
  case atStart => exact .mk 0 _ _ (Nat.zero_le _) (natP_nil _ _) (Below.refl _ _)
  case round =>
    obtain ⟨k, _, wr, hk, ho, hbw⟩ := hrel
    rw [HLN.out] at hk
    rcases Nat.lt_or_ge k M with hkN | hkN
    · have hkS : k < T.size := by omega
      obtain ⟨c, hc⟩ : ∃ c, (T[k]'hkS).toNat = c := ⟨_, rfl⟩
      have hcb : c < 256 := by rw [← hc]; exact UInt8.toNat_lt _
      have hget : l[k]?.getD 0 = c := by rw [← HL.out, ← Ut.bytes_at T k hkS, hc]
      have hsn := take_snocB l k (by rw [HLN.out]; exact hkN)
      rw [hget] at hsn
      have hdc : digV c < b := HD.out c (by
        have h2 : k < l.length := by rw [HLN.out]; exact hkN
        rw [← hget, List.getElem?_eq_getElem h2]
        exact List.getElem_mem h2)
      have hvs : vB b (l.take (k + 1)) = b * vB b (l.take k) + digV c := by rw [hsn, vB_snoc, Nat.mul_comm]
      have cd := digit_any c hcb
      have hp0 := HPW.out k
      obtain ⟨x, hx⟩ : ∃ x, x = digV c := ⟨_, rfl⟩
      obtain ⟨V, hV⟩ : ∃ V, V = vB b (l.take k) := ⟨_, rfl⟩
      rw [← hx] at cd hvs hdc
      rw [← hV] at ho hp0 hvs
      have HVS : Hid (vB b (l.take (k + 1)) = b * V + x) := hvs
      have tm := times_any w.heap.size u5 V B (by omega) hp0 b x (by omega) (by omega) (by omega) wr ho hbw.size
      obtain ⟨sa, sn, sc, rfl⟩ := ho.slice
      clear hvs hx hV hp0 hget hsn ho
      go_wp2_with (first | (go_at_call 95; refine (cd _).mono ?_; rintro e w2 ⟨rfl, hw2⟩; obtain rfl := hw2.symm) | (go_at_call 94; refine tm.mono ?_; rintro e w3 ⟨v3, rfl, hv3, hw3⟩; clear tm))
      have hb3 : Below w.heap.size w w3 := hbw.trans hw3
      go_roundw
      case rel =>
        rw [show ((k : Int) + 1) = ((k + 1 : Nat) : Int) by omega]
        exact .mk (k + 1) _ _ (by rw [HLN.out]; omega) (by rw [HVS.out]; exact hv3) hb3
      case measure => simp [intOf]; omega
    · have hkn : k = M := by omega
      subst hkn
      have ho2 : NatP w.heap.size wr u5 (vB b l) := by
        rw [List.take_of_length_le (by rw [HLN.out]; omega)] at ho
        exact ho
      have hp0 := HPW.out k
      rw [List.take_of_length_le (by rw [HLN.out]; omega)] at hp0
      have fl := float_any w.heap.size u5 (vB b l) wr ho2 B (by omega) hp0
      obtain ⟨sa, sn, sc, rfl⟩ := ho.slice
      clear ho ho2 hp0
      go_wp2_with (first | (go_at_call 96; refine fl.mono ?_; rintro e w3 ⟨R, hR, rfl, hw3⟩; clear fl))
      go_ret
      exact ⟨R, hR, rfl, hbw.trans (hw3.mono hbw.size)⟩
end Go.Proofs.YtellndmbllmjgaaGreatDoor
/- whole at any text. -/
set_option linter.unusedVariables false
namespace Go.Proofs.YtellndmbllmjgaaGreatDoor
open Go.RowKit Go.Shelf Go.Sort Fs Fl
theorem trimB_zeros (D : List Nat) (hD : ∀ c ∈ D, c < 256) (hf : D[0]? ≠ some 48) : ∀ z, Lib.trimLeftB (txt (List.replicate z 48 ++ D)).data.toList 48 = (txt D).data.toList
  | 0 => by
    rw [List.replicate_zero, List.nil_append, txt_list]
    unfold Lib.trimLeftB
    cases D with
    | nil => rfl
    | cons c l =>
      have hc := hD c (by simp)
      have hn : c ≠ 48 := fun h => hf (by simp [h])
      have : (UInt8.ofNat c == 48) = false := by
        rw [beq_eq_false_iff_ne]
        exact ofNat_ne (b := 48) (by omega) (by omega) hn
      rw [List.map_cons, List.dropWhile_cons, this]
      rfl
  | z + 1 => by
    have ih := trimB_zeros D hD hf z
    rw [txt_list] at ih ⊢
    rw [List.replicate_succ, List.cons_append, List.map_cons]
    unfold Lib.trimLeftB at ih ⊢
    rw [List.dropWhile_cons, if_pos (by decide)]
    exact ih
theorem trimB_all (D : List Nat) (hD : ∀ c ∈ D, c < 256) (hf : D[0]? ≠ some 48) (z : Nat) (w : World) : Calls Tryz.prog 93 #[.string (txt (List.replicate z 48 ++ D)), .string ⟨#[48]⟩] w fun e w' => e = .returned (.string (txt D)) ∧ w' = w := by
  have := Tryz.strings_TrimLeft_one (txt (List.replicate z 48 ++ D)) 48 (by decide) w
  rw [trimB_zeros D hD hf z] at this
  exact this
end Go.Proofs.YtellndmbllmjgaaGreatDoor
