/- whole at any text: what it is. -/
import Derived.Test.YtellndmbllmjgaaGreatDoorCFrAx
import Derived.Test.YtellndmbllmjgaaGreatDoorCUtAx
import Derived.Test.YtellndmbllmjgaaGreatDoorCSwCx
import Derived.Test.YtellndmbllmjgaaGreatDoorCDa2x
import Derived.Test.YtellndmbllmjgaaGreatDoorCUp2x
import Derived.Shelf.Spec.TrailingZeros
import Derived.WalkKit
import Derived.WalkSpells
import Derived.WalkLawsBesides
import Derived.Laws.Externs
import Derived.Laws.BitsLemmas
import Derived.Laws.Bits64b
import Derived.Deep.DeepMust
import Derived.Test.YtellndmbllmjgaaGreatDoorCBn10x
import Derived.Laws.BitsAllLaws
import Derived.Laws.NewFold
import Derived.Below
set_option linter.unusedVariables false
namespace Go.Proofs.YtellndmbllmjgaaGreatDoor
open Go.RowKit Go.Shelf Go.Sort Fs Fl
theorem near_over2 {p R d : Nat} (hd : 1024 ≤ d) (h : 2 ^ d ≤ p) (hN : Near p 1 R) : 9218868437227405312 ≤ R := by
  rcases Nat.lt_or_ge R 9218868437227405312 with h1 | h1
  · exfalso
    have a1 := near_top hN
    rw [up_succ] at a1
    have a2 := lo_mono (show R + 1 ≤ 9218868437227405311 + 1 by omega)
    rw [← up_succ 9218868437227405311] at a2
    obtain ⟨K, hK, a3⟩ : ∃ K, K = 1024 ∧ upR 9218868437227405311 < 2 ^ K * Z76 := ⟨1024, rfl, by decide +kernel⟩
    have a4 : 2 ^ K ≤ p := Nat.le_trans (Nat.pow_le_pow_right (by omega) (by omega)) h
    have a5 := Nat.mul_le_mul_right Z76 a4
    generalize upR 9218868437227405311 = x at *
    generalize loR (R + 1) = y at *
    generalize Z76 = z at *
    omega
  · exact h1
/-- What a text is taken for that is to be digits to a base. -/
inductive WholeIs (b : Nat) (l : List Nat) : Nat → Prop
  | nan (h : l = [] ∨ runL b l < l.length) : WholeIs b l 9221120237041090561
  | num (R : Nat) (h0 : l ≠ []) (h : runL b l = l.length) (hR : Near (vB b l) 1 R) : WholeIs b l (min R 9218868437227405312)
theorem run_all {b : Nat} {l : List Nat} (h : runL b l = l.length) : DigB b l := by
  intro c hc
  obtain ⟨k, hk, e⟩ := List.getElem_of_mem hc
  obtain ⟨c', h1, h2⟩ := runL_in b l k (by omega)
  rw [List.getElem?_eq_getElem hk, e] at h1
  injection h1 with h1
  rw [h1]
  exact h2
theorem whole_all (S : ByteArray) (b : Nat) (l : List Nat) (hl : Ut.bytes S = l) (hb0 : 2 ≤ b) (hb : b ≤ 36) (hs : S.size ≤ 25000) (w : World) :
    Calls Tryz.prog 41 #[.string S, .int .i64 (b : Int)] w fun e w' => ∃ x, WholeIs b l x ∧ e = .returned (.float .f64 x) ∧ Below w.heap.size w w' := by
  have hll : l.length = S.size := by rw [← hl, Ut.bytes_len]
  have hbt : ∀ c ∈ l, c < 256 := by rw [← hl]; exact Ut.bytes_lt S
  rcases Nat.eq_zero_or_pos S.size with h0 | h0
  · have e : l = [] := List.eq_nil_of_length_eq_zero (by omega)
    refine (whole_nan1 S b (empty_yes S h0) w).mono ?_
    rintro r w' ⟨rfl, rfl⟩
    exact ⟨_, .nan (.inl e), rfl, Below.refl _ _⟩
  · have cr := run_any S b hb (by omega)
    rw [hl] at cr
    have hle := runL_le b l
    rcases Nat.lt_or_ge (runL b l) l.length with h1 | h1
    · refine (whole_nan2 S b (runL b l) S.size (ne_empty S h0) rfl (by omega) (by omega) w cr).mono ?_
      rintro r w' ⟨rfl, rfl⟩
      exact ⟨_, .nan (.inr h1), rfl, Below.refl _ _⟩
    · have hr : runL b l = l.length := by omega
      have hne : l ≠ [] := fun e => by rw [e] at hll; simp at hll; omega
      have hd := run_all hr
      rw [hr, hll] at cr
      obtain ⟨z, D, hz, hf⟩ := zeros_split l
      have hDb : ∀ c ∈ D, c < 256 := fun c hc => hbt c (by rw [hz]; simp [hc])
      have hDd : DigB b D := fun c hc => hd c (by rw [hz]; simp [hc])
      have eS : S = txt (List.replicate z 48 ++ D) := by rw [← hz]; exact of_bytes S l hl
      have ct := trimB_all D hDb hf z
      rw [← eS] at ct
      have hv : vB b l = vB b D := by rw [hz, vB_lead]
      have hDl : D.length ≤ l.length := by rw [hz, List.length_append]; omega
      rcases Nat.lt_or_ge 1024 D.length with h2 | h2
      · obtain ⟨R, hR⟩ := near_ex (p := vB b l) (q := 1) (by omega)
        have hov : 9218868437227405312 ≤ R := by
          cases D with
          | nil => simp at h2
          | cons c t =>
            have hc : 0 < digV c := by
              rcases Nat.eq_zero_or_pos (digV c) with h3 | h3
              · exact absurd (by simp [(digV_nought c).1 h3]) hf
              · exact h3
            have h3 := vB_ge b c t hc
            rw [← hv] at h3
            simp only [List.length_cons] at h2
            refine near_over2 (d := t.length) (by omega) (Nat.le_trans (Nat.pow_le_pow_left hb0 _) h3) hR
        refine (whole_inf S (txt D) b S.size D.length (ne_empty S h0) rfl (by omega) (txt_size D) h2 (by omega) w cr ct).mono ?_
        rintro r w' ⟨rfl, rfl⟩
        refine ⟨_, .num R hne hr hR, ?_, Below.refl _ _⟩
        rw [Nat.min_eq_right hov]
      · refine (whole_walk S (txt D) b S.size D.length D (Ut.bytes_txt D hDb) hDd hb0 hb (ne_empty S h0) rfl (by omega) (txt_size D) h2 w cr ct).mono ?_
        rintro r w' ⟨R, hR, rfl, hbw⟩
        rw [← hv] at hR
        exact ⟨_, .num R hne hr hR, rfl, hbw⟩
end Go.Proofs.YtellndmbllmjgaaGreatDoor
/- The document's Read. -/
set_option linter.unusedVariables false
namespace Go.Proofs.YtellndmbllmjgaaGreatDoor
open Go.RowKit Go.Shelf Go.Sort Fs Fl
/-- Does it begin as a number to the base 16? -/
def hexQ (l : List Nat) : Bool := decide (l[0]? = some 48 ∧ (l[1]? = some 120 ∨ l[1]? = some 88))
/-- What the document takes a text for. -/
inductive ReadD (l : List Nat) : Nat → Prop
  | empty (h : l = []) : ReadD l 0
  | hexn (R : Nat) (h : hexQ l = true) (h2 : 2 < l.length) (hr : runL 16 (l.drop 2) = (l.drop 2).length) (hR : Near (vB 16 (l.drop 2)) 1 R) : ReadD l (min R 9218868437227405312)
  | hexx (h : hexQ l = true) (h2 : 2 < l.length) (hr : runL 16 (l.drop 2) < (l.drop 2).length) : ReadD l 9221120237041090561
  | inf (h0 : l ≠ []) (h : hexQ l = false ∨ l.length ≤ 2) (hi : l.drop (signL l).2 = infL) : ReadD l (wd (signL l).1 9218868437227405312)
  | none (h0 : l ≠ []) (h : hexQ l = false ∨ l.length ≤ 2) (hi : l.drop (signL l).2 ≠ infL) (hn : numL (l.drop (signL l).2) = none) : ReadD l 9221120237041090561
  | part (q : List Nat × Nat × Option (Bool × List Nat × Nat) × Nat) (h0 : l ≠ []) (h : hexQ l = false ∨ l.length ≤ 2) (hi : l.drop (signL l).2 ≠ infL) (hn : numL (l.drop (signL l).2) = some q) (hc : q.2.2.2 + exN q.2.2.1 ≠ (l.drop (signL l).2).length) : ReadD l 9221120237041090561
  | num (F : Nat) (q : List Nat × Nat × Option (Bool × List Nat × Nat) × Nat) (h0 : l ≠ []) (h : hexQ l = false ∨ l.length ≤ 2) (hi : l.drop (signL l).2 ≠ infL) (hn : numL (l.drop (signL l).2) = some q) (hc : q.2.2.2 + exN q.2.2.1 = (l.drop (signL l).2).length) (hF : NumIs 100000 q.1 q.2.1 q.2.2.1 F) : ReadD l (wd (signL l).1 F)
set_option maxRecDepth 100000 in
set_option maxHeartbeats 1000000 in
theorem readD_empty (sv : Value) (sa : Option Addr) (sn sp : Nat) (hsv : sv = .slice sa sn sp) (T : ByteArray) (h0 : T.size = 0) (w : World)
    (cb : Calls Tryz.prog 44 #[sv] w fun e w' => e = .returned (.string T) ∧ Below w.heap.size w w') :
    Calls Tryz.prog 12 #[sv] w fun e w' => e = .returned (.float .f64 0) ∧ Below w.heap.size w w' := by
  subst hsv
  have hem := empty_yes T h0
  clear h0
  go_enter Tryz.func12, Tryz.ntmps12
  go_wp2_with (first | (go_at_call 44; refine cb.mono ?_; rintro e w1 ⟨rfl, hw1⟩; clear cb))
  go_ret
  exact ⟨rfl, hw1⟩
set_option maxRecDepth 100000 in
set_option maxHeartbeats 1000000 in
theorem readD_hex (sv : Value) (sa : Option Addr) (sn sp : Nat) (hsv : sv = .slice sa sn sp) (T U : ByteArray) (N r c : Nat) (P : Nat → Prop) (hN : T.size = N) (h2 : 2 < N) (hNb : N ≤ 25000) (hU : T.extract 2 N = U) (h48 : ∀ h : 0 < T.size, (T[0]'h).toNat = 48) (hc : ∀ h : 1 < T.size, (T[1]'h).toNat = c) (hx : c = 120 ∨ c = 88) (hr : r ≤ N - 2) (w : World)
    (cb : Calls Tryz.prog 44 #[sv] w fun e w' => e = .returned (.string T) ∧ Below w.heap.size w w')
    (cd : ∀ w, Calls Tryz.prog 45 #[.string U, .int .i64 16] w fun e w' => e = .returned (.int .i64 (r : Int)) ∧ w' = w)
    (cw : ∀ w, r = N - 2 → Calls Tryz.prog 46 #[.string U, .int .i64 16] w fun e w' => ∃ x, P x ∧ e = .returned (.float .f64 x) ∧ Below w.heap.size w w')
    (hP : r ≠ N - 2 → P 9221120237041090561) :
    Calls Tryz.prog 12 #[sv] w fun e w' => ∃ x, P x ∧ e = .returned (.float .f64 x) ∧ Below w.heap.size w w' := by
  subst hsv
  have hem := ne_empty T (by omega)
  have hl0 : 0 < T.size := by omega
  have hl1 : 1 < T.size := by omega
  have a0 := h48 hl0
  have a1 := hc hl1
  have cnn := nan_any
  have CW := (show Hid _ from cw)
  have HP := (show Hid _ from hP)
  clear h48 hc cw hP
  by_cases hreq : r = N - 2
  · have k1 : ((r : Int) == (N : Int) - 2) = true := by rw [beq_iff_eq]; omega
    have cw := fun w => CW.out w hreq
    have CW2 := (show Hid _ from cw)
    clear CW HP cw hreq
    rcases hx with rfl | rfl
    all_goals
      go_enter Tryz.func12, Tryz.ntmps12
      go_wp2_with (first | (go_at_call 44; refine cb.mono ?_; rintro e w1 ⟨rfl, hw1⟩; clear cb) | (go_at_call 45; refine (cd _).mono ?_; rintro e w2 ⟨rfl, hw2⟩; obtain rfl := hw2.symm) | (go_at_call 46; fail))
      refine (CW2.out w1).mono ?_
      rintro e w3 ⟨x, hx, rfl, hw3⟩
      have HX : Hid (P x) := hx
      clear hx CW2
      go_wp2
      go_ret
      exact ⟨x, HX.out, rfl, hw1.trans (hw3.mono hw1.size)⟩
  · have k1 : ((r : Int) == (N : Int) - 2) = false := by rw [beq_eq_false_iff_ne]; omega
    have HX := (show Hid (P 9221120237041090561) from HP.out hreq)
    clear CW HP hreq
    rcases hx with rfl | rfl
    all_goals
      go_enter Tryz.func12, Tryz.ntmps12
      go_wp2_with (first | (go_at_call 44; refine cb.mono ?_; rintro e w1 ⟨rfl, hw1⟩; clear cb) | (go_at_call 45; refine (cd _).mono ?_; rintro e w2 ⟨rfl, hw2⟩; obtain rfl := hw2.symm) | (go_at_call 43; refine (cnn _).mono ?_; rintro e w4 ⟨rfl, hw4⟩; obtain rfl := hw4.symm))
      go_ret
      exact ⟨_, HX.out, rfl, hw1⟩
set_option maxRecDepth 100000 in
set_option maxHeartbeats 2000000 in
theorem readD_dec (sv : Value) (sa : Option Addr) (sn sp : Nat) (hsv : sv = .slice sa sn sp) (T : ByteArray) (l : List Nat) (hl : Ut.bytes T = l) (hs : T.size ≤ 25000) (hlow : Ut.Un.low l ≤ 4000) (hne : l ≠ []) (hx : hexQ l = false ∨ l.length ≤ 2) (w : World)
    (cb : Calls Tryz.prog 44 #[sv] w fun e w' => e = .returned (.string T) ∧ Below w.heap.size w w') :
    Calls Tryz.prog 12 #[sv] w fun e w' => ∃ x, ReadD l x ∧ e = .returned (.float .f64 x) ∧ Below w.heap.size w w' := by
  subst hsv
  have hlT : l.length = T.size := by rw [← hl, Ut.bytes_len]
  have hT0 : 0 < T.size := by rw [← hlT]; exact List.length_pos_iff.2 hne
  have hem := ne_empty T hT0
  have csg := signD_any T (by omega)
  rw [hl] at csg
  have hlow2 : Ut.Un.low (l.drop (signL l).2) ≤ 4000 := by have := low_drop l (signL l).2; omega
  have hll2 : (l.drop (signL l).2).length ≤ 25000 := by rw [List.length_drop, ← hl, Ut.bytes_len]; omega
  obtain ⟨sg, hsg⟩ : ∃ sg, sg = (signL l).1 := ⟨_, rfl⟩
  obtain ⟨t, ht⟩ : ∃ t, t = l.drop (signL l).2 := ⟨_, rfl⟩
  obtain ⟨U, hU⟩ : ∃ U, U = T.extract (signL l).2 T.size := ⟨_, rfl⟩
  have hUb : Ut.bytes U = t := by rw [hU, Ut.bytes_drop, hl, ht]
  have hUs : U.size ≤ 25000 := by rw [hU, size_drop]; omega
  rw [← hU, ← hsg] at csg
  rw [← ht] at hlow2 hll2
  obtain ⟨N, hN⟩ : ∃ N, U.size = N := ⟨_, rfl⟩
  have htN : t.length = N := by rw [← hUb, Ut.bytes_len, hN]
  have hNb : N ≤ 25000 := by omega
  obtain ⟨M, hM⟩ : ∃ M, T.size = M := ⟨_, rfl⟩
  have hMb : M ≤ 25000 := by omega
  have HT := (show Hid (t = l.drop (signL l).2) from ht)
  have HSG := (show Hid (sg = (signL l).1) from hsg)
  have HL := (show Hid (Ut.bytes T = l) from hl)
  have HNE := (show Hid (l ≠ []) from hne)
  have HX := (show Hid (hexQ l = false ∨ l.length ≤ 2) from hx)
  have HLT := (show Hid (l.length = T.size) from hlT)
  have HTN := (show Hid (t.length = N) from htN)
  have hinf := list8 U
  rw [hUb] at hinf
  have hm1 : ∀ ty w, (binOp .mul ty (.float .f64 (wd sg 4607182418800017408)) (.float .f64 9218868437227405312)).run Tryz.prog w = .ok (.float .f64 (wd sg 9218868437227405312)) w := fun ty w => run_float_arith w .mul ty .f64 _ _ _ (mul_inf sg)
  have hm2 : ∀ F, F ≤ 9218868437227405312 → ∀ ty w, (binOp .mul ty (.float .f64 (wd sg 4607182418800017408)) (.float .f64 F)).run Tryz.prog w = .ok (.float .f64 (wd sg F)) w := fun F hF ty w => run_float_arith w .mul ty .f64 _ _ _ (mul_unit sg F hF)
  have HM2 := (show Hid _ from hm2)
  have ci := inf_any
  have cnn := nan_any
  have CN0 : Hid (numL t = none → ∀ w, Calls Tryz.prog 49 #[.string U] w fun e w' => e = .returned (.tuple #[.string (txt []), .int .i64 0, .int .i64 0]) ∧ w' = w) := fun h => numberD_none U t hUb hUs h
  have CN1 := (show Hid _ from fun q (h : numL t = some q) => numberD_some U t hUb hUs q h)
  have CV := (show Hid _ from fun q (h : numL t = some q) v hv => valuedD t hlow2 hll2 q h v hv)
  clear hsg ht hU hl hne hx hlT hT0 hm2 htN hUb hlow2 hll2
  go_enter Tryz.func12, Tryz.ntmps12
  go_upto_region 4 with (first | (go_at_call 44; refine cb.mono ?_; rintro e w1 ⟨rfl, hw1⟩; clear cb))
  go_cut [32] (fun v wx => v = .bool false ∧ wx = w1)
  case first =>
    rcases Nat.lt_or_ge 2 M with h2 | h2
    · have hq : hexQ l = false := by
        rcases HX.out with h | h
        · exact h
        · rw [HLT.out] at h; omega
      have hl0 : 0 < T.size := by omega
      have hl1 : 1 < T.size := by omega
      obtain ⟨c0, hc0⟩ : ∃ c0, (T[0]'hl0).toNat = c0 := ⟨_, rfl⟩
      obtain ⟨c1, hc1⟩ : ∃ c1, (T[1]'hl1).toNat = c1 := ⟨_, rfl⟩
      have hg0 := byte_of T l HL.out 0 hl0
      have hg1 := byte_of T l HL.out 1 hl1
      rw [hc0] at hg0
      rw [hc1] at hg1
      unfold hexQ at hq
      rw [hg0, hg1] at hq
      have hq2 := of_decide_eq_false hq
      by_cases e0 : c0 = 48
      · have e1 : c1 ≠ 120 ∧ c1 ≠ 88 := by
          constructor
          · intro h; exact hq2 ⟨by rw [e0], .inl (by rw [h])⟩
          · intro h; exact hq2 ⟨by rw [e0], .inr (by rw [h])⟩
        have k0 : ((c0 : Int) == 48) = true := by rw [beq_iff_eq]; omega
        have k1 : ((c1 : Int) == 120) = false := by rw [beq_eq_false_iff_ne]; omega
        have k2 : ((c1 : Int) == 88) = false := by rw [beq_eq_false_iff_ne]; omega
        clear hg0 hg1 hq hq2 e0 e1
        go_wp2
        go_meet
        exact ⟨rfl, rfl⟩
      · have k0 : ((c0 : Int) == 48) = false := by rw [beq_eq_false_iff_ne]; omega
        clear hg0 hg1 hq hq2 e0
        go_wp2
        go_meet
        exact ⟨rfl, rfl⟩
    · have k0 : ¬ (2 : Int) < (M : Int) := by omega
      clear h2
      go_wp2
      go_meet
      exact ⟨rfl, rfl⟩
  case rest =>
  obtain ⟨rfl, hwc⟩ := hcut
  obtain rfl := hwc.symm
  by_cases hi : t = infL
  · have HW : Hid (∀ ui, ui = wd sg 9218868437227405312 → ReadD l ui) := by
      intro ui hu
      rw [hu, HSG.out]
      exact .inf HNE.out HX.out (by rw [← HT.out]; exact hi)
    rw [decide_eq_true hi] at hinf
    obtain ⟨ui, hui⟩ : ∃ ui, ui = wd sg 9218868437227405312 := ⟨_, rfl⟩
    rw [← hui] at hm1
    have HUI := (show Hid (ui = wd sg 9218868437227405312) from hui)
    generalize wd sg 4607182418800017408 = us at *
    clear hi hui HM2
    go_wp2_with (first | (go_at_call 47; refine (csg _).mono ?_; rintro e w2 ⟨rfl, hw2⟩; clear csg) | (go_at_call 48; refine (ci _).mono ?_; rintro e w3 ⟨rfl, hw3⟩; obtain rfl := hw3.symm))
    go_ret
    exact ⟨ui, HW.out ui HUI.out, rfl, hw1.trans (hw2.mono hw1.size)⟩
  · rw [decide_eq_false hi] at hinf
    have HI := (show Hid (l.drop (signL l).2 ≠ infL) from by show _ ≠ _; rw [← HT.out]; exact hi)
    clear hi hm1
    cases hn : numL t with
    | none =>
      have cn := CN0.out hn
      have HW : Hid (ReadD l 9221120237041090561) := .none HNE.out HX.out HI.out (by rw [← HT.out]; exact hn)
      generalize wd sg 4607182418800017408 = us at *
      clear hn CN0 CN1 CV HM2
      go_wp2_with (first | (go_at_call 47; refine (csg _).mono ?_; rintro e w2 ⟨rfl, hw2⟩; clear csg) | (go_at_call 49; refine (cn _).mono ?_; rintro e w3 ⟨rfl, hw3⟩; obtain rfl := hw3.symm) | (go_at_call 43; refine (cnn _).mono ?_; rintro e w4 ⟨rfl, hw4⟩; obtain rfl := hw4.symm))
      go_ret
      exact ⟨_, HW.out, rfl, hw1.trans (hw2.mono hw1.size)⟩
    | some q =>
      have cn := CN1.out q hn
      have cvv := CV.out q hn
      have CVV := (show Hid _ from cvv)
      have hpos := numL_pos hn
      have hcl := numL_le hn
      rw [HTN.out] at hcl
      obtain ⟨c, hc⟩ : ∃ c, c = q.2.2.2 + exN q.2.2.1 := ⟨_, rfl⟩
      have HC := (show Hid (c = q.2.2.2 + exN q.2.2.1) from hc)
      rw [← hc] at cn hcl
      have hc0 : 0 < c := by omega
      have k0 : ((c : Int) == 0) = false := by rw [beq_eq_false_iff_ne]; omega
      obtain ⟨us, hus⟩ : ∃ us, us = wd sg 4607182418800017408 := ⟨_, rfl⟩
      rw [← hus] at csg HM2
      rcases Nat.lt_or_eq_of_le hcl with hlt | heq
      · have HW : Hid (ReadD l 9221120237041090561) := .part q HNE.out HX.out HI.out (by rw [← HT.out]; exact hn) (by rw [← HT.out, HTN.out, ← HC.out]; omega)
        have k1 : ((c : Int) != (N : Int)) = true := by rw [bne_iff_ne]; omega
        have k2 : ((c : Int) == (N : Int)) = false := by rw [beq_eq_false_iff_ne]; omega
        clear hn CN0 CN1 CV HM2 cvv CVV hpos hcl hc hc0 hus hlt
        go_wp2_with (first | (go_at_call 47; refine (csg _).mono ?_; rintro e w2 ⟨rfl, hw2⟩; clear csg) | (go_at_call 49; refine (cn _).mono ?_; rintro e w3 ⟨v, hv, rfl, hw3⟩; obtain rfl := hw3.symm; clear hv) | (go_at_call 43; refine (cnn _).mono ?_; rintro e w4 ⟨rfl, hw4⟩; obtain rfl := hw4.symm))
        go_ret
        exact ⟨_, HW.out, rfl, hw1.trans (hw2.mono hw1.size)⟩
      · have HW : Hid (∀ F, NumIs 100000 q.1 q.2.1 q.2.2.1 F → ReadD l (wd sg F)) := by
          intro F hF
          rw [HSG.out]
          exact .num F q HNE.out HX.out HI.out (by rw [← HT.out]; exact hn) (by rw [← HT.out, HTN.out, ← HC.out, heq]) hF
        have k1 : ((c : Int) != (N : Int)) = false := by rw [bne_eq_false_iff_eq]; omega
        have k2 : ((c : Int) == (N : Int)) = true := by rw [beq_iff_eq]; omega
        clear hn CN0 CN1 CV cvv hpos hcl hc hc0 hus heq
        go_wp2_with (first | (go_at_call 47; refine (csg _).mono ?_; rintro e w2 ⟨rfl, hw2⟩; clear csg) | (go_at_call 49; refine (cn _).mono ?_; rintro e w3 ⟨v, hv, rfl, hw3⟩; obtain rfl := hw3.symm; have cv := CVV.out v hv w2; clear CVV cn hv) | (go_at_call 50; fail))
        refine cv.mono ?_
        rintro e w4 ⟨F, hF, rfl, hw4⟩
        have hm := HM2.out F hF.le
        have HF := (show Hid (NumIs 100000 q.1 q.2.1 q.2.2.1 F) from hF)
        clear hF cv HM2
        go_wp2
        go_ret
        have hw12 := hw1.trans (hw2.mono hw1.size)
        exact ⟨_, HW.out F HF.out, rfl, hw12.trans (hw4.mono hw12.size)⟩
/-- **Read, by what it is.** -/
theorem readD_all (sv : Value) (sa : Option Addr) (sn sp : Nat) (hsv : sv = .slice sa sn sp) (T : ByteArray) (l : List Nat) (hl : Ut.bytes T = l) (hs : T.size ≤ 25000) (hlow : Ut.Un.low l ≤ 4000) (w : World)
    (cb : Calls Tryz.prog 44 #[sv] w fun e w' => e = .returned (.string T) ∧ Below w.heap.size w w') :
    Calls Tryz.prog 12 #[sv] w fun e w' => ∃ x, ReadD l x ∧ e = .returned (.float .f64 x) ∧ Below w.heap.size w w' := by
  have hlT : l.length = T.size := by rw [← hl, Ut.bytes_len]
  rcases Nat.eq_zero_or_pos T.size with h0 | h0
  · refine (readD_empty sv sa sn sp hsv T h0 w cb).mono ?_
    rintro e w' ⟨rfl, hb⟩
    exact ⟨_, .empty (List.eq_nil_of_length_eq_zero (by omega)), rfl, hb⟩
  · by_cases hx : hexQ l = true ∧ 2 < l.length
    · obtain ⟨hq, h2⟩ := hx
      have hq2 := hq
      unfold hexQ at hq2
      obtain ⟨g0, g1⟩ := of_decide_eq_true hq2
      obtain ⟨c, hc, hcx⟩ : ∃ c, l[1]? = some c ∧ (c = 120 ∨ c = 88) := by
        rcases g1 with h | h
        · exact ⟨120, h, .inl rfl⟩
        · exact ⟨88, h, .inr rfl⟩
      have hUb : Ut.bytes (T.extract 2 T.size) = l.drop 2 := by rw [Ut.bytes_drop, hl]
      have hUl : (l.drop 2).length = T.size - 2 := by rw [List.length_drop, hlT]
      have hrl := runL_le 16 (l.drop 2)
      have cd := digitsTo_any (T.extract 2 T.size) 16 (by omega) (by rw [size_drop]; omega)
      rw [hUb] at cd
      refine readD_hex sv sa sn sp hsv T (T.extract 2 T.size) T.size (runL 16 (l.drop 2)) c (ReadD l) rfl (by omega) (by omega) rfl (fun h => byte_get T 0 48 (by rw [hl]; exact g0) h) (fun h => byte_get T 1 c (by rw [hl]; exact hc) h) hcx (by omega) w cb cd ?_ ?_
      · intro w hr
        have hr2 : runL 16 (l.drop 2) = (l.drop 2).length := by omega
        have hd := run_all hr2
        have hlen : (l.drop 2).length ≤ 4000 := by
          have := Ut.Un.low_part (l.drop 2) l 2 (fun c hc => by
            have := hd c hc
            unfold digV at this
            repeat' split at this
            all_goals omega) (List.prefix_refl _)
          omega
        refine (wholeTo_any (T.extract 2 T.size) 16 (l.drop 2) hUb (by omega) (by omega) hlen hd w).mono ?_
        rintro e w' ⟨R, hR, rfl, hb⟩
        exact ⟨_, .hexn R hq h2 hr2 hR, rfl, hb⟩
      · intro hr
        exact .hexx hq h2 (by omega)
    · refine readD_dec sv sa sn sp hsv T l hl hs hlow (fun e => by rw [e] at hlT; simp at hlT; omega) ?_ w cb
      cases hq : hexQ l with
      | false => exact .inl rfl
      | true => exact .inr (by rcases Nat.lt_or_ge 2 l.length with h | h; exact absurd ⟨hq, h⟩ hx; exact h)
end Go.Proofs.YtellndmbllmjgaaGreatDoor
/- The walk of parts (as NumBits' texts have it). -/
set_option linter.unusedVariables false
namespace Go.Proofs
open Go.Shelf
def Tryz.tz_ren : Go.Shelf.Ren := ⟨fun | 29 => 157 | n => n, fun | 25 => 99 | 54 => 212 | n => n, fun | 1 => 4 | n => n⟩
theorem Tryz.tz : Go.Proofs.Lays7.n29 Tryz.prog Tryz.tz_ren := {
  mixed := by kernel_rfl
  f29 := Tryz.func157.trans (congrArg some (by kernel_rfl))
  t0 := Tryz.underlying0
  a0 := Tryz.isAgg0
  z0 := Tryz.sizeOf0
  v0 := Tryz.zeroValue0
  i0 := by kernel_rfl
  t3 := Tryz.underlying3
  a3 := Tryz.isAgg3
  z3 := Tryz.sizeOf3
  v3 := Tryz.zeroValue3
  i3 := by kernel_rfl
  t4 := Tryz.underlying4
  a4 := Tryz.isAgg4
  z4 := Tryz.sizeOf4
  v4 := Tryz.zeroValue4
  i4 := by kernel_rfl
  t5 := Tryz.underlying5
  a5 := Tryz.isAgg5
  z5 := Tryz.sizeOf5
  v5 := Tryz.zeroValue5
  i5 := by kernel_rfl
  t22 := Tryz.underlying22
  a22 := Tryz.isAgg22
  z22 := Tryz.sizeOf22
  v22 := Tryz.zeroValue22
  i22 := by kernel_rfl
  t25 := Tryz.underlying99
  a25 := Tryz.isAgg99
  z25 := Tryz.sizeOf99
  v25 := Tryz.zeroValue99
  i25 := by kernel_rfl
  t54 := Tryz.underlying212
  a54 := Tryz.isAgg212
  z54 := Tryz.sizeOf212
  g1 := by kernel_rfl }
theorem Tryz.tz64 (x : Nat) (hx : x < 18446744073709551616) (w : World) (hT : x ≠ 0 → TabAt 4 Lib.deBruijn64tab w) :
    Calls Tryz.prog 157 #[.int .u64 x] w fun e w' => e = .returned (.int .i64 (Lib.ctz 64 x)) ∧ w' = w := Any7.bits_TrailingZeros64 Tryz.tz x hx w hT

end Go.Proofs
namespace Go.Proofs.YtellndmbllmjgaaGreatDoor
open Go.RowKit Go.Shelf Fl

end Go.Proofs.YtellndmbllmjgaaGreatDoor
/- The walks of Abs, Signbit, IsInf, IsNaN, finite, same, Trunc, both Ints. -/
set_option linter.unusedVariables false
namespace Go.Proofs.YtellndmbllmjgaaGreatDoor.Nq
open Go.RowKit Go.Shelf Fl

theorem truncedQ (b : Nat) (w : World) (h : (Ieee.double.read b).isNaN = false) : (callFunc 83 #[.float .f64 b]).run Tryz.prog w = .ok (.value (.float .f64 (Ieee.double.write ((Ieee.double.read b).integral .zero)))) w := by
  rw [run_callFunc_extern (P := Tryz.prog) (f := 83) (e := Extern.MathFloor.toIntegral "math.archTrunc" .zero) Tryz.func83 (by kernel_rfl) (by kernel_rfl) (by kernel_rfl) (by kernel_rfl)]
  have hd : FloatKind.f64.decode b = Ieee.double.read b := rfl
  generalize Ieee.double.read b = d at h hd ⊢
  generalize hq : FloatKind.f64.decode b = q at hd
  subst hd
  have key : Extern.MathFloor.toIntegral "math.archTrunc" .zero #[.float .f64 b] = pure (.float .f64 (FloatKind.f64.encode (q.integral .zero))) := by
    show Extern.MathFloor.toIntegral.match_1 (fun _ => Sem Value) (FloatKind.f64.decode b) _ _ = _
    rw [hq]
    cases q with
    | number s m i => rfl
    | infinity s => rfl
    | nan s t => exact absurd h (by simp [Ieee.Datum.isNaN])
  rw [key]
  rfl
theorem wd_lt (s : Bool) (r : Nat) (h : r < 9223372036854775808) : wd s r < 18446744073709551616 := by
  cases s
  · rw [wd_false]; omega
  · rw [wd_true]; omega
theorem wd_abs (s : Bool) (r : Nat) (h : r < 9223372036854775808) : bits .andNot .u64 ((wd s r : Nat) : Int) 9223372036854775808 = (r : Int) := by
  have := u64_andNot_nat (wd s r) 9223372036854775808 (wd_lt s r h) (by omega)
  refine this.trans ?_
  have e : wd s r &&& (2 ^ 63 - 1) = wd s r % 2 ^ 63 := Nat.and_two_pow_sub_one_eq_mod _ _
  have e2 : wd s r % 2 ^ 63 = r := wd_mod s r h
  rw [e2] at e
  exact congrArg Int.ofNat e
/-- Abs. -/
theorem abs_any (s : Bool) (r : Nat) (h : r < 9223372036854775808) (w : World) : Calls Tryz.prog 71 #[.float .f64 (wd s r)] w fun e w' => e = .returned (.float .f64 r) ∧ w' = w := by
  have h1 := wd_abs s r h
  have x1 := Tryz.tobits103 (wd s r)
  have x2 := Tryz.frombits7 (r : Int)
  rw [Int.toNat_natCast] at x2
  generalize wd s r = x at *
  clear h
  go_enter Tryz.func71, Tryz.ntmps71
  go_wp2
  go_ret
  exact ⟨rfl, rfl⟩
theorem isNaN_any (x : Nat) (w : World) : Calls Tryz.prog 232 #[.float .f64 x] w fun e w' => e = .returned (.bool (FloatKind.f64.format.order x x != some .eq)) ∧ w' = w := by
  go_enter Tryz.func232, Tryz.ntmps232
  go_wp2
  go_ret
  exact ⟨rfl, rfl⟩
end Go.Proofs.YtellndmbllmjgaaGreatDoor.Nq
/- The walks of IsInf, Signbit, finite, same, Trunc, both Ints. -/
set_option linter.unusedVariables false
namespace Go.Proofs.YtellndmbllmjgaaGreatDoor.Nq
open Go.RowKit Go.Shelf Fl

/-- IsInf, of either sign. -/
theorem isInf_any (s : Bool) (r : Nat) (h : r < 9223372036854775808) (w : World) : Calls Tryz.prog 25 #[.float .f64 (wd s r), .int .i64 0] w fun e w' => e = .returned (.bool (FloatKind.f64.format.order r 9218868437227405311 == some .gt)) ∧ w' = w := by
  have ca := abs_any s r h
  generalize wd s r = x at *
  clear h
  go_enter Tryz.func25, Tryz.ntmps25
  go_wp2_with (first | (go_at_call 71; refine (ca _).mono ?_; rintro e w' ⟨rfl, rfl⟩) | go_in)
  go_ret
  exact ⟨rfl, rfl⟩
theorem signbit_any (x : Nat) (w : World) : Calls Tryz.prog 51 #[.float .f64 x] w fun e w' => e = .returned (.bool (decide (wrap64 (x : Int) < 0))) ∧ w' = w := by
  have x1 := Tryz.tobits103 x
  go_enter Tryz.func51, Tryz.ntmps51
  go_wp2
  go_ret
  exact ⟨by simp, rfl⟩
/-- A word and itself are the same. -/
theorem same_self (x : Nat) (w : World) : Calls Tryz.prog 13 #[.float .f64 x, .float .f64 x] w fun e w' => e = .returned (.bool true) ∧ w' = w := by
  have cs := signbit_any x
  have ho : FloatKind.f64.format.order x x = none ∨ FloatKind.f64.format.order x x = some .eq := order_self x
  rcases ho with h | h
  all_goals
    go_enter Tryz.func13, Tryz.ntmps13
    go_wp2_with (first | (go_at_call 51; refine (cs _).mono ?_; rintro e w' ⟨rfl, rfl⟩) | go_in)
    go_ret
    exact ⟨by simp, rfl⟩
end Go.Proofs.YtellndmbllmjgaaGreatDoor.Nq
/- The walks of finite, Trunc, both Ints. -/
set_option linter.unusedVariables false
namespace Go.Proofs.YtellndmbllmjgaaGreatDoor.Nq
open Go.RowKit Go.Shelf Fl

theorem finite_num (s : Bool) (r : Nat) (h : r < 9218868437227405312) (w : World) : Calls Tryz.prog 109 #[.float .f64 (wd s r)] w fun e w' => e = .returned (.bool true) ∧ w' = w := by
  have h1 : ∀ t w, (binOp .sub t (.float .f64 (wd s r)) (.float .f64 (wd s r))).run Tryz.prog w = .ok (.float .f64 0) w := fun t w => run_float_arith w .sub t .f64 _ _ 0 (sub_self s r h)
  have h2 : FloatKind.f64.format.order 0 0 = some .eq := by decide
  generalize wd s r = x at *
  clear h
  go_enter Tryz.func109, Tryz.ntmps109
  go_wp2
  go_ret
  exact ⟨rfl, rfl⟩
/-- A NaN that is drawn. -/
theorem nan_drawn (x y t : Nat) : ∃ s r, Question.cut (.nanBits .f64 x y) t = wd s r ∧ 9218868437227405312 < r ∧ r < 9223372036854775808 := by
  refine ⟨decide (t % 2 = 1), 9218868437227405313 + t / 2 % 4503599627370495, ?_, by omega, by omega⟩
  have e : Question.cut (.nanBits .f64 x y) t = t % 2 * 9223372036854775808 + 9218868437227405312 + 1 + t / 2 % 4503599627370495 := rfl
  rw [e]
  rcases Nat.mod_two_eq_zero_or_one t with h | h
  · rw [h, show decide (0 = 1) = false from rfl, wd_false]; try omega
  · rw [h, show decide (1 = 1) = true from rfl, wd_true]; try omega
theorem sub_drawn (x : Nat) (h : Ieee.double.sub x x = none) (t : TypeId) (w : World) : ∃ N, FloatKind.f64.format.order N 0 = none ∧ (binOp .sub t (.float .f64 x) (.float .f64 x)).run Tryz.prog w = .ok (.float .f64 N) w.drew := by
  obtain ⟨s, r, he, h1, h2⟩ := nan_drawn x x (w.tape w.drawn (.nanBits .f64 x x))
  refine ⟨wd s r, order_nan 0 s r h1 h2, ?_⟩
  have h' : FloatKind.f64.format.sub x x = none := h
  have hf : (Question.nanBits .f64 x x).forced = false := rfl
  simp [binOp, Op.floatArith, h', hf, he]
theorem finite_not (x : Nat) (h : Ieee.double.sub x x = none) (w : World) : Calls Tryz.prog 109 #[.float .f64 x] w fun e w' => e = .returned (.bool false) ∧ w' = w.drew := by
  obtain ⟨N, h2, h1⟩ := sub_drawn x h 23 w
  clear h
  go_enter Tryz.func109, Tryz.ntmps109
  go_wp2
  go_ret
  exact ⟨rfl, rfl⟩
theorem trunc_any (x : Nat) (h : (Ieee.double.read x).isNaN = false) (w : World) : Calls Tryz.prog 31 #[.float .f64 x] w fun e w' => e = .returned (.float .f64 (Ieee.double.write ((Ieee.double.read x).integral .zero))) ∧ w' = w := by
  have h1 := fun w => truncedQ x w h
  generalize Ieee.double.write ((Ieee.double.read x).integral .zero) = y at *
  clear h
  go_enter Tryz.func31, Tryz.ntmps31
  go_wp2
  go_ret
  exact ⟨rfl, rfl⟩
end Go.Proofs.YtellndmbllmjgaaGreatDoor.Nq
/- The walk of parts. -/
set_option linter.unusedVariables false
namespace Go.Proofs.YtellndmbllmjgaaGreatDoor.Nq
open Go.RowKit Go.Shelf Fl

theorem and_52 (r : Nat) (h : r < 18446744073709551616) : bits .and .u64 (r : Int) 4503599627370495 = ((r % 4503599627370496 : Nat) : Int) := by
  refine (bits_and_u64_nat r 4503599627370495 h (by omega)).trans ?_
  have e : r &&& (2 ^ 52 - 1) = r % 2 ^ 52 := Nat.and_two_pow_sub_one_eq_mod _ _
  exact congrArg Int.ofNat e
theorem and_11 (q : Nat) (h : q < 2048) : bits .and .u64 (q : Int) 2047 = (q : Int) := by
  refine (bits_and_u64_nat q 2047 (by omega) (by omega)).trans ?_
  have e : q &&& (2 ^ 11 - 1) = q % 2 ^ 11 := Nat.and_two_pow_sub_one_eq_mod _ _
  have e2 : q % 2 ^ 11 = q := Nat.mod_eq_of_lt h
  exact congrArg Int.ofNat (e.trans e2)
theorem or_52 (m : Nat) (h : m < 4503599627370496) : bits .or .u64 (m : Int) 4503599627370496 = ((4503599627370496 + m : Nat) : Int) := by
  refine (bits_or_u64_nat m 4503599627370496 (by omega) (by omega)).trans ?_
  have e : 2 ^ 52 * 1 + m = 2 ^ 52 * 1 ||| m := Nat.two_pow_add_eq_or_of_lt h 1
  rw [Nat.or_comm] at e
  exact congrArg Int.ofNat e.symm
theorem ctz_lt (r : Nat) (h0 : r ≠ 0) (h : r < 18446744073709551616) : Lib.ctz 64 r < 64 := (Lib.lowest_bit 64 r h0 h).2
theorem cdiv (r z : Nat) : (r : Int) / 2 ^ z = ((r / 2 ^ z : Nat) : Int) := by
  rw [Int.natCast_ediv, Int.natCast_pow]; rfl
set_option maxRecDepth 100000 in
set_option maxHeartbeats 400000 in
theorem parts_low (r z : Nat) (h0 : r ≠ 0) (h : r < 4503599627370496) (w : World) (hz : z < 64) (ct : Calls Tryz.prog 157 #[.int .u64 r] w fun e w' => e = .returned (.int .i64 z) ∧ w' = w) :
    Calls Tryz.prog 111 #[.float .f64 r] w fun e w' => e = .returned (.tuple #[.int .u64 ((r / 2 ^ z : Nat) : Int), .int .i64 (-1074 + (z : Int))]) ∧ w' = w := by
  have x1 := Tryz.tobits103 r
  have b1 : bits .and .u64 (r : Int) 4503599627370495 = (r : Int) := by
    have b1 := and_52 r (by omega)
    rw [Nat.mod_eq_of_lt h] at b1
    exact b1
  have b2 : bits .and .u64 0 2047 = 0 := and_11 0 (by omega)
  have q1 : (r : Int) / 4503599627370496 = 0 := by omega
  go_enter Tryz.func111, Tryz.ntmps111
  go_wp2_with (first | (go_at_call 157; refine ct.mono ?_; rintro e w' ⟨rfl, rfl⟩) | go_in)
  go_ret2
  rw [← cdiv]
  exact ⟨rfl, rfl⟩
set_option maxRecDepth 100000 in
set_option maxHeartbeats 400000 in
theorem parts_high (r f q m z : Nat) (hf : r % 4503599627370496 = f) (hq : r / 4503599627370496 = q) (h0 : q ≠ 0) (h : q < 2047) (hm : m = 4503599627370496 + f) (w : World) (hz : z < 64) (ct : Calls Tryz.prog 157 #[.int .u64 m] w fun e w' => e = .returned (.int .i64 z) ∧ w' = w) :
    Calls Tryz.prog 111 #[.float .f64 r] w fun e w' => e = .returned (.tuple #[.int .u64 ((m / 2 ^ z : Nat) : Int), .int .i64 ((q : Int) - 1075 + (z : Int))]) ∧ w' = w := by
  have x1 := Tryz.tobits103 r
  have b1 : bits .and .u64 (r : Int) 4503599627370495 = (f : Int) := by
    have b1 := and_52 r (by omega)
    rw [hf] at b1
    exact b1
  have b2 : bits .and .u64 (q : Int) 2047 = (q : Int) := and_11 q (by omega)
  have b3 : bits .or .u64 (f : Int) 4503599627370496 = (m : Int) := by
    have := or_52 f (by omega)
    rw [hm]
    exact this
  have q1 : (r : Int) / 4503599627370496 = (q : Int) := by omega
  have q0 : ((q : Int) == 0) = false := by simp; omega
  have m0 : ((m : Int) == 0) = false := by simp; omega
  have mm : m < 9007199254740992 := by omega
  clear hf hq hm
  go_enter Tryz.func111, Tryz.ntmps111
  go_wp2_with (first | (go_at_call 157; refine ct.mono ?_; rintro e w' ⟨rfl, rfl⟩) | go_in)
  go_ret2
  rw [← cdiv]
  exact ⟨rfl, rfl⟩
theorem parts_zero (w : World) : Calls Tryz.prog 111 #[.float .f64 0] w fun e w' => e = .returned (.tuple #[.int .u64 0, .int .i64 0]) ∧ w' = w := by
  have x1 := Tryz.tobits103 0
  have b1 : bits .and .u64 0 4503599627370495 = 0 := and_52 0 (by omega)
  have b2 : bits .and .u64 0 2047 = 0 := and_11 0 (by omega)
  go_enter Tryz.func111, Tryz.ntmps111
  go_wp2
  go_ret2
  exact ⟨rfl, rfl⟩
/-- **parts, of a finite word.** -/
theorem parts_any (r : Nat) (h0 : r ≠ 0) (h : r < 9218868437227405312) (w : World) (hT : TabAt 4 Lib.deBruijn64tab w) :
    Calls Tryz.prog 111 #[.float .f64 r] w fun e w' => e = .returned (.tuple #[.int .u64 ((magR r / 2 ^ Lib.ctz 64 (magR r) : Nat) : Int), .int .i64 ((expR r : Int) - 1074 + (Lib.ctz 64 (magR r) : Int))]) ∧ w' = w := by
  have hm0 : magR r ≠ 0 := fun e => h0 (magR_zero.1 e)
  have hml := magR_lt r
  have hz := ctz_lt (magR r) hm0 (by omega)
  have ct := Tryz.tz64 (magR r) (by omega) w (fun _ => hT)
  generalize Lib.ctz 64 (magR r) = z at *
  by_cases hr : r < 4503599627370496
  · have e1 : magR r = r := by unfold magR; rw [if_pos hr]
    have e2 : expR r = 0 := by unfold expR; omega
    rw [e1] at ct ⊢
    rw [e2]
    exact parts_low r z h0 hr w hz ct
  · have e1 : magR r = 4503599627370496 + r % 4503599627370496 := by unfold magR; rw [if_neg hr]
    have e2 : ((expR r : Nat) : Int) - 1074 = ((r / 4503599627370496 : Nat) : Int) - 1075 := by unfold expR; omega
    rw [e2]
    exact parts_high r _ _ (magR r) z rfl rfl (by omega) (by omega) e1 w hz ct
end Go.Proofs.YtellndmbllmjgaaGreatDoor.Nq
