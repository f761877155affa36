/- ReadInt of both, by what it is. -/
import Derived.Test.YtellndmbllmjgaaGreatDoorCRi2x
import Derived.Test.YtellndmbllmjgaaGreatDoorCUtAx
set_option linter.unusedVariables false
namespace Go.Proofs.YtellndmbllmjgaaGreatDoor
open Go.RowKit Go.Shelf Go.Sort Fs Fl
def hxI (l : List Nat) (v : Int) : Bool := (decide (v = 0) || decide (v = 16)) && hexQ (l.drop (signL l).2)
def tI (l : List Nat) (v : Int) : List Nat := if hxI l v then (l.drop (signL l).2).drop 2 else l.drop (signL l).2
def bI (l : List Nat) (v : Int) : Nat := if hxI l v then 16 else if v = 0 then 10 else v.toNat
/-- What a text is taken for, to a base. -/
inductive IntIs (l : List Nat) (v : Int) : Nat → Prop
  | bad (x : Nat) (h : v ≠ 0 ∧ (v < 2 ∨ 36 < v)) (hx : NanW x) : IntIs l v x
  | ok (x : Nat) (h : v = 0 ∨ (2 ≤ v ∧ v ≤ 36)) (hx : IntEnd (signL l).1 (bI l v) (tI l v) x) : IntIs l v x
theorem cutHex_any (S : ByteArray) (l : List Nat) (hl : Ut.bytes S = l) (hs : S.size ≤ 25000) (w : World) : Calls Tryz.prog 40 #[.string S] w fun e w' => e = .returned (.tuple #[.string (if hexQ l then S.extract 2 S.size else S), .bool (hexQ l)]) ∧ w' = w := by
  have hll : l.length = S.size := by rw [← hl, Ut.bytes_len]
  cases hq : hexQ l with
  | true =>
    have hq2 := hq
    unfold hexQ at hq2
    obtain ⟨g0, g1⟩ := of_decide_eq_true hq2
    obtain ⟨c, hc, hcx⟩ : ∃ c, l[1]? = some c ∧ (c = 120 ∨ c = 88) := by
      rcases g1 with h | h
      · exact ⟨120, h, .inl rfl⟩
      · exact ⟨88, h, .inr rfl⟩
    have h2 : 1 < l.length := (List.getElem?_eq_some_iff.1 hc).1
    exact cutHex_yes S (by omega) (by omega) c (fun h => byte_get S 0 48 (by rw [hl]; exact g0) h) (fun h => byte_get S 1 c (by rw [hl]; exact hc) h) hcx w
  | false =>
    show Calls Tryz.prog 40 #[.string S] w fun e w' => e = .returned (.tuple #[.string S, .bool false]) ∧ w' = w
    have hq2 := hq
    unfold hexQ at hq2
    have hn := of_decide_eq_false hq2
    by_cases h0 : l[0]? = some 48
    · refine cutHex_no S (by omega) (fun h => ?_) w
      have := byte_of S l hl 1 h
      constructor
      · intro e; rw [e] at this; exact hn ⟨h0, .inl this⟩
      · intro e; rw [e] at this; exact hn ⟨h0, .inr this⟩
    · refine cutHex_no0 S (by omega) (fun h => ?_) w
      have := byte_of S l hl 0 h
      intro e
      rw [e] at this
      exact h0 this
theorem tI_low (l : List Nat) (v : Int) : Ut.Un.low (tI l v) ≤ Ut.Un.low l := by
  have h1 := low_drop l (signL l).2
  unfold tI
  split
  · have h2 := low_drop (l.drop (signL l).2) 2
    omega
  · omega
theorem digB_low {b c : Nat} (hb : b ≤ 36) (h : digV c < b) : c < 128 := by
  unfold digV at h
  repeat' split at h
  all_goals omega
theorem run_dig (b : Nat) (t : List Nat) : DigB b (t.take (runL b t)) := by
  intro c hc
  obtain ⟨k, hk, e⟩ := List.getElem_of_mem hc
  have hk2 : k < runL b t := by rw [take_run_len] at hk; exact hk
  obtain ⟨c', h1, h2⟩ := runL_in b t k hk2
  rw [List.getElem_take] at e
  have h3 : k < t.length := by have := runL_le b t; omega
  rw [List.getElem?_eq_getElem h3, e] at h1
  injection h1 with h1
  rw [h1]
  exact h2
theorem run_short {b : Nat} {t : List Nat} (hb : b ≤ 36) (hlow : Ut.Un.low t ≤ 4000) : (t.take (runL b t)).length ≤ 4000 := by
  have := Ut.Un.low_part (t.take (runL b t)) t 0 (fun c hc => digB_low hb (run_dig b t c hc)) (by rw [List.drop_zero]; exact List.take_prefix _ _)
  omega
/-- What stands behind sign and 0x: its text. -/
theorem tI_text (T : ByteArray) (l : List Nat) (hl : Ut.bytes T = l) (hs : T.size ≤ 25000) (v : Int) : ∃ U, Ut.bytes U = tI l v ∧ U.size ≤ 25000 ∧ U = (if hxI l v then (T.extract (signL l).2 T.size).extract 2 (T.extract (signL l).2 T.size).size else T.extract (signL l).2 T.size) := by
  refine ⟨_, ?_, ?_, rfl⟩
  · unfold tI
    split
    · rw [Ut.bytes_drop, Ut.bytes_drop, hl]
    · rw [Ut.bytes_drop, hl]
  · split
    · rw [size_drop, size_drop]; omega
    · rw [size_drop]; omega
theorem base_cases (l : List Nat) (v : Int) (h : v = 0 ∨ (2 ≤ v ∧ v ≤ 36)) :
    (v = 0 ∧ hexQ (l.drop (signL l).2) = true ∧ hxI l v = true ∧ bI l v = 16) ∨ (v = 16 ∧ hexQ (l.drop (signL l).2) = true ∧ hxI l v = true ∧ bI l v = 16) ∨ (v = 0 ∧ hexQ (l.drop (signL l).2) = false ∧ hxI l v = false ∧ bI l v = 10) ∨ (v = 16 ∧ hexQ (l.drop (signL l).2) = false ∧ hxI l v = false ∧ bI l v = 16) ∨ (v ≠ 0 ∧ v ≠ 16 ∧ hxI l v = false ∧ bI l v = v.toNat) := by
  by_cases h0 : v = 0
  · subst h0
    cases hq : hexQ (l.drop (signL l).2) with
    | true =>
      have e : hxI l 0 = true := by unfold hxI; rw [hq]; rfl
      exact .inl ⟨rfl, rfl, e, by unfold bI; rw [e]; rfl⟩
    | false =>
      have e : hxI l 0 = false := by unfold hxI; rw [hq, Bool.and_false]
      exact .inr (.inr (.inl ⟨rfl, rfl, e, by unfold bI; rw [e]; rfl⟩))
  · by_cases h16 : v = 16
    · subst h16
      cases hq : hexQ (l.drop (signL l).2) with
      | true =>
        have e : hxI l 16 = true := by unfold hxI; rw [hq]; rfl
        exact .inr (.inl ⟨rfl, rfl, e, by unfold bI; rw [e]; rfl⟩)
      | false =>
        have e : hxI l 16 = false := by unfold hxI; rw [hq, Bool.and_false]
        exact .inr (.inr (.inr (.inl ⟨rfl, rfl, e, by unfold bI; rw [e]; rfl⟩)))
    · have e : hxI l v = false := by unfold hxI; rw [decide_eq_false h0, decide_eq_false h16]; rfl
      refine .inr (.inr (.inr (.inr ⟨h0, h16, e, ?_⟩)))
      unfold bI
      rw [e, if_neg h0]
      rfl
theorem bI_bounds (l : List Nat) (v : Int) (h : v = 0 ∨ (2 ≤ v ∧ v ≤ 36)) : 2 ≤ bI l v ∧ bI l v ≤ 36 := by
  rcases base_cases l v h with ⟨_, _, _, e⟩ | ⟨_, _, _, e⟩ | ⟨_, _, _, e⟩ | ⟨_, _, _, e⟩ | ⟨_, _, _, e⟩ <;> rw [e] <;> omega
/-- **The program's ReadInt.** -/
theorem readIntP (S T : ByteArray) (l : List Nat) (hl : Ut.bytes T = l) (hs : T.size ≤ 25000) (X : Nat) (v : Int) (hv1 : -2147483648 ≤ v) (hv2 : v ≤ 2147483647) (w : World)
    (ct : Calls Tryz.prog 39 #[.string S] w fun e w' => e = .returned (.string T) ∧ Below w.heap.size w w')
    (ci : ∀ W, Below w.heap.size w W → Calls Tryz.prog 53 #[.float .f64 X] W fun e w' => e = .returned (.int .i32 v) ∧ Below W.heap.size W w') :
    Calls Tryz.prog 16 #[.string S, .float .f64 X] w fun e w' => ∃ x, IntIs l v x ∧ e = .returned (.float .f64 x) ∧ Below w.heap.size w w' := by
  have cs := cutSign_any T (by omega)
  rw [hl] at cs
  by_cases hok : v = 0 ∨ (2 ≤ v ∧ v ≤ 36)
  · have hB := bI_bounds l v hok
    obtain ⟨U, hUb, hUs, hU⟩ := tI_text T l hl hs v
    have hrl := runL_le (bI l v) (tI l v)
    have hUl : (tI l v).length = U.size := by rw [← hUb, Ut.bytes_len]
    have cr := run_any U (bI l v) hB.2 (by omega)
    rw [hUb] at cr
    have hVb : Ut.bytes (U.extract 0 (runL (bI l v) (tI l v))) = (tI l v).take (runL (bI l v) (tI l v)) := by
      rw [bytes_cut U 0 _ (by omega) (by omega), hUb, List.drop_zero, Nat.sub_zero]
    have hVs : (U.extract 0 (runL (bI l v) (tI l v))).size ≤ 25000 := by
      rw [← Ut.bytes_len, hVb, take_run_len]
      omega
    have cw := fun W => whole_all (U.extract 0 (runL (bI l v) (tI l v))) (bI l v) _ hVb hB.1 hB.2 hVs W
    have ch := cutHex_any (T.extract (signL l).2 T.size) (l.drop (signL l).2) (by rw [Ut.bytes_drop, hl]) (by rw [size_drop]; omega)
    have fin : ∀ {e : Ending} {w' : World}, (∃ x, IntEnd (signL l).1 (bI l v) (tI l v) x ∧ e = .returned (.float .f64 x) ∧ Below w.heap.size w w') → ∃ x, IntIs l v x ∧ e = .returned (.float .f64 x) ∧ Below w.heap.size w w' := fun ⟨x, h1, h2, h3⟩ => ⟨x, .ok x hok h1, h2, h3⟩
    rcases base_cases l v hok with ⟨e0, hq, hx, eb⟩ | ⟨e0, hq, hx, eb⟩ | ⟨e0, hq, hx, eb⟩ | ⟨e0, hq, hx, eb⟩ | ⟨h0, h16, hx, eb⟩
    · rw [hq] at ch
      rw [hx] at hU
      have hU' : U = (T.extract (signL l).2 T.size).extract 2 (T.extract (signL l).2 T.size).size := hU
      rw [if_pos rfl, ← hU'] at ch
      rw [e0] at ci
      refine (ri_hex0 S T _ U _ X _ U.size (bI l v) (tI l v) (signL l).1 w rfl (by omega) (by omega) rfl rfl eb ct cs ci ch (by rw [eb] at cr ⊢; exact cr) (by rw [eb] at cw ⊢; exact cw)).mono ?_
      intro e w' h; exact fin h
    · rw [hq] at ch
      rw [hx] at hU
      have hU' : U = (T.extract (signL l).2 T.size).extract 2 (T.extract (signL l).2 T.size).size := hU
      rw [if_pos rfl, ← hU'] at ch
      rw [e0] at ci
      refine (ri_hex16 S T _ U _ X _ U.size (bI l v) (tI l v) (signL l).1 w rfl (by omega) (by omega) rfl rfl eb ct cs ci ch (by rw [eb] at cr ⊢; exact cr) (by rw [eb] at cw ⊢; exact cw)).mono ?_
      intro e w' h; exact fin h
    · rw [hq] at ch
      rw [hx] at hU
      have hU' : U = T.extract (signL l).2 T.size := hU
      rw [e0] at ci
      refine (ri_dec0 S T _ U _ X _ U.size (bI l v) (tI l v) (signL l).1 w rfl (by omega) (by omega) rfl rfl hU'.symm eb ct cs ci ch (by rw [eb] at cr ⊢; exact cr) (by rw [eb] at cw ⊢; exact cw)).mono ?_
      intro e w' h; exact fin h
    · rw [hq] at ch
      rw [hx] at hU
      have hU' : U = T.extract (signL l).2 T.size := hU
      rw [e0] at ci
      refine (ri_dec16 S T _ U _ X _ U.size (bI l v) (tI l v) (signL l).1 w rfl (by omega) (by omega) rfl rfl hU'.symm eb ct cs ci ch (by rw [eb] at cr ⊢; exact cr) (by rw [eb] at cw ⊢; exact cw)).mono ?_
      intro e w' h; exact fin h
    · rw [hx] at hU
      have hU' : U = T.extract (signL l).2 T.size := hU
      have ev : v = (bI l v : Int) := by rw [eb]; omega
      have ci' : ∀ W, Below w.heap.size w W → Calls Tryz.prog 53 #[.float .f64 X] W fun e w' => e = .returned (.int .i32 (bI l v : Int)) ∧ Below W.heap.size W w' := by rw [← ev]; exact ci
      refine (ri_base S T _ U _ X _ U.size (bI l v) (tI l v) (signL l).1 w rfl (by omega) (by omega) rfl rfl hU'.symm (by rw [beq_eq_false_iff_ne]; omega) (by rw [beq_eq_false_iff_ne]; omega) hB.1 hB.2 ct cs ci' cr cw).mono ?_
      intro e w' h; exact fin h
  · refine (ri_bad S T _ X v (signL l).1 w (by rw [beq_eq_false_iff_ne]; omega) (by rw [beq_eq_false_iff_ne]; omega) hv1 hv2 (by omega) ct cs ci).mono ?_
    rintro e w' ⟨rfl, hb⟩
    exact ⟨_, .bad _ ⟨by omega, by omega⟩ nan_nan, rfl, hb⟩
/-- **The document's ReadInt.** -/
theorem readIntD (sv : Value) (sa : Option Addr) (sn sp : Nat) (hsv : sv = .slice sa sn sp) (T : ByteArray) (l : List Nat) (hl : Ut.bytes T = l) (hs : T.size ≤ 25000) (hlow : Ut.Un.low l ≤ 4000) (X : Nat) (v : Int) (hv1 : -2147483648 ≤ v) (hv2 : v ≤ 2147483647) (w : World)
    (cb : Calls Tryz.prog 44 #[sv] w fun e w' => e = .returned (.string T) ∧ Below w.heap.size w w')
    (ci : ∀ w, Calls Tryz.prog 55 #[.float .f64 X] w fun e w' => e = .returned (.int .i32 v) ∧ Below w.heap.size w w') :
    Calls Tryz.prog 17 #[sv, .float .f64 X] w fun e w' => ∃ x, IntIs l v x ∧ e = .returned (.float .f64 x) ∧ Below w.heap.size w w' := by
  have cs := signD_any T (by omega)
  rw [hl] at cs
  by_cases hok : v = 0 ∨ (2 ≤ v ∧ v ≤ 36)
  · have hB := bI_bounds l v hok
    obtain ⟨U, hUb, hUs, hU⟩ := tI_text T l hl hs v
    have hrl := runL_le (bI l v) (tI l v)
    have hUl : (tI l v).length = U.size := by rw [← hUb, Ut.bytes_len]
    have cr := digitsTo_any U (bI l v) hB.2 (by omega)
    rw [hUb] at cr
    have hVb : Ut.bytes (U.extract 0 (runL (bI l v) (tI l v))) = (tI l v).take (runL (bI l v) (tI l v)) := by
      rw [bytes_cut U 0 _ (by omega) (by omega), hUb, List.drop_zero, Nat.sub_zero]
    have cw := fun W (_ : 0 < runL (bI l v) (tI l v)) => wholeTo_any (U.extract 0 (runL (bI l v) (tI l v))) (bI l v) _ hVb hB.1 hB.2 (run_short hB.2 (Nat.le_trans (tI_low l v) hlow)) (run_dig _ _) W
    have h0b : Ut.bytes (T.extract (signL l).2 T.size) = l.drop (signL l).2 := by rw [Ut.bytes_drop, hl]
    have h0s : (T.extract (signL l).2 T.size).size ≤ 25000 := by rw [size_drop]; omega
    have fin : ∀ {e : Ending} {w' : World}, (∃ x, IntEnd (signL l).1 (bI l v) (tI l v) x ∧ e = .returned (.float .f64 x) ∧ Below w.heap.size w w') → ∃ x, IntIs l v x ∧ e = .returned (.float .f64 x) ∧ Below w.heap.size w w' := fun ⟨x, h1, h2, h3⟩ => ⟨x, .ok x hok h1, h2, h3⟩
    have hexf : hexQ (l.drop (signL l).2) = true → ∃ c : Nat, 2 ≤ (T.extract (signL l).2 T.size).size ∧ (∀ h : 0 < (T.extract (signL l).2 T.size).size, ((T.extract (signL l).2 T.size)[0]'h).toNat = 48) ∧ (∀ h : 1 < (T.extract (signL l).2 T.size).size, ((T.extract (signL l).2 T.size)[1]'h).toNat = c) ∧ (((c : Int) == 120) = true ∨ (((c : Int) == 120) = false ∧ ((c : Int) == 88) = true)) := by
      intro hq
      unfold hexQ at hq
      obtain ⟨g0, g1⟩ := of_decide_eq_true hq
      obtain ⟨c, hc, hcx⟩ : ∃ c : Nat, (l.drop (signL l).2)[1]? = some c ∧ (((c : Int) == 120) = true ∨ (((c : Int) == 120) = false ∧ ((c : Int) == 88) = true)) := by
        rcases g1 with h | h
        · exact ⟨120, h, .inl rfl⟩
        · exact ⟨88, h, .inr ⟨rfl, rfl⟩⟩
      have h2 : 1 < (l.drop (signL l).2).length := (List.getElem?_eq_some_iff.1 hc).1
      rw [← h0b, Ut.bytes_len] at h2
      exact ⟨c, by omega, fun h => byte_get _ 0 48 (by rw [h0b]; exact g0) h, fun h => byte_get _ 1 c (by rw [h0b]; exact hc) h, hcx⟩
    rcases base_cases l v hok with ⟨e0, hq, hx, eb⟩ | ⟨e0, hq, hx, eb⟩ | ⟨e0, hq, hx, eb⟩ | ⟨e0, hq, hx, eb⟩ | ⟨h0, h16, hx, eb⟩
    · rw [hx] at hU
      have hU' : U = (T.extract (signL l).2 T.size).extract 2 (T.extract (signL l).2 T.size).size := hU
      obtain ⟨c, f1, f2, f3, f4⟩ := hexf hq
      rw [e0] at ci
      refine (rd_hex0 sv sa sn sp hsv T _ U _ X _ U.size (bI l v) (tI l v) (signL l).1 w rfl (by omega) (by omega) rfl rfl _ c rfl f1 h0s f2 f3 f4 hU'.symm eb cb cs ci (by rw [eb] at cr ⊢; exact cr) (by rw [eb] at cw ⊢; exact cw)).mono ?_
      intro e w' h; exact fin h
    · rw [hx] at hU
      have hU' : U = (T.extract (signL l).2 T.size).extract 2 (T.extract (signL l).2 T.size).size := hU
      obtain ⟨c, f1, f2, f3, f4⟩ := hexf hq
      rw [e0] at ci
      refine (rd_hex16 sv sa sn sp hsv T _ U _ X _ U.size (bI l v) (tI l v) (signL l).1 w rfl (by omega) (by omega) rfl rfl _ c rfl f1 h0s f2 f3 f4 hU'.symm eb cb cs ci (by rw [eb] at cr ⊢; exact cr) (by rw [eb] at cw ⊢; exact cw)).mono ?_
      intro e w' h; exact fin h
    · rw [hx] at hU
      have hU' : U = T.extract (signL l).2 T.size := hU
      rw [e0] at ci
      refine (rd_dec0 sv sa sn sp hsv T _ U _ X _ U.size (bI l v) (tI l v) (signL l).1 w rfl (by omega) (by omega) rfl rfl hU'.symm (by rw [hU', h0b]; exact hq) eb cb cs ci (by rw [eb] at cr ⊢; exact cr) (by rw [eb] at cw ⊢; exact cw)).mono ?_
      intro e w' h; exact fin h
    · rw [hx] at hU
      have hU' : U = T.extract (signL l).2 T.size := hU
      rw [e0] at ci
      refine (rd_dec16 sv sa sn sp hsv T _ U _ X _ U.size (bI l v) (tI l v) (signL l).1 w rfl (by omega) (by omega) rfl rfl hU'.symm (by rw [hU', h0b]; exact hq) eb cb cs ci (by rw [eb] at cr ⊢; exact cr) (by rw [eb] at cw ⊢; exact cw)).mono ?_
      intro e w' h; exact fin h
    · rw [hx] at hU
      have hU' : U = T.extract (signL l).2 T.size := hU
      have ev : v = (bI l v : Int) := by rw [eb]; omega
      have ci' : ∀ w, Calls Tryz.prog 55 #[.float .f64 X] w fun e w' => e = .returned (.int .i32 (bI l v : Int)) ∧ Below w.heap.size w w' := by rw [← ev]; exact ci
      refine (rd_base sv sa sn sp hsv T _ U _ X _ U.size (bI l v) (tI l v) (signL l).1 w rfl (by omega) (by omega) rfl rfl hU'.symm (by rw [beq_eq_false_iff_ne]; omega) (by rw [beq_eq_false_iff_ne]; omega) hB.1 hB.2 cb cs ci' cr cw).mono ?_
      intro e w' h; exact fin h
  · refine (rd_bad sv sa sn sp hsv T _ X v (signL l).1 w (by rw [beq_eq_false_iff_ne]; omega) hv1 hv2 (by omega) cb cs ci).mono ?_
    rintro e w' ⟨rfl, hb⟩
    exact ⟨_, .bad _ ⟨by omega, by omega⟩ nan_nan, rfl, hb⟩
end Go.Proofs.YtellndmbllmjgaaGreatDoor
/- Both take a text for the same. -/
set_option linter.unusedVariables false
namespace Go.Proofs.YtellndmbllmjgaaGreatDoor
open Go.RowKit Go.Shelf Go.Sort Fs Fl
/-- The same number, or none both. -/
def Agree (x y : Nat) : Prop := (NanW x ∧ NanW y) ∨ (x = y ∧ ∃ s r, r ≤ 9218868437227405312 ∧ x = wd s r)
theorem Agree.num (s : Bool) (r : Nat) (h : r ≤ 9218868437227405312) : Agree (wd s r) (wd s r) := .inr ⟨rfl, s, r, h, rfl⟩
theorem zeros_one : ∀ (z z' : Nat) (D D' : List Nat), List.replicate z 48 ++ D = List.replicate z' 48 ++ D' → D[0]? ≠ some 48 → D'[0]? ≠ some 48 → z = z' ∧ D = D'
  | 0, 0, D, D', h, _, _ => ⟨rfl, by simpa using h⟩
  | 0, z' + 1, D, D', h, h1, _ => by
    rw [List.replicate_zero, List.nil_append, List.replicate_succ, List.cons_append] at h
    rw [h] at h1
    exact absurd rfl h1
  | z + 1, 0, D, D', h, _, h2 => by
    rw [List.replicate_zero, List.nil_append, List.replicate_succ, List.cons_append] at h
    rw [← h] at h2
    exact absurd rfl h2
  | z + 1, z' + 1, D, D', h, h1, h2 => by
    rw [List.replicate_succ, List.replicate_succ, List.cons_append, List.cons_append] at h
    injection h with _ h
    obtain ⟨e, e'⟩ := zeros_one z z' D D' h h1 h2
    exact ⟨by omega, e'⟩
theorem num_agree {A : List Nat} {P : Nat} {ex : Option (Bool × List Nat × Nat)} {F F' : Nat} (hP : P ≤ 25000) (hA : A.length ≤ 25000) (h : NumIs 1125899906842624 A P ex F) (h' : NumIs 100000 A P ex F') : F = F' := by
  obtain ⟨z, D, e, R, hz, hD, hf, he, hR, rfl⟩ := h
  obtain ⟨z', D', e', R', hz', hD', hf', he', hR', rfl⟩ := h'
  obtain ⟨rfl, rfl⟩ := zeros_one z z' D D' (by rw [← hz, ← hz']) hf hf'
  have hzl : z + D.length ≤ 25000 := by rw [hz, List.length_append, List.length_replicate] at hA; exact hA
  have key : e = e' ∨ ((P : Int) + e - z ≤ -324 ∧ (P : Int) + e' - z ≤ -324) ∨ ((310 : Int) < (P : Int) + e - z ∧ (310 : Int) < (P : Int) + e' - z) := by
    unfold ExIs at he he'
    cases ex with
    | none => left; rw [he, he']
    | some r =>
      obtain ⟨v, hv, rfl⟩ := he
      obtain ⟨v', hv', rfl⟩ := he'
      unfold CapE at hv hv'
      rcases Nat.lt_or_ge (vD r.2.1) 100000 with h1 | h1
      · left
        have e1 : v = v' := by omega
        rw [e1]
      · have h2 : 100000 ≤ v ∧ 100000 ≤ v' := by omega
        cases hr : r.1
        · right; right
          simp
          omega
        · right; left
          simp
          omega
  rcases key with rfl | ⟨h1, h2⟩ | ⟨h1, h2⟩
  · rw [nearQ_one hR hR']
  · rw [nearQ_one hR (nearQ_under hD h1), nearQ_one hR' (nearQ_under hD h2)]
  · rcases Nat.eq_zero_or_pos D.length with h0 | h0
    · have hn : D = [] := List.eq_nil_of_length_eq_zero h0
      subst hn
      rw [nearQ_one hR (nearQ_nil _), nearQ_one hR' (nearQ_nil _)]
    · rw [nearQ_over hD h0 hf h1 hR, nearQ_over hD h0 hf h2 hR']
theorem front_agree {l : List Nat} {x y c c' : Nat} (hll : l.length ≤ 25000) (h : FrontIs 1125899906842624 l x c) (h' : FrontIs 100000 l y c') : Agree x y := by
  cases h with
  | inf h1 =>
    cases h' with
    | inf _ => exact .num _ _ (Nat.le_refl _)
    | nan _ h2 _ _ => rw [h1] at h2; cases h2
    | num _ _ h2 _ _ => rw [h1] at h2; cases h2
  | nan _ h1 hn hx =>
    cases h' with
    | inf h2 => rw [h1] at h2; cases h2
    | nan _ _ _ hy => exact .inl ⟨hx, hy⟩
    | num _ _ _ hn' _ => rw [hn] at hn'; cases hn'
  | num F q h1 hn hF =>
    cases h' with
    | inf h2 => rw [h1] at h2; cases h2
    | nan _ _ hn' _ => rw [hn] at hn'; cases hn'
    | num F' q' _ hn' hF' =>
      rw [hn] at hn'
      injection hn' with e
      subst e
      obtain ⟨_, rfl⟩ := numL_parts hn
      have hl2 : (l.drop (signL l).2).length ≤ 25000 := by rw [List.length_drop]; omega
      have b1 : (digL (l.drop (signL l).2)).length ≤ 25000 := by have := runL_le 10 (l.drop (signL l).2); rw [← digL_len] at this; omega
      have b2 : (dgA (l.drop (signL l).2)).length ≤ 25000 := by have h1 := dgA_low (l.drop (signL l).2); have h2 := Ut.Un.low_le (l.drop (signL l).2); omega
      rw [num_agree b1 b2 hF hF']
      exact .num _ _ hF'.le
theorem int_agree {l : List Nat} {v : Int} {x y : Nat} (h : IntIs l v x) (h' : IntIs l v y) : Agree x y := by
  cases h with
  | bad h1 hx =>
    cases h' with
    | bad _ hy => exact .inl ⟨hx, hy⟩
    | ok h2 _ => omega
  | ok h1 hx =>
    cases h' with
    | bad h2 _ => omega
    | ok _ hy =>
      cases hx with
      | none _ h3 hx =>
        cases hy with
        | none _ _ hy => exact .inl ⟨hx, hy⟩
        | num _ h4 _ => omega
      | num R h3 hR =>
        cases hy with
        | none _ h4 _ => omega
        | num R' _ hR' =>
          rw [near_same hR hR']
          exact .num _ _ (Nat.min_le_right _ _)
/-- What the program takes a text for. -/
inductive ReadP (l : List Nat) : Nat → Prop
  | empty (h : l = []) : ReadP l 0
  | hex (x : Nat) (h : hexQ l = true) (hx : WholeIs 16 (l.drop 2) x) : ReadP l x
  | front (x c : Nat) (h0 : l ≠ []) (h : hexQ l = false) (hx : FrontIs 1125899906842624 l x c) (hc : c ≤ l.length) : ReadP l (if c < l.length then 9221120237041090561 else x)
theorem sign_len (l : List Nat) : (signL l).2 ≤ l.length := (signL_le l).2
theorem inf_num {t : List Nat} (h : infL.isPrefixOf t = true) : numL t = none := by
  obtain ⟨r, hr⟩ := List.isPrefixOf_iff_prefix.1 h
  rw [← hr]
  rfl
theorem hex_two {l : List Nat} (hq : hexQ l = true) (h2 : l.length ≤ 2) : ∃ c, l = [48, c] ∧ (c = 120 ∨ c = 88) := by
  unfold hexQ at hq
  obtain ⟨g0, g1⟩ := of_decide_eq_true hq
  match l, g0, g1, h2 with
  | [], g0, _, _ => simp at g0
  | [a], _, g1, _ => simp at g1
  | [a, b], g0, g1, _ =>
    simp at g0 g1
    exact ⟨b, by rw [g0], g1⟩
  | a :: b :: c :: t, _, _, h2 => simp at h2
theorem read_agree {l : List Nat} {x y : Nat} (hll : l.length ≤ 25000) (h : ReadP l x) (h' : ReadD l y) : Agree x y := by
  cases h with
  | empty h =>
    subst h
    have : y = 0 := by
      cases h' with
      | empty _ => rfl
      | hexn _ _ h2 _ _ => simp at h2
      | hexx _ h2 _ => simp at h2
      | inf h0 _ _ => exact absurd rfl h0
      | none h0 _ _ _ => exact absurd rfl h0
      | part _ h0 _ _ _ _ => exact absurd rfl h0
      | num _ _ h0 _ _ _ _ _ => exact absurd rfl h0
    subst this
    have := Agree.num false 0 (by omega)
    rw [wd_false] at this
    exact this
  | hex x hq hx =>
    rcases Nat.lt_or_ge 2 l.length with h2 | h2
    · have hne : l.drop 2 ≠ [] := fun e => by have := congrArg List.length e; rw [List.length_drop] at this; simp at this; omega
      cases h' with
      | empty h => rw [h] at h2; simp at h2
      | hexn R _ _ hr hR =>
        rcases hx with h | ⟨R', _, _, hR'⟩
        · rcases h with h | h
          · exact absurd h hne
          · omega
        · rw [near_same hR' hR]
          have := Agree.num false (min R 9218868437227405312) (Nat.min_le_right _ _)
          rw [wd_false] at this
          exact this
      | hexx _ _ hr =>
        rcases hx with h | ⟨R', _, h, _⟩
        · exact .inl ⟨nan_nan, nan_nan⟩
        · omega
      | inf _ h _ => rcases h with h | h; rw [hq] at h; cases h; omega
      | none _ h _ _ => rcases h with h | h; rw [hq] at h; cases h; omega
      | part _ _ h _ _ _ => rcases h with h | h; rw [hq] at h; cases h; omega
      | num _ _ _ h _ _ _ _ => rcases h with h | h; rw [hq] at h; cases h; omega
    · obtain ⟨c, rfl, hc⟩ := hex_two hq h2
      have hxn : x = 9221120237041090561 := by
        rcases hx with h | ⟨R', h0, _, _⟩
        · rfl
        · exact absurd rfl h0
      subst hxn
      have hnum : numL [48, c] = some ([48], 1, none, 1) := by rcases hc with rfl | rfl <;> rfl
      have hs : (signL [48, c]).2 = 0 := rfl
      have hy : y = 9221120237041090561 := by
        cases h' with
        | empty h => cases h
        | hexn _ _ h2 _ _ => simp at h2
        | hexx _ h2 _ => simp at h2
        | inf _ _ hi => rw [hs] at hi; exact absurd hi (by intro e; cases e)
        | none _ _ _ _ => rfl
        | part _ _ _ _ _ _ => rfl
        | num F q _ _ _ hn hc' _ =>
          rw [hs, List.drop_zero] at hn hc'
          rw [hnum] at hn
          injection hn with hn
          subst hn
          simp [exN] at hc'
      subst hy
      exact .inl ⟨nan_nan, nan_nan⟩
  | front x c h0 hq hx hc =>
    have hsl := sign_len l
    cases h' with
    | empty h => exact absurd h h0
    | hexn _ h _ _ _ => rw [hq] at h; cases h
    | hexx h _ _ => rw [hq] at h; cases h
    | inf _ _ hi =>
      have hp : infL.isPrefixOf (l.drop (signL l).2) = true := by rw [hi]; rfl
      have hlen : (l.drop (signL l).2).length = 8 := by rw [hi]; rfl
      rw [List.length_drop] at hlen
      cases hx with
      | inf _ =>
        rw [if_neg (by omega)]
        exact .num _ _ (Nat.le_refl _)
      | nan _ h2 _ _ => rw [hp] at h2; cases h2
      | num _ _ h2 _ _ => rw [hp] at h2; cases h2
    | none _ _ hi hn =>
      refine .inl ⟨?_, nan_nan⟩
      split
      · exact nan_nan
      · rename_i hge
        cases hx with
        | inf hp =>
          exfalso
          obtain ⟨r, hr⟩ := List.isPrefixOf_iff_prefix.1 hp
          have hlen := congrArg List.length hr
          rw [List.length_append, List.length_drop] at hlen
          have h8 : infL.length = 8 := rfl
          have hr0 : r = [] := List.eq_nil_of_length_eq_zero (by omega)
          rw [hr0, List.append_nil] at hr
          exact hi hr.symm
        | nan _ _ _ hx => exact hx
        | num _ _ _ hn' _ => rw [hn] at hn'; cases hn'
    | part q _ _ hi hn hcn =>
      refine .inl ⟨?_, nan_nan⟩
      split
      · exact nan_nan
      · rename_i hge
        cases hx with
        | inf hp => rw [inf_num hp] at hn; cases hn
        | nan _ _ _ hx => exact hx
        | num _ q' _ hn' _ =>
          exfalso
          rw [hn] at hn'
          injection hn' with e
          subst e
          rw [List.length_drop] at hcn
          omega
    | num F' q _ _ hi hn hcn hF' =>
      rw [List.length_drop] at hcn
      cases hx with
      | inf hp => rw [inf_num hp] at hn; cases hn
      | nan _ _ hn' _ => rw [hn] at hn'; cases hn'
      | num F q' h1 hn' hF =>
        have hn2 := hn'
        rw [hn] at hn'
        injection hn' with e
        subst e
        rw [if_neg (by omega)]
        have := front_agree (c := (signL l).2 + (q.2.2.2 + exN q.2.2.1)) (c' := (signL l).2 + (q.2.2.2 + exN q.2.2.1)) hll (.num F q h1 hn2 hF) (.num F' q h1 hn2 hF')
        exact this
end Go.Proofs.YtellndmbllmjgaaGreatDoor
/- The program's Read and ReadFloat, put together; same. -/
set_option linter.unusedVariables false
namespace Go.Proofs.YtellndmbllmjgaaGreatDoor
open Go.RowKit Go.Shelf Go.Sort Go.Lib Fs Fl
/-- What the tables hold that reading needs. -/
structure RdLaid (w : World) : Prop where
  r : RLaid w
  s : SLaid w
  u : Lib.Utf8Tabs 1 2 w
  z : RVar 3 Ut.zsT w
  t : TabAt 4 Lib.deBruijn64tab w
theorem tab_low {w W : World} (h : TabAt 4 Lib.deBruijn64tab w) (hb : Below w.heap.size w W) : TabAt 4 Lib.deBruijn64tab W := fun j hj => by
  have := h j hj
  exact (hb.cell (p := ⟨4, j, none⟩) (World.block_lt_of_cell? w _ this)).trans this
theorem RdLaid.below {w w' : World} (h : RdLaid w) (hb : Below w.heap.size w w') : RdLaid w' := ⟨h.r.below hb, h.s.below hb, Ut.tabs_below h.u hb, RVar_below h.z hb, tab_low h.t hb⟩
theorem readP_all (S T : ByteArray) (hT : T = Ut.core S) (hs : S.size ≤ 4000) (w : World) (hL : RdLaid w) :
    Calls Tryz.prog 11 #[.string S] w fun e w' => ∃ x, ReadP (Ut.bytes T) x ∧ e = .returned (.float .f64 x) ∧ Below w.heap.size w w' := by
  have ct := Ut.trim_any S (by omega) w hL.u hL.z
  have hf := Ut.core_facts S hs
  have ct' : Calls Tryz.prog 39 #[.string S] w fun e w' => e = .returned (.string T) ∧ Below w.heap.size w w' := by rw [hT]; exact ct
  rw [← hT] at hf
  obtain ⟨l, hl⟩ : ∃ l, Ut.bytes T = l := ⟨_, rfl⟩
  have hll : l.length = T.size := by rw [← hl, Ut.bytes_len]
  rw [hl]
  rcases Nat.eq_zero_or_pos T.size with h0 | h0
  · refine (read_empty S T (empty_yes T h0) w ct').mono ?_
    rintro e w' ⟨rfl, hb⟩
    exact ⟨_, .empty (List.eq_nil_of_length_eq_zero (by omega)), rfl, hb⟩
  · have ch := cutHex_any T l hl (by omega)
    cases hq : hexQ l with
    | true =>
      rw [hq] at ch
      refine (read_hex S T (T.extract 2 T.size) (fun x => WholeIs 16 (l.drop 2) x) (ne_empty T h0) w ct' ch (fun W _ => whole_all (T.extract 2 T.size) 16 (l.drop 2) (by rw [Ut.bytes_drop, hl]) (by omega) (by omega) (by rw [size_drop]; omega) W)).mono ?_
      rintro e w' ⟨x, hx, rfl, hb⟩
      exact ⟨x, .hex x hq hx, rfl, hb⟩
    | false =>
      rw [hq] at ch
      refine (read_front S T (fun x c => FrontIs 1125899906842624 l x c) (ne_empty T h0) (by omega) w ct' ch (fun W hW => ?_)).mono ?_
      · refine (front_all T (by omega) W (hL.r.below hW) (hL.s.below hW)).mono ?_
        rintro r w' ⟨x, c, h1, h2, h3, h4⟩
        rw [hl] at h1
        exact ⟨x, c, h1, h2, h3, h4⟩
      · rintro e w' ⟨x, c, y, hx, hc, hy, rfl, hb⟩
        refine ⟨y, ?_, rfl, hb⟩
        rw [hy, ← hll]
        exact .front x c (fun e => by rw [e] at hll; simp at hll; omega) hq hx (by omega)
theorem readFloatP_all (S T : ByteArray) (hT : T = Ut.core S) (hs : S.size ≤ 4000) (w : World) (hL : RdLaid w) :
    Calls Tryz.prog 14 #[.string S] w fun e w' => ∃ x, (∃ c, FrontIs 1125899906842624 (Ut.bytes T) x c) ∧ e = .returned (.float .f64 x) ∧ Below w.heap.size w w' := by
  have ct := Ut.trim_any S (by omega) w hL.u hL.z
  have hf := Ut.core_facts S hs
  have ct' : Calls Tryz.prog 39 #[.string S] w fun e w' => e = .returned (.string T) ∧ Below w.heap.size w w' := by rw [hT]; exact ct
  rw [← hT] at hf
  refine readFloat_of S T (fun x => ∃ c, FrontIs 1125899906842624 (Ut.bytes T) x c) w ct' (fun W hW => ?_)
  refine (front_all T (by omega) W (hL.r.below hW) (hL.s.below hW)).mono ?_
  rintro r w' ⟨x, c, h1, h2, h3, h4⟩
  exact ⟨x, c, ⟨c, h1⟩, h2, h4⟩
set_option maxRecDepth 100000 in
set_option maxHeartbeats 1000000 in
theorem same_nan (x y : Nat) (hx : FloatKind.f64.format.order x x = none) (hy : FloatKind.f64.format.order y y = none) (w : World) : Calls Tryz.prog 13 #[.float .f64 x, .float .f64 y] w fun e w' => e = .returned (.bool true) ∧ w' = w := by
  go_enter Tryz.func13, Tryz.ntmps13
  go_wp2
  go_ret
  exact ⟨rfl, rfl⟩
theorem same_agree (x y : Nat) (h : Agree x y) (w : World) : Calls Tryz.prog 13 #[.float .f64 x, .float .f64 y] w fun e w' => e = .returned (.bool true) ∧ w' = w := by
  rcases h with ⟨⟨s, r, rfl, h1, h2⟩, ⟨s', r', rfl, h3, h4⟩⟩ | ⟨rfl, _⟩
  · exact same_nan _ _ (order_nan _ s r h1 h2) (order_nan _ s' r' h3 h4) w
  · exact Nq.same_self x w
end Go.Proofs.YtellndmbllmjgaaGreatDoor
