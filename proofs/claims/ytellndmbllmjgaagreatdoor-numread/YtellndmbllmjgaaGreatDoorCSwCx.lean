/- The walk of atof64 at many digits. -/
import Derived.Test.YtellndmbllmjgaaGreatDoorCSwAx
import Derived.Test.YtellndmbllmjgaaGreatDoorCSw9
import Derived.Test.YtellndmbllmjgaaGreatDoorCSc1x
import Derived.BigQuiet
import Derived.Deep.QuietTactic
import Derived.Deep.RegionWith
import Derived.Test.YtellndmbllmjgaaGreatDoorCAe1x
set_option linter.unusedVariables false
namespace Go.Proofs.YtellndmbllmjgaaGreatDoor
open Go.RowKit Go.Shelf Go.Sort Fs Fl

theorem zero242 : Tryz.zeroCells243 = ((List.range 804).map (decF (fun _ => 0) 0 0 false)).toArray := by kernel_rfl
theorem dec_new (w : World) : DecW (w.alloc (.cells Tryz.zeroCells243 243)) w.heap.size 243 (fun _ => 0) 0 0 false := by
  have h := World.rowIs_alloc w Tryz.zeroCells243 243 (decF (fun _ => 0) 0 0 false) (fun i hi => by
    rw [zero242] at hi ⊢
    rw [List.size_toArray, List.length_map, List.length_range] at hi
    simp [hi])
  have e : Tryz.zeroCells243.size = 804 := by rw [zero242]; simp
  rw [e] at h
  exact h
theorem ext_whole (S : ByteArray) (N : Nat) (h : S.size = N) : S.extract 0 N = S := by
  subst h
  simp
/-- What the slow road needs of the world: the cutoffs, the shifts, the form of its numbers. -/
structure SLaid (w : World) : Prop where
  ch : ∃ B off cap, w.cell? ⟨12, 0, none⟩ = some (.slice (some ⟨B, off, none⟩) 61 cap) ∧ 61 ≤ cap ∧
    ∀ k, k < 61 → w.cell? ⟨B, off + k * 2, none⟩ = some (.int .i64 (chW k : Int)) ∧ w.cell? ⟨B, off + k * 2 + 1, none⟩ = some (.string ⟨((Go.Pinned.cheatRows.getD k (0, [])).2).toArray⟩)
  pw : ∃ B off cap, w.cell? ⟨17, 0, none⟩ = some (.slice (some ⟨B, off, none⟩) 9 cap) ∧ 9 ≤ cap ∧ ∀ j, j < 9 → w.cell? ⟨B, off + j, none⟩ = some (.int .i64 (pwt j : Int))
  f0 : w.cell? ⟨15, 0, none⟩ = some (.int .u64 52)
  f1 : w.cell? ⟨15, 1, none⟩ = some (.int .u64 11)
  f2 : w.cell? ⟨15, 2, none⟩ = some (.int .i64 (-1023))
theorem SLaid.below {w w' : World} (h : SLaid w) (hb : Below w.heap.size w w') : SLaid w' := by
  obtain ⟨B, off, cap, h1, h2, h3⟩ := h.ch
  obtain ⟨B', off', cap', g1, g2, g3⟩ := h.pw
  exact ⟨⟨B, off, cap, below_cell hb h1, h2, fun k hk => ⟨below_cell hb (h3 k hk).1, below_cell hb (h3 k hk).2⟩⟩, ⟨B', off', cap', below_cell hb g1, g2, fun j hj => below_cell hb (g3 j hj)⟩, below_cell hb h.f0, below_cell hb h.f1, below_cell hb h.f2⟩
/-- Beside a block that is new. -/
theorem SLaid.tabs {w w' : World} (h : SLaid w) (hb : Below w.heap.size w w') {b : Nat} (hn : w.heap.size ≤ b) : Tabs b 15 w' := by
  have lt : ∀ {k j : Nat} {v : Value}, w.cell? ⟨k, j, none⟩ = some v → k ≠ b := fun hc => by have := World.block_lt_of_cell? w _ hc; simp only at this; omega
  obtain ⟨B, off, cap, h1, h2, h3⟩ := h.ch
  obtain ⟨B', off', cap', g1, g2, g3⟩ := h.pw
  exact ⟨⟨B, off, cap, lt (h3 0 (by decide)).1, below_cell hb h1, h2, fun k hk => ⟨below_cell hb (h3 k hk).1, below_cell hb (h3 k hk).2⟩⟩, ⟨B', off', cap', lt (g3 0 (by decide)), below_cell hb g1, g2, fun j hj => below_cell hb (g3 j hj)⟩, lt h1, lt g1, lt h.f0, below_cell hb h.f0, below_cell hb h.f1, below_cell hb h.f2⟩
/-- floatBits at what set has laid. -/
theorem floatBits_set (D : List Nat) (n : Int) (hD : Dig D) (hD0 : 0 < D.length) (hf : D[0]? ≠ some 48) (hn : -400 ≤ n) (hn2 : n ≤ 400) (w : World) (b : Nat) (t : TypeId) (g : Nat → Nat) (hg : ∀ j, j < min D.length 800 → D[j]? = some (g j)) (h : DecW w b t g (min D.length 800) n (trC D D.length)) (hT : Tabs b 15 w) :
    Calls Tryz.prog 294 #[.pointer (some ⟨b, 0, none⟩), .pointer (some ⟨15, 0, none⟩)] w fun e w' => ∃ R ov, NearD D n R ∧ e = .returned (.tuple #[.int .u64 ((min R 9218868437227405312 : Nat) : Int), .bool ov]) ∧ Kx [b] w w' := by
  rcases (by omega : 310 < n ∨ n < -330 ∨ (-330 ≤ n ∧ n ≤ 310)) with h1 | h1 | ⟨h1, h2⟩
  · refine (floatBits_over w b 15 t g _ n _ h hT (by omega) h1).mono ?_
    rintro e w' ⟨rfl, hk⟩
    obtain ⟨R, hR⟩ := nearD_ex D n
    refine ⟨R, true, hR, ?_, hk⟩
    rw [Nat.min_eq_right (nearD_over hD hD0 hf h1 hR)]
    rfl
  · refine (floatBits_under w b 15 t g _ n _ h hT (by omega) h1).mono ?_
    rintro e w' ⟨rfl, hk⟩
    exact ⟨0, false, nearD_under hD hn (by omega), rfl, hk⟩
  · obtain ⟨N, E, hw⟩ := way_start hD hD0 hf hg h1 h2
    have u := way_up hD h2 hn
    have l := way_low hD hD0 hf h1
    exact floatBits_mid w b 15 t g (min D.length 800) n (trC D D.length) h hT (D.length + 5000) (vD D * 10 ^ (n + 400).toNat) (10 ^ (400 + D.length)) N E (p10 _) (by omega) u l hw h1 h2
set_option maxRecDepth 100000 in
set_option maxHeartbeats 4000000 in
/-- **atof64 at '0.', digits of any number, an exponent: the nearest word.** -/
theorem atof_long (S : ByteArray) (D X : List Nat) (sg : List Nat) (n : Int) (hs : S.size = 3 + D.length + sg.length + X.length) (hat : ∀ k c, (48 :: 46 :: (D ++ 101 :: (sg ++ X)))[k]? = some c → ∀ h : k < S.size, (S[k]'h).toNat = c)
    (hD : Dig D) (hD0 : 0 < D.length) (hDl : D.length ≤ 25000) (hfirst : D[0]? ≠ some 48) (hX : Dig X) (hX0 : 0 < X.length) (hX3 : X.length ≤ 3) (hsg : (sg = [] ∧ n = (vD X : Int)) ∨ (sg = [45] ∧ n = -(vD X : Int)))
    (hn : -400 ≤ n) (hn2 : n ≤ 400) (w : World) (hL : RLaid w) (hSL : SLaid w) :
    Calls Tryz.prog 284 #[.string S] w fun r w' => ∃ R err, NearD D n R ∧ r = .returned (.tuple #[.float .f64 (min R 9218868437227405312), .int .i64 (S.size : Int), err]) ∧ (err = .nilIface ∨ err = .iface 182 (.int .i64 1)) ∧ Below w.heap.size w w' := by
  have cs := special_no S (by omega) (hat 0 48 rfl) w
  have cr := readFloat_long S D X sg n hs hat hD hD0 hDl hfirst hX hX0 hX3 hsg w
  have hSS : S.size ≤ 25100 := by rcases hsg with ⟨h, _⟩ | ⟨h, _⟩ <;> rw [h] at hs <;> simp at hs <;> omega
  obtain ⟨j0, hj⟩ : ∃ j0 : Int, n - (min D.length 19 : Nat) = j0 := ⟨_, rfl⟩
  rw [hj] at cr
  have hm0 := vD_first D hD hD0 hfirst 19 (by decide)
  have hm1 : vD (D.take 19) < 10000000000000000000 := by
    have h1 := vD_lt (D.take 19) (hD.take 19)
    have h2 : 10 ^ (D.take 19).length ≤ 10 ^ 19 := Nat.pow_le_pow_right (by decide) (by simp; omega)
    omega
  obtain ⟨m, hm⟩ : ∃ m, vD (D.take 19) = m := ⟨_, rfl⟩
  rw [hm] at cr hm0 hm1
  obtain ⟨tb, htb⟩ : ∃ tb, tb = trB D D.length := ⟨_, rfl⟩
  rw [← htb] at cr
  have cb := bool2u false
  have hmz : ((m : Int) == 0) = false := by rw [beq_eq_false_iff_ne]; omega
  have HO : Hid (∀ W, Below w.heap.size w W → W.cell? ⟨7, 0, none⟩ = some (.bool true)) := fun W hW => (hL.below (w' := W) hW).opt
  have HH : Hid (vD (D.take 19) = m ∧ tb = trB D D.length ∧ n - (min D.length 19 : Nat) = j0) := ⟨hm, htb, hj⟩
  rcases (by omega : 310 < j0 ∨ j0 < -345 ∨ (-345 ≤ j0 ∧ j0 ≤ 310)) with h1 | h1 | ⟨h1, h2⟩
  · have FN : Hid (∃ R, NearD D n R ∧ min R 9218868437227405312 = 9218868437227405312) := by
      obtain ⟨R, hR⟩ := nearD_ex D n
      exact ⟨R, hR, Nat.min_eq_right (nearD_over hD hD0 hfirst (by omega) hR)⟩
    have x1 := Tryz.frombits294 9218868437227405312
    have x2 : bits .or .u64 0 9218868437227405312 = 9218868437227405312 := or_none 9218868437227405312 (by omega)
    clear hat hfirst hsg hL hSL hj hD hX hs hm htb hm1 hX0 hX3 hDl hD0
    generalize (S.size : Int) = NN at *
    go_enter Tryz.func284, Tryz.ntmps284
    go_wp2_with (first | (go_at_call 286; refine cs.mono ?_; rintro e w1 ⟨rfl, rfl⟩) | (go_at_call 287; refine cr.mono ?_; rintro e w2 ⟨rfl, hb2⟩; have ho := HO.out _ hb2) | (go_at_call 279; refine (cb _).mono ?_; rintro e w3 ⟨rfl, rfl⟩))
    go_ret3
    obtain ⟨R, hR1, hR2⟩ := FN.out
    exact ⟨R, _, hR1, by rw [hR2]; rfl, .inr rfl, hb2⟩
  · have FN : Hid (NearD D n 0) := nearD_under hD hn (by omega)
    have x1 := Tryz.frombits294 0
    have x2 : bits .or .u64 0 0 = 0 := by decide
    have h1' : ¬ (310 : Int) < j0 := by omega
    clear hat hfirst hsg hL hSL hj hD hX hs hm htb hm1 hX0 hX3 hDl hD0
    generalize (S.size : Int) = NN at *
    go_enter Tryz.func284, Tryz.ntmps284
    go_wp2_with (first | (go_at_call 286; refine cs.mono ?_; rintro e w1 ⟨rfl, rfl⟩) | (go_at_call 287; refine cr.mono ?_; rintro e w2 ⟨rfl, hb2⟩; have ho := HO.out _ hb2) | (go_at_call 279; refine (cb _).mono ?_; rintro e w3 ⟨rfl, rfl⟩))
    go_ret3
    exact ⟨0, _, FN.out, rfl, .inl rfl, hb2⟩
  · obtain ⟨j, rfl⟩ : ∃ j : Nat, j0 = (j : Int) - 400 := ⟨(j0 + 400).toNat, by omega⟩
    have CE : Hid (∀ W, Below w.heap.size w W → Calls Tryz.prog 296 #[.int .u64 (m : Int), .int .i64 ((j : Int) - 400), .bool false] W fun r w' => ∃ f ok, r = .returned (.tuple #[.float .f64 f, .bool ok]) ∧ (ok = true → ∃ R, DecNear m j R ∧ f = min R 9218868437227405312) ∧ w' = W) := fun W hW => exact_any m j hm0 (by omega) W (hL.below hW).p10s
    have CP : Hid (∀ (m' : Nat), 0 < m' → m' < 18446744073709551616 → ∀ W, Below w.heap.size w W → Calls Tryz.prog 297 #[.int .u64 (m' : Int), .int .i64 ((j : Int) - 400), .int .u64 0] W fun r w' => ∃ R err, DecNear m' j R ∧ r = .returned (.tuple #[.float .f64 (min R 9218868437227405312), err]) ∧ (err = .nilIface ∨ err = .iface 182 (.int .i64 1)) ∧ Below W.heap.size W w') := fun m' h0 hb W hW => parse64_any m' j h0 hb (by omega) (by omega) W (hL.below hW).laid.pow (hL.below hW).laid.size
    have hp1 : ¬ (310 : Int) < (j : Int) - 400 := by omega
    have hp2 : ¬ (j : Int) - 400 < -345 := by omega
    cases tb with
    | false =>
      have NXT : Hid (∀ R, DecNear m j R → NearD D n R) := fun R hR => nearD_exact hD htb.symm hj hn (by rw [hm]; exact hR)
      clear hat hfirst hsg hL hSL hj hD hX hs hm htb hX0 hX3 hDl hD0 h1 h2
      generalize (S.size : Int) = NN at *
      go_enter Tryz.func284, Tryz.ntmps284
      go_wp2_with (first | (go_at_call 286; refine cs.mono ?_; rintro e w1 ⟨rfl, rfl⟩) | (go_at_call 287; refine cr.mono ?_; rintro e w2 ⟨rfl, hb2⟩; have ho := HO.out _ hb2) | (go_at_call 279; refine (cb _).mono ?_; rintro e w3 ⟨rfl, rfl⟩) | (go_at_call 296; fail))
      refine (CE.out _ hb2).mono ?_
      rintro e w4 ⟨f, ok, rfl, hok, rfl⟩
      clear cs cr cb CE HO
      cases ok with
      | true =>
        obtain ⟨R, hR, hf⟩ := hok rfl
        have HR : Hid (DecNear m j R) := hR
        have HF : Hid (f = min R 9218868437227405312) := hf
        clear hok hR hf CP
        go_wp2
        go_ret3
        exact ⟨R, .nilIface, NXT.out R HR.out, by rw [← HF.out]; rfl, .inl rfl, hb2⟩
      | false =>
        have cp := CP.out m hm0 (by omega) _ hb2
        clear hok CP
        go_wp2_with (first | (go_at_call 297; fail))
        refine cp.mono ?_
        rintro e w5 ⟨R, err, hR, rfl, herr, hb5⟩
        have HR : Hid (DecNear m j R) := hR
        have HE : Hid (err = .nilIface ∨ err = .iface 182 (.int .i64 1)) := herr
        clear hR herr cp
        go_wp2
        go_ret3
        exact ⟨R, err, NXT.out R HR.out, rfl, HE.out, hb2.trans (hb5.mono hb2.size)⟩
    | true =>
      have hl19 : 19 ≤ D.length := by
        rcases Nat.lt_or_ge D.length 19 with h3 | h3
        · rw [trB_low D D.length (by omega)] at htb; cases htb
        · exact h3
      have NXT : Hid (∀ R1 R2, DecNear m j R1 → DecNear (m + 1) j R2 → min R1 9218868437227405312 = min R2 9218868437227405312 → ∃ R, NearD D n R ∧ min R 9218868437227405312 = min R1 9218868437227405312) := fun R1 R2 a1 a2 a3 => nearD_between hD hl19 (by rw [Nat.min_eq_right hl19] at hj; exact hj) hn (by rw [hm]; exact a1) (by rw [hm]; exact a2) a3
      have SETC := (show Hid _ from fun (W : World) (b : Nat) (t : TypeId) (hW : DecW W b t (fun _ => 0) 0 0 false) => set_any S D X sg n hs hat hD hD0 hDl hfirst hX hX0 hX3 hsg W b t hW)
      have FBC := (show Hid _ from fun (W : World) (b : Nat) (t : TypeId) (g : Nat → Nat) (hg : ∀ j, j < min D.length 800 → D[j]? = some (g j)) (h : DecW W b t g (min D.length 800) n (trC D D.length)) (hT : Tabs b 15 W) => floatBits_set D n hD hD0 hfirst hn hn2 W b t g hg h hT)
      have HSL : Hid (SLaid w) := hSL
      obtain ⟨NN, hNN⟩ : ∃ NN, S.size = NN := ⟨_, rfl⟩
      have hNb : NN ≤ 25100 := by omega
      clear hat hfirst hsg hL hSL hj hD hX hs hm htb hX0 hX3 hDl hD0 h1 h2 hl19 hSS
      go_enter Tryz.func284, Tryz.ntmps284
      go_wp2_with (first | (go_at_call 286; refine cs.mono ?_; rintro e w1 ⟨rfl, rfl⟩) | (go_at_call 287; refine cr.mono ?_; rintro e w2 ⟨rfl, hb2⟩; have ho := HO.out _ hb2) | (go_at_call 279; refine (cb _).mono ?_; rintro e w3 ⟨rfl, rfl⟩) | (go_at_call 297; fail))
      refine (CP.out m hm0 (by omega) _ hb2).mono ?_
      rintro e w5 ⟨R1, err, hR1, rfl, herr, hb5⟩
      have HR1 : Hid (DecNear m j R1) := hR1
      have HE : Hid (err = .nilIface ∨ err = .iface 182 (.int .i64 1)) := herr
      have hb25 := hb2.trans (hb5.mono hb2.size)
      have cp := CP.out (m + 1) (by omega) (by omega) _ hb25
      rw [show ((m + 1 : Nat) : Int) = (m : Int) + 1 by omega] at cp
      clear hR1 herr cs cr cb CE CP HO
      go_wp2_with (first | (go_at_call 297; fail))
      refine cp.mono ?_
      rintro e w6 ⟨R2, err2, hR2, rfl, herr2, hb6⟩
      have HR2 : Hid (DecNear (m + 1) j R2) := hR2
      have hb26 := hb25.trans (hb6.mono hb25.size)
      have oe := eq_words (min R1 9218868437227405312) (min R2 9218868437227405312) (Nat.min_le_right _ _) (Nat.min_le_right _ _)
      clear hR2 herr2 cp
      by_cases heq : min R1 9218868437227405312 = min R2 9218868437227405312
      · rw [decide_eq_true heq] at oe
        have FN : Hid (∃ R, NearD D n R ∧ min R 9218868437227405312 = min R1 9218868437227405312) := NXT.out R1 R2 HR1.out HR2.out heq
        have HB : Hid (Below w1.heap.size w1 w6) := hb26
        clear heq hb26 hb25 hb6 hb5 hb2
        generalize min R1 9218868437227405312 = F1 at *
        generalize min R2 9218868437227405312 = F2 at *
        go_wp2
        go_ret3
        obtain ⟨R, hr1, hr2⟩ := FN.out
        exact ⟨R, err, hr1, by rw [hr2, hNN]; rfl, HE.out, HB.out⟩
      · rw [decide_eq_false heq] at oe
        have HB : Hid (Below w1.heap.size w1 w6) := hb26
        clear heq hb26 hb25 hb6 hb5 hb2
        generalize min R1 9218868437227405312 = F1 at *
        generalize min R2 9218868437227405312 = F2 at *
        go_wp2_with (first | (go_at_call 293; fail))
        rw [ext_whole S NN hNN]
        obtain ⟨b, hbb⟩ : ∃ b, b = w6.heap.size := ⟨_, rfl⟩
        have DN := dec_new w6
        have KN : Below w6.heap.size w6 (w6.alloc (.cells Tryz.zeroCells243 243)) := (Below.refl _ _).alloc (Nat.le_refl _) _
        obtain ⟨W7, hW7⟩ : ∃ W7, W7 = w6.alloc (.cells Tryz.zeroCells243 243) := ⟨_, rfl⟩
        rw [← hW7] at DN KN ⊢
        rw [← hbb] at DN ⊢
        have hsz : w1.heap.size ≤ b := by rw [hbb]; exact HB.out.size
        have hb7 : Below w1.heap.size w1 W7 := HB.out.trans (KN.mono HB.out.size)
        have HB7 : Hid (Below w1.heap.size w1 W7 ∧ w1.heap.size ≤ b) := ⟨hb7, hsz⟩
        have ct := SETC.out W7 b 243 DN
        have HOE : Hid ((FloatKind.f64.format.order F1 F2 == some .eq) = false) := oe
        clear hW7 DN KN hbb hb7 hsz oe
        refine ct.mono ?_
        rintro e w8 ⟨rfl, g, a1, a2, a3⟩
        have HB8 : Hid (Below w1.heap.size w1 w8) := HB7.out.1.trans (a3.below (B := w1.heap.size) HB7.out.1.size (by intro i hi; simp at hi; rw [hi]; exact HB7.out.2))
        have cf := FBC.out w8 b 243 g a1 a2 (HSL.out.tabs HB8.out HB7.out.2)
        clear a1 a2 a3 ct
        go_wp2_with (first | (go_at_call 294; fail))
        refine cf.mono ?_
        rintro e w9 ⟨R, ov, hR, rfl, hk9⟩
        have HRR : Hid (NearD D n R) := hR
        have HB9 : Hid (Below w1.heap.size w1 w9) := HB8.out.trans (hk9.below (B := w1.heap.size) HB8.out.size (by intro i hi; simp at hi; rw [hi]; exact HB7.out.2))
        obtain ⟨F, hF⟩ : ∃ F, F = min R 9218868437227405312 := ⟨_, rfl⟩
        have HF : Hid (F = min R 9218868437227405312) := hF
        rw [← hF]
        have x1 := Tryz.frombits294 (F : Int)
        rw [Int.toNat_natCast] at x1
        clear hR hk9 cf hF
        cases ov with
        | true =>
          go_wp2
          go_ret3
          exact ⟨R, _, HRR.out, by rw [← HF.out, hNN]; rfl, .inr rfl, HB9.out⟩
        | false =>
          go_wp2
          go_ret3
          exact ⟨R, _, HRR.out, by rw [← HF.out, hNN]; rfl, .inl rfl, HB9.out⟩
end Go.Proofs.YtellndmbllmjgaaGreatDoor
/- The walk of frontExponent at any text. -/
set_option linter.unusedVariables false
namespace Go.Proofs.YtellndmbllmjgaaGreatDoor
open Go.RowKit Go.Shelf Go.Sort Fs Fl

/-- The digits at the front. -/
def digL (l : List Nat) : List Nat := l.takeWhile (fun c => decide (digV c < 10))
theorem digV_dig (c : Nat) : digV c < 10 ↔ 48 ≤ c ∧ c < 58 := by
  unfold digV
  constructor
  · intro h
    split at h
    · assumption
    · split at h
      · omega
      · split at h <;> omega
  · intro h; rw [if_pos h]; omega
theorem digL_dig (l : List Nat) : Dig (digL l) := by
  intro c hc
  obtain ⟨k, hk, e⟩ := List.getElem_of_mem hc
  have hk' : k < runL 10 l := hk
  obtain ⟨x, h1, h2⟩ := runL_in 10 l k hk'
  have hp := List.takeWhile_prefix (fun c => decide (digV c < 10)) (l := l)
  obtain ⟨t, ht⟩ := hp
  have h3 : l[k]? = (digL l)[k]? := by
    conv => lhs; rw [← ht]
    exact List.getElem?_append_left hk
  rw [h3, List.getElem?_eq_getElem hk] at h1
  have h4 : (digL l)[k] = x := by injection h1
  have h5 : c = x := e.symm.trans h4
  rw [h5]
  exact (digV_dig x).1 h2
theorem digL_len (l : List Nat) : (digL l).length = runL 10 l := rfl
theorem digL_get (l : List Nat) (k : Nat) (h : k < (digL l).length) : (digL l)[k]? = l[k]? := by
  unfold digL at h ⊢
  have hp := List.takeWhile_prefix (fun c => decide (digV c < 10)) (l := l)
  obtain ⟨t, ht⟩ := hp
  conv => rhs; rw [← ht]
  rw [List.getElem?_append_left h]
/-- A number that is counted no further, once it has reached a bound. -/
def CapE (far : Nat) (X : List Nat) (e : Nat) : Prop := e < 10 * far ∧ (e = vD X ∨ (far ≤ e ∧ far ≤ vD X))
theorem CapE.nil {far : Nat} (h : 0 < far) : CapE far [] 0 := ⟨by omega, .inl rfl⟩
theorem CapE.next {far : Nat} {X : List Nat} {e c : Nat} (h : CapE far X e) (hc : 48 ≤ c ∧ c < 58) (hlt : e < far) : CapE far (X ++ [c]) (10 * e + (c - 48)) := by
  obtain ⟨_, h⟩ := h
  refine ⟨by omega, ?_⟩
  rcases h with h | ⟨h, _⟩
  · left; rw [vD_snoc, h]; omega
  · omega
theorem CapE.stay {far : Nat} {X : List Nat} {e c : Nat} (h : CapE far X e) (hlt : far ≤ e) : CapE far (X ++ [c]) e := by
  refine ⟨h.1, .inr ⟨hlt, ?_⟩⟩
  rw [vD_snoc]
  rcases h.2 with h | ⟨_, h⟩ <;> omega
/-- The exponent at the front: is it below nought; its digits; how many bytes it takes. -/
def expL : List Nat → Option (Bool × List Nat × Nat)
  | c :: t => if c = 101 ∨ c = 69 then (if digL (t.drop (signL t).2) = [] then none else some ((signL t).1, digL (t.drop (signL t).2), 1 + (signL t).2 + (digL (t.drop (signL t).2)).length)) else none
  | [] => none
inductive FeI (X : List Nat) : Value → Value → Prop
  | mk (t v : Nat) (ht : t ≤ X.length) (hv : CapE 1125899906842624 (X.take t) v) (hv2 : v < 11258999068426240) : FeI X (.int .i64 (v : Int)) (.int .i64 (t : Int))
set_option maxRecDepth 100000 in
set_option maxHeartbeats 1000000 in
theorem fe_no (S : ByteArray) (hs0 : 0 < S.size) (hs : S.size ≤ 100000) (hne : S.toList.isEmpty = false) (h1 : (S[0]'hs0).toNat ≠ 101) (h2 : (S[0]'hs0).toNat ≠ 69) (w : World) : Calls Tryz.prog 148 #[.string S] w fun e w' => e = .returned (.tuple #[.int .i64 0, .int .i64 0]) ∧ w' = w := by
  obtain ⟨c, hc⟩ : ∃ c, (S[0]'hs0).toNat = c := ⟨_, rfl⟩
  rw [hc] at h1 h2
  have k1 : ((c : Int) == 101) = false := by rw [beq_eq_false_iff_ne]; omega
  have k2 : ((c : Int) == 69) = false := by rw [beq_eq_false_iff_ne]; omega
  have k3 : ((c : Int) != 101) = true := by rw [bne_iff_ne]; omega
  have k4 : ((c : Int) != 69) = true := by rw [bne_iff_ne]; omega
  clear h1 h2
  go_enter Tryz.func148, Tryz.ntmps148
  go_wp2
  go_ret2
  exact ⟨rfl, rfl⟩
set_option maxRecDepth 100000 in
set_option maxHeartbeats 1000000 in
theorem fe_bare (S T : ByteArray) (f : Nat) (c : Nat) (hne : S.toList.isEmpty = false) (hs0 : 0 < S.size) (hs : S.size ≤ 100000) (h0 : (S[0]'hs0).toNat = c) (hc : c = 101 ∨ c = 69) (w : World)
    (cs : ∀ w, Calls Tryz.prog 52 #[.string (S.extract 1 S.size)] w fun e w' => e = .returned (.tuple #[.string T, .float .f64 f]) ∧ w' = w)
    (cr : ∀ w, Calls Tryz.prog 54 #[.string T, .int .i64 10] w fun e w' => e = .returned (.int .i64 0) ∧ w' = w) :
    Calls Tryz.prog 148 #[.string S] w fun e w' => e = .returned (.tuple #[.int .i64 0, .int .i64 0]) ∧ w' = w := by
  rcases hc with rfl | rfl
  all_goals
    go_enter Tryz.func148, Tryz.ntmps148
    go_wp2_with (first | (go_at_call 52; refine (cs _).mono ?_; rintro e w1 ⟨rfl, rfl⟩) | (go_at_call 54; refine (cr _).mono ?_; rintro e w1 ⟨rfl, rfl⟩))
    go_ret2
    exact ⟨rfl, rfl⟩
set_option maxRecDepth 100000 in
set_option maxHeartbeats 1000000 in
theorem fe_yes (S T : ByteArray) (X : List Nat) (f c0 : Nat) (sn : Int) (hne : S.toList.isEmpty = false) (hs0 : 0 < S.size) (hs : S.size ≤ 100000) (h0 : (S[0]'hs0).toNat = c0) (hc0 : c0 = 101 ∨ c0 = 69) (hX : Dig X) (hX0 : 0 < X.length) (hT : X.length ≤ T.size) (hTS : T.size ≤ S.size) (hat : ∀ k c, X[k]? = some c → ∀ h : k < T.size, (T[k]'h).toNat = c) (hsn : sn = 1 ∨ sn = -1) (hf : floatToIntVal .f64 f .i64 = some sn) (L : Nat) (hL : L = S.size - T.size + X.length) (w : World)
    (cs : ∀ w, Calls Tryz.prog 52 #[.string (S.extract 1 S.size)] w fun e w' => e = .returned (.tuple #[.string T, .float .f64 f]) ∧ w' = w)
    (cr : ∀ w, Calls Tryz.prog 54 #[.string T, .int .i64 10] w fun e w' => e = .returned (.int .i64 (X.length : Int)) ∧ w' = w) :
    Calls Tryz.prog 148 #[.string S] w fun e w' => ∃ v : Nat, CapE 1125899906842624 X v ∧ e = .returned (.tuple #[.int .i64 (sn * (v : Int)), .int .i64 (L : Int)]) ∧ Below w.heap.size w w' := by
  have cv := conv_f64 f sn hf
  obtain ⟨NS, hNS⟩ : ∃ NS, S.size = NS := ⟨_, rfl⟩
  obtain ⟨NT, hNT⟩ : ∃ NT, T.size = NT := ⟨_, rfl⟩
  have hTS' : NT ≤ NS := by omega
  have hsN : NS ≤ 100000 := by omega
  have hcc : c0 = 101 ∨ (c0 = 69) := hc0
  clear hf
  have HAT := (show Hid _ from hat)
  have HX : Hid (Dig X) := hX
  obtain ⟨N, hN⟩ : ∃ N, X.length = N := ⟨_, rfl⟩
  have HN : Hid (X.length = N) := hN
  rw [hN] at hX0 hT cr
  have hNT2 : N ≤ NT := by omega
  have HPOST : Hid ((L : Int) = (NS : Int) - (NT : Int) + (N : Int)) := by
    show _ = _
    rw [hL, hNS, hNT, hN]; omega
  have kN : ((N : Int) == 0) = false := by rw [beq_eq_false_iff_ne]; omega
  clear hL
  rw [hNS] at cs
  clear hat hX hN hTS hT hs
  rcases hcc with rfl | rfl
  all_goals
    clear hc0
    go_enter Tryz.func148, Tryz.ntmps148
    go_wp2_with (first | (go_at_call 52; refine (cs _).mono ?_; rintro e w1 ⟨rfl, rfl⟩) | (go_at_call 54; refine (cr _).mono ?_; rintro e w1 ⟨rfl, rfl⟩))
    clear cs cr
    go_loopw [7, 32] (fun ve vi wr => FeI X ve vi ∧ wr = w1) (fun _ vi _ => N - (intOf vi).toNat)
    case atStart => exact ⟨FeI.mk 0 0 (Nat.zero_le _) (CapE.nil (by decide)) (by decide), rfl⟩
    case round =>
      obtain ⟨hR, rfl⟩ := hrel
      obtain ⟨t, v, ht, hv, hv2⟩ := hR
      have HV : Hid (CapE 1125899906842624 (X.take t) v) := hv
      have hXN := HN.out
      clear hv
      rcases Nat.lt_or_eq_of_le ht with hlt | heq
      · obtain ⟨c, hc⟩ : ∃ c, X[t]? = some c := ⟨_, List.getElem?_eq_getElem hlt⟩
        have hg := HX.out c (List.mem_of_getElem? hc)
        have htT : t < T.size := by omega
        have hac := HAT.out t c hc htT
        have htN : t < N := by omega
        have cd := digit_dec c hg.1 hg.2
        have htk : X.take (t + 1) = X.take t ++ [c] := by rw [List.take_add_one, hc]; rfl
        have HTK : Hid (X.take (t + 1) = X.take t ++ [c] ∧ t < X.length ∧ 48 ≤ c ∧ c < 58) := ⟨htk, hlt, hg⟩
        have g1 : 48 ≤ (c : Int) := by omega
        have g2 : (c : Int) ≤ 57 := by omega
        have hm : N - (intOf (.int .i64 ((t : Int) + 1))).toNat < N - (intOf (.int .i64 (t : Int))).toNat := by simp [intOf]; omega
        have HM := (show Hid _ from hm)
        by_cases hfar : v < 1125899906842624
        · have k1 : (v : Int) < 1125899906842624 := by omega
          have HF : Hid (v < 1125899906842624) := hfar
          have fin : (FeI X (.int .i64 (10 * (v : Int) + ((c : Int) - 48))) (.int .i64 ((t : Int) + 1)) ∧ True) ∧ N - (intOf (.int .i64 ((t : Int) + 1))).toNat < N - (intOf (.int .i64 (t : Int))).toNat := by
            refine ⟨⟨?_, trivial⟩, hm⟩
            have e1 : 10 * (v : Int) + ((c : Int) - 48) = ((10 * v + (c - 48) : Nat) : Int) := by omega
            rw [e1]
            exact FeI.mk (t + 1) _ hlt (by rw [htk]; exact HV.out.next hg hfar) (by omega)
          have FIN := (show Hid _ from fin)
          clear hc hg hXN ht htk hlt hm fin
          go_wp2_with (first | (go_at_call 95; refine (cd _).mono ?_; rintro e w2 ⟨rfl, rfl⟩))
          exact FIN.out
        · have k1 : ¬ (v : Int) < 1125899906842624 := by omega
          have HF : Hid (1125899906842624 ≤ v ∧ v < 11258999068426240) := ⟨by omega, hv2⟩
          clear hc hg hXN ht htk hlt hm hfar
          go_wp2_with (first | (go_at_call 95; refine (cd _).mono ?_; rintro e w2 ⟨rfl, rfl⟩))
          refine ⟨⟨?_, trivial⟩, HM.out⟩
          obtain ⟨q1, q2, q3⟩ := HTK.out
          exact FeI.mk (t + 1) v q2 (by rw [q1]; exact HV.out.stay HF.out.1) HF.out.2
      · have htN : ¬ (t : Int) < (N : Int) := by omega
        have HE2 : Hid (CapE 1125899906842624 X v) := by have := HV.out; rw [heq, List.take_of_length_le (Nat.le_refl _)] at this; exact this
        clear heq ht hXN
        rcases hsn with rfl | rfl
        all_goals
          go_wp2
          go_ret2
          refine ⟨v, HE2.out, ?_, Below.refl _ _⟩
          rw [HPOST.out]
          simp
end Go.Proofs.YtellndmbllmjgaaGreatDoor
/- frontExponent at any text. -/
set_option linter.unusedVariables false
namespace Go.Proofs.YtellndmbllmjgaaGreatDoor
open Go.RowKit Go.Shelf Go.Sort Fs Fl

theorem ne_empty (S : ByteArray) (h : 0 < S.size) : S.toList.isEmpty = false := by
  rw [Lib.toList_data]
  cases h' : S.data.toList with
  | nil => exact absurd (by rw [Lib.size_eq, h']; rfl) (Nat.ne_of_gt h)
  | cons _ _ => rfl
theorem size_drop (S : ByteArray) (k : Nat) : (S.extract k S.size).size = S.size - k := by rw [← Ut.bytes_len, Ut.bytes_drop, List.length_drop, Ut.bytes_len]
theorem byte_get (S : ByteArray) (k c : Nat) (h : (Ut.bytes S)[k]? = some c) : ∀ hk : k < S.size, (S[k]'hk).toNat = c := by
  intro hk
  rw [Ut.bytes_at, h]; rfl
theorem fe_all (S : ByteArray) (hs : S.size ≤ 100000) (w : World) : Calls Tryz.prog 148 #[.string S] w fun e w' =>
    (match expL (Ut.bytes S) with
      | none => e = .returned (.tuple #[.int .i64 0, .int .i64 0])
      | some r => ∃ v : Nat, CapE 1125899906842624 r.2.1 v ∧ e = .returned (.tuple #[.int .i64 ((if r.1 then -1 else 1) * (v : Int)), .int .i64 (r.2.2 : Int)])) ∧ Below w.heap.size w w' := by
  have hl := Ut.bytes_len S
  cases hb : Ut.bytes S with
  | nil =>
    rw [hb] at hl
    have h0 : S.size = 0 := by rw [← hl]; rfl
    have hemp : S.toList.isEmpty = true := by
      rw [Lib.toList_data]
      cases h' : S.data.toList with
      | nil => rfl
      | cons x l => rw [Lib.size_eq, h'] at h0; simp at h0
    refine (fe_none S hemp w).mono ?_
    rintro e w' ⟨rfl, rfl⟩
    exact ⟨rfl, Below.refl _ _⟩
  | cons c t =>
    rw [hb] at hl
    have hs0 : 0 < S.size := by rw [← hl]; simp
    have hne := ne_empty S hs0
    have hc0 := byte_get S 0 c (by rw [hb]; rfl) hs0
    by_cases hc : c = 101 ∨ c = 69
    · obtain ⟨U, hU⟩ : ∃ U, U = S.extract 1 S.size := ⟨_, rfl⟩
      have hUb : Ut.bytes U = t := by rw [hU, Ut.bytes_drop, hb]; rfl
      have hUs : U.size = S.size - 1 := by rw [hU, size_drop]
      obtain ⟨T, hT⟩ : ∃ T, T = U.extract (signL t).2 U.size := ⟨_, rfl⟩
      have hTb : Ut.bytes T = t.drop (signL t).2 := by rw [hT, Ut.bytes_drop, hUb]
      have hTs : T.size = U.size - (signL t).2 := by rw [hT, size_drop]
      have hsl := signL_le t
      have cs : ∀ w, Calls Tryz.prog 52 #[.string (S.extract 1 S.size)] w fun e w' => e = .returned (.tuple #[.string T, .float .f64 (wd (signL t).1 4607182418800017408)]) ∧ w' = w := by
        intro w
        have := cutSign_any U (by omega) w
        rw [hUb, ← hT] at this
        rw [← hU]; exact this
      have cr : ∀ w, Calls Tryz.prog 54 #[.string T, .int .i64 10] w fun e w' => e = .returned (.int .i64 ((digL (t.drop (signL t).2)).length : Int)) ∧ w' = w := by
        intro w
        have := run_any T 10 (by decide) (by omega) w
        rw [hTb] at this
        exact this
      by_cases hX : digL (t.drop (signL t).2) = []
      · rw [hX] at cr
        refine (fe_bare S T _ c hne hs0 hs hc0 hc w cs cr).mono ?_
        rintro e w' ⟨rfl, rfl⟩
        simp only [expL, if_pos hc, if_pos hX]
        exact ⟨trivial, Below.refl _ _⟩
      · have hX0 : 0 < (digL (t.drop (signL t).2)).length := by
          rcases Nat.eq_zero_or_pos (digL (t.drop (signL t).2)).length with h | h
          · exact absurd (List.eq_nil_of_length_eq_zero h) hX
          · exact h
        have hXl : (digL (t.drop (signL t).2)).length ≤ T.size := by
          rw [digL_len, ← Ut.bytes_len T, hTb]; exact runL_le 10 _
        have htl : t.length + 1 = S.size := by rw [← hl]; rfl
        refine (fe_yes S T (digL (t.drop (signL t).2)) (wd (signL t).1 4607182418800017408) c (if (signL t).1 then -1 else 1) hne hs0 hs hc0 hc (digL_dig _) hX0 hXl (by omega) (fun k x hk h => ?_) ?_ ?_ (1 + (signL t).2 + (digL (t.drop (signL t).2)).length) ?_ w cs cr).mono ?_
        · refine byte_get T k x ?_ h
          rw [hTb, ← digL_get _ k (List.getElem?_eq_some_iff.1 hk).1]; exact hk
        · cases (signL t).1 <;> simp
        · cases (signL t).1
          · exact conv_one
          · exact conv_min
        · omega
        · rintro e w' ⟨v, hv, rfl, hbw⟩
          simp only [expL, if_pos hc, if_neg hX]
          exact ⟨⟨v, hv, rfl⟩, hbw⟩
    · refine (fe_no S hs0 hs hne (by rw [hc0]; omega) (by rw [hc0]; omega) w).mono ?_
      rintro e w' ⟨rfl, rfl⟩
      simp only [expL, if_neg hc]
      exact ⟨trivial, Below.refl _ _⟩
end Go.Proofs.YtellndmbllmjgaaGreatDoor
/- The document's sign. -/
set_option linter.unusedVariables false
namespace Go.Proofs.YtellndmbllmjgaaGreatDoor
open Go.RowKit Go.Shelf Go.Sort Fs Fl
set_option maxRecDepth 100000 in
set_option maxHeartbeats 1000000 in
theorem sign_empty (S : ByteArray) (hne : S.toList.isEmpty = true) (w : World) : Calls Tryz.prog 47 #[.string S] w fun e w' => e = .returned (.tuple #[.float .f64 4607182418800017408, .string S]) ∧ w' = w := by
  go_enter Tryz.func47, Tryz.ntmps47
  go_wp2
  go_ret2
  exact ⟨rfl, rfl⟩
set_option maxRecDepth 100000 in
set_option maxHeartbeats 1000000 in
theorem sign_minus (S : ByteArray) (hne : S.toList.isEmpty = false) (hs0 : 0 < S.size) (hs : S.size ≤ 100000) (h0 : (S[0]'hs0).toNat = 45) (w : World) : Calls Tryz.prog 47 #[.string S] w fun e w' => e = .returned (.tuple #[.float .f64 13830554455654793216, .string (S.extract 1 S.size)]) ∧ Below w.heap.size w w' := by
  go_enter Tryz.func47, Tryz.ntmps47
  go_wp2
  go_quiet (fail)
  go_wp2
  go_ret2
  exact ⟨rfl, below_drewN (Below.refl _ _)⟩
set_option maxRecDepth 100000 in
set_option maxHeartbeats 1000000 in
theorem sign_plus (S : ByteArray) (hne : S.toList.isEmpty = false) (hs0 : 0 < S.size) (hs : S.size ≤ 100000) (h0 : (S[0]'hs0).toNat = 43) (w : World) : Calls Tryz.prog 47 #[.string S] w fun e w' => e = .returned (.tuple #[.float .f64 4607182418800017408, .string (S.extract 1 S.size)]) ∧ Below w.heap.size w w' := by
  go_enter Tryz.func47, Tryz.ntmps47
  go_wp2
  go_quiet (fail)
  go_wp2
  go_ret2
  exact ⟨rfl, below_drewN (Below.refl _ _)⟩
set_option maxRecDepth 100000 in
set_option maxHeartbeats 1000000 in
theorem sign_other (S : ByteArray) (c : Nat) (hne : S.toList.isEmpty = false) (hs0 : 0 < S.size) (hs : S.size ≤ 100000) (h0 : (S[0]'hs0).toNat = c) (h1 : c ≠ 45) (h2 : c ≠ 43) (w : World) : Calls Tryz.prog 47 #[.string S] w fun e w' => e = .returned (.tuple #[.float .f64 4607182418800017408, .string S]) ∧ w' = w := by
  have k1 : ((c : Int) == 45) = false := by rw [beq_eq_false_iff_ne]; omega
  have k2 : ((c : Int) == 43) = false := by rw [beq_eq_false_iff_ne]; omega
  clear h1 h2
  go_enter Tryz.func47, Tryz.ntmps47
  go_wp2
  go_ret2
  exact ⟨rfl, rfl⟩
theorem empty_yes (S : ByteArray) (h0 : S.size = 0) : S.toList.isEmpty = true := by
  rw [Lib.toList_data]
  cases h' : S.data.toList with
  | nil => rfl
  | cons x l => rw [Lib.size_eq, h'] at h0; simp at h0
theorem signD_any (S : ByteArray) (hs : S.size ≤ 100000) (w : World) : Calls Tryz.prog 47 #[.string S] w fun e w' => e = .returned (.tuple #[.float .f64 (wd (signL (Ut.bytes S)).1 4607182418800017408), .string (S.extract (signL (Ut.bytes S)).2 S.size)]) ∧ Below w.heap.size w w' := by
  have hl := Ut.bytes_len S
  cases hb : Ut.bytes S with
  | nil =>
    rw [hb] at hl
    have hz : S.size = 0 := by simpa using hl.symm
    refine (sign_empty S ?_ w).mono ?_
    · exact empty_yes S hz
    rintro e w' ⟨rfl, rfl⟩
    exact ⟨by simp [signL, wd_false], Below.refl _ _⟩
  | cons c l =>
    rw [hb] at hl
    have hs0 : 0 < S.size := by rw [← hl]; simp
    have hg := byte_get S 0 c (by rw [hb]; rfl) hs0
    by_cases h1 : c = 45
    · subst h1
      refine (sign_minus S (ne_empty S hs0) hs0 hs hg w).mono ?_
      rintro e w' ⟨rfl, hb⟩
      exact ⟨by simp [signL, wd_true], hb⟩
    · by_cases h2 : c = 43
      · subst h2
        refine (sign_plus S (ne_empty S hs0) hs0 hs hg w).mono ?_
        rintro e w' ⟨rfl, hb⟩
        exact ⟨by simp [signL, wd_false], hb⟩
      · refine (sign_other S c (ne_empty S hs0) hs0 hs hg h1 h2 w).mono ?_
        rintro e w' ⟨rfl, rfl⟩
        exact ⟨by simp [signL, h1, h2, wd_false], Below.refl _ _⟩
end Go.Proofs.YtellndmbllmjgaaGreatDoor
/- The walk of digitsHere. -/
set_option linter.unusedVariables false
namespace Go.Proofs.YtellndmbllmjgaaGreatDoor
open Go.RowKit Go.Shelf Go.Sort Fs Fl
set_option maxRecDepth 100000 in
set_option maxHeartbeats 1000000 in
theorem dh_any (w : World) (a b k L : Nat) (S U : ByteArray) (hS : S.size ≤ 100000) (hkl : k + L ≤ S.size) (hab : a ≠ b) (ha : w.cell? ⟨a, 0, none⟩ = some (.int .i64 (k : Int))) (hb : w.cell? ⟨b, 0, none⟩ = some (.string S)) (hfz : w.frozen? ⟨a, 0, none⟩ = false) (hU : S.extract k S.size = U)
    (cr : ∀ w, Calls Tryz.prog 54 #[.string U, .int .i64 10] w fun e w' => e = .returned (.int .i64 (L : Int)) ∧ w' = w) :
    Calls Tryz.prog 147 #[.pointer (some ⟨a, 0, none⟩), .pointer (some ⟨b, 0, none⟩)] w fun e w' => e = .returned (.string (S.extract k (k + L))) ∧ w' = (w.setCell ⟨a, 0, none⟩ (.int .i64 ((k : Int) + (L : Int)))).drew := by
  have hk2 : (k : Int) ≤ (S.size : Int) := by omega
  go_enter Tryz.func147, Tryz.ntmps147
  go_wp2
  go_region_with (first | (go_at_call 54; refine (cr _).mono ?_; rintro e w1 ⟨rfl, rfl⟩))
  all_goals
    go_wp2
    go_ret
    exact ⟨rfl, rfl⟩
end Go.Proofs.YtellndmbllmjgaaGreatDoor
/- The walk of fromDecimal. -/
set_option linter.unusedVariables false
namespace Go.Proofs.YtellndmbllmjgaaGreatDoor
open Go.RowKit Go.Shelf Go.Sort Fs Fl

theorem trim_zeros (D : List Nat) (hD : Dig D) (hf : D[0]? ≠ some 48) : ∀ z, Lib.trimLeftB (txt (List.replicate z 48 ++ D)).data.toList 48 = (txt D).data.toList
  | 0 => by
    rw [List.replicate_zero, List.nil_append, txt_list]
    unfold Lib.trimLeftB
    cases D with
    | nil => rfl
    | cons c l =>
      have hc := hD c (by simp)
      have hn : c ≠ 48 := fun h => hf (by simp [h])
      have : (UInt8.ofNat c == 48) = false := by
        rw [beq_eq_false_iff_ne]
        exact ofNat_ne (b := 48) (by omega) (by omega) hn
      rw [List.map_cons, List.dropWhile_cons, this]
      rfl
  | z + 1 => by
    have ih := trim_zeros D hD hf z
    rw [txt_list] at ih ⊢
    rw [List.replicate_succ, List.cons_append, List.map_cons]
    unfold Lib.trimLeftB at ih ⊢
    rw [List.dropWhile_cons, if_pos (by decide)]
    exact ih
theorem format_int (n : Int) (h0 : -1000 ≤ n) (h1 : n ≤ 1000) (w : World) (hL : Laid w) : Calls Tryz.prog 194 #[.int .i64 n, .int .i64 10] w fun e w' => e = .returned (.string ⟨(Lib.itoa n).toArray⟩) ∧ Below w.heap.size w w' := by
  have cf := Tryz.internal_strconv_FormatInt_10 n (by omega) (by omega) w hL.p10
  clear hL
  go_enter Tryz.func194, Tryz.ntmps194
  go_wp2_with (first | (go_at_call 175; refine cf.mono ?_; rintro e w1 ⟨rfl, k, os, rfl⟩))
  go_ret
  exact ⟨rfl, Lib.below_grow _ _ (Nat.le_refl _) _ _⟩
theorem itoa_txt (n : Int) : ∃ sg, (⟨(Lib.itoa n).toArray⟩ : ByteArray) = txt (sg ++ decN n.natAbs) ∧ ((sg = [] ∧ n = (vD (decN n.natAbs) : Int)) ∨ (sg = [45] ∧ n = -(vD (decN n.natAbs) : Int))) := by
  have back : ∀ l : List UInt8, (l.map UInt8.toNat).map UInt8.ofNat = l := by
    intro l
    induction l with
    | nil => rfl
    | cons x l ih => rw [List.map_cons, List.map_cons, ih, UInt8.ofNat_toNat]
  rw [vD_decN]
  unfold Lib.itoa
  by_cases h : n < 0
  · rw [if_pos h]
    refine ⟨[45], ?_, .inr ⟨rfl, by omega⟩⟩
    unfold txt decN
    rw [List.singleton_append, List.map_cons, back]
    rfl
  · rw [if_neg h]
    refine ⟨[], ?_, .inl ⟨rfl, by omega⟩⟩
    unfold txt decN
    rw [List.nil_append, back, show n.toNat = n.natAbs by omega]
end Go.Proofs.YtellndmbllmjgaaGreatDoor
