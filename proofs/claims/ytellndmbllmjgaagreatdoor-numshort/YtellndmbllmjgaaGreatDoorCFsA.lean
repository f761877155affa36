/- The walk of frontDecimal. -/
import Derived.Test.YtellndmbllmjgaaGreatDoorCFq1
import Derived.Test.YtellndmbllmjgaaGreatDoorCFdA
set_option linter.unusedVariables false
namespace Go.Proofs.YtellndmbllmjgaaGreatDoor
open Go.RowKit Go.Shelf Go.Sort Fs Fl
/-- frontDecimal's own two cells. -/
structure FdW (w W : World) (S : ByteArray) (k : Int) : Prop where
  ca : W.heap[w.heap.size + 1]? = some (Obj.cells #[.int .i64 k] 3 (0, 0))
  cb : W.heap[w.heap.size]? = some (Obj.cells #[.string S] 9 (0, 0))
  be : Below w.heap.size w W
theorem FdW.start (w : World) (S : ByteArray) : FdW w ((w.alloc (Obj.cells #[.string S] 9)).alloc (Obj.cells #[.int .i64 0] 3)) S 0 := by
  refine ⟨?_, ?_, ((Below.refl _ _).alloc (Nat.le_refl _) _).alloc (by simp) _⟩
  · have := heap_alloc_new (w.alloc (Obj.cells #[.string S] 9)) (Obj.cells #[.int .i64 0] 3)
    simpa using this
  · have h1 := heap_alloc_new w (Obj.cells #[.string S] 9)
    have h2 : Below (w.heap.size + 1) (w.alloc (Obj.cells #[.string S] 9)) ((w.alloc (Obj.cells #[.string S] 9)).alloc (Obj.cells #[.int .i64 0] 3)) := (Below.refl _ _).alloc (by simp) _
    exact (h2.block _ (by omega)).trans h1
theorem FdW.cella {w W : World} {S : ByteArray} {k : Int} (h : FdW w W S k) : W.cell? ⟨w.heap.size + 1, 0, none⟩ = some (.int .i64 k) := by simp [World.cell?, h.ca]
theorem FdW.cellb {w W : World} {S : ByteArray} {k : Int} (h : FdW w W S k) : W.cell? ⟨w.heap.size, 0, none⟩ = some (.string S) := by simp [World.cell?, h.cb]
theorem FdW.fz {w W : World} {S : ByteArray} {k : Int} (h : FdW w W S k) : W.frozen? ⟨w.heap.size + 1, 0, none⟩ = false := by simp [World.frozen?, h.ca]
theorem FdW.set {w W : World} {S : ByteArray} {k : Int} (h : FdW w W S k) (k' : Int) : FdW w (W.setCell ⟨w.heap.size + 1, 0, none⟩ (.int .i64 k')) S k' := by
  refine ⟨?_, ?_, h.be.setCell (by simp) _⟩
  · rw [setCell_eq]
    simp only [mapBlock, Array.getElem?_modify, if_true]
    rw [h.ca]
    rfl
  · rw [setCell_eq]
    simp only [mapBlock, Array.getElem?_modify]
    rw [if_neg (by omega)]
    exact h.cb
theorem FdW.drew {w W : World} {S : ByteArray} {k : Int} (h : FdW w W S k) : FdW w W.drew S k := ⟨h.ca, h.cb, h.be.drew⟩
theorem FdW.drewN {w W : World} {S : ByteArray} {k : Int} (h : FdW w W S k) (n : Nat) : FdW w (W.drewN n) S k := ⟨h.ca, h.cb, below_drewN h.be⟩
theorem FdW.on {w W W' : World} {S : ByteArray} {k : Int} (h : FdW w W S k) (hb : Below W.heap.size W W') : FdW w W' S k :=
  ⟨(hb.block _ (lt_of_get h.ca)).trans h.ca, (hb.block _ (lt_of_get h.cb)).trans h.cb, h.be.trans (hb.mono h.be.size)⟩
set_option maxRecDepth 100000 in
set_option maxHeartbeats 1000000 in
theorem fdec_plain (S : ByteArray) (L n : Nat) (e : Int) (P : Nat → Prop) (hs : S.size ≤ 100000) (hL0 : 0 < L) (hL1 : L ≤ S.size) (hLn : L + n = S.size) (he1 : -10000 ≤ e) (he2 : e ≤ 10000) (w : World)
    (hdot : ∀ h : L < S.size, (S[L]'h).toNat ≠ 46)
    (cr : ∀ w, Calls Tryz.prog 54 #[.string (S.extract 0 S.size), .int .i64 10] w fun e w' => e = .returned (.int .i64 (L : Int)) ∧ w' = w)
    (ce : ∀ w, Calls Tryz.prog 148 #[.string (S.extract L S.size)] w fun r w' => r = .returned (.tuple #[.int .i64 e, .int .i64 (n : Int)]) ∧ Below w.heap.size w w')
    (cf : ∀ W, Below w.heap.size w W → Calls Tryz.prog 149 #[.string (S.extract 0 L), .int .i64 ((L : Int) + e)] W fun r w' => ∃ F, P F ∧ r = .returned (.float .f64 F) ∧ Below W.heap.size W w') :
    Calls Tryz.prog 97 #[.string S] w fun r w' => ∃ F, P F ∧ r = .returned (.tuple #[.float .f64 F, .int .i64 (S.size : Int)]) ∧ Below w.heap.size w w' := by
  have CF := (show Hid _ from cf)
  have CE := (show Hid _ from ce)
  have CR := (show Hid _ from cr)
  have HD := (show Hid _ from hdot)
  clear cf ce cr hdot
  go_enter Tryz.func97, Tryz.ntmps97
  go_wp2_with (first | (go_at_call 147; fail))
  have f0 := FdW.start w S
  refine (dh_any _ (w.heap.size + 1) w.heap.size 0 L S _ hs (by omega) (by omega) f0.cella f0.cellb f0.fz rfl CR.out).mono ?_
  rintro ee W1 ⟨rfl, hW1⟩
  have f1 : FdW w W1 S (L : Int) := by
    rw [hW1]
    have := (f0.set (((0 : Nat) : Int) + (L : Int))).drew
    rw [show ((0 : Nat) : Int) + (L : Int) = (L : Int) by omega] at this ⊢
    exact this
  have ca := f1.cella
  have cb := f1.cellb
  have HF1 : Hid (FdW w W1 S (L : Int)) := f1
  have hne : (S.extract 0 L).toList.isEmpty = false := by
    have hsz : (S.extract 0 L).size = L := by simp; omega
    rw [Lib.toList_data]
    cases h : (S.extract 0 L).data.toList with
    | nil => exact absurd (show (S.extract 0 L).size = 0 by rw [Lib.size_eq, h]; rfl) (by omega)
    | cons _ _ => rfl
  have hsz : (S.extract 0 L).size = L := by simp; omega
  rw [Nat.zero_add]
  clear hW1 f0 f1 CR
  obtain ⟨Al, hAl⟩ : ∃ Al, S.extract 0 L = Al := ⟨_, rfl⟩
  rw [hAl] at hne hsz ⊢
  have HA : Hid (S.extract 0 L = Al) := hAl
  clear hAl
  obtain ⟨N, hN⟩ : ∃ N, S.size = N := ⟨_, rfl⟩
  have HN : Hid (S.size = N) := hN
  rw [hN] at hs hL1 hLn
  have ce := CE.out
  rw [hN] at ce
  have done : ∀ (W2 : World), FdW w W2 S (L : Int) → Calls Tryz.prog 149 #[.string Al, .int .i64 ((L : Int) + e)] W2.drew fun r w' => ∃ F, P F ∧ r = .returned (.float .f64 F) ∧ Below W2.drew.heap.size W2.drew w' := by
    intro W2 h2
    have := CF.out W2.drew h2.drew.be
    rwa [HA.out] at this
  have DONE := (show Hid _ from done)
  have hwr : IntKind.i64.wrap ((L : Int) + e) = (L : Int) + e := by rw [IntKind.wrap_i64]; omega
  have hwn : IntKind.i64.wrap ((L : Int) + (n : Int)) = (L : Int) + (n : Int) := by rw [IntKind.wrap_i64]; omega
  clear CE done CF
  rcases Nat.lt_or_eq_of_le hL1 with hlt | heq
  · have hlS : L < S.size := by omega
    obtain ⟨c, hc⟩ : ∃ c, (S[L]'hlS).toNat = c := ⟨_, rfl⟩
    have hc46 : ((c : Int) == 46) = false := by
      have := HD.out hlS
      rw [hc] at this
      rw [beq_eq_false_iff_ne]
      omega
    clear HD
    go_wp2_with (first | (go_at_call 148; refine (ce _).mono ?_; rintro ee W2 ⟨rfl, hb2⟩; have f2 := HF1.out.on hb2; have ca2 := f2.cella; have cb2 := f2.cellb; have HF2 : Hid (FdW w W2 S (L : Int)) := f2; have cf := DONE.out W2 f2; clear f2) | (go_at_call 149; fail))
    go_region_with (first | (go_at_call 149; go_fit cf; rintro ee W3 ⟨F, hP, rfl, hb3⟩; have f3 := HF2.out.drew.on hb3; have ca3 := f3.cella; have HP : Hid (P F) := hP; have HF3 : Hid (FdW w W3 S (L : Int)) := f3; clear f3 hP))
    all_goals
      go_wp2
      go_ret2
      exact ⟨F, HP.out, by rw [HN.out, ← hLn]; rfl, HF3.out.be⟩
  · subst heq
    clear HD
    have hn0 : Hid (n = 0) := by show n = 0; omega
    clear hLn hL1
    rw [show S.extract L L = ByteArray.empty by simp] at ce
    go_wp2_with (first | (go_at_call 148; refine (ce _).mono ?_; rintro ee W2 ⟨rfl, hb2⟩; have f2 := HF1.out.on hb2; have ca2 := f2.cella; have cb2 := f2.cellb; have HF2 : Hid (FdW w W2 S (L : Int)) := f2; have cf := DONE.out W2 f2; clear f2) | (go_at_call 149; fail))
    go_region_with (first | (go_at_call 149; go_fit cf; rintro ee W3 ⟨F, hP, rfl, hb3⟩; have f3 := HF2.out.drew.on hb3; have ca3 := f3.cella; have HP : Hid (P F) := hP; have HF3 : Hid (FdW w W3 S (L : Int)) := f3; clear f3 hP))
    all_goals
      go_wp2
      go_ret2
      exact ⟨F, HP.out, congrArg (fun v : Int => Ending.returned (.tuple #[.float .f64 F, .int .i64 v])) (show (L : Int) + (n : Int) = (S.size : Int) by rw [HN.out, hn0.out]; simp), HF3.out.be⟩
end Go.Proofs.YtellndmbllmjgaaGreatDoor
/- The walk of frontDecimal, where there is a point. -/
set_option linter.unusedVariables false
namespace Go.Proofs.YtellndmbllmjgaaGreatDoor
open Go.RowKit Go.Shelf Go.Sort Fs Fl
set_option maxRecDepth 100000 in
set_option maxHeartbeats 1000000 in
theorem fdec_dot (S : ByteArray) (L M n : Nat) (e : Int) (P : Nat → Prop) (hs : S.size ≤ 100000) (hL0 : 0 < L) (hLn : L + 1 + M + n = S.size) (he1 : -10000 ≤ e) (he2 : e ≤ 10000) (w : World)
    (hdot : ∀ h : L < S.size, (S[L]'h).toNat = 46)
    (cr : ∀ w, Calls Tryz.prog 54 #[.string (S.extract 0 S.size), .int .i64 10] w fun e w' => e = .returned (.int .i64 (L : Int)) ∧ w' = w)
    (cr2 : ∀ w, Calls Tryz.prog 54 #[.string (S.extract (L + 1) S.size), .int .i64 10] w fun e w' => e = .returned (.int .i64 (M : Int)) ∧ w' = w)
    (ce : ∀ w, Calls Tryz.prog 148 #[.string (S.extract (L + 1 + M) S.size)] w fun r w' => r = .returned (.tuple #[.int .i64 e, .int .i64 (n : Int)]) ∧ Below w.heap.size w w')
    (cf : ∀ W, Below w.heap.size w W → Calls Tryz.prog 149 #[.string (S.extract 0 L ++ S.extract (L + 1) (L + 1 + M)), .int .i64 ((L : Int) + e)] W fun r w' => ∃ F, P F ∧ r = .returned (.float .f64 F) ∧ Below W.heap.size W w') :
    Calls Tryz.prog 97 #[.string S] w fun r w' => ∃ F, P F ∧ r = .returned (.tuple #[.float .f64 F, .int .i64 (S.size : Int)]) ∧ Below w.heap.size w w' := by
  have CF := (show Hid _ from cf)
  have CE := (show Hid _ from ce)
  have CR := (show Hid _ from cr)
  have CR2 := (show Hid _ from cr2)
  have HD := (show Hid _ from hdot)
  clear cf ce cr cr2 hdot
  go_enter Tryz.func97, Tryz.ntmps97
  go_wp2_with (first | (go_at_call 147; fail))
  have f0 := FdW.start w S
  refine (dh_any _ (w.heap.size + 1) w.heap.size 0 L S _ hs (by omega) (by omega) f0.cella f0.cellb f0.fz rfl CR.out).mono ?_
  rintro ee W1 ⟨rfl, hW1⟩
  have f1 : FdW w W1 S (L : Int) := by
    rw [hW1]
    have := (f0.set (((0 : Nat) : Int) + (L : Int))).drew
    rw [show ((0 : Nat) : Int) + (L : Int) = (L : Int) by omega] at this ⊢
    exact this
  have ca := f1.cella
  have cb := f1.cellb
  have fz := f1.fz
  have HF1 : Hid (FdW w W1 S (L : Int)) := f1
  have hsz : (S.extract 0 L).size = L := by simp; omega
  have hszb : (S.extract (L + 1) (L + 1 + M)).size = M := by simp; omega
  rw [Nat.zero_add]
  clear hW1 f0 f1 CR
  obtain ⟨Al, hAl⟩ : ∃ Al, S.extract 0 L = Al := ⟨_, rfl⟩
  obtain ⟨Bl, hBl⟩ : ∃ Bl, S.extract (L + 1) (L + 1 + M) = Bl := ⟨_, rfl⟩
  rw [hAl] at hsz ⊢
  rw [hBl] at hszb
  have hne : (Al ++ Bl).toList.isEmpty = false := by
    have h2 : (Al ++ Bl).size = L + M := by rw [ByteArray.size_append, hsz, hszb]
    rw [Lib.toList_data]
    cases h : (Al ++ Bl).data.toList with
    | nil => exact absurd (show (Al ++ Bl).size = 0 by rw [Lib.size_eq, h]; rfl) (by omega)
    | cons _ _ => rfl
  have HA : Hid (S.extract 0 L = Al) := hAl
  have HB : Hid (S.extract (L + 1) (L + 1 + M) = Bl) := hBl
  obtain ⟨N, hN⟩ : ∃ N, S.size = N := ⟨_, rfl⟩
  have HN : Hid (S.size = N) := hN
  have HS : Hid (S.size ≤ 100000) := hs
  rw [hN] at hs hLn
  have ce := CE.out
  rw [hN] at ce
  have done : ∀ (W2 : World) (k : Int), FdW w W2 S k → Calls Tryz.prog 149 #[.string (Al ++ Bl), .int .i64 ((L : Int) + e)] W2.drew fun r w' => ∃ F, P F ∧ r = .returned (.float .f64 F) ∧ Below W2.drew.heap.size W2.drew w' := by
    intro W2 k h2
    have := CF.out W2.drew h2.drew.be
    rwa [HA.out, HB.out] at this
  have DONE := (show Hid _ from done)
  have hwr : IntKind.i64.wrap ((L : Int) + e) = (L : Int) + e := by rw [IntKind.wrap_i64]; omega
  have hlS : L < S.size := by omega
  have hlN : L < N := by omega
  have hc := HD.out hlS
  have HLN : Hid (L + 1 + M + n = N) := hLn
  clear CE done CF HD hAl hBl
  go_wp2_with (first | (go_at_call 147; fail))
  have f2 := HF1.out.set ((L : Int) + 1)
  have e1 : ((L + 1 : Nat) : Int) = (L : Int) + 1 := by omega
  refine (dh_any _ (w.heap.size + 1) w.heap.size (L + 1) M S _ HS.out (by omega) (by omega) (by rw [e1]; exact f2.cella) f2.cellb f2.fz rfl CR2.out).mono ?_
  rintro ee W2 ⟨rfl, hW2⟩
  obtain ⟨q, hq⟩ : ∃ q : Nat, q = L + 1 + M := ⟨_, rfl⟩
  have f3 : FdW w W2 S (q : Int) := by
    rw [hW2]
    have := (f2.set (((L + 1 : Nat) : Int) + (M : Int))).drew
    rw [show ((L + 1 : Nat) : Int) + (M : Int) = (q : Int) by omega] at this ⊢
    exact this
  have ca3 := f3.cella
  have cb3 := f3.cellb
  have HF3 : Hid (FdW w W2 S (q : Int)) := f3
  rw [HB.out]
  rw [← hq] at ce
  have hqN : q + n = N := by omega
  have HQN : Hid (q + n = N) := hqN
  have hqN2 : q ≤ N := by omega
  have hLM : L + M ≤ 100000 := by omega
  have hwn : IntKind.i64.wrap ((q : Int) + (n : Int)) = (q : Int) + (n : Int) := by rw [IntKind.wrap_i64]; omega
  clear hW2 f2 f3 CR2 ca cb fz HF1 hq hqN hLn hc
  go_wp2_with (first | (go_at_call 148; refine (ce _).mono ?_; rintro ee W4 ⟨rfl, hb2⟩; have f4 := HF3.out.on hb2; have ca4 := f4.cella; have cb4 := f4.cellb; have HF4 : Hid (FdW w W4 S (q : Int)) := f4; have cf := DONE.out W4 _ f4; clear f4) | (go_at_call 149; fail))
  go_region_with (first | (go_at_call 149; go_fit cf; rintro ee W5 ⟨F, hP, rfl, hb3⟩; have f5 := HF4.out.drew.on hb3; have ca5 := f5.cella; have HP : Hid (P F) := hP; have HF5 : Hid (FdW w W5 S (q : Int)) := f5; clear f5 hP))
  all_goals
    go_wp2
    go_ret2
    exact ⟨F, HP.out, by rw [HN.out, ← HQN.out]; rfl, HF5.out.be⟩
end Go.Proofs.YtellndmbllmjgaaGreatDoor
