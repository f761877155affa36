/- The walk of frontDecimal. -/
import Derived.Test.YtellndmbllmjgaaGreatDoorCSwCx
import Derived.Test.YtellndmbllmjgaaGreatDoorCSc1x
import Derived.Test.YtellndmbllmjgaaGreatDoorCWk2x
import Derived.Test.YtellndmbllmjgaaGreatDoorCAe1x
import Derived.Test.YtellndmbllmjgaaGreatDoorCUt6x
import Derived.Shelf.Unicode.PredsPay
import Derived.Shelf.Strings.CaseAny
set_option linter.unusedVariables false
namespace Go.Proofs.YtellndmbllmjgaaGreatDoor
open Go.RowKit Go.Shelf Go.Sort Fs Fl
/-- frontDecimal's own two cells. -/
structure FdW (w W : World) (S : ByteArray) (k : Int) : Prop where
  ca : W.heap[w.heap.size + 1]? = some (Obj.cells #[.int .i64 k] 3 (0, 0))
  cb : W.heap[w.heap.size]? = some (Obj.cells #[.string S] 9 (0, 0))
  be : Below w.heap.size w W
theorem FdW.start (w : World) (S : ByteArray) : FdW w ((w.alloc (Obj.cells #[.string S] 9)).alloc (Obj.cells #[.int .i64 0] 3)) S 0 := by
  refine ⟨?_, ?_, ((Below.refl _ _).alloc (Nat.le_refl _) _).alloc (by simp) _⟩
  · have := heap_alloc_new (w.alloc (Obj.cells #[.string S] 9)) (Obj.cells #[.int .i64 0] 3)
    simpa using this
  · have h1 := heap_alloc_new w (Obj.cells #[.string S] 9)
    have h2 : Below (w.heap.size + 1) (w.alloc (Obj.cells #[.string S] 9)) ((w.alloc (Obj.cells #[.string S] 9)).alloc (Obj.cells #[.int .i64 0] 3)) := (Below.refl _ _).alloc (by simp) _
    exact (h2.block _ (by omega)).trans h1
theorem FdW.cella {w W : World} {S : ByteArray} {k : Int} (h : FdW w W S k) : W.cell? ⟨w.heap.size + 1, 0, none⟩ = some (.int .i64 k) := by simp [World.cell?, h.ca]
theorem FdW.cellb {w W : World} {S : ByteArray} {k : Int} (h : FdW w W S k) : W.cell? ⟨w.heap.size, 0, none⟩ = some (.string S) := by simp [World.cell?, h.cb]
theorem FdW.fz {w W : World} {S : ByteArray} {k : Int} (h : FdW w W S k) : W.frozen? ⟨w.heap.size + 1, 0, none⟩ = false := by simp [World.frozen?, h.ca]
theorem FdW.set {w W : World} {S : ByteArray} {k : Int} (h : FdW w W S k) (k' : Int) : FdW w (W.setCell ⟨w.heap.size + 1, 0, none⟩ (.int .i64 k')) S k' := by
  refine ⟨?_, ?_, h.be.setCell (by simp) _⟩
  · rw [setCell_eq]
    simp only [mapBlock, Array.getElem?_modify, if_true]
    rw [h.ca]
    rfl
  · rw [setCell_eq]
    simp only [mapBlock, Array.getElem?_modify]
    rw [if_neg (by omega)]
    exact h.cb
theorem FdW.drew {w W : World} {S : ByteArray} {k : Int} (h : FdW w W S k) : FdW w W.drew S k := ⟨h.ca, h.cb, h.be.drew⟩
theorem FdW.on {w W W' : World} {S : ByteArray} {k : Int} (h : FdW w W S k) (hb : Below W.heap.size W W') : FdW w W' S k :=
  ⟨(hb.block _ (lt_of_get h.ca)).trans h.ca, (hb.block _ (lt_of_get h.cb)).trans h.cb, h.be.trans (hb.mono h.be.size)⟩
end Go.Proofs.YtellndmbllmjgaaGreatDoor
/- The walk of frontDecimal, where there is a point. -/
set_option linter.unusedVariables false
namespace Go.Proofs.YtellndmbllmjgaaGreatDoor
open Go.RowKit Go.Shelf Go.Sort Fs Fl
end Go.Proofs.YtellndmbllmjgaaGreatDoor
/- The walk of frontDecimal at any text. -/
set_option linter.unusedVariables false
namespace Go.Proofs.YtellndmbllmjgaaGreatDoor
open Go.RowKit Go.Shelf Go.Sort Fs Fl
set_option maxRecDepth 100000 in
set_option maxHeartbeats 1000000 in
theorem fdecG_any (S : ByteArray) (L n : Nat) (Ex : Int → Prop) (P : Nat → Prop) (hs : S.size ≤ 100000) (hL0 : 0 < L) (hL1 : L ≤ S.size) (hLn : L + n ≤ S.size) (hEx : ∀ e, Ex e → -20000000000000000 ≤ e ∧ e ≤ 20000000000000000) (w : World)
    (hdot : ∀ h : L < S.size, (S[L]'h).toNat ≠ 46)
    (cr : ∀ w, Calls Tryz.prog 54 #[.string (S.extract 0 S.size), .int .i64 10] w fun e w' => e = .returned (.int .i64 (L : Int)) ∧ w' = w)
    (ce : ∀ w, Calls Tryz.prog 148 #[.string (S.extract L S.size)] w fun r w' => ∃ e, Ex e ∧ r = .returned (.tuple #[.int .i64 e, .int .i64 (n : Int)]) ∧ Below w.heap.size w w')
    (cf : ∀ e, Ex e → ∀ W, Below w.heap.size w W → Calls Tryz.prog 149 #[.string (S.extract 0 L), .int .i64 ((L : Int) + e)] W fun r w' => ∃ F, P F ∧ r = .returned (.float .f64 F) ∧ Below W.heap.size W w') :
    Calls Tryz.prog 97 #[.string S] w fun r w' => ∃ F, P F ∧ r = .returned (.tuple #[.float .f64 F, .int .i64 ((L + n : Nat) : Int)]) ∧ Below w.heap.size w w' := by
  have CF := (show Hid _ from cf)
  have CE := (show Hid _ from ce)
  have CR := (show Hid _ from cr)
  have HD := (show Hid _ from hdot)
  clear cf ce cr hdot
  go_enter Tryz.func97, Tryz.ntmps97
  go_wp2_with (first | (go_at_call 147; fail))
  have f0 := FdW.start w S
  refine (dh_any _ (w.heap.size + 1) w.heap.size 0 L S _ hs (by omega) (by omega) f0.cella f0.cellb f0.fz rfl CR.out).mono ?_
  rintro ee W1 ⟨rfl, hW1⟩
  have f1 : FdW w W1 S (L : Int) := by
    rw [hW1]
    have := (f0.set (((0 : Nat) : Int) + (L : Int))).drew
    rw [show ((0 : Nat) : Int) + (L : Int) = (L : Int) by omega] at this ⊢
    exact this
  have ca := f1.cella
  have cb := f1.cellb
  have HF1 : Hid (FdW w W1 S (L : Int)) := f1
  have hne : (S.extract 0 L).toList.isEmpty = false := by
    have hsz : (S.extract 0 L).size = L := by simp; omega
    rw [Lib.toList_data]
    cases h : (S.extract 0 L).data.toList with
    | nil => exact absurd (show (S.extract 0 L).size = 0 by rw [Lib.size_eq, h]; rfl) (by omega)
    | cons _ _ => rfl
  have hsz : (S.extract 0 L).size = L := by simp; omega
  rw [Nat.zero_add]
  clear hW1 f0 f1 CR
  obtain ⟨Al, hAl⟩ : ∃ Al, S.extract 0 L = Al := ⟨_, rfl⟩
  rw [hAl] at hne hsz ⊢
  have HA : Hid (S.extract 0 L = Al) := hAl
  clear hAl
  obtain ⟨N, hN⟩ : ∃ N, S.size = N := ⟨_, rfl⟩
  have HN : Hid (S.size = N) := hN
  rw [hN] at hs hL1 hLn
  have ce := CE.out
  rw [hN] at ce
  have done : ∀ (e : Int) (W2 : World), Ex e → FdW w W2 S (L : Int) → Calls Tryz.prog 149 #[.string Al, .int .i64 ((L : Int) + e)] W2.drew fun r w' => ∃ F, P F ∧ r = .returned (.float .f64 F) ∧ Below W2.drew.heap.size W2.drew w' := by
    intro e W2 he h2
    have := CF.out e he W2.drew h2.drew.be
    rwa [HA.out] at this
  have DONE := (show Hid _ from done)
  have HWR : Hid (∀ e, Ex e → IntKind.i64.wrap ((L : Int) + e) = (L : Int) + e) := by intro e he; have := hEx e he; rw [IntKind.wrap_i64]; omega
  have HEX := (show Hid _ from hEx)
  clear hEx
  have hwn : IntKind.i64.wrap ((L : Int) + (n : Int)) = (L : Int) + (n : Int) := by rw [IntKind.wrap_i64]; omega
  clear CE done CF
  rcases Nat.lt_or_eq_of_le hL1 with hlt | heq
  · have hlS : L < S.size := by omega
    obtain ⟨c, hc⟩ : ∃ c, (S[L]'hlS).toNat = c := ⟨_, rfl⟩
    have hc46 : ((c : Int) == 46) = false := by
      have := HD.out hlS
      rw [hc] at this
      rw [beq_eq_false_iff_ne]
      omega
    clear HD
    go_wp2_with (first | (go_at_call 148; refine (ce _).mono ?_; rintro ee W2 ⟨e, he, rfl, hb2⟩; have hwr := HWR.out e he; have hee := HEX.out e he; have he1 := hee.1; have he2 := hee.2; clear hee; have f2 := HF1.out.on hb2; have ca2 := f2.cella; have cb2 := f2.cellb; have HF2 : Hid (FdW w W2 S (L : Int)) := f2; have cf := DONE.out e W2 he f2; clear f2 he) | (go_at_call 149; fail))
    go_region_with (first | (go_at_call 149; go_fit cf; rintro ee W3 ⟨F, hP, rfl, hb3⟩; have f3 := HF2.out.drew.on hb3; have ca3 := f3.cella; have HP : Hid (P F) := hP; have HF3 : Hid (FdW w W3 S (L : Int)) := f3; clear f3 hP))
    all_goals
      go_wp2
      go_ret2
      exact ⟨F, HP.out, congrArg (fun v : Int => Ending.returned (.tuple #[.float .f64 F, .int .i64 v])) (show (L : Int) + (n : Int) = ((L + n : Nat) : Int) by omega), HF3.out.be⟩
  · subst heq
    clear HD
    have hn0 : Hid (n = 0) := by show n = 0; omega
    clear hLn hL1
    rw [show S.extract L L = ByteArray.empty by simp] at ce
    go_wp2_with (first | (go_at_call 148; refine (ce _).mono ?_; rintro ee W2 ⟨e, he, rfl, hb2⟩; have hwr := HWR.out e he; have hee := HEX.out e he; have he1 := hee.1; have he2 := hee.2; clear hee; have f2 := HF1.out.on hb2; have ca2 := f2.cella; have cb2 := f2.cellb; have HF2 : Hid (FdW w W2 S (L : Int)) := f2; have cf := DONE.out e W2 he f2; clear f2 he) | (go_at_call 149; fail))
    go_region_with (first | (go_at_call 149; go_fit cf; rintro ee W3 ⟨F, hP, rfl, hb3⟩; have f3 := HF2.out.drew.on hb3; have ca3 := f3.cella; have HP : Hid (P F) := hP; have HF3 : Hid (FdW w W3 S (L : Int)) := f3; clear f3 hP))
    all_goals
      go_wp2
      go_ret2
      exact ⟨F, HP.out, congrArg (fun v : Int => Ending.returned (.tuple #[.float .f64 F, .int .i64 v])) (show (L : Int) + (n : Int) = ((L + n : Nat) : Int) by omega), HF3.out.be⟩
end Go.Proofs.YtellndmbllmjgaaGreatDoor
/- The walk of frontDecimal at any text with a point. -/
set_option linter.unusedVariables false
namespace Go.Proofs.YtellndmbllmjgaaGreatDoor
open Go.RowKit Go.Shelf Go.Sort Fs Fl
set_option maxRecDepth 100000 in
set_option maxHeartbeats 1000000 in
theorem fdecDotG_any (S : ByteArray) (L M n : Nat) (Ex : Int → Prop) (P : Nat → Prop) (hs : S.size ≤ 100000) (hL0 : 0 < L + M) (hLn : L + 1 + M + n ≤ S.size) (hEx : ∀ e, Ex e → -20000000000000000 ≤ e ∧ e ≤ 20000000000000000) (w : World)
    (hdot : ∀ h : L < S.size, (S[L]'h).toNat = 46)
    (cr : ∀ w, Calls Tryz.prog 54 #[.string (S.extract 0 S.size), .int .i64 10] w fun e w' => e = .returned (.int .i64 (L : Int)) ∧ w' = w)
    (cr2 : ∀ w, Calls Tryz.prog 54 #[.string (S.extract (L + 1) S.size), .int .i64 10] w fun e w' => e = .returned (.int .i64 (M : Int)) ∧ w' = w)
    (ce : ∀ w, Calls Tryz.prog 148 #[.string (S.extract (L + 1 + M) S.size)] w fun r w' => ∃ e, Ex e ∧ r = .returned (.tuple #[.int .i64 e, .int .i64 (n : Int)]) ∧ Below w.heap.size w w')
    (cf : ∀ e, Ex e → ∀ W, Below w.heap.size w W → Calls Tryz.prog 149 #[.string (S.extract 0 L ++ S.extract (L + 1) (L + 1 + M)), .int .i64 ((L : Int) + e)] W fun r w' => ∃ F, P F ∧ r = .returned (.float .f64 F) ∧ Below W.heap.size W w') :
    Calls Tryz.prog 97 #[.string S] w fun r w' => ∃ F, P F ∧ r = .returned (.tuple #[.float .f64 F, .int .i64 ((L + 1 + M + n : Nat) : Int)]) ∧ Below w.heap.size w w' := by
  have CF := (show Hid _ from cf)
  have CE := (show Hid _ from ce)
  have CR := (show Hid _ from cr)
  have CR2 := (show Hid _ from cr2)
  have HD := (show Hid _ from hdot)
  clear cf ce cr cr2 hdot
  go_enter Tryz.func97, Tryz.ntmps97
  go_wp2_with (first | (go_at_call 147; fail))
  have f0 := FdW.start w S
  refine (dh_any _ (w.heap.size + 1) w.heap.size 0 L S _ hs (by omega) (by omega) f0.cella f0.cellb f0.fz rfl CR.out).mono ?_
  rintro ee W1 ⟨rfl, hW1⟩
  have f1 : FdW w W1 S (L : Int) := by
    rw [hW1]
    have := (f0.set (((0 : Nat) : Int) + (L : Int))).drew
    rw [show ((0 : Nat) : Int) + (L : Int) = (L : Int) by omega] at this ⊢
    exact this
  have ca := f1.cella
  have cb := f1.cellb
  have fz := f1.fz
  have HF1 : Hid (FdW w W1 S (L : Int)) := f1
  have hsz : (S.extract 0 L).size = L := by simp; omega
  have hszb : (S.extract (L + 1) (L + 1 + M)).size = M := by simp; omega
  rw [Nat.zero_add]
  clear hW1 f0 f1 CR
  obtain ⟨Al, hAl⟩ : ∃ Al, S.extract 0 L = Al := ⟨_, rfl⟩
  obtain ⟨Bl, hBl⟩ : ∃ Bl, S.extract (L + 1) (L + 1 + M) = Bl := ⟨_, rfl⟩
  rw [hAl] at hsz ⊢
  rw [hBl] at hszb
  have hne : (Al ++ Bl).toList.isEmpty = false := by
    have h2 : (Al ++ Bl).size = L + M := by rw [ByteArray.size_append, hsz, hszb]
    rw [Lib.toList_data]
    cases h : (Al ++ Bl).data.toList with
    | nil => exact absurd (show (Al ++ Bl).size = 0 by rw [Lib.size_eq, h]; rfl) (by omega)
    | cons _ _ => rfl
  have HA : Hid (S.extract 0 L = Al) := hAl
  have HB : Hid (S.extract (L + 1) (L + 1 + M) = Bl) := hBl
  obtain ⟨N, hN⟩ : ∃ N, S.size = N := ⟨_, rfl⟩
  have HN : Hid (S.size = N) := hN
  have HS : Hid (S.size ≤ 100000) := hs
  rw [hN] at hs hLn
  have ce := CE.out
  rw [hN] at ce
  have done : ∀ (e : Int) (W2 : World) (k : Int), Ex e → FdW w W2 S k → Calls Tryz.prog 149 #[.string (Al ++ Bl), .int .i64 ((L : Int) + e)] W2.drew fun r w' => ∃ F, P F ∧ r = .returned (.float .f64 F) ∧ Below W2.drew.heap.size W2.drew w' := by
    intro e W2 k he h2
    have := CF.out e he W2.drew h2.drew.be
    rwa [HA.out, HB.out] at this
  have DONE := (show Hid _ from done)
  have HWR : Hid (∀ e, Ex e → IntKind.i64.wrap ((L : Int) + e) = (L : Int) + e) := by intro e he; have := hEx e he; rw [IntKind.wrap_i64]; omega
  have HEX := (show Hid _ from hEx)
  clear hEx
  have hlS : L < S.size := by omega
  have hlN : L < N := by omega
  have hc := HD.out hlS
  have HLN : Hid (L + 1 + M + n ≤ N) := hLn
  clear CE done CF HD hAl hBl
  go_wp2_with (first | (go_at_call 147; fail))
  have f2 := HF1.out.set ((L : Int) + 1)
  have e1 : ((L + 1 : Nat) : Int) = (L : Int) + 1 := by omega
  refine (dh_any _ (w.heap.size + 1) w.heap.size (L + 1) M S _ HS.out (by omega) (by omega) (by rw [e1]; exact f2.cella) f2.cellb f2.fz rfl CR2.out).mono ?_
  rintro ee W2 ⟨rfl, hW2⟩
  obtain ⟨q, hq⟩ : ∃ q : Nat, q = L + 1 + M := ⟨_, rfl⟩
  have f3 : FdW w W2 S (q : Int) := by
    rw [hW2]
    have := (f2.set (((L + 1 : Nat) : Int) + (M : Int))).drew
    rw [show ((L + 1 : Nat) : Int) + (M : Int) = (q : Int) by omega] at this ⊢
    exact this
  have ca3 := f3.cella
  have cb3 := f3.cellb
  have HF3 : Hid (FdW w W2 S (q : Int)) := f3
  rw [HB.out]
  rw [← hq] at ce
  have hqN : q + n ≤ N := by omega
  have HQN : Hid (q + n = L + 1 + M + n) := by show _ = _; omega
  have hqN2 : q ≤ N := by omega
  have hLM : L + M ≤ 100000 := by omega
  have hwn : IntKind.i64.wrap ((q : Int) + (n : Int)) = (q : Int) + (n : Int) := by rw [IntKind.wrap_i64]; omega
  clear hW2 f2 f3 CR2 ca cb fz HF1 hq hqN hLn hc
  go_wp2_with (first | (go_at_call 148; refine (ce _).mono ?_; rintro ee W4 ⟨e, he, rfl, hb2⟩; have hwr := HWR.out e he; have hee := HEX.out e he; have he1 := hee.1; have he2 := hee.2; clear hee; have f4 := HF3.out.on hb2; have ca4 := f4.cella; have cb4 := f4.cellb; have HF4 : Hid (FdW w W4 S (q : Int)) := f4; have cf := DONE.out e W4 _ he f4; clear f4 he) | (go_at_call 149; fail))
  go_region_with (first | (go_at_call 149; go_fit cf; rintro ee W5 ⟨F, hP, rfl, hb3⟩; have f5 := HF4.out.drew.on hb3; have ca5 := f5.cella; have HP : Hid (P F) := hP; have HF5 : Hid (FdW w W5 S (q : Int)) := f5; clear f5 hP))
  all_goals
    go_wp2
    go_ret2
    exact ⟨F, HP.out, congrArg (fun v : Int => Ending.returned (.tuple #[.float .f64 F, .int .i64 v])) (show (q : Int) + (n : Int) = ((L + 1 + M + n : Nat) : Int) by rw [← HQN.out]; simp), HF5.out.be⟩
end Go.Proofs.YtellndmbllmjgaaGreatDoor
/- The walks of front and Read, given what they call. -/
set_option linter.unusedVariables false
namespace Go.Proofs.YtellndmbllmjgaaGreatDoor
open Go.RowKit Go.Shelf Go.Sort Fs Fl
end Go.Proofs.YtellndmbllmjgaaGreatDoor
/- The shape of what num.Text writes. -/
set_option linter.unusedVariables false
namespace Go.Proofs.YtellndmbllmjgaaGreatDoor
open Fs

end Go.Proofs.YtellndmbllmjgaaGreatDoor
/- What the law's digitsOf and more answer. -/
set_option linter.unusedVariables false
namespace Go.Proofs.YtellndmbllmjgaaGreatDoor
open Fs

end Go.Proofs.YtellndmbllmjgaaGreatDoor
/- How a small whole number is written; one more in the last place; noughts at the end. -/
set_option linter.unusedVariables false
namespace Go.Proofs.YtellndmbllmjgaaGreatDoor
open Fs Fl

end Go.Proofs.YtellndmbllmjgaaGreatDoor
/- frontExponent and frontDecimal at a number's shape. -/
set_option linter.unusedVariables false
namespace Go.Proofs.YtellndmbllmjgaaGreatDoor
open Go.RowKit Go.Shelf Go.Sort Fs Fl

end Go.Proofs.YtellndmbllmjgaaGreatDoor
/- The walks of white and of the document's own White. -/
set_option linter.unusedVariables false
namespace Go.Proofs.YtellndmbllmjgaaGreatDoor.Ut
open Go.RowKit Go.Shelf Go.Lib

/-- The table of blanks. -/
def zsT : RTab := { r16 := #[(32, 160, 128), (5760, 8192, 2432), (8193, 8202, 1), (8239, 8287, 48), (12288, 12288, 1)], r32 := #[], off := 1 }
theorem zsT_ok : RTabOk zsT := ⟨RgOk_of_B (by kernel_rfl), RgOk_of_B (by kernel_rfl), by decide, by decide, by decide, by decide⟩
/-- Is a unit white space? -/
def whiteU (u : Nat) : Bool := (u == 9 || u == 11 || u == 12 || u == 65279 || u == 10 || u == 13 || u == 8232 || u == 8233) || isGo zsT (u : Int)

set_option maxRecDepth 100000 in
theorem zs_small : ∀ u : Fin 128, isGo zsT ((u.val : Nat) : Int) = decide (u.val = 32) := by decide +kernel
theorem zs_160 : isGo zsT (160 : Int) = true := by decide +kernel

theorem beqI (u n : Nat) (m : Int) (hm : m = (n : Int)) : ((u : Int) == m) = (u == n) := by rw [Bool.eq_iff_iff]; simp; omega

set_option maxRecDepth 100000 in
set_option maxHeartbeats 4000000 in
theorem white_any (u : Nat) (hu : u < 65536) (w : World) (hZ : RVar 3 zsT w) :
    Calls Tryz.prog 91 #[.int .u16 (u : Int)] w fun e w' => e = .returned (.bool (whiteU u)) ∧ Below w.heap.size w w' := by
  obtain ⟨Tb, oT, hp, hA⟩ := hZ
  have cI := Tryz.unicode_Is_any Tb oT zsT (u : Int) w (by omega) (by omega) hA zsT_ok
  have b9 := beqI u 9 9 rfl; have b11 := beqI u 11 11 rfl; have b12 := beqI u 12 12 rfl; have bf := beqI u 65279 65279 rfl
  have b10 := beqI u 10 10 rfl; have b13 := beqI u 13 13 rfl; have b28 := beqI u 8232 8232 rfl; have b29 := beqI u 8233 8233 rfl
  have hW : Hid (whiteU u = ((u == 9 || u == 11 || u == 12 || u == 65279 || u == 10 || u == 13 || u == 8232 || u == 8233) || isGo zsT (u : Int))) := rfl
  generalize whiteU u = W at *
  generalize isGo zsT (u : Int) = G at *
  cases c9 : (u == 9)
  · rw [c9] at b9
    cases c11 : (u == 11)
    · rw [c11] at b11
      cases c12 : (u == 12)
      · rw [c12] at b12
        cases cf : (u == 65279)
        · rw [cf] at bf
          cases c10 : (u == 10)
          · rw [c10] at b10
            cases c13 : (u == 13)
            · rw [c13] at b13
              cases c28 : (u == 8232)
              · rw [c28] at b28
                cases c29 : (u == 8233)
                · rw [c29] at b29
                  have hWG : W = G := by rw [hW.out, c9, c11, c12, cf, c10, c13, c28, c29]; rfl
                  subst hWG
                  clear c9 c11 c12 cf c10 c13 c28 c29 hW
                  go_enter Tryz.func91, Tryz.ntmps91
                  go_wp2_with (first | (go_at_call 136; refine cI.mono ?_; rintro e w' ⟨rfl, hbw⟩) | go_in)
                  go_ret
                  exact ⟨rfl, hbw⟩
                · rw [c29] at b29
                  have hWG : W = true := by rw [hW.out, c29]; simp
                  subst hWG
                  clear c9 c11 c12 cf c10 c13 c28 c29 hW
                  go_enter Tryz.func91, Tryz.ntmps91
                  go_wp2
                  go_ret
                  exact ⟨rfl, Below.refl _ _⟩
              · rw [c28] at b28
                have hWG : W = true := by rw [hW.out, c28]; simp
                subst hWG
                clear c9 c11 c12 cf c10 c13 c28 hW b29
                go_enter Tryz.func91, Tryz.ntmps91
                go_wp2
                go_ret
                exact ⟨rfl, Below.refl _ _⟩
            · rw [c13] at b13
              have hWG : W = true := by rw [hW.out, c13]; simp
              subst hWG
              clear c9 c11 c12 cf c10 c13 hW b29 b28
              go_enter Tryz.func91, Tryz.ntmps91
              go_wp2
              go_ret
              exact ⟨rfl, Below.refl _ _⟩
          · rw [c10] at b10
            have hWG : W = true := by rw [hW.out, c10]; simp
            subst hWG
            clear c9 c11 c12 cf c10 hW b29 b28 b13
            go_enter Tryz.func91, Tryz.ntmps91
            go_wp2
            go_ret
            exact ⟨rfl, Below.refl _ _⟩
        · rw [cf] at bf
          have hWG : W = true := by rw [hW.out, cf]; simp
          subst hWG
          clear c9 c11 c12 cf hW b29 b28 b13 b10
          go_enter Tryz.func91, Tryz.ntmps91
          go_wp2
          go_ret
          exact ⟨rfl, Below.refl _ _⟩
      · rw [c12] at b12
        have hWG : W = true := by rw [hW.out, c12]; simp
        subst hWG
        clear c9 c11 c12 hW b29 b28 b13 b10 bf
        go_enter Tryz.func91, Tryz.ntmps91
        go_wp2
        go_ret
        exact ⟨rfl, Below.refl _ _⟩
    · rw [c11] at b11
      have hWG : W = true := by rw [hW.out, c11]; simp
      subst hWG
      clear c9 c11 hW b29 b28 b13 b10 bf b12
      go_enter Tryz.func91, Tryz.ntmps91
      go_wp2
      go_ret
      exact ⟨rfl, Below.refl _ _⟩
  · rw [c9] at b9
    have hWG : W = true := by rw [hW.out, c9]; simp
    subst hWG
    clear c9 hW b29 b28 b13 b10 bf b12 b11
    go_enter Tryz.func91, Tryz.ntmps91
    go_wp2
    go_ret
    exact ⟨rfl, Below.refl _ _⟩

end Go.Proofs.YtellndmbllmjgaaGreatDoor.Ut
/- The walks of Trim and of the document's own Trim. -/
set_option linter.unusedVariables false
namespace Go.Proofs.YtellndmbllmjgaaGreatDoor.Ut
open Go.RowKit Go.Shelf Go.Lib

theorem row16_of_owns {W : World} {base : Nat} {v : Value} {us : List Nat} (h : W.ownsRow base 58 1 v us.length (us.map uv)) : Row16 W.heap.size W v us := by
  rcases h.2 with ⟨rfl, h0⟩ | ⟨g, cap, cur, rfl, _, hgb, _⟩
  · exact .inl ⟨⟨_, _, rfl⟩, List.eq_nil_of_length_eq_zero h0⟩
  · refine .inr ⟨g, 0, cap, rfl, (h.lt g rfl).2, fun j hj => ?_⟩
    have := h.cells (g := g) rfl j (uv us[j]) (by simp [hj])
    have e : ((⟨g, 0, none⟩ : Addr).add j) = ⟨g, 0 + j, none⟩ := by
      unfold Addr.add
      split <;> simp_all
    rw [e] at this
    rw [this, List.getElem?_eq_getElem hj]
    rfl

/-- The slice value sv holds the units us; there is room for them. -/
def RowC (W : World) (sv : Value) (us : List Nat) : Prop :=
  ∃ a cap, sv = .slice a us.length cap ∧ us.length ≤ cap ∧ cap ≤ maxLen ∧ (us ≠ [] → ∃ b off, a = some ⟨b, off, none⟩ ∧ b < W.heap.size ∧ ∀ j, j < us.length → W.cell? ⟨b, off + j, none⟩ = some (.int .u16 ((us[j]?.getD 0 : Nat) : Int)))
theorem RowC.row {W : World} {sv : Value} {us : List Nat} (h : RowC W sv us) : Row16 W.heap.size W sv us := by
  obtain ⟨a, cap, rfl, h1, _, h2⟩ := h
  by_cases h0 : us = []
  · subst h0
    exact .inl ⟨⟨_, _, rfl⟩, rfl⟩
  · obtain ⟨b, off, rfl, hb, hc⟩ := h2 h0
    exact .inr ⟨b, off, cap, rfl, hb, hc⟩
theorem RowC.below {A B : World} (h : Below A.heap.size A B) {sv : Value} {us : List Nat} (hr : RowC A sv us) : RowC B sv us := by
  obtain ⟨a, cap, e, h1, hm, h2⟩ := hr
  refine ⟨a, cap, e, h1, hm, fun h0 => ?_⟩
  obtain ⟨b, off, ea, hb, hc⟩ := h2 h0
  exact ⟨b, off, ea, by have := h.size; omega, fun j hj => (h.cell (p := ⟨b, off + j, none⟩) hb).trans (hc j hj)⟩
theorem rowC_of_owns {W : World} {base : Nat} {v : Value} {us : List Nat} (h : W.ownsRow base 58 1 v us.length (us.map uv)) : RowC W v us := by
  have hr := row16_of_owns h
  rcases h.2 with ⟨rfl, h0⟩ | ⟨g, cap, cur, rfl, _, hgb, hcap, hm, _⟩
  · have e := List.eq_nil_of_length_eq_zero h0
    subst e
    exact ⟨_, _, rfl, Nat.le_refl _, by unfold maxLen; omega, fun h => absurd rfl h⟩
  · refine ⟨_, cap, rfl, hcap, hm, fun h0 => ?_⟩
    rcases hr with ⟨_, e⟩ | ⟨b, off, c, e, hb, hc⟩
    · exact absurd e h0
    · cases e
      exact ⟨_, _, rfl, hb, hc⟩
theorem addr_add (b off i : Nat) : (⟨b, off, none⟩ : Addr).add i = ⟨b, off + i, none⟩ := by
  unfold Addr.add
  split <;> simp_all
theorem RowC.sliced {W : World} {a : Option Addr} {n cap : Nat} {us : List Nat} (hr : RowC W (.slice a n cap) us) (i k : Nat) (hik : i ≤ k) (hk : k ≤ us.length) : RowC W (Go.sliced a i k cap 1) ((us.take k).drop i) := by
  obtain ⟨a', cap', e, h1, hm, h2⟩ := hr
  cases e
  have hlen : ((us.take k).drop i).length = k - i := by simp; omega
  refine ⟨if cap = i then a else a.map (·.add (i * 1)), cap - i, by rw [hlen]; rfl, by rw [hlen]; omega, by omega, fun h0 => ?_⟩
  have hki : i < k := by
    rcases Nat.lt_or_ge i k with h | h
    · exact h
    · exact absurd (List.eq_nil_of_length_eq_zero (by omega)) h0
  obtain ⟨b, off, rfl, hb, hc⟩ := h2 (fun e => by rw [e] at hk; simp at hk; omega)
  rw [if_neg (by omega)]
  refine ⟨b, off + i, by simp [addr_add], hb, fun j hj => ?_⟩
  rw [hlen] at hj
  rw [show off + i + j = off + (i + j) by omega, hc (i + j) (by omega)]
  rw [List.getElem?_drop, List.getElem?_take_of_lt (by omega)]

theorem rowC_none (W : World) (a : Option Addr) (c : Nat) (hc : c ≤ maxLen) : RowC W (.slice a 0 c) [] := ⟨a, c, rfl, Nat.zero_le _, hc, fun h => absurd rfl h⟩
theorem rowC_cut {W : World} {b off n cap : Nat} {us : List Nat} (hr : RowC W (.slice (some ⟨b, off, none⟩) n cap) us) (i k : Nat) (hik : i ≤ k) (hk : k ≤ us.length) (hc : i < cap) : RowC W (.slice (some ⟨b, off + i, none⟩) (k - i) (cap - i)) ((us.take k).drop i) := by
  have := hr.sliced i k hik hk
  have e : Go.sliced (some ⟨b, off, none⟩) i k cap 1 = .slice (some ⟨b, off + i, none⟩) (k - i) (cap - i) := by
    unfold Go.sliced
    rw [if_neg (by omega)]
    simp [addr_add]
  rwa [e] at this
/-- Without white space at the front. -/
def ltrim (us : List Nat) : List Nat := us.dropWhile whiteU
/-- Without white space at the end. -/
def rtrim (us : List Nat) : List Nat := (us.reverse.dropWhile whiteU).reverse
def trimU (us : List Nat) : List Nat := rtrim (ltrim us)
theorem rtrim_snoc (l : List Nat) (x : Nat) : rtrim (l ++ [x]) = if whiteU x = true then rtrim l else l ++ [x] := by
  unfold rtrim
  rw [List.reverse_append]
  simp only [List.reverse_cons, List.reverse_nil, List.nil_append, List.singleton_append, List.dropWhile_cons]
  split
  · rfl
  · simp
theorem drop_head (us : List Nat) (k : Nat) (h : k < us.length) : us.drop k = us[k]?.getD 0 :: us.drop (k + 1) := by
  rw [List.drop_eq_getElem_cons h, List.getElem?_eq_getElem h]
  rfl
theorem take_last (us : List Nat) (i k : Nat) (h : i < k) (hk : k ≤ us.length) : (us.take k).drop i = (us.take (k - 1)).drop i ++ [us[k - 1]?.getD 0] := by
  have h1 : k - 1 < us.length := by omega
  have e : us.take k = us.take (k - 1) ++ [us[k - 1]] := by
    have := List.take_succ_eq_append_getElem h1
    rwa [show k - 1 + 1 = k by omega] at this
  rw [e, List.drop_append_of_le_length (by simp; omega), List.getElem?_eq_getElem h1]
  rfl

theorem unitsL_len : ∀ (f : Nat) (bs : List Nat), (∀ b ∈ bs, b < 256) → (Un.unitsL f bs).length ≤ 2 * bs.length
  | 0, bs, _ => by simp [Un.unitsL]
  | f + 1, bs, hb => by
    unfold Un.unitsL
    split
    · simp
    · rename_i h
      have h1 := Un.ptL_bounds bs h hb
      have h2 := (Un.unR_len (Un.ptL bs).1).2
      have h3 := unitsL_len f (bs.drop (Un.ptL bs).2) (fun b hb' => hb b (List.mem_of_mem_drop hb'))
      rw [List.length_drop] at h3
      rw [List.length_append]
      omega
theorem unitsS_len (s : ByteArray) : (unitsS s).length ≤ 2 * s.size := by
  have := unitsL_len s.size (bytes s) (bytes_lt s)
  rwa [bytes_len] at this
theorem unitsS_lt (s : ByteArray) : ∀ u ∈ unitsS s, u < 65536 := Un.unitsL_lt s.size (bytes s) (bytes_lt s)

/-- How many elements a slice value has. -/
def sliceLen : Value → Nat
  | .slice _ n _ => n
  | _ => 0

theorem rowC_tail {W : World} {b off cap : Nat} {x : Nat} {t : List Nat} (hr : RowC W (.slice (some ⟨b, off, none⟩) (t.length + 1) cap) (x :: t)) : RowC W (.slice (if cap = 1 then some ⟨b, off, none⟩ else some ⟨b, off + 1, none⟩) t.length (cap - 1)) t := by
  have := hr.sliced 1 (t.length + 1) (by omega) (by simp)
  have e : Go.sliced (some ⟨b, off, none⟩) 1 (t.length + 1) cap 1 = .slice (if cap = 1 then some ⟨b, off, none⟩ else some ⟨b, off + 1, none⟩) t.length (cap - 1) := by
    unfold Go.sliced
    split <;> simp [addr_add]
  rw [e] at this
  simpa using this
theorem rowC_init {W : World} {b off cap n : Nat} {us : List Nat} (hr : RowC W (.slice (some ⟨b, off, none⟩) (n + 1) cap) us) (hn : us.length = n + 1) : RowC W (.slice (some ⟨b, off, none⟩) n cap) (us.take n) := by
  have := hr.sliced 0 n (by omega) (by omega)
  have e : Go.sliced (some ⟨b, off, none⟩) 0 n cap 1 = .slice (some ⟨b, off, none⟩) n cap := by
    unfold Go.sliced
    split <;> simp [addr_add]
  rw [e] at this
  simpa using this

set_option maxRecDepth 100000 in
set_option maxHeartbeats 4000000 in
theorem trim_any (s : ByteArray) (hs : s.size ≤ 100000) (w : World) (hT : Lib.Utf8Tabs 1 2 w) (hZ : RVar 3 zsT w) :
    Calls Tryz.prog 39 #[.string s] w fun e w' => e = .returned (.string (txt (trimU (unitsS s)))) ∧ Below w.heap.size w w' := by
  have cU := units_any s hs w hT
  have hul := unitsS_len s
  have hub := unitsS_lt s
  generalize unitsS s = U at *
  have HU := (show Hid _ from hub)
  clear hub
  go_enter Tryz.func39, Tryz.ntmps39
  go_wp2_with (go_at_call 90; refine cU.mono ?_; rintro e w1 ⟨v, rfl, hown, hnil, hb1⟩; clear hnil)
  go_loopw [3] (fun l wr => ∃ cur : List Nat, RowC wr l cur ∧ cur.length ≤ U.length ∧ (∀ u ∈ cur, u < 65536) ∧ cur.dropWhile whiteU = ltrim U ∧ Below w.heap.size w wr) (fun l _ => sliceLen l)
  case atStart => exact ⟨U, rowC_of_owns hown, Nat.le_refl _, HU.out, rfl, hb1⟩
  case round =>
    obtain ⟨cur, hR, hcl, hcu, hdw, hbw⟩ := hrel
    have HD := (show Hid _ from hdw)
    clear hdw hown hb1 cU
    have hR0 := hR
    obtain ⟨a, cap, rfl, hcap, hcm, hcell⟩ := hR
    unfold maxLen at hcm
    cases cur with
    | nil =>
      have hE : trimU U = [] := by
        have := HD.out
        unfold trimU
        rw [← this]
        rfl
      have HE := (show Hid _ from hE)
      clear hE hcu hcell
      simp only [List.length_nil] at hR0 hcap ⊢
      go_wp2
      go_loopw [3] (fun l w3 => ∃ cur : List Nat, RowC w3 l cur ∧ cur.length ≤ U.length ∧ (∀ u ∈ cur, u < 65536) ∧ rtrim cur = trimU U ∧ Below w.heap.size w w3) (fun l _ => sliceLen l)
      case atStart => exact ⟨[], hR0, Nat.zero_le _, by simp, HE.out.symm, hbw⟩
      case round =>
        obtain ⟨cur, hR, hcl3, hcu3, hrt, hbw3⟩ := hrel
        have HR3 := (show Hid _ from hrt)
        have cT := fun W (hW : Below wr.heap.size wr W) => text_any _ cur hcu3 (by omega) W (hR.below hW).row
        have HT := (show Hid _ from cT)
        have HC3 := (show Hid _ from hcu3)
        have hR3 := hR
        obtain ⟨a3, cap3, hl3, hcap3, hcm3, hcell3⟩ := hR
        unfold maxLen at hcm3
        clear hrt cT
        by_cases h0 : cur = []
        · subst h0
          subst hl3
          have hE : trimU U = [] := HR3.out.symm
          have HE3 := (show Hid _ from hE)
          clear hE hcell3 hcu3
          go_wp2_with (go_at_call 92; refine (HT.out _ (Below.refl _ _)).mono ?_; rintro e w4 ⟨rfl, hb4⟩)
          go_ret
          exact ⟨by rw [HE3.out]; rfl, hbw3.trans (hb4.mono hbw3.size)⟩
        · obtain ⟨n, hn⟩ : ∃ n, cur.length = n + 1 := ⟨cur.length - 1, by have := List.length_pos_iff.2 h0; omega⟩
          obtain ⟨b3, off3, rfl, hb3, hc3⟩ := hcell3 h0
          have hcy := hc3 n (by omega)
          have hy := getD_lt hcu3 n
          have htl := take_last cur 0 (n + 1) (by omega) (by omega)
          rw [List.drop_zero, List.drop_zero, show n + 1 - 1 = n by omega, List.take_of_length_le (by omega)] at htl
          have HTL := (show Hid _ from htl)
          have hin := fun W (h : Below wr.heap.size wr W) => rowC_init (n := n) (us := cur) (by have := hR3.below h; rw [hl3, hn] at this; exact this) hn
          have HIN := (show Hid _ from hin)
          have HN := (show Hid _ from hn)
          have hcu4 : ∀ u ∈ cur.take n, u < 65536 := fun u hu => hcu3 u (List.mem_of_mem_take hu)
          have HC4 := (show Hid _ from hcu4)
          have hlt4 : (cur.take n).length = n := by simp; omega
          have HL4 := (show Hid _ from hlt4)
          generalize cur[n]?.getD 0 = y at *
          have cV := white_any y hy wr (RVar_below hZ hbw3)
          rw [hn] at hl3 hcap3 hcl3
          subst hl3
          clear htl hin hcu4 hlt4 hc3 hcell3 hcu3 hn hR3 h0
          cases hwy : whiteU y
          · rw [hwy] at cV
            have hE : cur = trimU U := by
              have := HR3.out
              rw [HTL.out, rtrim_snoc, if_neg (by rw [hwy]; simp), ← HTL.out] at this
              exact this
            have HE3 := (show Hid _ from hE)
            clear hE
            go_wp2_with (first
              | (go_at_call 91; refine cV.mono ?_; rintro e w4 ⟨rfl, hb4⟩)
              | (go_at_call 92; refine (HT.out _ hb4).mono ?_; rintro e w5 ⟨rfl, hb5⟩))
            go_ret
            have hbw4 := hbw3.trans (hb4.mono hbw3.size)
            exact ⟨by rw [← HE3.out]; rfl, hbw4.trans (hb5.mono hbw4.size)⟩
          · rw [hwy] at cV
            have hE : rtrim (cur.take n) = trimU U := by
              have := HR3.out
              rw [HTL.out, rtrim_snoc, if_pos hwy] at this
              exact this
            have HE := (show Hid _ from hE)
            clear hE
            go_wp2_with (go_at_call 91; refine cV.mono ?_; rintro e w4 ⟨rfl, hb4⟩)
            have hbw4 := hbw3.trans (hb4.mono hbw3.size)
            go_roundw
            case rel => exact ⟨cur.take n, HIN.out _ hb4, by rw [HL4.out]; omega, HC4.out, HE.out, hbw4⟩
            case measure => simp [sliceLen]
    | cons x t =>
      obtain ⟨b, off, rfl, hb, hc⟩ := hcell (by simp)
      have hc0 := hc 0 (by simp)
      simp only [Nat.add_zero, List.getElem?_cons_zero, Option.getD_some] at hc0
      have hx := hcu x (by simp)
      have hcu' : ∀ u ∈ t, u < 65536 := fun u hu => hcu u (by simp [hu])
      have HC := (show Hid _ from hcu)
      have HC' := (show Hid _ from hcu')
      have cW := white_any x hx wr (RVar_below hZ hbw)
      simp only [List.length_cons] at *
      clear hc hcell hcu hcu'
      cases hwx : whiteU x
      · rw [hwx] at cW
        have hE : rtrim (x :: t) = trimU U := by
          have := HD.out
          rw [List.dropWhile_cons, hwx] at this
          unfold trimU
          rw [← this]
          rfl
        have HE := (show Hid _ from hE)
        clear hE
        go_wp2_with (go_at_call 91; refine cW.mono ?_; rintro e w2 ⟨rfl, hb2⟩)
        have hbw2 := hbw.trans (hb2.mono hbw.size)
        clear hc0 cW
        go_loopw [3] (fun l w3 => ∃ cur : List Nat, RowC w3 l cur ∧ cur.length ≤ U.length ∧ (∀ u ∈ cur, u < 65536) ∧ rtrim cur = trimU U ∧ Below w.heap.size w w3) (fun l _ => sliceLen l)
        case atStart => exact ⟨x :: t, hR0.below hb2, by simpa using hcl, HC.out, HE.out, hbw2⟩
        case round =>
          obtain ⟨cur, hR, hcl3, hcu3, hrt, hbw3⟩ := hrel
          have HR3 := (show Hid _ from hrt)
          have cT := fun W (hW : Below wr.heap.size wr W) => text_any _ cur hcu3 (by omega) W (hR.below hW).row
          have HT := (show Hid _ from cT)
          have HC3 := (show Hid _ from hcu3)
          have hR3 := hR
          obtain ⟨a3, cap3, hl3, hcap3, hcm3, hcell3⟩ := hR
          unfold maxLen at hcm3
          clear hrt cT
          by_cases h0 : cur = []
          · subst h0
            subst hl3
            have hE : trimU U = [] := HR3.out.symm
            have HE3 := (show Hid _ from hE)
            clear hE hcell3 hcu3
            go_wp2_with (go_at_call 92; refine (HT.out _ (Below.refl _ _)).mono ?_; rintro e w4 ⟨rfl, hb4⟩)
            go_ret
            exact ⟨by rw [HE3.out]; rfl, hbw3.trans (hb4.mono hbw3.size)⟩
          · obtain ⟨n, hn⟩ : ∃ n, cur.length = n + 1 := ⟨cur.length - 1, by have := List.length_pos_iff.2 h0; omega⟩
            obtain ⟨b3, off3, rfl, hb3, hc3⟩ := hcell3 h0
            have hcy := hc3 n (by omega)
            have hy := getD_lt hcu3 n
            have htl := take_last cur 0 (n + 1) (by omega) (by omega)
            rw [List.drop_zero, List.drop_zero, show n + 1 - 1 = n by omega, List.take_of_length_le (by omega)] at htl
            have HTL := (show Hid _ from htl)
            have hin := fun W (h : Below wr.heap.size wr W) => rowC_init (n := n) (us := cur) (by have := hR3.below h; rw [hl3, hn] at this; exact this) hn
            have HIN := (show Hid _ from hin)
            have HN := (show Hid _ from hn)
            have hcu4 : ∀ u ∈ cur.take n, u < 65536 := fun u hu => hcu3 u (List.mem_of_mem_take hu)
            have HC4 := (show Hid _ from hcu4)
            have hlt4 : (cur.take n).length = n := by simp; omega
            have HL4 := (show Hid _ from hlt4)
            generalize cur[n]?.getD 0 = y at *
            have cV := white_any y hy wr (RVar_below hZ hbw3)
            rw [hn] at hl3 hcap3 hcl3
            subst hl3
            clear htl hin hcu4 hlt4 hc3 hcell3 hcu3 hn hR3 h0
            cases hwy : whiteU y
            · rw [hwy] at cV
              have hE : cur = trimU U := by
                have := HR3.out
                rw [HTL.out, rtrim_snoc, if_neg (by rw [hwy]; simp), ← HTL.out] at this
                exact this
              have HE3 := (show Hid _ from hE)
              clear hE
              go_wp2_with (first
                | (go_at_call 91; refine cV.mono ?_; rintro e w4 ⟨rfl, hb4⟩)
                | (go_at_call 92; refine (HT.out _ hb4).mono ?_; rintro e w5 ⟨rfl, hb5⟩))
              go_ret
              have hbw4 := hbw3.trans (hb4.mono hbw3.size)
              exact ⟨by rw [← HE3.out]; rfl, hbw4.trans (hb5.mono hbw4.size)⟩
            · rw [hwy] at cV
              have hE : rtrim (cur.take n) = trimU U := by
                have := HR3.out
                rw [HTL.out, rtrim_snoc, if_pos hwy] at this
                exact this
              have HE := (show Hid _ from hE)
              clear hE
              go_wp2_with (go_at_call 91; refine cV.mono ?_; rintro e w4 ⟨rfl, hb4⟩)
              have hbw4 := hbw3.trans (hb4.mono hbw3.size)
              go_roundw
              case rel => exact ⟨cur.take n, HIN.out _ hb4, by rw [HL4.out]; omega, HC4.out, HE.out, hbw4⟩
              case measure => simp [sliceLen]
      · rw [hwx] at cW
        have hnx : t.dropWhile whiteU = ltrim U := by
          have := HD.out
          rw [List.dropWhile_cons, hwx] at this
          exact this
        have HX := (show Hid _ from hnx)
        have hRt := fun W (h : Below wr.heap.size wr W) => rowC_tail (hR0.below h)
        have HR := (show Hid _ from hRt)
        clear hnx hRt
        by_cases hc1 : cap = 1
        · subst hc1
          obtain rfl : t = [] := List.eq_nil_of_length_eq_zero (by omega)
          go_wp2_with (go_at_call 91; refine cW.mono ?_; rintro e w2 ⟨rfl, hb2⟩)
          have hbw2 := hbw.trans (hb2.mono hbw.size)
          go_roundw
          case rel => exact ⟨[], by have := HR.out _ hb2; simpa using this, Nat.zero_le _, HC'.out, HX.out, hbw2⟩
          case measure => simp [sliceLen]
        · go_wp2_with (go_at_call 91; refine cW.mono ?_; rintro e w2 ⟨rfl, hb2⟩)
          have hbw2 := hbw.trans (hb2.mono hbw.size)
          go_roundw
          case rel => exact ⟨t, by have := HR.out _ hb2; simpa [hc1] using this, by omega, HC'.out, HX.out, hbw2⟩
          case measure => simp [sliceLen]
end Go.Proofs.YtellndmbllmjgaaGreatDoor.Ut
