/- The walks of front and Read, given what they call. -/
import Derived.Test.YtellndmbllmjgaaGreatDoorCRu1
import Derived.Test.YtellndmbllmjgaaGreatDoorCCs1
import Derived.Test.YtellndmbllmjgaaGreatDoorCLg2
set_option linter.unusedVariables false
namespace Go.Proofs.YtellndmbllmjgaaGreatDoor
open Go.RowKit Go.Shelf Go.Sort Fs Fl
set_option maxRecDepth 100000 in
set_option maxHeartbeats 1000000 in
theorem front_of (S T : ByteArray) (s : Bool) (P : Nat → Prop) (hs : S.size ≤ 100000) (hts : T.size ≤ S.size) (hP : ∀ F, P F → F ≤ 9218868437227405312) (hpre : Lib.hasPrefix T.data.toList [73, 110, 102, 105, 110, 105, 116, 121] = false) (w : World)
    (cs : ∀ w, Calls Tryz.prog 52 #[.string S] w fun e w' => e = .returned (.tuple #[.string T, .float .f64 (wd s 4607182418800017408)]) ∧ w' = w)
    (cd : Calls Tryz.prog 97 #[.string T] w fun e w' => ∃ F, P F ∧ e = .returned (.tuple #[.float .f64 F, .int .i64 (T.size : Int)]) ∧ Below w.heap.size w w') :
    Calls Tryz.prog 42 #[.string S] w fun e w' => ∃ F, P F ∧ e = .returned (.tuple #[.float .f64 (wd s F), .int .i64 (S.size : Int)]) ∧ Below w.heap.size w w' := by
  have cp := Tryz.strings_HasPrefix T ⟨#[73, 110, 102, 105, 110, 105, 116, 121]⟩
  have hpre' : Lib.hasPrefix T.data.toList (ByteArray.mk #[73, 110, 102, 105, 110, 105, 116, 121]).data.toList = false := hpre
  rw [hpre'] at cp
  have HP := (show Hid _ from hP)
  clear hpre hpre' hP
  go_enter Tryz.func42, Tryz.ntmps42
  go_wp2_with (first | (go_at_call 52; refine (cs _).mono ?_; rintro e w1 ⟨rfl, rfl⟩) | (go_at_call 77; refine (cp _).mono ?_; rintro e w1 ⟨rfl, rfl⟩) | (go_at_call 97; fail))
  refine cd.mono ?_
  rintro e w2 ⟨F, hF, rfl, hb⟩
  have hm : ∀ ty w, (binOp .mul ty (.float .f64 (wd s 4607182418800017408)) (.float .f64 F)).run Tryz.prog w = .ok (.float .f64 (wd s F)) w := fun ty w => run_float_arith w .mul ty .f64 _ _ _ (mul_unit s F (HP.out F hF))
  have HF : Hid (P F) := hF
  clear hF HP cp cs cd
  generalize wd s 4607182418800017408 = us at *
  go_wp2
  go_ret2
  exact ⟨F, HF.out, rfl, hb⟩
set_option maxRecDepth 100000 in
set_option maxHeartbeats 1000000 in
theorem read_of (S : ByteArray) (P : Nat → Prop) (hs0 : 0 < S.size) (hs : S.size ≤ 100000) (w : World)
    (ct : Calls Tryz.prog 39 #[.string S] w fun e w' => e = .returned (.string S) ∧ Below w.heap.size w w')
    (ch : ∀ w, Calls Tryz.prog 40 #[.string S] w fun e w' => e = .returned (.tuple #[.string S, .bool false]) ∧ w' = w)
    (cf : ∀ W, Below w.heap.size w W → Calls Tryz.prog 42 #[.string S] W fun e w' => ∃ x, P x ∧ e = .returned (.tuple #[.float .f64 x, .int .i64 (S.size : Int)]) ∧ Below W.heap.size W w') :
    Calls Tryz.prog 11 #[.string S] w fun e w' => ∃ x, P x ∧ e = .returned (.float .f64 x) ∧ Below w.heap.size w w' := by
  have hne : S.toList.isEmpty = false := by
    rw [Lib.toList_data]
    cases h : S.data.toList with
    | nil => exact absurd (by rw [Lib.size_eq, h]; rfl) (Nat.ne_of_gt hs0)
    | cons _ _ => rfl
  have CF := (show Hid _ from cf)
  clear cf
  go_enter Tryz.func11, Tryz.ntmps11
  go_wp2_with (first | (go_at_call 39; refine ct.mono ?_; rintro e w1 ⟨rfl, hb1⟩; have cf := CF.out _ hb1) | (go_at_call 40; refine (ch _).mono ?_; rintro e w2 ⟨rfl, rfl⟩) | (go_at_call 42; fail))
  refine cf.mono ?_
  rintro e w3 ⟨x, hx, rfl, hb3⟩
  have HX : Hid (P x) := hx
  clear hx cf ct ch CF
  go_wp2
  go_ret
  exact ⟨x, HX.out, rfl, hb1.trans (hb3.mono hb1.size)⟩
end Go.Proofs.YtellndmbllmjgaaGreatDoor
