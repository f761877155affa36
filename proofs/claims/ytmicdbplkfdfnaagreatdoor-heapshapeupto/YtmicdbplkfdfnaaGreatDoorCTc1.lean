/- math.Floor at every word; isLength. -/
import Derived.Test.YtmicdbplkfdfnaaGreatDoorCHo3x
import Derived.BigQuiet
import Derived.Deep.DeepCutAuto
import Derived.Deep.CutBlock
set_option linter.unusedVariables false
namespace Go.Proofs.YtmicdbplkfdfnaaGreatDoor
open Go.RowKit Go.Shelf Go.Maps

theorem floor150 (x : Nat) (w : World) : ∃ f q, (callFunc 150 #[.float .f64 x]).run Tryz.prog w = .ok (.value (.float .f64 f)) (w.drewN q) := by
  rw [run_callFunc_extern (P := Tryz.prog) (f := 150) (e := Extern.MathFloor.toIntegral "math.archFloor" .down) Tryz.func150 (by kernel_rfl) (by kernel_rfl) (by kernel_rfl) (by kernel_rfl)]
  generalize hq : FloatKind.f64.decode x = q
  have key : ∃ f n, (Extern.MathFloor.toIntegral "math.archFloor" .down #[.float .f64 x]).run Tryz.prog w = .ok (.float .f64 f) (w.drewN n) := by
    have e : Extern.MathFloor.toIntegral "math.archFloor" .down #[.float .f64 x] = Extern.MathFloor.toIntegral.match_1 (fun _ => Sem Value) (FloatKind.f64.decode x) (fun s t => if FloatKind.f64.format.quiet t = t then pure (.float .f64 x) else do
      let kept ← choose (.extern "math.Floor,Ceil,Trunc,RoundToEven.signallingNaN kept" 2)
      pure (.float .f64 (if kept == 1 then x else FloatKind.f64.encode (.nan s (FloatKind.f64.format.quiet t))))) (fun d => pure (.float .f64 (FloatKind.f64.encode (d.integral .down)))) := rfl
    rw [e, hq]
    cases q with
    | number s m i => exact ⟨_, 0, rfl⟩
    | infinity s => exact ⟨_, 0, rfl⟩
    | nan s t =>
      dsimp only
      by_cases hqt : FloatKind.f64.format.quiet t = t
      · rw [if_pos hqt]; exact ⟨_, 0, rfl⟩
      · rw [if_neg hqt]; exact ⟨_, 1, rfl⟩
  obtain ⟨f, n, h⟩ := key
  exact ⟨f, n, by rw [h]; rfl⟩
set_option maxRecDepth 100000 in
theorem floor_any (x : Nat) (w : World) : Calls Tryz.prog 122 #[.float .f64 x] w fun e w' => (∃ f, e = .returned (.float .f64 f)) ∧ ∃ q, w' = w.drewN q := by
  obtain ⟨f, q, h⟩ := floor150 x w
  go_enter Tryz.func122, Tryz.ntmps122
  go_wp2
  go_ret
  exact ⟨⟨_, rfl⟩, _, rfl⟩
theorem floor150_num (b : Nat) (h : (Ieee.double.read b).isNaN = false) : ∃ f, ∀ w, (callFunc 150 #[.float .f64 b]).run Tryz.prog w = .ok (.value (.float .f64 f)) w := by
  refine ⟨Ieee.double.write ((Ieee.double.read b).integral .down), fun w => ?_⟩
  rw [run_callFunc_extern (P := Tryz.prog) (f := 150) (e := Extern.MathFloor.toIntegral "math.archFloor" .down) Tryz.func150 (by kernel_rfl) (by kernel_rfl) (by kernel_rfl) (by kernel_rfl)]
  have hd : FloatKind.f64.decode b = Ieee.double.read b := rfl
  generalize Ieee.double.read b = d at h hd ⊢
  generalize hq : FloatKind.f64.decode b = q at hd
  subst hd
  have key : Extern.MathFloor.toIntegral "math.archFloor" .down #[.float .f64 b] = pure (.float .f64 (FloatKind.f64.encode (q.integral .down))) := by
    show Extern.MathFloor.toIntegral.match_1 (fun _ => Sem Value) (FloatKind.f64.decode b) _ _ = _
    rw [hq]
    cases q with
    | number s m i => rfl
    | infinity s => rfl
    | nan s t => exact absurd h (by simp [Ieee.Datum.isNaN])
  rw [key]
  rfl
set_option maxRecDepth 100000 in
theorem floor_num (x : Nat) (h : (Ieee.double.read x).isNaN = false) : ∃ f, ∀ w, Calls Tryz.prog 122 #[.float .f64 x] w fun e w' => e = .returned (.float .f64 f) ∧ w' = w := by
  obtain ⟨f, hf⟩ := floor150_num x h
  refine ⟨f, fun w => ?_⟩
  go_enter Tryz.func122, Tryz.ntmps122
  go_wp2
  go_ret
  exact ⟨rfl, rfl⟩
theorem order_isNaN {x : Nat} (h : (Ieee.double.read x).isNaN = true) (y : Nat) : FloatKind.f64.format.order x y = none := by
  show (Ieee.double.read x).order (Ieee.double.read y) = none
  cases hq : Ieee.double.read x with
  | number s m i => rw [hq] at h; cases h
  | infinity s => rw [hq] at h; cases h
  | nan s t => rfl
/-- Whatever it is told of: a Boolean; where it is true, a number from 0 to 2 to the 32nd. -/
def LenB (k : Int) (x : Nat) (B : Bool) : Prop := B = true → k = 3 ∧ (FloatKind.f64.format.order x 0 == some .gt || FloatKind.f64.format.order x 0 == some .eq) = true ∧ (FloatKind.f64.format.order x 4751297606873776128 == some .lt || FloatKind.f64.format.order x 4751297606873776128 == some .eq) = true
/-- A word that is no number. -/
def NaNs : Type := { x : Nat // (Ieee.double.read x).isNaN = true }
theorem nan_eq (X : NaNs) (f : Nat) : (FloatKind.f64.format.order X.1 f == some Ordering.eq) = false := by rw [order_isNaN X.2 f]; rfl
theorem nan_binop (t : TypeId) (X : NaNs) (f : Nat) : binOp .eql t (.float .f64 X.1) (.float .f64 f) = pure (.bool false) := by rw [binOp_float_cmp_eql, nan_eq]
attribute [local go_sem high] nan_binop in
set_option maxRecDepth 100000 in
set_option maxHeartbeats 2000000 in
theorem isLength_nan (X : NaNs) (s : ByteArray) (r : Option Addr) (w : World) :
    Calls Tryz.prog 93 #[.agg #[.int .i64 3, .float .f64 X.1, .string s, .pointer r]] w fun e w' => e = .returned (.bool false) ∧ Kx [] w w' := by
  obtain ⟨W0, hW0⟩ : ∃ W0, W0 = w.alloc (Obj.cells #[.int .i64 3, .float .f64 X.1, .string s, .pointer r] 73) := ⟨_, rfl⟩
  have hk : Kx [] w W0 := by rw [hW0]; exact Kx.alloc _ _ _
  have h0 : W0.heap[w.heap.size]? = some (Obj.cells #[.int .i64 3, .float .f64 X.1, .string s, .pointer r] 73 (0, 0)) := by rw [hW0]; exact heap_alloc_new _ _
  have a0 := cell_at h0 0 rfl
  have a1 := cell_at h0 1 rfl
  have HK := (show Hid (Kx [] w W0) from hk)
  clear h0 hk
  go_enter Tryz.func93, Tryz.ntmps93
  go_upto_region 1 with fail
  rw [← hW0]
  clear hW0
  refine wp_region_held (S := fun Z : World => Z.cell? ⟨w.heap.size, 0, none⟩ = some (.int .i64 3) ∧ Z.cell? ⟨w.heap.size, 1, none⟩ = some (.float .f64 X.1)) (by kernel_rfl) ?_
  have hS : ∀ n, (W0.drewN n).cell? ⟨w.heap.size, 0, none⟩ = some (.int .i64 3) ∧ (W0.drewN n).cell? ⟨w.heap.size, 1, none⟩ = some (.float .f64 X.1) := fun n => ⟨a0, a1⟩
  show wpAnyH Tryz.prog Region.Mode.any _ _ _ 22 #[false, false, false, false, false, false, false, false, false, false, false, false, false, false, false, false, false, false, false, false, false, false] { tmps := #[.agg #[.int .i64 3, .float .f64 X.1, .string s, .pointer r], .pointer (some ⟨w.heap.size, 0, none⟩), .bool false, undef, undef, undef, undef, undef, undef, undef, undef, undef, undef, undef, undef, undef, undef, undef, undef, undef, undef, undef, undef, undef], defers := [] } (W0.drewN (1))
  refine wpAnyH_take (i := 0) (v := .pointer (some ⟨w.heap.size, 0, none⟩)) rfl (by kernel_rfl) (by kernel_rfl) (by kernel_rfl) (fun _ _ _ h => h) (.inl ⟨by rfl, fun Z hZ => ?_⟩) (hS (1)) ?_
  · obtain ⟨z0, z1⟩ := hZ
    first | rfl | go_simp
  show wpAnyH Tryz.prog Region.Mode.any _ _ _ 21 #[true, false, false, false, false, false, false, false, false, false, false, false, false, false, false, false, false, false, false, false, false, false] { tmps := #[.agg #[.int .i64 3, .float .f64 X.1, .string s, .pointer r], .pointer (some ⟨w.heap.size, 0, none⟩), .bool false, .pointer (some ⟨w.heap.size, 0, none⟩), undef, undef, undef, undef, undef, undef, undef, undef, undef, undef, undef, undef, undef, undef, undef, undef, undef, undef, undef, undef], defers := [] } (W0.drewN (1))
  refine wpAnyH_take (i := 1) (v := .int .i64 3) rfl (by kernel_rfl) (by kernel_rfl) (by kernel_rfl) (fun _ _ _ h => h) (.inl ⟨by rfl, fun Z hZ => ?_⟩) (hS (1)) ?_
  · obtain ⟨z0, z1⟩ := hZ
    first | rfl | go_simp
  show wpAnyH Tryz.prog Region.Mode.any _ _ _ 20 #[true, true, false, false, false, false, false, false, false, false, false, false, false, false, false, false, false, false, false, false, false, false] { tmps := #[.agg #[.int .i64 3, .float .f64 X.1, .string s, .pointer r], .pointer (some ⟨w.heap.size, 0, none⟩), .bool false, .pointer (some ⟨w.heap.size, 0, none⟩), .int .i64 3, undef, undef, undef, undef, undef, undef, undef, undef, undef, undef, undef, undef, undef, undef, undef, undef, undef, undef, undef], defers := [] } (W0.drewN (1))
  refine wpAnyH_take (i := 2) (v := .bool true) rfl (by kernel_rfl) (by kernel_rfl) (by kernel_rfl) (fun _ _ _ h => h) (.inl ⟨by rfl, fun Z hZ => ?_⟩) (hS (1)) ?_
  · obtain ⟨z0, z1⟩ := hZ
    first | rfl | go_simp
  show wpAnyH Tryz.prog Region.Mode.any _ _ _ 19 #[true, true, true, false, false, false, false, false, false, false, false, false, false, false, false, false, false, false, false, false, false, false] { tmps := #[.agg #[.int .i64 3, .float .f64 X.1, .string s, .pointer r], .pointer (some ⟨w.heap.size, 0, none⟩), .bool false, .pointer (some ⟨w.heap.size, 0, none⟩), .int .i64 3, .bool true, undef, undef, undef, undef, undef, undef, undef, undef, undef, undef, undef, undef, undef, undef, undef, undef, undef, undef], defers := [] } (W0.drewN (1))
  refine wpAnyH_take (i := 3) (v := .bool true) rfl (by kernel_rfl) (by kernel_rfl) (by kernel_rfl) (fun _ _ _ h => h) (.inl ⟨by rfl, fun Z hZ => ?_⟩) (hS (1)) ?_
  · obtain ⟨z0, z1⟩ := hZ
    first | rfl | go_simp
  show wpAnyH Tryz.prog Region.Mode.any _ _ _ 18 #[true, true, true, true, false, false, false, false, false, false, false, false, false, false, false, false, false, false, false, false, false, false] { tmps := #[.agg #[.int .i64 3, .float .f64 X.1, .string s, .pointer r], .pointer (some ⟨w.heap.size, 0, none⟩), .bool false, .pointer (some ⟨w.heap.size, 0, none⟩), .int .i64 3, .bool true, .bool true, undef, undef, undef, undef, undef, undef, undef, undef, undef, undef, undef, undef, undef, undef, undef, undef, undef], defers := [] } (W0.drewN (1))
  refine wpAnyH_take (i := 4) (v := .pointer (some ⟨w.heap.size, 1, none⟩)) rfl (by kernel_rfl) (by kernel_rfl) (by kernel_rfl) (fun _ _ _ h => h) (.inl ⟨by rfl, fun Z hZ => ?_⟩) (hS (1)) ?_
  · obtain ⟨z0, z1⟩ := hZ
    first | rfl | go_simp
  show wpAnyH Tryz.prog Region.Mode.any _ _ _ 17 #[true, true, true, true, true, false, false, false, false, false, false, false, false, false, false, false, false, false, false, false, false, false] { tmps := #[.agg #[.int .i64 3, .float .f64 X.1, .string s, .pointer r], .pointer (some ⟨w.heap.size, 0, none⟩), .bool false, .pointer (some ⟨w.heap.size, 0, none⟩), .int .i64 3, .bool true, .bool true, .pointer (some ⟨w.heap.size, 1, none⟩), undef, undef, undef, undef, undef, undef, undef, undef, undef, undef, undef, undef, undef, undef, undef, undef], defers := [] } (W0.drewN (1))
  refine wpAnyH_take (i := 5) (v := .float .f64 X.1) rfl (by kernel_rfl) (by kernel_rfl) (by kernel_rfl) (fun _ _ _ h => h) (.inl ⟨by rfl, fun Z hZ => ?_⟩) (hS (1)) ?_
  · obtain ⟨z0, z1⟩ := hZ
    first | rfl | go_simp
  show wpAnyH Tryz.prog Region.Mode.any _ _ _ 16 #[true, true, true, true, true, true, false, false, false, false, false, false, false, false, false, false, false, false, false, false, false, false] { tmps := #[.agg #[.int .i64 3, .float .f64 X.1, .string s, .pointer r], .pointer (some ⟨w.heap.size, 0, none⟩), .bool false, .pointer (some ⟨w.heap.size, 0, none⟩), .int .i64 3, .bool true, .bool true, .pointer (some ⟨w.heap.size, 1, none⟩), .float .f64 X.1, undef, undef, undef, undef, undef, undef, undef, undef, undef, undef, undef, undef, undef, undef, undef], defers := [] } (W0.drewN (1))
  refine wpAnyH_take (i := 6) (v := .pointer (some ⟨w.heap.size, 1, none⟩)) rfl (by kernel_rfl) (by kernel_rfl) (by kernel_rfl) (fun _ _ _ h => h) (.inl ⟨by rfl, fun Z hZ => ?_⟩) (hS (1)) ?_
  · obtain ⟨z0, z1⟩ := hZ
    first | rfl | go_simp
  show wpAnyH Tryz.prog Region.Mode.any _ _ _ 15 #[true, true, true, true, true, true, true, false, false, false, false, false, false, false, false, false, false, false, false, false, false, false] { tmps := #[.agg #[.int .i64 3, .float .f64 X.1, .string s, .pointer r], .pointer (some ⟨w.heap.size, 0, none⟩), .bool false, .pointer (some ⟨w.heap.size, 0, none⟩), .int .i64 3, .bool true, .bool true, .pointer (some ⟨w.heap.size, 1, none⟩), .float .f64 X.1, .pointer (some ⟨w.heap.size, 1, none⟩), undef, undef, undef, undef, undef, undef, undef, undef, undef, undef, undef, undef, undef, undef], defers := [] } (W0.drewN (1))
  refine wpAnyH_take (i := 7) (v := .float .f64 X.1) rfl (by kernel_rfl) (by kernel_rfl) (by kernel_rfl) (fun _ _ _ h => h) (.inl ⟨by rfl, fun Z hZ => ?_⟩) (hS (1)) ?_
  · obtain ⟨z0, z1⟩ := hZ
    first | rfl | go_simp
  show wpAnyH Tryz.prog Region.Mode.any _ _ _ 14 #[true, true, true, true, true, true, true, true, false, false, false, false, false, false, false, false, false, false, false, false, false, false] { tmps := #[.agg #[.int .i64 3, .float .f64 X.1, .string s, .pointer r], .pointer (some ⟨w.heap.size, 0, none⟩), .bool false, .pointer (some ⟨w.heap.size, 0, none⟩), .int .i64 3, .bool true, .bool true, .pointer (some ⟨w.heap.size, 1, none⟩), .float .f64 X.1, .pointer (some ⟨w.heap.size, 1, none⟩), .float .f64 X.1, undef, undef, undef, undef, undef, undef, undef, undef, undef, undef, undef, undef, undef], defers := [] } (W0.drewN (1))
  refine wpAnyH_all (rs := [8]) (by kernel_rfl) (by simp) (AllReadyH.cons rfl (fun K' hK => ?_) AllReadyH.nil)
  rw [if_pos (by rfl)]
  go_simp
  go_at_call 122
  refine (floor_any X.1 _).mono ?_
  rintro e w1 ⟨⟨f, rfl⟩, q, rfl⟩
  refine hK.out _ _ ⟨a0, a1⟩ (fun _ => ?_)
  show wpAnyH Tryz.prog Region.Mode.any _ _ _ 13 #[true, true, true, true, true, true, true, true, true, false, false, false, false, false, false, false, false, false, false, false, false, false] { tmps := #[.agg #[.int .i64 3, .float .f64 X.1, .string s, .pointer r], .pointer (some ⟨w.heap.size, 0, none⟩), .bool false, .pointer (some ⟨w.heap.size, 0, none⟩), .int .i64 3, .bool true, .bool true, .pointer (some ⟨w.heap.size, 1, none⟩), .float .f64 X.1, .pointer (some ⟨w.heap.size, 1, none⟩), .float .f64 X.1, .float .f64 f, undef, undef, undef, undef, undef, undef, undef, undef, undef, undef, undef, undef], defers := [] } ((W0.drewN 1).drewN q)
  refine wpAnyH_take (i := 9) (v := .bool false) rfl (by kernel_rfl) (by kernel_rfl) (by kernel_rfl) (fun _ _ _ h => h) (.inl ⟨by rfl, fun Z hZ => ?_⟩) ⟨a0, a1⟩ ?_
  · obtain ⟨z0, z1⟩ := hZ
    first | rfl | go_simp
  show wpAnyH Tryz.prog Region.Mode.any _ _ _ 12 #[true, true, true, true, true, true, true, true, true, true, false, false, false, false, false, false, false, false, false, false, false, false] { tmps := #[.agg #[.int .i64 3, .float .f64 X.1, .string s, .pointer r], .pointer (some ⟨w.heap.size, 0, none⟩), .bool false, .pointer (some ⟨w.heap.size, 0, none⟩), .int .i64 3, .bool true, .bool true, .pointer (some ⟨w.heap.size, 1, none⟩), .float .f64 X.1, .pointer (some ⟨w.heap.size, 1, none⟩), .float .f64 X.1, .float .f64 f, .bool false, undef, undef, undef, undef, undef, undef, undef, undef, undef, undef, undef], defers := [] } ((W0.drewN 1).drewN q)
  refine wpAnyH_take (i := 10) (v := .bool false) rfl (by kernel_rfl) (by kernel_rfl) (by kernel_rfl) (fun _ _ _ h => h) (.inl ⟨by rfl, fun Z hZ => ?_⟩) ⟨a0, a1⟩ ?_
  · obtain ⟨z0, z1⟩ := hZ
    first | rfl | go_simp
  show wpAnyH Tryz.prog Region.Mode.any _ _ _ 11 #[true, true, true, true, true, true, true, true, true, true, true, false, false, false, false, false, false, false, false, false, false, false] { tmps := #[.agg #[.int .i64 3, .float .f64 X.1, .string s, .pointer r], .pointer (some ⟨w.heap.size, 0, none⟩), .bool false, .pointer (some ⟨w.heap.size, 0, none⟩), .int .i64 3, .bool true, .bool true, .pointer (some ⟨w.heap.size, 1, none⟩), .float .f64 X.1, .pointer (some ⟨w.heap.size, 1, none⟩), .float .f64 X.1, .float .f64 f, .bool false, .bool false, undef, undef, undef, undef, undef, undef, undef, undef, undef, undef], defers := [] } ((W0.drewN 1).drewN q)
  refine wpAnyH_take (i := 11) (v := .bool false) rfl (by kernel_rfl) (by kernel_rfl) (by kernel_rfl) (fun _ _ _ h => h) (.inl ⟨by rfl, fun Z hZ => ?_⟩) ⟨a0, a1⟩ ?_
  · obtain ⟨z0, z1⟩ := hZ
    first | rfl | go_simp
  show wpAnyH Tryz.prog Region.Mode.any _ _ _ 10 #[true, true, true, true, true, true, true, true, true, true, true, true, false, false, false, false, false, false, false, false, false, false] { tmps := #[.agg #[.int .i64 3, .float .f64 X.1, .string s, .pointer r], .pointer (some ⟨w.heap.size, 0, none⟩), .bool false, .pointer (some ⟨w.heap.size, 0, none⟩), .int .i64 3, .bool true, .bool true, .pointer (some ⟨w.heap.size, 1, none⟩), .float .f64 X.1, .pointer (some ⟨w.heap.size, 1, none⟩), .float .f64 X.1, .float .f64 f, .bool false, .bool false, .bool false, undef, undef, undef, undef, undef, undef, undef, undef, undef], defers := [] } ((W0.drewN 1).drewN q)
  refine wpAnyH_take (i := 12) (v := undef) rfl (by kernel_rfl) (by kernel_rfl) (by kernel_rfl) (fun _ _ _ h => h) (.inr ⟨by rfl, rfl⟩) ⟨a0, a1⟩ ?_
  show wpAnyH Tryz.prog Region.Mode.any _ _ _ 9 #[true, true, true, true, true, true, true, true, true, true, true, true, true, false, false, false, false, false, false, false, false, false] { tmps := #[.agg #[.int .i64 3, .float .f64 X.1, .string s, .pointer r], .pointer (some ⟨w.heap.size, 0, none⟩), .bool false, .pointer (some ⟨w.heap.size, 0, none⟩), .int .i64 3, .bool true, .bool true, .pointer (some ⟨w.heap.size, 1, none⟩), .float .f64 X.1, .pointer (some ⟨w.heap.size, 1, none⟩), .float .f64 X.1, .float .f64 f, .bool false, .bool false, .bool false, undef, undef, undef, undef, undef, undef, undef, undef, undef], defers := [] } ((W0.drewN 1).drewN q)
  refine wpAnyH_take (i := 13) (v := undef) rfl (by kernel_rfl) (by kernel_rfl) (by kernel_rfl) (fun _ _ _ h => h) (.inr ⟨by rfl, rfl⟩) ⟨a0, a1⟩ ?_
  show wpAnyH Tryz.prog Region.Mode.any _ _ _ 8 #[true, true, true, true, true, true, true, true, true, true, true, true, true, true, false, false, false, false, false, false, false, false] { tmps := #[.agg #[.int .i64 3, .float .f64 X.1, .string s, .pointer r], .pointer (some ⟨w.heap.size, 0, none⟩), .bool false, .pointer (some ⟨w.heap.size, 0, none⟩), .int .i64 3, .bool true, .bool true, .pointer (some ⟨w.heap.size, 1, none⟩), .float .f64 X.1, .pointer (some ⟨w.heap.size, 1, none⟩), .float .f64 X.1, .float .f64 f, .bool false, .bool false, .bool false, undef, undef, undef, undef, undef, undef, undef, undef, undef], defers := [] } ((W0.drewN 1).drewN q)
  refine wpAnyH_take (i := 14) (v := undef) rfl (by kernel_rfl) (by kernel_rfl) (by kernel_rfl) (fun _ _ _ h => h) (.inr ⟨by rfl, rfl⟩) ⟨a0, a1⟩ ?_
  show wpAnyH Tryz.prog Region.Mode.any _ _ _ 7 #[true, true, true, true, true, true, true, true, true, true, true, true, true, true, true, false, false, false, false, false, false, false] { tmps := #[.agg #[.int .i64 3, .float .f64 X.1, .string s, .pointer r], .pointer (some ⟨w.heap.size, 0, none⟩), .bool false, .pointer (some ⟨w.heap.size, 0, none⟩), .int .i64 3, .bool true, .bool true, .pointer (some ⟨w.heap.size, 1, none⟩), .float .f64 X.1, .pointer (some ⟨w.heap.size, 1, none⟩), .float .f64 X.1, .float .f64 f, .bool false, .bool false, .bool false, undef, undef, undef, undef, undef, undef, undef, undef, undef], defers := [] } ((W0.drewN 1).drewN q)
  refine wpAnyH_take (i := 15) (v := .bool false) rfl (by kernel_rfl) (by kernel_rfl) (by kernel_rfl) (fun _ _ _ h => h) (.inl ⟨by rfl, fun Z hZ => ?_⟩) ⟨a0, a1⟩ ?_
  · obtain ⟨z0, z1⟩ := hZ
    first | rfl | go_simp
  show wpAnyH Tryz.prog Region.Mode.any _ _ _ 6 #[true, true, true, true, true, true, true, true, true, true, true, true, true, true, true, true, false, false, false, false, false, false] { tmps := #[.agg #[.int .i64 3, .float .f64 X.1, .string s, .pointer r], .pointer (some ⟨w.heap.size, 0, none⟩), .bool false, .pointer (some ⟨w.heap.size, 0, none⟩), .int .i64 3, .bool true, .bool true, .pointer (some ⟨w.heap.size, 1, none⟩), .float .f64 X.1, .pointer (some ⟨w.heap.size, 1, none⟩), .float .f64 X.1, .float .f64 f, .bool false, .bool false, .bool false, undef, undef, undef, .bool false, undef, undef, undef, undef, undef], defers := [] } ((W0.drewN 1).drewN q)
  refine wpAnyH_take (i := 16) (v := .bool false) rfl (by kernel_rfl) (by kernel_rfl) (by kernel_rfl) (fun _ _ _ h => h) (.inl ⟨by rfl, fun Z hZ => ?_⟩) ⟨a0, a1⟩ ?_
  · obtain ⟨z0, z1⟩ := hZ
    first | rfl | go_simp
  show wpAnyH Tryz.prog Region.Mode.any _ _ _ 5 #[true, true, true, true, true, true, true, true, true, true, true, true, true, true, true, true, true, false, false, false, false, false] { tmps := #[.agg #[.int .i64 3, .float .f64 X.1, .string s, .pointer r], .pointer (some ⟨w.heap.size, 0, none⟩), .bool false, .pointer (some ⟨w.heap.size, 0, none⟩), .int .i64 3, .bool true, .bool true, .pointer (some ⟨w.heap.size, 1, none⟩), .float .f64 X.1, .pointer (some ⟨w.heap.size, 1, none⟩), .float .f64 X.1, .float .f64 f, .bool false, .bool false, .bool false, undef, undef, undef, .bool false, .bool false, undef, undef, undef, undef], defers := [] } ((W0.drewN 1).drewN q)
  refine wpAnyH_take (i := 17) (v := undef) rfl (by kernel_rfl) (by kernel_rfl) (by kernel_rfl) (fun _ _ _ h => h) (.inr ⟨by rfl, rfl⟩) ⟨a0, a1⟩ ?_
  show wpAnyH Tryz.prog Region.Mode.any _ _ _ 4 #[true, true, true, true, true, true, true, true, true, true, true, true, true, true, true, true, true, true, false, false, false, false] { tmps := #[.agg #[.int .i64 3, .float .f64 X.1, .string s, .pointer r], .pointer (some ⟨w.heap.size, 0, none⟩), .bool false, .pointer (some ⟨w.heap.size, 0, none⟩), .int .i64 3, .bool true, .bool true, .pointer (some ⟨w.heap.size, 1, none⟩), .float .f64 X.1, .pointer (some ⟨w.heap.size, 1, none⟩), .float .f64 X.1, .float .f64 f, .bool false, .bool false, .bool false, undef, undef, undef, .bool false, .bool false, undef, undef, undef, undef], defers := [] } ((W0.drewN 1).drewN q)
  refine wpAnyH_take (i := 18) (v := undef) rfl (by kernel_rfl) (by kernel_rfl) (by kernel_rfl) (fun _ _ _ h => h) (.inr ⟨by rfl, rfl⟩) ⟨a0, a1⟩ ?_
  show wpAnyH Tryz.prog Region.Mode.any _ _ _ 3 #[true, true, true, true, true, true, true, true, true, true, true, true, true, true, true, true, true, true, true, false, false, false] { tmps := #[.agg #[.int .i64 3, .float .f64 X.1, .string s, .pointer r], .pointer (some ⟨w.heap.size, 0, none⟩), .bool false, .pointer (some ⟨w.heap.size, 0, none⟩), .int .i64 3, .bool true, .bool true, .pointer (some ⟨w.heap.size, 1, none⟩), .float .f64 X.1, .pointer (some ⟨w.heap.size, 1, none⟩), .float .f64 X.1, .float .f64 f, .bool false, .bool false, .bool false, undef, undef, undef, .bool false, .bool false, undef, undef, undef, undef], defers := [] } ((W0.drewN 1).drewN q)
  refine wpAnyH_take (i := 19) (v := undef) rfl (by kernel_rfl) (by kernel_rfl) (by kernel_rfl) (fun _ _ _ h => h) (.inr ⟨by rfl, rfl⟩) ⟨a0, a1⟩ ?_
  show wpAnyH Tryz.prog Region.Mode.any _ _ _ 2 #[true, true, true, true, true, true, true, true, true, true, true, true, true, true, true, true, true, true, true, true, false, false] { tmps := #[.agg #[.int .i64 3, .float .f64 X.1, .string s, .pointer r], .pointer (some ⟨w.heap.size, 0, none⟩), .bool false, .pointer (some ⟨w.heap.size, 0, none⟩), .int .i64 3, .bool true, .bool true, .pointer (some ⟨w.heap.size, 1, none⟩), .float .f64 X.1, .pointer (some ⟨w.heap.size, 1, none⟩), .float .f64 X.1, .float .f64 f, .bool false, .bool false, .bool false, undef, undef, undef, .bool false, .bool false, undef, undef, undef, undef], defers := [] } ((W0.drewN 1).drewN q)
  refine wpAnyH_take (i := 20) (v := .bool false) rfl (by kernel_rfl) (by kernel_rfl) (by kernel_rfl) (fun _ _ _ h => h) (.inl ⟨by rfl, fun Z hZ => ?_⟩) ⟨a0, a1⟩ ?_
  · obtain ⟨z0, z1⟩ := hZ
    first | rfl | go_simp
  show wpAnyH Tryz.prog Region.Mode.any _ _ _ 1 #[true, true, true, true, true, true, true, true, true, true, true, true, true, true, true, true, true, true, true, true, true, false] { tmps := #[.agg #[.int .i64 3, .float .f64 X.1, .string s, .pointer r], .pointer (some ⟨w.heap.size, 0, none⟩), .bool false, .pointer (some ⟨w.heap.size, 0, none⟩), .int .i64 3, .bool true, .bool true, .pointer (some ⟨w.heap.size, 1, none⟩), .float .f64 X.1, .pointer (some ⟨w.heap.size, 1, none⟩), .float .f64 X.1, .float .f64 f, .bool false, .bool false, .bool false, undef, undef, undef, .bool false, .bool false, undef, undef, undef, .bool false], defers := [] } ((W0.drewN 1).drewN q)
  refine wpAnyH_take (i := 21) (v := .bool false) rfl (by kernel_rfl) (by kernel_rfl) (by kernel_rfl) (fun _ _ _ h => h) (.inl ⟨by rfl, fun Z hZ => ?_⟩) ⟨a0, a1⟩ ?_
  · obtain ⟨z0, z1⟩ := hZ
    first | rfl | go_simp
  refine wpAnyH_done (by kernel_rfl) ?_ 0
  go_wp2
  go_ret
  exact ⟨rfl, (HK.out.drw _).drw _⟩
set_option maxRecDepth 100000 in
set_option maxHeartbeats 2000000 in
theorem isLength_not (k : Int) (hk3 : k ≠ 3) (x : Nat) (s : ByteArray) (r : Option Addr) (w : World) :
    Calls Tryz.prog 93 #[.agg #[.int .i64 k, .float .f64 x, .string s, .pointer r]] w fun e w' => (∃ B, e = .returned (.bool B) ∧ LenB k x B) ∧ Kx [] w w' := by
  obtain ⟨W0, hW0⟩ : ∃ W0, W0 = w.alloc (Obj.cells #[.int .i64 k, .float .f64 x, .string s, .pointer r] 73) := ⟨_, rfl⟩
  have hk : Kx [] w W0 := by rw [hW0]; exact Kx.alloc _ _ _
  have h0 : W0.heap[w.heap.size]? = some (Obj.cells #[.int .i64 k, .float .f64 x, .string s, .pointer r] 73 (0, 0)) := by rw [hW0]; exact heap_alloc_new _ _
  have a0 := cell_at h0 0 rfl
  have a1 := cell_at h0 1 rfl
  have HK := (show Hid (Kx [] w W0) from hk)
  clear h0 hk
  go_enter Tryz.func93, Tryz.ntmps93
  go_upto_region 1 with fail
  rw [← hW0]
  clear hW0
  go_quiet (fail)
  go_wp2
  go_ret
  exact ⟨⟨false, rfl, fun h => by cases h⟩, HK.out.drw _⟩
set_option maxRecDepth 100000 in
set_option maxHeartbeats 2000000 in
theorem isLength_num (k : Int) (x : Nat) (hn : (Ieee.double.read x).isNaN = false) (s : ByteArray) (r : Option Addr) (w : World) :
    Calls Tryz.prog 93 #[.agg #[.int .i64 k, .float .f64 x, .string s, .pointer r]] w fun e w' => (∃ B, e = .returned (.bool B) ∧ LenB k x B) ∧ Kx [] w w' := by
  obtain ⟨W0, hW0⟩ : ∃ W0, W0 = w.alloc (Obj.cells #[.int .i64 k, .float .f64 x, .string s, .pointer r] 73) := ⟨_, rfl⟩
  have hk : Kx [] w W0 := by rw [hW0]; exact Kx.alloc _ _ _
  have h0 : W0.heap[w.heap.size]? = some (Obj.cells #[.int .i64 k, .float .f64 x, .string s, .pointer r] 73 (0, 0)) := by rw [hW0]; exact heap_alloc_new _ _
  have a0 := cell_at h0 0 rfl
  have a1 := cell_at h0 1 rfl
  have HK := (show Hid (Kx [] w W0) from hk)
  clear h0 hk
  by_cases hk3 : k = 3
  · subst hk3
    obtain ⟨f, cf⟩ := floor_num x hn
    clear hn
    have CF := (show Hid (∀ w, Calls Tryz.prog 122 #[.float .f64 x] w fun e w' => e = .returned (.float .f64 f) ∧ w' = w) from cf)
    clear cf
    obtain ⟨B1, hB1⟩ : ∃ B, (FloatKind.f64.format.order x f == some .eq) = B := ⟨_, rfl⟩
    obtain ⟨B2, hB2⟩ : ∃ B, (FloatKind.f64.format.order x 0 == some .gt || FloatKind.f64.format.order x 0 == some .eq) = B := ⟨_, rfl⟩
    go_enter Tryz.func93, Tryz.ntmps93
    go_upto_region 1 with fail
    rw [← hW0]
    clear hW0
    cases B1
    · go_quiet (first | (go_at_call 122; exact Calls.quiet_of_same (CF.out _)))
      go_wp2
      go_ret
      exact ⟨⟨false, rfl, fun h => by cases h⟩, HK.out.drw _⟩
    · cases B2
      · go_quiet (first | (go_at_call 122; exact Calls.quiet_of_same (CF.out _)))
        go_wp2
        go_ret
        exact ⟨⟨false, rfl, fun h => by cases h⟩, HK.out.drw _⟩
      · go_quiet (first | (go_at_call 122; exact Calls.quiet_of_same (CF.out _)))
        go_wp2
        go_ret
        exact ⟨⟨_, rfl, fun h => ⟨rfl, hB2, h⟩⟩, HK.out.drw _⟩
  · clear hW0 a0 a1 HK
    exact isLength_not k hk3 x s r w
theorem isLength_any (k : Int) (x : Nat) (s : ByteArray) (r : Option Addr) (w : World) :
    Calls Tryz.prog 93 #[.agg #[.int .i64 k, .float .f64 x, .string s, .pointer r]] w fun e w' => (∃ B, e = .returned (.bool B) ∧ LenB k x B) ∧ Kx [] w w' := by
  by_cases hn : (Ieee.double.read x).isNaN = true
  · by_cases hk : k = 3
    · subst hk
      exact (isLength_nan ⟨x, hn⟩ s r w).mono fun e w' h => ⟨⟨false, h.1, fun h => by cases h⟩, h.2⟩
    · exact isLength_not k hk x s r w
  · exact isLength_num k x (by simpa using hn) s r w
end Go.Proofs.YtmicdbplkfdfnaaGreatDoor
