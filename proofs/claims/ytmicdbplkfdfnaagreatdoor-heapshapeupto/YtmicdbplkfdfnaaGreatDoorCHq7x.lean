/- descOf of a property with a value. -/
import Derived.Test.YtmicdbplkfdfnaaGreatDoorCTm3x
import Derived.Test.YtmicdbplkfdfnaaGreatDoorCHo3x
import Derived.Deep.RegionLaw
import Derived.Test.YtmicdbplkfdfnaaGreatDoorCTj1x
import Derived.Test.YtmicdbplkfdfnaaGreatDoorCSq4x
set_option linter.unusedVariables false
namespace Go.Proofs.YtmicdbplkfdfnaaGreatDoor
open Go.RowKit Go.Shelf Go.Maps
attribute [local go_sem] run_store_flt

set_option maxRecDepth 100000 in
set_option maxHeartbeats 2000000 in
theorem descOf_val (wr en cf : Bool) (k : Int) (x : Nat) (tx : ByteArray) (p8 p9 : Option Addr) (w : World) :
    Calls Tryz.prog 27 #[.agg #[.bool wr, .bool en, .bool cf, .bool false, .int .i64 k, .float .f64 x, .string tx, .pointer none, .pointer p8, .pointer p9]] w fun e w' => e = .returned (.agg #[.bool true, .bool false, .bool false, .bool true, .bool true, .bool true, .int .i64 k, .float .f64 x, .string tx, .int .i64 0, .int .i64 0, .int .i64 0, .bool wr, .bool en, .bool cf]) ∧ Kx [] w w' := by
  have c := plainValue_any k x tx
  obtain ⟨W0, hW0⟩ : ∃ W0, W0 = ((w.alloc (Obj.cells #[.bool wr, .bool en, .bool cf, .bool false, .int .i64 k, .float .f64 x, .string tx, .pointer none, .pointer p8, .pointer p9] 75)).alloc (Obj.cells #[.bool false, .bool false, .bool false, .bool false, .bool false, .bool false, .int .i64 0, .float .f64 0, .string ⟨#[]⟩, .int .i64 0, .int .i64 0, .int .i64 0, .bool false, .bool false, .bool false] 34)).alloc (Obj.cells #[.bool true, .bool false, .bool false, .bool true, .bool true, .bool true, .int .i64 0, .float .f64 0, .string ⟨#[]⟩, .int .i64 0, .int .i64 0, .int .i64 0, .bool false, .bool en, .bool cf] 34) := ⟨_, rfl⟩
  have hk0 : Kx [] w W0 := by rw [hW0]; exact (show Kx [] w _ from ((Kx.alloc _ _ _).alc _).alc _)
  have hP0 : W0.heap[w.heap.size]? = some (Obj.cells #[.bool wr, .bool en, .bool cf, .bool false, .int .i64 k, .float .f64 x, .string tx, .pointer none, .pointer p8, .pointer p9] 75 (0, 0)) := by rw [hW0]; exact heap_old (heap_old (heap_alloc_new _ _) _) _
  have hR0 : W0.heap[w.heap.size + 1]? = some (Obj.cells #[.bool false, .bool false, .bool false, .bool false, .bool false, .bool false, .int .i64 0, .float .f64 0, .string ⟨#[]⟩, .int .i64 0, .int .i64 0, .int .i64 0, .bool false, .bool false, .bool false] 34 (0, 0)) := by rw [hW0]; exact heap_old (heap_alloc2_new _ _ _) _
  have hD0 : W0.heap[w.heap.size + 1 + 1]? = some (Obj.cells #[.bool true, .bool false, .bool false, .bool true, .bool true, .bool true, .int .i64 0, .float .f64 0, .string ⟨#[]⟩, .int .i64 0, .int .i64 0, .int .i64 0, .bool false, .bool en, .bool cf] 34 (0, 0)) := by
    have e : w.heap.size + 1 + 1 = ((w.alloc (Obj.cells #[.bool wr, .bool en, .bool cf, .bool false, .int .i64 k, .float .f64 x, .string tx, .pointer none, .pointer p8, .pointer p9] 75)).alloc (Obj.cells #[.bool false, .bool false, .bool false, .bool false, .bool false, .bool false, .int .i64 0, .float .f64 0, .string ⟨#[]⟩, .int .i64 0, .int .i64 0, .int .i64 0, .bool false, .bool false, .bool false] 34)).heap.size := by simp
    rw [hW0, e]; exact heap_alloc_new _ _
  have a0 := cell_at hP0 0 rfl
  have a4 := cell_at hP0 4 rfl
  have a5 := cell_at hP0 5 rfl
  have a6 := cell_at hP0 6 rfl
  have a7 := cell_at hP0 7 rfl
  have HK0 : Hid (Kx [] w W0) := (show Kx [] w W0 from hk0)
  have HP0 := (show Hid _ from hP0)
  have HR0 := (show Hid _ from hR0)
  have HD0 := (show Hid _ from hD0)
  clear hk0 hP0 hR0 hD0
  go_enter Tryz.func27, Tryz.ntmps27
  go_wp2
  rw [← hW0]
  clear hW0
  go_region_law (first | (go_simp; go_at_call 55; refine (c _).mono ?_; rintro e w1 ⟨rfl, hk1⟩; have JP0 : Hid (w1.heap[w.heap.size]? = some (Obj.cells #[.bool wr, .bool en, .bool cf, .bool false, .int .i64 k, .float .f64 x, .string tx, .pointer none, .pointer p8, .pointer p9] 75 (0, 0))) := hk1.get HP0.out (by simp); have JR0 : Hid (w1.heap[w.heap.size + 1]? = some (Obj.cells #[.bool false, .bool false, .bool false, .bool false, .bool false, .bool false, .int .i64 0, .float .f64 0, .string ⟨#[]⟩, .int .i64 0, .int .i64 0, .int .i64 0, .bool false, .bool false, .bool false] 34 (0, 0))) := hk1.get HR0.out (by simp); have JD0 : Hid (w1.heap[w.heap.size + 1 + 1]? = some (Obj.cells #[.bool true, .bool false, .bool false, .bool true, .bool true, .bool true, .int .i64 0, .float .f64 0, .string ⟨#[]⟩, .int .i64 0, .int .i64 0, .int .i64 0, .bool false, .bool en, .bool cf] 34 (0, 0))) := hk1.get HD0.out (by simp); have y0 := cell_at JP0.out 0 rfl; have y4 := cell_at JP0.out 4 rfl; have y5 := cell_at JP0.out 5 rfl; have y6 := cell_at JP0.out 6 rfl; have y7 := cell_at JP0.out 7 rfl; have d6 := cell_at JD0.out 6 rfl; have g6 := fr_all JD0.out 6; have d7 := cell_at JD0.out 7 rfl; have g7 := fr_all JD0.out 7; have d8 := cell_at JD0.out 8 rfl; have g8 := fr_all JD0.out 8; have d9 := cell_at JD0.out 9 rfl; have g9 := fr_all JD0.out 9; have d12 := cell_at JD0.out 12 rfl; have g12 := fr_all JD0.out 12; have JD1 : Hid ((w1.setCell ⟨w.heap.size + 1 + 1, 6, none⟩ (.int .i64 k)).heap[w.heap.size + 1 + 1]? = some (Obj.cells #[.bool true, .bool false, .bool false, .bool true, .bool true, .bool true, .int .i64 k, .float .f64 0, .string ⟨#[]⟩, .int .i64 0, .int .i64 0, .int .i64 0, .bool false, .bool en, .bool cf] 34 (0, 0))) := heap_set_at JD0.out 6 (.int .i64 k) rfl; have JP1 : Hid ((w1.setCell ⟨w.heap.size + 1 + 1, 6, none⟩ (.int .i64 k)).heap[w.heap.size]? = some (Obj.cells #[.bool wr, .bool en, .bool cf, .bool false, .int .i64 k, .float .f64 x, .string tx, .pointer none, .pointer p8, .pointer p9] 75 (0, 0))) := heap_setCell_ne JP0.out (by omega) 6 (.int .i64 k); have JR1 : Hid ((w1.setCell ⟨w.heap.size + 1 + 1, 6, none⟩ (.int .i64 k)).heap[w.heap.size + 1]? = some (Obj.cells #[.bool false, .bool false, .bool false, .bool false, .bool false, .bool false, .int .i64 0, .float .f64 0, .string ⟨#[]⟩, .int .i64 0, .int .i64 0, .int .i64 0, .bool false, .bool false, .bool false] 34 (0, 0))) := heap_setCell_ne JR0.out (by omega) 6 (.int .i64 k); have JD2 : Hid (((w1.setCell ⟨w.heap.size + 1 + 1, 6, none⟩ (.int .i64 k)).setCell ⟨w.heap.size + 1 + 1, 7, none⟩ (.float .f64 x)).heap[w.heap.size + 1 + 1]? = some (Obj.cells #[.bool true, .bool false, .bool false, .bool true, .bool true, .bool true, .int .i64 k, .float .f64 x, .string ⟨#[]⟩, .int .i64 0, .int .i64 0, .int .i64 0, .bool false, .bool en, .bool cf] 34 (0, 0))) := heap_set_at JD1.out 7 (.float .f64 x) rfl; have JP2 : Hid (((w1.setCell ⟨w.heap.size + 1 + 1, 6, none⟩ (.int .i64 k)).setCell ⟨w.heap.size + 1 + 1, 7, none⟩ (.float .f64 x)).heap[w.heap.size]? = some (Obj.cells #[.bool wr, .bool en, .bool cf, .bool false, .int .i64 k, .float .f64 x, .string tx, .pointer none, .pointer p8, .pointer p9] 75 (0, 0))) := heap_setCell_ne JP1.out (by omega) 7 (.float .f64 x); have JR2 : Hid (((w1.setCell ⟨w.heap.size + 1 + 1, 6, none⟩ (.int .i64 k)).setCell ⟨w.heap.size + 1 + 1, 7, none⟩ (.float .f64 x)).heap[w.heap.size + 1]? = some (Obj.cells #[.bool false, .bool false, .bool false, .bool false, .bool false, .bool false, .int .i64 0, .float .f64 0, .string ⟨#[]⟩, .int .i64 0, .int .i64 0, .int .i64 0, .bool false, .bool false, .bool false] 34 (0, 0))) := heap_setCell_ne JR1.out (by omega) 7 (.float .f64 x); have JD3 : Hid ((((w1.setCell ⟨w.heap.size + 1 + 1, 6, none⟩ (.int .i64 k)).setCell ⟨w.heap.size + 1 + 1, 7, none⟩ (.float .f64 x)).setCell ⟨w.heap.size + 1 + 1, 8, none⟩ (.string tx)).heap[w.heap.size + 1 + 1]? = some (Obj.cells #[.bool true, .bool false, .bool false, .bool true, .bool true, .bool true, .int .i64 k, .float .f64 x, .string tx, .int .i64 0, .int .i64 0, .int .i64 0, .bool false, .bool en, .bool cf] 34 (0, 0))) := heap_set_at JD2.out 8 (.string tx) rfl; have JP3 : Hid ((((w1.setCell ⟨w.heap.size + 1 + 1, 6, none⟩ (.int .i64 k)).setCell ⟨w.heap.size + 1 + 1, 7, none⟩ (.float .f64 x)).setCell ⟨w.heap.size + 1 + 1, 8, none⟩ (.string tx)).heap[w.heap.size]? = some (Obj.cells #[.bool wr, .bool en, .bool cf, .bool false, .int .i64 k, .float .f64 x, .string tx, .pointer none, .pointer p8, .pointer p9] 75 (0, 0))) := heap_setCell_ne JP2.out (by omega) 8 (.string tx); have JR3 : Hid ((((w1.setCell ⟨w.heap.size + 1 + 1, 6, none⟩ (.int .i64 k)).setCell ⟨w.heap.size + 1 + 1, 7, none⟩ (.float .f64 x)).setCell ⟨w.heap.size + 1 + 1, 8, none⟩ (.string tx)).heap[w.heap.size + 1]? = some (Obj.cells #[.bool false, .bool false, .bool false, .bool false, .bool false, .bool false, .int .i64 0, .float .f64 0, .string ⟨#[]⟩, .int .i64 0, .int .i64 0, .int .i64 0, .bool false, .bool false, .bool false] 34 (0, 0))) := heap_setCell_ne JR2.out (by omega) 8 (.string tx); have JD4 : Hid (((((w1.setCell ⟨w.heap.size + 1 + 1, 6, none⟩ (.int .i64 k)).setCell ⟨w.heap.size + 1 + 1, 7, none⟩ (.float .f64 x)).setCell ⟨w.heap.size + 1 + 1, 8, none⟩ (.string tx)).setCell ⟨w.heap.size + 1 + 1, 9, none⟩ (.int .i64 0)).heap[w.heap.size + 1 + 1]? = some (Obj.cells #[.bool true, .bool false, .bool false, .bool true, .bool true, .bool true, .int .i64 k, .float .f64 x, .string tx, .int .i64 0, .int .i64 0, .int .i64 0, .bool false, .bool en, .bool cf] 34 (0, 0))) := heap_set_at JD3.out 9 (.int .i64 0) rfl; have JP4 : Hid (((((w1.setCell ⟨w.heap.size + 1 + 1, 6, none⟩ (.int .i64 k)).setCell ⟨w.heap.size + 1 + 1, 7, none⟩ (.float .f64 x)).setCell ⟨w.heap.size + 1 + 1, 8, none⟩ (.string tx)).setCell ⟨w.heap.size + 1 + 1, 9, none⟩ (.int .i64 0)).heap[w.heap.size]? = some (Obj.cells #[.bool wr, .bool en, .bool cf, .bool false, .int .i64 k, .float .f64 x, .string tx, .pointer none, .pointer p8, .pointer p9] 75 (0, 0))) := heap_setCell_ne JP3.out (by omega) 9 (.int .i64 0); have JR4 : Hid (((((w1.setCell ⟨w.heap.size + 1 + 1, 6, none⟩ (.int .i64 k)).setCell ⟨w.heap.size + 1 + 1, 7, none⟩ (.float .f64 x)).setCell ⟨w.heap.size + 1 + 1, 8, none⟩ (.string tx)).setCell ⟨w.heap.size + 1 + 1, 9, none⟩ (.int .i64 0)).heap[w.heap.size + 1]? = some (Obj.cells #[.bool false, .bool false, .bool false, .bool false, .bool false, .bool false, .int .i64 0, .float .f64 0, .string ⟨#[]⟩, .int .i64 0, .int .i64 0, .int .i64 0, .bool false, .bool false, .bool false] 34 (0, 0))) := heap_setCell_ne JR3.out (by omega) 9 (.int .i64 0); have JD5 : Hid ((((((w1.setCell ⟨w.heap.size + 1 + 1, 6, none⟩ (.int .i64 k)).setCell ⟨w.heap.size + 1 + 1, 7, none⟩ (.float .f64 x)).setCell ⟨w.heap.size + 1 + 1, 8, none⟩ (.string tx)).setCell ⟨w.heap.size + 1 + 1, 9, none⟩ (.int .i64 0)).setCell ⟨w.heap.size + 1 + 1, 12, none⟩ (.bool wr)).heap[w.heap.size + 1 + 1]? = some (Obj.cells #[.bool true, .bool false, .bool false, .bool true, .bool true, .bool true, .int .i64 k, .float .f64 x, .string tx, .int .i64 0, .int .i64 0, .int .i64 0, .bool wr, .bool en, .bool cf] 34 (0, 0))) := heap_set_at JD4.out 12 (.bool wr) rfl; have JP5 : Hid ((((((w1.setCell ⟨w.heap.size + 1 + 1, 6, none⟩ (.int .i64 k)).setCell ⟨w.heap.size + 1 + 1, 7, none⟩ (.float .f64 x)).setCell ⟨w.heap.size + 1 + 1, 8, none⟩ (.string tx)).setCell ⟨w.heap.size + 1 + 1, 9, none⟩ (.int .i64 0)).setCell ⟨w.heap.size + 1 + 1, 12, none⟩ (.bool wr)).heap[w.heap.size]? = some (Obj.cells #[.bool wr, .bool en, .bool cf, .bool false, .int .i64 k, .float .f64 x, .string tx, .pointer none, .pointer p8, .pointer p9] 75 (0, 0))) := heap_setCell_ne JP4.out (by omega) 12 (.bool wr); have JR5 : Hid ((((((w1.setCell ⟨w.heap.size + 1 + 1, 6, none⟩ (.int .i64 k)).setCell ⟨w.heap.size + 1 + 1, 7, none⟩ (.float .f64 x)).setCell ⟨w.heap.size + 1 + 1, 8, none⟩ (.string tx)).setCell ⟨w.heap.size + 1 + 1, 9, none⟩ (.int .i64 0)).setCell ⟨w.heap.size + 1 + 1, 12, none⟩ (.bool wr)).heap[w.heap.size + 1]? = some (Obj.cells #[.bool false, .bool false, .bool false, .bool false, .bool false, .bool false, .int .i64 0, .float .f64 0, .string ⟨#[]⟩, .int .i64 0, .int .i64 0, .int .i64 0, .bool false, .bool false, .bool false] 34 (0, 0))) := heap_setCell_ne JR4.out (by omega) 12 (.bool wr); have u0 := cell_at JP4.out 0 rfl; have v0 := cell_at JP5.out 0 rfl; have u4 := cell_at JP4.out 4 rfl; have v4 := cell_at JP5.out 4 rfl; have u5 := cell_at JP4.out 5 rfl; have v5 := cell_at JP5.out 5 rfl; have u6 := cell_at JP4.out 6 rfl; have v6 := cell_at JP5.out 6 rfl; have u7 := cell_at JP4.out 7 rfl; have v7 := cell_at JP5.out 7 rfl; have g13 := fr_all JD4.out 12; have d13 := cell_at JD4.out 12 rfl; have HK1 : Hid (Kx [] w w1) := (show Kx [] w w1 from (HK0.out.drw1).same hk1)))
  all_goals
    clear a0 a4 a5 a6 a7 y0 y4 y5 y6 y7 u0 u4 u5 u6 u7 v0 v4 v5 v6 v7 d6 d7 d8 d9 d12 g6 g7 g8 g9 g12 d13 g13 JD0 JD1 JD2 JD3 JD4 JP0 JP1 JP2 JP3 JP4 JP5 JR0 JR1 JR2 JR3 JR4 HP0 HR0 HD0 HK0 hk1 c
    obtain ⟨W5, hW5⟩ : ∃ W5, W5 = (((((w1.setCell ⟨w.heap.size + 1 + 1, 6, none⟩ (.int .i64 k)).setCell ⟨w.heap.size + 1 + 1, 7, none⟩ (.float .f64 x)).setCell ⟨w.heap.size + 1 + 1, 8, none⟩ (.string tx)).setCell ⟨w.heap.size + 1 + 1, 9, none⟩ (.int .i64 0)).setCell ⟨w.heap.size + 1 + 1, 12, none⟩ (.bool wr)) := ⟨_, rfl⟩
    have HK5 : Hid (Kx [] w W5) := by rw [hW5]; exact (show Kx [] w _ from HK1.out.trans ((((((Kx.refl [w.heap.size + 1, w.heap.size + 1 + 1] w1).set (by simp) _).set (by simp) _).set (by simp) _).set (by simp) _).set (by simp) _) (fun i hi => .inr (by simp at hi; omega)))
    rw [← hW5] at JD5 JR5 ⊢
    clear hW5 HK1
    have z0 := cell_at JD5.out 0 rfl
    have z1 := cell_at JD5.out 1 rfl
    have z2 := cell_at JD5.out 2 rfl
    have z3 := cell_at JD5.out 3 rfl
    have z4 := cell_at JD5.out 4 rfl
    have z5 := cell_at JD5.out 5 rfl
    have z6 := cell_at JD5.out 6 rfl
    have z7 := cell_at JD5.out 7 rfl
    have z8 := cell_at JD5.out 8 rfl
    have z9 := cell_at JD5.out 9 rfl
    have z10 := cell_at JD5.out 10 rfl
    have z11 := cell_at JD5.out 11 rfl
    have z12 := cell_at JD5.out 12 rfl
    have z13 := cell_at JD5.out 13 rfl
    have z14 := cell_at JD5.out 14 rfl
    have q0 := cell_at JR5.out 0 rfl
    have q1 := cell_at JR5.out 1 rfl
    have q2 := cell_at JR5.out 2 rfl
    have q3 := cell_at JR5.out 3 rfl
    have q4 := cell_at JR5.out 4 rfl
    have q5 := cell_at JR5.out 5 rfl
    have q6 := cell_at JR5.out 6 rfl
    have q7 := cell_at JR5.out 7 rfl
    have q8 := cell_at JR5.out 8 rfl
    have q9 := cell_at JR5.out 9 rfl
    have q10 := cell_at JR5.out 10 rfl
    have q11 := cell_at JR5.out 11 rfl
    have q12 := cell_at JR5.out 12 rfl
    have q13 := cell_at JR5.out 13 rfl
    have q14 := cell_at JR5.out 14 rfl
    have hf := fr_all JR5.out
    go_wp2
    have r0 := heap_set_at (C' := #[.bool true, .bool false, .bool false, .bool false, .bool false, .bool false, .int .i64 0, .float .f64 0, .string ⟨#[]⟩, .int .i64 0, .int .i64 0, .int .i64 0, .bool false, .bool false, .bool false]) JR5.out 0 (.bool true) rfl
    have r1 := heap_set_at (C' := #[.bool true, .bool false, .bool false, .bool false, .bool false, .bool false, .int .i64 0, .float .f64 0, .string ⟨#[]⟩, .int .i64 0, .int .i64 0, .int .i64 0, .bool false, .bool false, .bool false]) r0 1 (.bool false) rfl
    have r2 := heap_set_at (C' := #[.bool true, .bool false, .bool false, .bool false, .bool false, .bool false, .int .i64 0, .float .f64 0, .string ⟨#[]⟩, .int .i64 0, .int .i64 0, .int .i64 0, .bool false, .bool false, .bool false]) r1 2 (.bool false) rfl
    have r3 := heap_set_at (C' := #[.bool true, .bool false, .bool false, .bool true, .bool false, .bool false, .int .i64 0, .float .f64 0, .string ⟨#[]⟩, .int .i64 0, .int .i64 0, .int .i64 0, .bool false, .bool false, .bool false]) r2 3 (.bool true) rfl
    have r4 := heap_set_at (C' := #[.bool true, .bool false, .bool false, .bool true, .bool true, .bool false, .int .i64 0, .float .f64 0, .string ⟨#[]⟩, .int .i64 0, .int .i64 0, .int .i64 0, .bool false, .bool false, .bool false]) r3 4 (.bool true) rfl
    have r5 := heap_set_at (C' := #[.bool true, .bool false, .bool false, .bool true, .bool true, .bool true, .int .i64 0, .float .f64 0, .string ⟨#[]⟩, .int .i64 0, .int .i64 0, .int .i64 0, .bool false, .bool false, .bool false]) r4 5 (.bool true) rfl
    have r6 := heap_set_at (C' := #[.bool true, .bool false, .bool false, .bool true, .bool true, .bool true, .int .i64 k, .float .f64 0, .string ⟨#[]⟩, .int .i64 0, .int .i64 0, .int .i64 0, .bool false, .bool false, .bool false]) r5 6 (.int .i64 k) rfl
    have r7 := heap_set_at (C' := #[.bool true, .bool false, .bool false, .bool true, .bool true, .bool true, .int .i64 k, .float .f64 x, .string ⟨#[]⟩, .int .i64 0, .int .i64 0, .int .i64 0, .bool false, .bool false, .bool false]) r6 7 (.float .f64 x) rfl
    have r8 := heap_set_at (C' := #[.bool true, .bool false, .bool false, .bool true, .bool true, .bool true, .int .i64 k, .float .f64 x, .string tx, .int .i64 0, .int .i64 0, .int .i64 0, .bool false, .bool false, .bool false]) r7 8 (.string tx) rfl
    have r9 := heap_set_at (C' := #[.bool true, .bool false, .bool false, .bool true, .bool true, .bool true, .int .i64 k, .float .f64 x, .string tx, .int .i64 0, .int .i64 0, .int .i64 0, .bool false, .bool false, .bool false]) r8 9 (.int .i64 0) rfl
    have r10 := heap_set_at (C' := #[.bool true, .bool false, .bool false, .bool true, .bool true, .bool true, .int .i64 k, .float .f64 x, .string tx, .int .i64 0, .int .i64 0, .int .i64 0, .bool false, .bool false, .bool false]) r9 10 (.int .i64 0) rfl
    have r11 := heap_set_at (C' := #[.bool true, .bool false, .bool false, .bool true, .bool true, .bool true, .int .i64 k, .float .f64 x, .string tx, .int .i64 0, .int .i64 0, .int .i64 0, .bool false, .bool false, .bool false]) r10 11 (.int .i64 0) rfl
    have r12 := heap_set_at (C' := #[.bool true, .bool false, .bool false, .bool true, .bool true, .bool true, .int .i64 k, .float .f64 x, .string tx, .int .i64 0, .int .i64 0, .int .i64 0, .bool wr, .bool false, .bool false]) r11 12 (.bool wr) rfl
    have r13 := heap_set_at (C' := #[.bool true, .bool false, .bool false, .bool true, .bool true, .bool true, .int .i64 k, .float .f64 x, .string tx, .int .i64 0, .int .i64 0, .int .i64 0, .bool wr, .bool en, .bool false]) r12 13 (.bool en) rfl
    have r14 := heap_set_at (C' := #[.bool true, .bool false, .bool false, .bool true, .bool true, .bool true, .int .i64 k, .float .f64 x, .string tx, .int .i64 0, .int .i64 0, .int .i64 0, .bool wr, .bool en, .bool cf]) r13 14 (.bool cf) rfl
    refine bodyPost_ret (results_cell_row rfl _ _ (w.heap.size + 1) 34 _ (0, 0) _ rfl r14 Tryz.underlying34 rfl (by kernel_rfl)) rfl ?_
    exact ⟨rfl, HK5.out.trans ((((((((((((((((Kx.refl [w.heap.size + 1] W5).set (by simp) _).set (by simp) _).set (by simp) _).set (by simp) _).set (by simp) _).set (by simp) _).set (by simp) _).set (by simp) _).set (by simp) _).set (by simp) _).set (by simp) _).set (by simp) _).set (by simp) _).set (by simp) _).set (by simp) _) (fun i hi => .inr (by simp at hi; omega))⟩
end Go.Proofs.YtmicdbplkfdfnaaGreatDoor
set_option linter.unusedVariables false
namespace Go.Proofs.YtmicdbplkfdfnaaGreatDoor
open Go.RowKit Go.Shelf Go.Maps
attribute [local go_sem] run_store_flt
set_option maxRecDepth 100000 in
set_option maxHeartbeats 2000000 in
theorem ownF_yes (O H b : Nat) (l : List Nat) (r : Int) (s nm : ByteArray) (pl : Int) (isP : Bool) (p0 p1 p2 : Bool) (k : Int) (x : Nat) (tx : ByteArray) (p8 p9 : Option Addr) (w : World)
    (hO : w.cell? ⟨O, 0, none⟩ = some (.pointer (some ⟨H, 0, none⟩))) (hH : Objs w H l) (hr1 : 1 ≤ r) (hr : l[(r - 1).toNat]? = some b)
    (cK : ∀ W, Kx [] w W → Calls Tryz.prog 26 #[.string s] W fun e w' => e = .returned (.agg #[.string nm, .int .u32 pl, .bool isP]) ∧ Kx [] W w')
    (cO : ∀ W, Kx [] w W → Calls Tryz.prog 25 #[.pointer (some ⟨b, 0, none⟩), .agg #[.string nm, .int .u32 pl, .bool isP]] W fun e w' => e = .returned (.tuple #[.agg #[.bool p0, .bool p1, .bool p2, .bool false, .int .i64 k, .float .f64 x, .string tx, .pointer none, .pointer p8, .pointer p9], .bool true]) ∧ Kx [] W w') :
    Calls Tryz.prog 10 #[.pointer (some ⟨O, 0, none⟩), .int .i64 r, .string s] w fun e w' => e = .returned (.tuple #[.agg #[.bool true, .bool false, .bool false, .bool true, .bool true, .bool true, .int .i64 k, .float .f64 x, .string tx, .int .i64 0, .int .i64 0, .int .i64 0, .bool p0, .bool p1, .bool p2], .bool true]) ∧ Kx [] w w' := by
  obtain ⟨W0, hW0⟩ : ∃ W0, W0 = w.alloc (Obj.cells #[.bool false, .bool false, .bool false, .bool false, .bool false, .bool false, .int .i64 0, .float .f64 0, .string ⟨#[]⟩, .int .i64 0, .int .i64 0, .int .i64 0, .bool false, .bool false, .bool false] 34) := ⟨_, rfl⟩
  have hk0 : Kx [] w W0 := by rw [hW0]; exact Kx.alloc _ _ _
  have hR0 : W0.heap[w.heap.size]? = some (Obj.cells #[.bool false, .bool false, .bool false, .bool false, .bool false, .bool false, .int .i64 0, .float .f64 0, .string ⟨#[]⟩, .int .i64 0, .int .i64 0, .int .i64 0, .bool false, .bool false, .bool false] 34 (0, 0)) := by rw [hW0]; exact heap_alloc_new _ _
  have o0 : W0.cell? ⟨O, 0, none⟩ = some (.pointer (some ⟨H, 0, none⟩)) := hk0.cell hO (by simp)
  have c1 := numbered_any H l r W0 (hH.kept hk0)
  rw [objP_hit hr1 hr] at c1
  have CK := (show Hid _ from cK)
  have CO := (show Hid _ from cO)
  have HK0 : Hid (Kx [] w W0) := (show Kx [] w W0 from hk0)
  have HR0 := (show Hid _ from hR0)
  clear cK cO hH hO hr1 hr hk0 hR0
  rw [hW0] at o0

  go_enter Tryz.func10, Tryz.ntmps10
  go_wp2_with (first | (go_at_call 21; fail))
  rw [← hW0]
  clear hW0 o0
  refine c1.mono ?_
  rintro e w1 ⟨rfl, rfl⟩
  go_wp2_with (first | (go_at_call 26; fail))
  refine (CK.out _ HK0.out).mono ?_
  rintro e w2 ⟨rfl, hk2⟩
  have HK2 : Hid (Kx [] w w2) := (show Kx [] w w2 from HK0.out.same hk2)
  replace HR0 : Hid (w2.heap[w.heap.size]? = some (Obj.cells #[.bool false, .bool false, .bool false, .bool false, .bool false, .bool false, .int .i64 0, .float .f64 0, .string ⟨#[]⟩, .int .i64 0, .int .i64 0, .int .i64 0, .bool false, .bool false, .bool false] 34 (0, 0))) := hk2.get HR0.out (by simp)
  clear hk2 CK HK0 c1
  go_wp2_with (first | (go_at_call 25; fail))
  refine (CO.out _ HK2.out).mono ?_
  rintro e w3 ⟨rfl, hk3⟩
  have HK3 : Hid (Kx [] w w3) := (show Kx [] w w3 from HK2.out.same hk3)
  replace HR0 : Hid (w3.heap[w.heap.size]? = some (Obj.cells #[.bool false, .bool false, .bool false, .bool false, .bool false, .bool false, .int .i64 0, .float .f64 0, .string ⟨#[]⟩, .int .i64 0, .int .i64 0, .int .i64 0, .bool false, .bool false, .bool false] 34 (0, 0))) := hk3.get HR0.out (by simp)
  clear hk3 CO HK2
  obtain ⟨W4, hW4⟩ : ∃ W4, W4 = w3.alloc (Obj.cells #[.bool p0, .bool p1, .bool p2, .bool false, .int .i64 k, .float .f64 x, .string tx, .pointer none, .pointer p8, .pointer p9] 75) := ⟨_, rfl⟩
  have HK4 : Hid (Kx [] w W4) := by rw [hW4]; exact (show Kx [] w _ from HK3.out.alc _)
  have HR4 : Hid (W4.heap[w.heap.size]? = some (Obj.cells #[.bool false, .bool false, .bool false, .bool false, .bool false, .bool false, .int .i64 0, .float .f64 0, .string ⟨#[]⟩, .int .i64 0, .int .i64 0, .int .i64 0, .bool false, .bool false, .bool false] 34 (0, 0))) := by rw [hW4]; exact heap_old HR0.out _
  have HP4 : Hid (W4.heap[w3.heap.size]? = some (Obj.cells #[.bool p0, .bool p1, .bool p2, .bool false, .int .i64 k, .float .f64 x, .string tx, .pointer none, .pointer p8, .pointer p9] 75 (0, 0))) := by rw [hW4]; exact heap_alloc_new _ _
  clear HK3 HR0

  have z0 := cell_at HP4.out 0 rfl
  have z1 := cell_at HP4.out 1 rfl
  have z2 := cell_at HP4.out 2 rfl
  have z3 := cell_at HP4.out 3 rfl
  have z4 := cell_at HP4.out 4 rfl
  have z5 := cell_at HP4.out 5 rfl
  have z6 := cell_at HP4.out 6 rfl
  have z7 := cell_at HP4.out 7 rfl
  have z8 := cell_at HP4.out 8 rfl
  have z9 := cell_at HP4.out 9 rfl
  rw [hW4] at z0 z1 z2 z3 z4 z5 z6 z7 z8 z9
  go_wp2_with (first | (go_at_call 27; fail))
  rw [← hW4]
  clear hW4 z0 z1 z2 z3 z4 z5 z6 z7 z8 z9
  refine (descOf_val p0 p1 p2 k x tx p8 p9 W4).mono ?_
  rintro e w5 ⟨rfl, hk5⟩
  have HR5 : Hid (w5.heap[w.heap.size]? = some (Obj.cells #[.bool false, .bool false, .bool false, .bool false, .bool false, .bool false, .int .i64 0, .float .f64 0, .string ⟨#[]⟩, .int .i64 0, .int .i64 0, .int .i64 0, .bool false, .bool false, .bool false] 34 (0, 0))) := hk5.get HR4.out (by simp)
  have HK5 : Hid (Kx [] w w5) := (show Kx [] w w5 from HK4.out.same hk5)
  clear hk5 HK4 HR4 HP4
  have q0 := cell_at HR5.out 0 rfl
  have q1 := cell_at HR5.out 1 rfl
  have q2 := cell_at HR5.out 2 rfl
  have q3 := cell_at HR5.out 3 rfl
  have q4 := cell_at HR5.out 4 rfl
  have q5 := cell_at HR5.out 5 rfl
  have q6 := cell_at HR5.out 6 rfl
  have q7 := cell_at HR5.out 7 rfl
  have q8 := cell_at HR5.out 8 rfl
  have q9 := cell_at HR5.out 9 rfl
  have q10 := cell_at HR5.out 10 rfl
  have q11 := cell_at HR5.out 11 rfl
  have q12 := cell_at HR5.out 12 rfl
  have q13 := cell_at HR5.out 13 rfl
  have q14 := cell_at HR5.out 14 rfl
  have hf := fr_all HR5.out
  go_wp2
  have r0 := heap_set_at (C' := #[.bool true, .bool false, .bool false, .bool false, .bool false, .bool false, .int .i64 0, .float .f64 0, .string ⟨#[]⟩, .int .i64 0, .int .i64 0, .int .i64 0, .bool false, .bool false, .bool false]) HR5.out 0 (.bool true) rfl
  have r1 := heap_set_at (C' := #[.bool true, .bool false, .bool false, .bool false, .bool false, .bool false, .int .i64 0, .float .f64 0, .string ⟨#[]⟩, .int .i64 0, .int .i64 0, .int .i64 0, .bool false, .bool false, .bool false]) r0 1 (.bool false) rfl
  have r2 := heap_set_at (C' := #[.bool true, .bool false, .bool false, .bool false, .bool false, .bool false, .int .i64 0, .float .f64 0, .string ⟨#[]⟩, .int .i64 0, .int .i64 0, .int .i64 0, .bool false, .bool false, .bool false]) r1 2 (.bool false) rfl
  have r3 := heap_set_at (C' := #[.bool true, .bool false, .bool false, .bool true, .bool false, .bool false, .int .i64 0, .float .f64 0, .string ⟨#[]⟩, .int .i64 0, .int .i64 0, .int .i64 0, .bool false, .bool false, .bool false]) r2 3 (.bool true) rfl
  have r4 := heap_set_at (C' := #[.bool true, .bool false, .bool false, .bool true, .bool true, .bool false, .int .i64 0, .float .f64 0, .string ⟨#[]⟩, .int .i64 0, .int .i64 0, .int .i64 0, .bool false, .bool false, .bool false]) r3 4 (.bool true) rfl
  have r5 := heap_set_at (C' := #[.bool true, .bool false, .bool false, .bool true, .bool true, .bool true, .int .i64 0, .float .f64 0, .string ⟨#[]⟩, .int .i64 0, .int .i64 0, .int .i64 0, .bool false, .bool false, .bool false]) r4 5 (.bool true) rfl
  have r6 := heap_set_at (C' := #[.bool true, .bool false, .bool false, .bool true, .bool true, .bool true, .int .i64 k, .float .f64 0, .string ⟨#[]⟩, .int .i64 0, .int .i64 0, .int .i64 0, .bool false, .bool false, .bool false]) r5 6 (.int .i64 k) rfl
  have r7 := heap_set_at (C' := #[.bool true, .bool false, .bool false, .bool true, .bool true, .bool true, .int .i64 k, .float .f64 x, .string ⟨#[]⟩, .int .i64 0, .int .i64 0, .int .i64 0, .bool false, .bool false, .bool false]) r6 7 (.float .f64 x) rfl
  have r8 := heap_set_at (C' := #[.bool true, .bool false, .bool false, .bool true, .bool true, .bool true, .int .i64 k, .float .f64 x, .string tx, .int .i64 0, .int .i64 0, .int .i64 0, .bool false, .bool false, .bool false]) r7 8 (.string tx) rfl
  have r9 := heap_set_at (C' := #[.bool true, .bool false, .bool false, .bool true, .bool true, .bool true, .int .i64 k, .float .f64 x, .string tx, .int .i64 0, .int .i64 0, .int .i64 0, .bool false, .bool false, .bool false]) r8 9 (.int .i64 0) rfl
  have r10 := heap_set_at (C' := #[.bool true, .bool false, .bool false, .bool true, .bool true, .bool true, .int .i64 k, .float .f64 x, .string tx, .int .i64 0, .int .i64 0, .int .i64 0, .bool false, .bool false, .bool false]) r9 10 (.int .i64 0) rfl
  have r11 := heap_set_at (C' := #[.bool true, .bool false, .bool false, .bool true, .bool true, .bool true, .int .i64 k, .float .f64 x, .string tx, .int .i64 0, .int .i64 0, .int .i64 0, .bool false, .bool false, .bool false]) r10 11 (.int .i64 0) rfl
  have r12 := heap_set_at (C' := #[.bool true, .bool false, .bool false, .bool true, .bool true, .bool true, .int .i64 k, .float .f64 x, .string tx, .int .i64 0, .int .i64 0, .int .i64 0, .bool p0, .bool false, .bool false]) r11 12 (.bool p0) rfl
  have r13 := heap_set_at (C' := #[.bool true, .bool false, .bool false, .bool true, .bool true, .bool true, .int .i64 k, .float .f64 x, .string tx, .int .i64 0, .int .i64 0, .int .i64 0, .bool p0, .bool p1, .bool false]) r12 13 (.bool p1) rfl
  have r14 := heap_set_at (C' := #[.bool true, .bool false, .bool false, .bool true, .bool true, .bool true, .int .i64 k, .float .f64 x, .string tx, .int .i64 0, .int .i64 0, .int .i64 0, .bool p0, .bool p1, .bool p2]) r13 14 (.bool p2) rfl
  refine bodyPost_ret (results_row_tmp rfl _ _ w.heap.size 34 _ (0, 0) _ rfl r14 Tryz.underlying34 rfl (by kernel_rfl) _ rfl) rfl ?_
  exact ⟨rfl, HK5.out.trans ((((((((((((((((Kx.refl [w.heap.size] w5).set (by simp) _).set (by simp) _).set (by simp) _).set (by simp) _).set (by simp) _).set (by simp) _).set (by simp) _).set (by simp) _).set (by simp) _).set (by simp) _).set (by simp) _).set (by simp) _).set (by simp) _).set (by simp) _).set (by simp) _) (fun i hi => .inr (by simp at hi; omega))⟩
end Go.Proofs.YtmicdbplkfdfnaaGreatDoor
set_option linter.unusedVariables false
namespace Go.Proofs.YtmicdbplkfdfnaaGreatDoor
open Go.RowKit Go.Shelf Go.Maps

/-- The texts of all keys: places, then names. -/
def allK (ks : List Nat) (L : List ByteArray) : List ByteArray := ks.map decS ++ L
theorem allK_len (ks : List Nat) (L : List ByteArray) : (allK ks L).length = ks.length + L.length := by simp [allK]
theorem rowBase {w : World} {B : Nat} {e : TypeId} {sz : Nat} {v : Value} {n : Nat} {xs : List Value} (h : w.ownsRow B e sz v n xs) : w.ownsRow 0 e sz v n xs := by
  refine ⟨h.1, ?_⟩
  rcases h.2 with h2 | ⟨g, cap, cur, h3, h4, h5⟩
  · exact .inl h2
  · exact .inr ⟨g, cap, cur, h3, Nat.zero_le _, h5⟩
theorem rowSlice {w : World} {B : Nat} {e : TypeId} {sz : Nat} {v : Value} {n : Nat} {xs : List Value} (h : w.ownsRow B e sz v n xs) : ∃ a c, v = .slice a n c := by
  rcases h.2 with ⟨h2, rfl⟩ | ⟨g, cap, cur, h3, h4, h5⟩
  · exact ⟨none, 0, h2⟩
  · exact ⟨_, _, h3⟩
theorem FSt.keys {w : World} {n0 O H b : Nat} {arr fx : Bool} {L : List ByteArray} {P : List Pr} {f : Nat → Option Pr} {F : Fp} (h : FSt w n0 O H b arr fx L P f F) (hE : Env w) (ks : List Nat) (hr : Rises ks) (hk : ∀ k, k ∈ ks ↔ (f k).isSome = true) (hkb : ∀ k ∈ ks, k ≤ 4294967294) (hlen : ks.length < 50) :
    Calls Tryz.prog 8 #[.pointer (some ⟨O, 0, none⟩), .int .i64 1] w fun e w' => ∃ v, e = .returned v ∧ w'.ownsRow w.heap.size 9 1 v (allK ks L).length ((allK ks L).map Value.string) ∧ Kx [] w w' := by
  have hL := h.bL
  refine keys_faceP O H b [b] 1 (kysOf ks L) (allK ks L) w h.O0 h.objs (by omega) (by simp) (by rw [allK_len]; omega) (by simp [kysOf, allK]) ?_ ?_
  · intro q x t hx ht W hW
    unfold kysOf at hx
    unfold allK at ht
    by_cases hq : q < ks.length
    · rw [List.getElem?_append_left (by simpa using hq), List.getElem?_map] at hx ht
      obtain ⟨k, hkq⟩ : ∃ k, ks[q]? = some k := ⟨_, List.getElem?_eq_getElem hq⟩
      rw [hkq] at hx ht
      simp only [Option.map_some, Option.some.injEq] at hx ht
      subst hx ht
      have hk2 := hkb k (List.mem_of_getElem? hkq)
      exact text_place ⟨#[]⟩ k (by omega) W (hE.kx hW).tb
    · rw [List.getElem?_append_right (by simpa using hq)] at hx ht
      simp only [List.length_map, List.getElem?_map] at hx ht
      rw [ht] at hx
      simp only [Option.map_some, Option.some.injEq] at hx
      subst hx
      exact text_name t 0 W
  · rw [kyL_of]
    obtain ⟨n1, n2, n3⟩ := h.nms
    obtain ⟨ga, c, e⟩ := rowSlice n2
    rw [e] at n1 n2
    rw [allK_len]
    refine keys_all b F.S F.N F.M F.q c ga F.k F.fr F.nx (.bool F.al) (.bool false) _ _ _ _ F.nv _ F.st _ L ks w h.obj h.shp n1 (rowBase n2) n3 h.nd (fun x hx => by have := (h.ok x hx).2; unfold maxLen; omega) (by omega) (by omega) ?_
    rcases h.str with ⟨e1, e2⟩ | ⟨M, e1, hM⟩
    · have hnil : ks = [] := by
        cases ks with
        | nil => rfl
        | cons k t =>
          have := (hk k).1 (by simp)
          rw [e2] at this
          cases this
      subst hnil
      refine (places_nil b none 0 w (cell_at h.obj 7 rfl) (by rw [cell_at h.obj 8 rfl]; exact congrArg some e1)).mono fun e w' h2 => ?_
      exact ⟨none, 0, h2.1, (fun j x hx => by simp at hx), h2.2⟩
    · by_cases hnil : ks = []
      · subst hnil
        obtain ⟨k, hk2⟩ := h.full (by rw [e1]; simp)
        have := (hk k).2 hk2
        cases this
      · refine (places_some b M F.m none 0 f ks w (cell_at h.obj 7 rfl) (by rw [cell_at h.obj 8 rfl]; exact congrArg some e1) hM hr (fun k _ => hk k) (fun k hk2 => by have := hkb k hk2; omega) hnil hlen (by have := h.bm; omega)).mono fun e w' h2 => ?_
        obtain ⟨g, cap, h3, h4, h5, h6⟩ := h2
        refine ⟨_, cap, h3, ?_, h6⟩
        intro j x hx
        exact ⟨g, rfl, cell_block_lt (h5 j x hx), h5 j x hx⟩
theorem FSt.ownF {w : World} {n0 O H b : Nat} {arr fx : Bool} {L : List ByteArray} {P : List Pr} {f : Nat → Option Pr} {F : Fp} (h : FSt w n0 O H b arr fx L P f F) (hE : Env w) (s : ByteArray) (hs : s.size ≤ 2000000) (p0 p1 p2 : Bool) (x : Nat) (hl : look L P f (unitsS s) = some (p0, p1, p2, x)) :
    Calls Tryz.prog 10 #[.pointer (some ⟨O, 0, none⟩), .int .i64 1, .string s] w fun e w' => e = .returned (.tuple #[.agg #[.bool true, .bool false, .bool false, .bool true, .bool true, .bool true, .int .i64 3, .float .f64 x, .string ⟨#[]⟩, .int .i64 0, .int .i64 0, .int .i64 0, .bool p0, .bool p1, .bool p2], .bool true]) ∧ Kx [] w w' := by
  have hb := txt_bound s hs
  have c25 := h.own (unitsS s) (by unfold maxLen; omega)
  rw [hl] at c25
  exact ownF_yes O H b [b] 1 s _ _ _ p0 p1 p2 3 x ⟨#[]⟩ none none w h.O0 h.objs (by omega) (by simp) (keyc s hs w hE) c25
theorem FSt.fix {w : World} {n0 O H b : Nat} {arr fx : Bool} {L : List ByteArray} {P : List Pr} {f : Nat → Option Pr} {F : Fp} (h : FSt w n0 O H b arr fx L P f F) :
    Calls Tryz.prog 9 #[.pointer (some ⟨O, 0, none⟩), .int .i64 1] w fun e w' => e = .returned (.int .i64 0) ∧ Keep4 w n0 O H b arr L P f F w' := by
  obtain ⟨h1, h2⟩ := h.fixed
  refine (fix_law O H [b] 0 b fx w h.O0 h.objs rfl (cell_at h.obj 2 rfl) (fr_all h.obj 2)).mono fun e w' h3 => ⟨h3.1, ?_⟩
  exact Keep4.kx ⟨F, h1, Nxt.same h2⟩ h3.2
end Go.Proofs.YtmicdbplkfdfnaaGreatDoor
