/- descOf of a property with a value. -/
import Derived.Test.YtdnjgemaenhcfaaGreatDoorCHq4x
import Derived.Deep.RegionLaw
set_option linter.unusedVariables false
namespace Go.Proofs.YtdnjgemaenhcfaaGreatDoor
open Go.RowKit Go.Shelf Go.Maps
attribute [local go_sem] run_store_flt

set_option maxRecDepth 100000 in
set_option maxHeartbeats 2000000 in
theorem descOf_val (wr en cf : Bool) (k : Int) (x : Nat) (tx : ByteArray) (p8 p9 : Option Addr) (w : World) :
    Calls Tryz.prog 27 #[.agg #[.bool wr, .bool en, .bool cf, .bool false, .int .i64 k, .float .f64 x, .string tx, .pointer none, .pointer p8, .pointer p9]] w fun e w' => e = .returned (.agg #[.bool true, .bool false, .bool false, .bool true, .bool true, .bool true, .int .i64 k, .float .f64 x, .string tx, .int .i64 0, .int .i64 0, .int .i64 0, .bool wr, .bool en, .bool cf]) ∧ Kx [] w w' := by
  have c := plainValue_any k x tx
  obtain ⟨W0, hW0⟩ : ∃ W0, W0 = ((w.alloc (Obj.cells #[.bool wr, .bool en, .bool cf, .bool false, .int .i64 k, .float .f64 x, .string tx, .pointer none, .pointer p8, .pointer p9] 75)).alloc (Obj.cells #[.bool false, .bool false, .bool false, .bool false, .bool false, .bool false, .int .i64 0, .float .f64 0, .string ⟨#[]⟩, .int .i64 0, .int .i64 0, .int .i64 0, .bool false, .bool false, .bool false] 34)).alloc (Obj.cells #[.bool true, .bool false, .bool false, .bool true, .bool true, .bool true, .int .i64 0, .float .f64 0, .string ⟨#[]⟩, .int .i64 0, .int .i64 0, .int .i64 0, .bool false, .bool en, .bool cf] 34) := ⟨_, rfl⟩
  have hk0 : Kx [] w W0 := by rw [hW0]; exact (show Kx [] w _ from ((Kx.alloc _ _ _).alc _).alc _)
  have hP0 : W0.heap[w.heap.size]? = some (Obj.cells #[.bool wr, .bool en, .bool cf, .bool false, .int .i64 k, .float .f64 x, .string tx, .pointer none, .pointer p8, .pointer p9] 75 (0, 0)) := by rw [hW0]; exact heap_old (heap_old (heap_alloc_new _ _) _) _
  have hR0 : W0.heap[w.heap.size + 1]? = some (Obj.cells #[.bool false, .bool false, .bool false, .bool false, .bool false, .bool false, .int .i64 0, .float .f64 0, .string ⟨#[]⟩, .int .i64 0, .int .i64 0, .int .i64 0, .bool false, .bool false, .bool false] 34 (0, 0)) := by rw [hW0]; exact heap_old (heap_alloc2_new _ _ _) _
  have hD0 : W0.heap[w.heap.size + 1 + 1]? = some (Obj.cells #[.bool true, .bool false, .bool false, .bool true, .bool true, .bool true, .int .i64 0, .float .f64 0, .string ⟨#[]⟩, .int .i64 0, .int .i64 0, .int .i64 0, .bool false, .bool en, .bool cf] 34 (0, 0)) := by
    have e : w.heap.size + 1 + 1 = ((w.alloc (Obj.cells #[.bool wr, .bool en, .bool cf, .bool false, .int .i64 k, .float .f64 x, .string tx, .pointer none, .pointer p8, .pointer p9] 75)).alloc (Obj.cells #[.bool false, .bool false, .bool false, .bool false, .bool false, .bool false, .int .i64 0, .float .f64 0, .string ⟨#[]⟩, .int .i64 0, .int .i64 0, .int .i64 0, .bool false, .bool false, .bool false] 34)).heap.size := by simp
    rw [hW0, e]; exact heap_alloc_new _ _
  have a0 := cell_at hP0 0 rfl
  have a4 := cell_at hP0 4 rfl
  have a5 := cell_at hP0 5 rfl
  have a6 := cell_at hP0 6 rfl
  have a7 := cell_at hP0 7 rfl
  have HK0 : Hid (Kx [] w W0) := (show Kx [] w W0 from hk0)
  have HP0 := (show Hid _ from hP0)
  have HR0 := (show Hid _ from hR0)
  have HD0 := (show Hid _ from hD0)
  clear hk0 hP0 hR0 hD0
  go_enter Tryz.func27, Tryz.ntmps27
  go_wp2
  rw [← hW0]
  clear hW0
  go_region_law (first | (go_simp; go_at_call 53; refine (c _).mono ?_; rintro e w1 ⟨rfl, hk1⟩; have JP0 : Hid (w1.heap[w.heap.size]? = some (Obj.cells #[.bool wr, .bool en, .bool cf, .bool false, .int .i64 k, .float .f64 x, .string tx, .pointer none, .pointer p8, .pointer p9] 75 (0, 0))) := hk1.get HP0.out (by simp); have JR0 : Hid (w1.heap[w.heap.size + 1]? = some (Obj.cells #[.bool false, .bool false, .bool false, .bool false, .bool false, .bool false, .int .i64 0, .float .f64 0, .string ⟨#[]⟩, .int .i64 0, .int .i64 0, .int .i64 0, .bool false, .bool false, .bool false] 34 (0, 0))) := hk1.get HR0.out (by simp); have JD0 : Hid (w1.heap[w.heap.size + 1 + 1]? = some (Obj.cells #[.bool true, .bool false, .bool false, .bool true, .bool true, .bool true, .int .i64 0, .float .f64 0, .string ⟨#[]⟩, .int .i64 0, .int .i64 0, .int .i64 0, .bool false, .bool en, .bool cf] 34 (0, 0))) := hk1.get HD0.out (by simp); have y0 := cell_at JP0.out 0 rfl; have y4 := cell_at JP0.out 4 rfl; have y5 := cell_at JP0.out 5 rfl; have y6 := cell_at JP0.out 6 rfl; have y7 := cell_at JP0.out 7 rfl; have d6 := cell_at JD0.out 6 rfl; have g6 := fr_all JD0.out 6; have d7 := cell_at JD0.out 7 rfl; have g7 := fr_all JD0.out 7; have d8 := cell_at JD0.out 8 rfl; have g8 := fr_all JD0.out 8; have d9 := cell_at JD0.out 9 rfl; have g9 := fr_all JD0.out 9; have d12 := cell_at JD0.out 12 rfl; have g12 := fr_all JD0.out 12; have JD1 : Hid ((w1.setCell ⟨w.heap.size + 1 + 1, 6, none⟩ (.int .i64 k)).heap[w.heap.size + 1 + 1]? = some (Obj.cells #[.bool true, .bool false, .bool false, .bool true, .bool true, .bool true, .int .i64 k, .float .f64 0, .string ⟨#[]⟩, .int .i64 0, .int .i64 0, .int .i64 0, .bool false, .bool en, .bool cf] 34 (0, 0))) := heap_set_at JD0.out 6 (.int .i64 k) rfl; have JP1 : Hid ((w1.setCell ⟨w.heap.size + 1 + 1, 6, none⟩ (.int .i64 k)).heap[w.heap.size]? = some (Obj.cells #[.bool wr, .bool en, .bool cf, .bool false, .int .i64 k, .float .f64 x, .string tx, .pointer none, .pointer p8, .pointer p9] 75 (0, 0))) := heap_setCell_ne JP0.out (by omega) 6 (.int .i64 k); have JR1 : Hid ((w1.setCell ⟨w.heap.size + 1 + 1, 6, none⟩ (.int .i64 k)).heap[w.heap.size + 1]? = some (Obj.cells #[.bool false, .bool false, .bool false, .bool false, .bool false, .bool false, .int .i64 0, .float .f64 0, .string ⟨#[]⟩, .int .i64 0, .int .i64 0, .int .i64 0, .bool false, .bool false, .bool false] 34 (0, 0))) := heap_setCell_ne JR0.out (by omega) 6 (.int .i64 k); have JD2 : Hid (((w1.setCell ⟨w.heap.size + 1 + 1, 6, none⟩ (.int .i64 k)).setCell ⟨w.heap.size + 1 + 1, 7, none⟩ (.float .f64 x)).heap[w.heap.size + 1 + 1]? = some (Obj.cells #[.bool true, .bool false, .bool false, .bool true, .bool true, .bool true, .int .i64 k, .float .f64 x, .string ⟨#[]⟩, .int .i64 0, .int .i64 0, .int .i64 0, .bool false, .bool en, .bool cf] 34 (0, 0))) := heap_set_at JD1.out 7 (.float .f64 x) rfl; have JP2 : Hid (((w1.setCell ⟨w.heap.size + 1 + 1, 6, none⟩ (.int .i64 k)).setCell ⟨w.heap.size + 1 + 1, 7, none⟩ (.float .f64 x)).heap[w.heap.size]? = some (Obj.cells #[.bool wr, .bool en, .bool cf, .bool false, .int .i64 k, .float .f64 x, .string tx, .pointer none, .pointer p8, .pointer p9] 75 (0, 0))) := heap_setCell_ne JP1.out (by omega) 7 (.float .f64 x); have JR2 : Hid (((w1.setCell ⟨w.heap.size + 1 + 1, 6, none⟩ (.int .i64 k)).setCell ⟨w.heap.size + 1 + 1, 7, none⟩ (.float .f64 x)).heap[w.heap.size + 1]? = some (Obj.cells #[.bool false, .bool false, .bool false, .bool false, .bool false, .bool false, .int .i64 0, .float .f64 0, .string ⟨#[]⟩, .int .i64 0, .int .i64 0, .int .i64 0, .bool false, .bool false, .bool false] 34 (0, 0))) := heap_setCell_ne JR1.out (by omega) 7 (.float .f64 x); have JD3 : Hid ((((w1.setCell ⟨w.heap.size + 1 + 1, 6, none⟩ (.int .i64 k)).setCell ⟨w.heap.size + 1 + 1, 7, none⟩ (.float .f64 x)).setCell ⟨w.heap.size + 1 + 1, 8, none⟩ (.string tx)).heap[w.heap.size + 1 + 1]? = some (Obj.cells #[.bool true, .bool false, .bool false, .bool true, .bool true, .bool true, .int .i64 k, .float .f64 x, .string tx, .int .i64 0, .int .i64 0, .int .i64 0, .bool false, .bool en, .bool cf] 34 (0, 0))) := heap_set_at JD2.out 8 (.string tx) rfl; have JP3 : Hid ((((w1.setCell ⟨w.heap.size + 1 + 1, 6, none⟩ (.int .i64 k)).setCell ⟨w.heap.size + 1 + 1, 7, none⟩ (.float .f64 x)).setCell ⟨w.heap.size + 1 + 1, 8, none⟩ (.string tx)).heap[w.heap.size]? = some (Obj.cells #[.bool wr, .bool en, .bool cf, .bool false, .int .i64 k, .float .f64 x, .string tx, .pointer none, .pointer p8, .pointer p9] 75 (0, 0))) := heap_setCell_ne JP2.out (by omega) 8 (.string tx); have JR3 : Hid ((((w1.setCell ⟨w.heap.size + 1 + 1, 6, none⟩ (.int .i64 k)).setCell ⟨w.heap.size + 1 + 1, 7, none⟩ (.float .f64 x)).setCell ⟨w.heap.size + 1 + 1, 8, none⟩ (.string tx)).heap[w.heap.size + 1]? = some (Obj.cells #[.bool false, .bool false, .bool false, .bool false, .bool false, .bool false, .int .i64 0, .float .f64 0, .string ⟨#[]⟩, .int .i64 0, .int .i64 0, .int .i64 0, .bool false, .bool false, .bool false] 34 (0, 0))) := heap_setCell_ne JR2.out (by omega) 8 (.string tx); have JD4 : Hid (((((w1.setCell ⟨w.heap.size + 1 + 1, 6, none⟩ (.int .i64 k)).setCell ⟨w.heap.size + 1 + 1, 7, none⟩ (.float .f64 x)).setCell ⟨w.heap.size + 1 + 1, 8, none⟩ (.string tx)).setCell ⟨w.heap.size + 1 + 1, 9, none⟩ (.int .i64 0)).heap[w.heap.size + 1 + 1]? = some (Obj.cells #[.bool true, .bool false, .bool false, .bool true, .bool true, .bool true, .int .i64 k, .float .f64 x, .string tx, .int .i64 0, .int .i64 0, .int .i64 0, .bool false, .bool en, .bool cf] 34 (0, 0))) := heap_set_at JD3.out 9 (.int .i64 0) rfl; have JP4 : Hid (((((w1.setCell ⟨w.heap.size + 1 + 1, 6, none⟩ (.int .i64 k)).setCell ⟨w.heap.size + 1 + 1, 7, none⟩ (.float .f64 x)).setCell ⟨w.heap.size + 1 + 1, 8, none⟩ (.string tx)).setCell ⟨w.heap.size + 1 + 1, 9, none⟩ (.int .i64 0)).heap[w.heap.size]? = some (Obj.cells #[.bool wr, .bool en, .bool cf, .bool false, .int .i64 k, .float .f64 x, .string tx, .pointer none, .pointer p8, .pointer p9] 75 (0, 0))) := heap_setCell_ne JP3.out (by omega) 9 (.int .i64 0); have JR4 : Hid (((((w1.setCell ⟨w.heap.size + 1 + 1, 6, none⟩ (.int .i64 k)).setCell ⟨w.heap.size + 1 + 1, 7, none⟩ (.float .f64 x)).setCell ⟨w.heap.size + 1 + 1, 8, none⟩ (.string tx)).setCell ⟨w.heap.size + 1 + 1, 9, none⟩ (.int .i64 0)).heap[w.heap.size + 1]? = some (Obj.cells #[.bool false, .bool false, .bool false, .bool false, .bool false, .bool false, .int .i64 0, .float .f64 0, .string ⟨#[]⟩, .int .i64 0, .int .i64 0, .int .i64 0, .bool false, .bool false, .bool false] 34 (0, 0))) := heap_setCell_ne JR3.out (by omega) 9 (.int .i64 0); have JD5 : Hid ((((((w1.setCell ⟨w.heap.size + 1 + 1, 6, none⟩ (.int .i64 k)).setCell ⟨w.heap.size + 1 + 1, 7, none⟩ (.float .f64 x)).setCell ⟨w.heap.size + 1 + 1, 8, none⟩ (.string tx)).setCell ⟨w.heap.size + 1 + 1, 9, none⟩ (.int .i64 0)).setCell ⟨w.heap.size + 1 + 1, 12, none⟩ (.bool wr)).heap[w.heap.size + 1 + 1]? = some (Obj.cells #[.bool true, .bool false, .bool false, .bool true, .bool true, .bool true, .int .i64 k, .float .f64 x, .string tx, .int .i64 0, .int .i64 0, .int .i64 0, .bool wr, .bool en, .bool cf] 34 (0, 0))) := heap_set_at JD4.out 12 (.bool wr) rfl; have JP5 : Hid ((((((w1.setCell ⟨w.heap.size + 1 + 1, 6, none⟩ (.int .i64 k)).setCell ⟨w.heap.size + 1 + 1, 7, none⟩ (.float .f64 x)).setCell ⟨w.heap.size + 1 + 1, 8, none⟩ (.string tx)).setCell ⟨w.heap.size + 1 + 1, 9, none⟩ (.int .i64 0)).setCell ⟨w.heap.size + 1 + 1, 12, none⟩ (.bool wr)).heap[w.heap.size]? = some (Obj.cells #[.bool wr, .bool en, .bool cf, .bool false, .int .i64 k, .float .f64 x, .string tx, .pointer none, .pointer p8, .pointer p9] 75 (0, 0))) := heap_setCell_ne JP4.out (by omega) 12 (.bool wr); have JR5 : Hid ((((((w1.setCell ⟨w.heap.size + 1 + 1, 6, none⟩ (.int .i64 k)).setCell ⟨w.heap.size + 1 + 1, 7, none⟩ (.float .f64 x)).setCell ⟨w.heap.size + 1 + 1, 8, none⟩ (.string tx)).setCell ⟨w.heap.size + 1 + 1, 9, none⟩ (.int .i64 0)).setCell ⟨w.heap.size + 1 + 1, 12, none⟩ (.bool wr)).heap[w.heap.size + 1]? = some (Obj.cells #[.bool false, .bool false, .bool false, .bool false, .bool false, .bool false, .int .i64 0, .float .f64 0, .string ⟨#[]⟩, .int .i64 0, .int .i64 0, .int .i64 0, .bool false, .bool false, .bool false] 34 (0, 0))) := heap_setCell_ne JR4.out (by omega) 12 (.bool wr); have u0 := cell_at JP4.out 0 rfl; have v0 := cell_at JP5.out 0 rfl; have u4 := cell_at JP4.out 4 rfl; have v4 := cell_at JP5.out 4 rfl; have u5 := cell_at JP4.out 5 rfl; have v5 := cell_at JP5.out 5 rfl; have u6 := cell_at JP4.out 6 rfl; have v6 := cell_at JP5.out 6 rfl; have u7 := cell_at JP4.out 7 rfl; have v7 := cell_at JP5.out 7 rfl; have g13 := fr_all JD4.out 12; have d13 := cell_at JD4.out 12 rfl; have HK1 : Hid (Kx [] w w1) := (show Kx [] w w1 from (HK0.out.drw1).same hk1)))
  all_goals
    clear a0 a4 a5 a6 a7 y0 y4 y5 y6 y7 u0 u4 u5 u6 u7 v0 v4 v5 v6 v7 d6 d7 d8 d9 d12 g6 g7 g8 g9 g12 d13 g13 JD0 JD1 JD2 JD3 JD4 JP0 JP1 JP2 JP3 JP4 JP5 JR0 JR1 JR2 JR3 JR4 HP0 HR0 HD0 HK0 hk1 c
    obtain ⟨W5, hW5⟩ : ∃ W5, W5 = (((((w1.setCell ⟨w.heap.size + 1 + 1, 6, none⟩ (.int .i64 k)).setCell ⟨w.heap.size + 1 + 1, 7, none⟩ (.float .f64 x)).setCell ⟨w.heap.size + 1 + 1, 8, none⟩ (.string tx)).setCell ⟨w.heap.size + 1 + 1, 9, none⟩ (.int .i64 0)).setCell ⟨w.heap.size + 1 + 1, 12, none⟩ (.bool wr)) := ⟨_, rfl⟩
    have HK5 : Hid (Kx [] w W5) := by rw [hW5]; exact (show Kx [] w _ from HK1.out.trans ((((((Kx.refl [w.heap.size + 1, w.heap.size + 1 + 1] w1).set (by simp) _).set (by simp) _).set (by simp) _).set (by simp) _).set (by simp) _) (fun i hi => .inr (by simp at hi; omega)))
    rw [← hW5] at JD5 JR5 ⊢
    clear hW5 HK1
    have z0 := cell_at JD5.out 0 rfl
    have z1 := cell_at JD5.out 1 rfl
    have z2 := cell_at JD5.out 2 rfl
    have z3 := cell_at JD5.out 3 rfl
    have z4 := cell_at JD5.out 4 rfl
    have z5 := cell_at JD5.out 5 rfl
    have z6 := cell_at JD5.out 6 rfl
    have z7 := cell_at JD5.out 7 rfl
    have z8 := cell_at JD5.out 8 rfl
    have z9 := cell_at JD5.out 9 rfl
    have z10 := cell_at JD5.out 10 rfl
    have z11 := cell_at JD5.out 11 rfl
    have z12 := cell_at JD5.out 12 rfl
    have z13 := cell_at JD5.out 13 rfl
    have z14 := cell_at JD5.out 14 rfl
    have q0 := cell_at JR5.out 0 rfl
    have q1 := cell_at JR5.out 1 rfl
    have q2 := cell_at JR5.out 2 rfl
    have q3 := cell_at JR5.out 3 rfl
    have q4 := cell_at JR5.out 4 rfl
    have q5 := cell_at JR5.out 5 rfl
    have q6 := cell_at JR5.out 6 rfl
    have q7 := cell_at JR5.out 7 rfl
    have q8 := cell_at JR5.out 8 rfl
    have q9 := cell_at JR5.out 9 rfl
    have q10 := cell_at JR5.out 10 rfl
    have q11 := cell_at JR5.out 11 rfl
    have q12 := cell_at JR5.out 12 rfl
    have q13 := cell_at JR5.out 13 rfl
    have q14 := cell_at JR5.out 14 rfl
    have hf := fr_all JR5.out
    go_wp2
    have r0 := heap_set_at (C' := #[.bool true, .bool false, .bool false, .bool false, .bool false, .bool false, .int .i64 0, .float .f64 0, .string ⟨#[]⟩, .int .i64 0, .int .i64 0, .int .i64 0, .bool false, .bool false, .bool false]) JR5.out 0 (.bool true) rfl
    have r1 := heap_set_at (C' := #[.bool true, .bool false, .bool false, .bool false, .bool false, .bool false, .int .i64 0, .float .f64 0, .string ⟨#[]⟩, .int .i64 0, .int .i64 0, .int .i64 0, .bool false, .bool false, .bool false]) r0 1 (.bool false) rfl
    have r2 := heap_set_at (C' := #[.bool true, .bool false, .bool false, .bool false, .bool false, .bool false, .int .i64 0, .float .f64 0, .string ⟨#[]⟩, .int .i64 0, .int .i64 0, .int .i64 0, .bool false, .bool false, .bool false]) r1 2 (.bool false) rfl
    have r3 := heap_set_at (C' := #[.bool true, .bool false, .bool false, .bool true, .bool false, .bool false, .int .i64 0, .float .f64 0, .string ⟨#[]⟩, .int .i64 0, .int .i64 0, .int .i64 0, .bool false, .bool false, .bool false]) r2 3 (.bool true) rfl
    have r4 := heap_set_at (C' := #[.bool true, .bool false, .bool false, .bool true, .bool true, .bool false, .int .i64 0, .float .f64 0, .string ⟨#[]⟩, .int .i64 0, .int .i64 0, .int .i64 0, .bool false, .bool false, .bool false]) r3 4 (.bool true) rfl
    have r5 := heap_set_at (C' := #[.bool true, .bool false, .bool false, .bool true, .bool true, .bool true, .int .i64 0, .float .f64 0, .string ⟨#[]⟩, .int .i64 0, .int .i64 0, .int .i64 0, .bool false, .bool false, .bool false]) r4 5 (.bool true) rfl
    have r6 := heap_set_at (C' := #[.bool true, .bool false, .bool false, .bool true, .bool true, .bool true, .int .i64 k, .float .f64 0, .string ⟨#[]⟩, .int .i64 0, .int .i64 0, .int .i64 0, .bool false, .bool false, .bool false]) r5 6 (.int .i64 k) rfl
    have r7 := heap_set_at (C' := #[.bool true, .bool false, .bool false, .bool true, .bool true, .bool true, .int .i64 k, .float .f64 x, .string ⟨#[]⟩, .int .i64 0, .int .i64 0, .int .i64 0, .bool false, .bool false, .bool false]) r6 7 (.float .f64 x) rfl
    have r8 := heap_set_at (C' := #[.bool true, .bool false, .bool false, .bool true, .bool true, .bool true, .int .i64 k, .float .f64 x, .string tx, .int .i64 0, .int .i64 0, .int .i64 0, .bool false, .bool false, .bool false]) r7 8 (.string tx) rfl
    have r9 := heap_set_at (C' := #[.bool true, .bool false, .bool false, .bool true, .bool true, .bool true, .int .i64 k, .float .f64 x, .string tx, .int .i64 0, .int .i64 0, .int .i64 0, .bool false, .bool false, .bool false]) r8 9 (.int .i64 0) rfl
    have r10 := heap_set_at (C' := #[.bool true, .bool false, .bool false, .bool true, .bool true, .bool true, .int .i64 k, .float .f64 x, .string tx, .int .i64 0, .int .i64 0, .int .i64 0, .bool false, .bool false, .bool false]) r9 10 (.int .i64 0) rfl
    have r11 := heap_set_at (C' := #[.bool true, .bool false, .bool false, .bool true, .bool true, .bool true, .int .i64 k, .float .f64 x, .string tx, .int .i64 0, .int .i64 0, .int .i64 0, .bool false, .bool false, .bool false]) r10 11 (.int .i64 0) rfl
    have r12 := heap_set_at (C' := #[.bool true, .bool false, .bool false, .bool true, .bool true, .bool true, .int .i64 k, .float .f64 x, .string tx, .int .i64 0, .int .i64 0, .int .i64 0, .bool wr, .bool false, .bool false]) r11 12 (.bool wr) rfl
    have r13 := heap_set_at (C' := #[.bool true, .bool false, .bool false, .bool true, .bool true, .bool true, .int .i64 k, .float .f64 x, .string tx, .int .i64 0, .int .i64 0, .int .i64 0, .bool wr, .bool en, .bool false]) r12 13 (.bool en) rfl
    have r14 := heap_set_at (C' := #[.bool true, .bool false, .bool false, .bool true, .bool true, .bool true, .int .i64 k, .float .f64 x, .string tx, .int .i64 0, .int .i64 0, .int .i64 0, .bool wr, .bool en, .bool cf]) r13 14 (.bool cf) rfl
    refine bodyPost_ret (results_cell_row rfl _ _ (w.heap.size + 1) 34 _ (0, 0) _ rfl r14 Tryz.underlying34 rfl (by kernel_rfl)) rfl ?_
    exact ⟨rfl, HK5.out.trans ((((((((((((((((Kx.refl [w.heap.size + 1] W5).set (by simp) _).set (by simp) _).set (by simp) _).set (by simp) _).set (by simp) _).set (by simp) _).set (by simp) _).set (by simp) _).set (by simp) _).set (by simp) _).set (by simp) _).set (by simp) _).set (by simp) _).set (by simp) _).set (by simp) _) (fun i hi => .inr (by simp at hi; omega))⟩
end Go.Proofs.YtdnjgemaenhcfaaGreatDoor
/- The face's Own. -/
set_option linter.unusedVariables false
namespace Go.Proofs.YtdnjgemaenhcfaaGreatDoor
open Go.RowKit Go.Shelf Go.Maps
attribute [local go_sem] run_store_flt
/-- Nothing told. -/
def noD : Value := .agg #[.bool false, .bool false, .bool false, .bool false, .bool false, .bool false, .int .i64 0, .float .f64 0, .string ⟨#[]⟩, .int .i64 0, .int .i64 0, .int .i64 0, .bool false, .bool false, .bool false]
set_option maxRecDepth 100000 in
set_option maxHeartbeats 2000000 in
theorem ownF_no (O H b : Nat) (l : List Nat) (r : Int) (s nm : ByteArray) (pl : Int) (isP : Bool) (w : World)
    (hO : w.cell? ⟨O, 0, none⟩ = some (.pointer (some ⟨H, 0, none⟩))) (hH : Objs w H l) (hr1 : 1 ≤ r) (hr : l[(r - 1).toNat]? = some b)
    (cK : ∀ W, Kx [] w W → Calls Tryz.prog 26 #[.string s] W fun e w' => e = .returned (.agg #[.string nm, .int .u32 pl, .bool isP]) ∧ Kx [] W w')
    (cO : ∀ W, Kx [] w W → Calls Tryz.prog 25 #[.pointer (some ⟨b, 0, none⟩), .agg #[.string nm, .int .u32 pl, .bool isP]] W fun e w' => e = .returned (.tuple #[noP, .bool false]) ∧ Kx [] W w') :
    Calls Tryz.prog 10 #[.pointer (some ⟨O, 0, none⟩), .int .i64 r, .string s] w fun e w' => e = .returned (.tuple #[noD, .bool false]) ∧ Kx [] w w' := by
  obtain ⟨W0, hW0⟩ : ∃ W0, W0 = w.alloc (Obj.cells #[.bool false, .bool false, .bool false, .bool false, .bool false, .bool false, .int .i64 0, .float .f64 0, .string ⟨#[]⟩, .int .i64 0, .int .i64 0, .int .i64 0, .bool false, .bool false, .bool false] 34) := ⟨_, rfl⟩
  have hk0 : Kx [] w W0 := by rw [hW0]; exact Kx.alloc _ _ _
  have hR0 : W0.heap[w.heap.size]? = some (Obj.cells #[.bool false, .bool false, .bool false, .bool false, .bool false, .bool false, .int .i64 0, .float .f64 0, .string ⟨#[]⟩, .int .i64 0, .int .i64 0, .int .i64 0, .bool false, .bool false, .bool false] 34 (0, 0)) := by rw [hW0]; exact heap_alloc_new _ _
  have o0 : W0.cell? ⟨O, 0, none⟩ = some (.pointer (some ⟨H, 0, none⟩)) := hk0.cell hO (by simp)
  have c1 := numbered_any H l r W0 (hH.kept hk0)
  rw [objP_hit hr1 hr] at c1
  have CK := (show Hid _ from cK)
  have CO := (show Hid _ from cO)
  have HK0 : Hid (Kx [] w W0) := (show Kx [] w W0 from hk0)
  have HR0 := (show Hid _ from hR0)
  clear cK cO hH hO hr1 hr hk0 hR0
  rw [hW0] at o0
  unfold noD
  go_enter Tryz.func10, Tryz.ntmps10
  go_wp2_with (first | (go_at_call 21; fail))
  rw [← hW0]
  clear hW0 o0
  refine c1.mono ?_
  rintro e w1 ⟨rfl, rfl⟩
  go_wp2_with (first | (go_at_call 26; fail))
  refine (CK.out _ HK0.out).mono ?_
  rintro e w2 ⟨rfl, hk2⟩
  have HK2 : Hid (Kx [] w w2) := (show Kx [] w w2 from HK0.out.same hk2)
  replace HR0 : Hid (w2.heap[w.heap.size]? = some (Obj.cells #[.bool false, .bool false, .bool false, .bool false, .bool false, .bool false, .int .i64 0, .float .f64 0, .string ⟨#[]⟩, .int .i64 0, .int .i64 0, .int .i64 0, .bool false, .bool false, .bool false] 34 (0, 0))) := hk2.get HR0.out (by simp)
  clear hk2 CK HK0 c1
  go_wp2_with (first | (go_at_call 25; fail))
  refine (CO.out _ HK2.out).mono ?_
  rintro e w3 ⟨rfl, hk3⟩
  have HK3 : Hid (Kx [] w w3) := (show Kx [] w w3 from HK2.out.same hk3)
  replace HR0 : Hid (w3.heap[w.heap.size]? = some (Obj.cells #[.bool false, .bool false, .bool false, .bool false, .bool false, .bool false, .int .i64 0, .float .f64 0, .string ⟨#[]⟩, .int .i64 0, .int .i64 0, .int .i64 0, .bool false, .bool false, .bool false] 34 (0, 0))) := hk3.get HR0.out (by simp)
  clear hk3 CO HK2
  obtain ⟨W4, hW4⟩ : ∃ W4, W4 = w3.alloc (Obj.cells #[.bool false, .bool false, .bool false, .bool false, .int .i64 0, .float .f64 0, .string ⟨#[]⟩, .pointer none, .pointer none, .pointer none] 75) := ⟨_, rfl⟩
  have HK4 : Hid (Kx [] w W4) := by rw [hW4]; exact (show Kx [] w _ from HK3.out.alc _)
  have HR4 : Hid (W4.heap[w.heap.size]? = some (Obj.cells #[.bool false, .bool false, .bool false, .bool false, .bool false, .bool false, .int .i64 0, .float .f64 0, .string ⟨#[]⟩, .int .i64 0, .int .i64 0, .int .i64 0, .bool false, .bool false, .bool false] 34 (0, 0))) := by rw [hW4]; exact heap_old HR0.out _
  have HP4 : Hid (W4.heap[w3.heap.size]? = some (Obj.cells #[.bool false, .bool false, .bool false, .bool false, .int .i64 0, .float .f64 0, .string ⟨#[]⟩, .pointer none, .pointer none, .pointer none] 75 (0, 0))) := by rw [hW4]; exact heap_alloc_new _ _
  clear HK3 HR0
  unfold noP
  have q0 := cell_at HR4.out 0 rfl
  have q1 := cell_at HR4.out 1 rfl
  have q2 := cell_at HR4.out 2 rfl
  have q3 := cell_at HR4.out 3 rfl
  have q4 := cell_at HR4.out 4 rfl
  have q5 := cell_at HR4.out 5 rfl
  have q6 := cell_at HR4.out 6 rfl
  have q7 := cell_at HR4.out 7 rfl
  have q8 := cell_at HR4.out 8 rfl
  have q9 := cell_at HR4.out 9 rfl
  have q10 := cell_at HR4.out 10 rfl
  have q11 := cell_at HR4.out 11 rfl
  have q12 := cell_at HR4.out 12 rfl
  have q13 := cell_at HR4.out 13 rfl
  have q14 := cell_at HR4.out 14 rfl
  have hf := fr_all HR4.out
  rw [hW4] at hf q0 q1 q2 q3 q4 q5 q6 q7 q8 q9 q10 q11 q12 q13 q14
  go_wp2
  rw [← hW4]
  have r0 := heap_set_at (C' := #[.bool false, .bool false, .bool false, .bool false, .bool false, .bool false, .int .i64 0, .float .f64 0, .string ⟨#[]⟩, .int .i64 0, .int .i64 0, .int .i64 0, .bool false, .bool false, .bool false]) HR4.out 0 (.bool false) rfl
  have r1 := heap_set_at (C' := #[.bool false, .bool false, .bool false, .bool false, .bool false, .bool false, .int .i64 0, .float .f64 0, .string ⟨#[]⟩, .int .i64 0, .int .i64 0, .int .i64 0, .bool false, .bool false, .bool false]) r0 1 (.bool false) rfl
  have r2 := heap_set_at (C' := #[.bool false, .bool false, .bool false, .bool false, .bool false, .bool false, .int .i64 0, .float .f64 0, .string ⟨#[]⟩, .int .i64 0, .int .i64 0, .int .i64 0, .bool false, .bool false, .bool false]) r1 2 (.bool false) rfl
  have r3 := heap_set_at (C' := #[.bool false, .bool false, .bool false, .bool false, .bool false, .bool false, .int .i64 0, .float .f64 0, .string ⟨#[]⟩, .int .i64 0, .int .i64 0, .int .i64 0, .bool false, .bool false, .bool false]) r2 3 (.bool false) rfl
  have r4 := heap_set_at (C' := #[.bool false, .bool false, .bool false, .bool false, .bool false, .bool false, .int .i64 0, .float .f64 0, .string ⟨#[]⟩, .int .i64 0, .int .i64 0, .int .i64 0, .bool false, .bool false, .bool false]) r3 4 (.bool false) rfl
  have r5 := heap_set_at (C' := #[.bool false, .bool false, .bool false, .bool false, .bool false, .bool false, .int .i64 0, .float .f64 0, .string ⟨#[]⟩, .int .i64 0, .int .i64 0, .int .i64 0, .bool false, .bool false, .bool false]) r4 5 (.bool false) rfl
  have r6 := heap_set_at (C' := #[.bool false, .bool false, .bool false, .bool false, .bool false, .bool false, .int .i64 0, .float .f64 0, .string ⟨#[]⟩, .int .i64 0, .int .i64 0, .int .i64 0, .bool false, .bool false, .bool false]) r5 6 (.int .i64 0) rfl
  have r7 := heap_set_at (C' := #[.bool false, .bool false, .bool false, .bool false, .bool false, .bool false, .int .i64 0, .float .f64 0, .string ⟨#[]⟩, .int .i64 0, .int .i64 0, .int .i64 0, .bool false, .bool false, .bool false]) r6 7 (.float .f64 0) rfl
  have r8 := heap_set_at (C' := #[.bool false, .bool false, .bool false, .bool false, .bool false, .bool false, .int .i64 0, .float .f64 0, .string ⟨#[]⟩, .int .i64 0, .int .i64 0, .int .i64 0, .bool false, .bool false, .bool false]) r7 8 (.string ⟨#[]⟩) rfl
  have r9 := heap_set_at (C' := #[.bool false, .bool false, .bool false, .bool false, .bool false, .bool false, .int .i64 0, .float .f64 0, .string ⟨#[]⟩, .int .i64 0, .int .i64 0, .int .i64 0, .bool false, .bool false, .bool false]) r8 9 (.int .i64 0) rfl
  have r10 := heap_set_at (C' := #[.bool false, .bool false, .bool false, .bool false, .bool false, .bool false, .int .i64 0, .float .f64 0, .string ⟨#[]⟩, .int .i64 0, .int .i64 0, .int .i64 0, .bool false, .bool false, .bool false]) r9 10 (.int .i64 0) rfl
  have r11 := heap_set_at (C' := #[.bool false, .bool false, .bool false, .bool false, .bool false, .bool false, .int .i64 0, .float .f64 0, .string ⟨#[]⟩, .int .i64 0, .int .i64 0, .int .i64 0, .bool false, .bool false, .bool false]) r10 11 (.int .i64 0) rfl
  have r12 := heap_set_at (C' := #[.bool false, .bool false, .bool false, .bool false, .bool false, .bool false, .int .i64 0, .float .f64 0, .string ⟨#[]⟩, .int .i64 0, .int .i64 0, .int .i64 0, .bool false, .bool false, .bool false]) r11 12 (.bool false) rfl
  have r13 := heap_set_at (C' := #[.bool false, .bool false, .bool false, .bool false, .bool false, .bool false, .int .i64 0, .float .f64 0, .string ⟨#[]⟩, .int .i64 0, .int .i64 0, .int .i64 0, .bool false, .bool false, .bool false]) r12 13 (.bool false) rfl
  have r14 := heap_set_at (C' := #[.bool false, .bool false, .bool false, .bool false, .bool false, .bool false, .int .i64 0, .float .f64 0, .string ⟨#[]⟩, .int .i64 0, .int .i64 0, .int .i64 0, .bool false, .bool false, .bool false]) r13 14 (.bool false) rfl
  refine bodyPost_ret (results_row_tmp rfl _ _ w.heap.size 34 _ (0, 0) _ rfl r14 Tryz.underlying34 rfl (by kernel_rfl) _ rfl) rfl ?_
  exact ⟨rfl, HK4.out.trans ((((((((((((((((Kx.refl [w.heap.size] W4).set (by simp) _).set (by simp) _).set (by simp) _).set (by simp) _).set (by simp) _).set (by simp) _).set (by simp) _).set (by simp) _).set (by simp) _).set (by simp) _).set (by simp) _).set (by simp) _).set (by simp) _).set (by simp) _).set (by simp) _) (fun i hi => .inr (by simp at hi; omega))⟩
end Go.Proofs.YtdnjgemaenhcfaaGreatDoor
