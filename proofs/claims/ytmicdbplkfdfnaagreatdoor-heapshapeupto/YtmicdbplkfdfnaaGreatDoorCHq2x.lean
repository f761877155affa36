/- told: a value and flags. -/
import Derived.Test.YtmicdbplkfdfnaaGreatDoorCTk1x
import Derived.Test.YtmicdbplkfdfnaaGreatDoorCHo3x
import Derived.Deep.RegionLaw
import Derived.Test.YtmicdbplkfdfnaaGreatDoorCHn6x
set_option linter.unusedVariables false
namespace Go.Proofs.YtmicdbplkfdfnaaGreatDoor
open Go.RowKit Go.Shelf Go.Maps

attribute [local go_sem] run_store_flt
set_option maxRecDepth 100000 in
set_option maxHeartbeats 2000000 in
theorem told_val (O : Nat) (hw he hc wr en cf : Bool) (k k' rf g s : Int) (x x' : Nat) (tx tx' : ByteArray) (r' : Option Addr) (w : World)
    (cV : ∀ W, Kx [] w W → Calls Tryz.prog 63 #[.pointer (some ⟨O, 0, none⟩), .agg #[.int .i64 k, .float .f64 x, .string tx, .int .i64 rf]] W fun e w' => e = .returned (.tuple #[.agg #[.int .i64 k', .float .f64 x', .string tx', .pointer r'], .bool true]) ∧ Kx [] W w') :
    Calls Tryz.prog 40 #[.pointer (some ⟨O, 0, none⟩), .agg #[.bool true, .bool false, .bool false, .bool hw, .bool he, .bool hc, .int .i64 k, .float .f64 x, .string tx, .int .i64 rf, .int .i64 g, .int .i64 s, .bool wr, .bool en, .bool cf]] w fun e w' => e = .returned (.tuple #[.agg #[.bool wr, .bool en, .bool cf, .bool false, .int .i64 k', .float .f64 x', .string tx', .pointer r', .pointer none, .pointer none, .bool true, .bool false, .bool false, .bool hw, .bool he, .bool hc], .bool true]) ∧ Kx [] w w' := by
  obtain ⟨W0, hW0⟩ : ∃ W0, W0 = ((w.alloc (Obj.cells #[.bool true, .bool false, .bool false, .bool hw, .bool he, .bool hc, .int .i64 k, .float .f64 x, .string tx, .int .i64 rf, .int .i64 g, .int .i64 s, .bool wr, .bool en, .bool cf] 34)).alloc (Obj.cells #[.bool false, .bool false, .bool false, .bool false, .int .i64 0, .float .f64 0, .string ⟨#[]⟩, .pointer none, .pointer none, .pointer none, .bool false, .bool false, .bool false, .bool false, .bool false, .bool false] 99)).alloc (Obj.cells #[.bool false, .bool false, .bool false, .bool false, .int .i64 0, .float .f64 0, .string ⟨#[]⟩, .pointer none, .pointer none, .pointer none, .bool true, .bool false, .bool false, .bool hw, .bool he, .bool hc] 99) := ⟨_, rfl⟩
  have hk0 : Kx [] w W0 := by rw [hW0]; exact (show Kx [] w _ from ((Kx.alloc _ _ _).alc _).alc _)
  have hD0 : W0.heap[w.heap.size]? = some (Obj.cells #[.bool true, .bool false, .bool false, .bool hw, .bool he, .bool hc, .int .i64 k, .float .f64 x, .string tx, .int .i64 rf, .int .i64 g, .int .i64 s, .bool wr, .bool en, .bool cf] 34 (0, 0)) := by rw [hW0]; exact heap_old (heap_old (heap_alloc_new _ _) _) _
  have hR0 : W0.heap[w.heap.size + 1]? = some (Obj.cells #[.bool false, .bool false, .bool false, .bool false, .int .i64 0, .float .f64 0, .string ⟨#[]⟩, .pointer none, .pointer none, .pointer none, .bool false, .bool false, .bool false, .bool false, .bool false, .bool false] 99 (0, 0)) := by rw [hW0]; exact heap_old (heap_alloc2_new _ _ _) _
  have hT0 : W0.heap[w.heap.size + 1 + 1]? = some (Obj.cells #[.bool false, .bool false, .bool false, .bool false, .int .i64 0, .float .f64 0, .string ⟨#[]⟩, .pointer none, .pointer none, .pointer none, .bool true, .bool false, .bool false, .bool hw, .bool he, .bool hc] 99 (0, 0)) := by
    have e : w.heap.size + 1 + 1 = ((w.alloc (Obj.cells #[.bool true, .bool false, .bool false, .bool hw, .bool he, .bool hc, .int .i64 k, .float .f64 x, .string tx, .int .i64 rf, .int .i64 g, .int .i64 s, .bool wr, .bool en, .bool cf] 34)).alloc (Obj.cells #[.bool false, .bool false, .bool false, .bool false, .int .i64 0, .float .f64 0, .string ⟨#[]⟩, .pointer none, .pointer none, .pointer none, .bool false, .bool false, .bool false, .bool false, .bool false, .bool false] 99)).heap.size := by simp
    rw [hW0, e]; exact heap_alloc_new _ _
  have hT1 := heap_set_at (C' := #[.bool wr, .bool false, .bool false, .bool false, .int .i64 0, .float .f64 0, .string ⟨#[]⟩, .pointer none, .pointer none, .pointer none, .bool true, .bool false, .bool false, .bool hw, .bool he, .bool hc]) hT0 0 (.bool wr) rfl
  have hT2 := heap_set_at (C' := #[.bool wr, .bool en, .bool false, .bool false, .int .i64 0, .float .f64 0, .string ⟨#[]⟩, .pointer none, .pointer none, .pointer none, .bool true, .bool false, .bool false, .bool hw, .bool he, .bool hc]) hT1 1 (.bool en) rfl
  have hT3 := heap_set_at (C' := #[.bool wr, .bool en, .bool cf, .bool false, .int .i64 0, .float .f64 0, .string ⟨#[]⟩, .pointer none, .pointer none, .pointer none, .bool true, .bool false, .bool false, .bool hw, .bool he, .bool hc]) hT2 2 (.bool cf) rfl
  have hD1 := heap_setCell_ne hD0 (show w.heap.size + 1 + 1 ≠ w.heap.size by omega) 0 (.bool wr)
  have hD2 := heap_setCell_ne hD1 (show w.heap.size + 1 + 1 ≠ w.heap.size by omega) 1 (.bool en)
  have hD3 := heap_setCell_ne hD2 (show w.heap.size + 1 + 1 ≠ w.heap.size by omega) 2 (.bool cf)
  have hR1 := heap_setCell_ne hR0 (show w.heap.size + 1 + 1 ≠ w.heap.size + 1 by omega) 0 (.bool wr)
  have hR2 := heap_setCell_ne hR1 (show w.heap.size + 1 + 1 ≠ w.heap.size + 1 by omega) 1 (.bool en)
  have hR3 := heap_setCell_ne hR2 (show w.heap.size + 1 + 1 ≠ w.heap.size + 1 by omega) 2 (.bool cf)
  have hk3 : Kx [] w (((W0.setCell ⟨w.heap.size + 1 + 1, 0, none⟩ (.bool wr)).setCell ⟨w.heap.size + 1 + 1, 1, none⟩ (.bool en)).setCell ⟨w.heap.size + 1 + 1, 2, none⟩ (.bool cf)) := hk0.trans ((((Kx.refl [w.heap.size + 1 + 1] W0).set (by simp) _).set (by simp) _).set (by simp) _) (fun i hi => .inr (by simp at hi; omega))
  have HH := (show Hid _ from And.intro hk3 (And.intro hD3 (And.intro hR3 hT3)))
  have a0 := cell_at hD0 12 rfl
  have b0 := cell_at hD0 13 rfl
  have c0 := cell_at hD0 14 rfl
  have f00 := fr_all hT0 0
  have v00 := cell_at hT0 0 rfl
  have f01 := fr_all hT0 1
  have v01 := cell_at hT0 1 rfl
  have f02 := fr_all hT0 2
  have v02 := cell_at hT0 2 rfl
  have a1 := cell_at hD1 12 rfl
  have b1 := cell_at hD1 13 rfl
  have c1 := cell_at hD1 14 rfl
  have f10 := fr_all hT1 0
  have v10 := cell_at hT1 0 rfl
  have f11 := fr_all hT1 1
  have v11 := cell_at hT1 1 rfl
  have f12 := fr_all hT1 2
  have v12 := cell_at hT1 2 rfl
  have a2 := cell_at hD2 12 rfl
  have b2 := cell_at hD2 13 rfl
  have c2 := cell_at hD2 14 rfl
  have f20 := fr_all hT2 0
  have v20 := cell_at hT2 0 rfl
  have f21 := fr_all hT2 1
  have v21 := cell_at hT2 1 rfl
  have f22 := fr_all hT2 2
  have v22 := cell_at hT2 2 rfl
  have a3 := cell_at hD3 12 rfl
  have b3 := cell_at hD3 13 rfl
  have c3 := cell_at hD3 14 rfl
  have f30 := fr_all hT3 0
  have v30 := cell_at hT3 0 rfl
  have f31 := fr_all hT3 1
  have v31 := cell_at hT3 1 rfl
  have f32 := fr_all hT3 2
  have v32 := cell_at hT3 2 rfl
  have CV := (show Hid _ from cV)
  clear cV hk0 hD0 hD1 hD2 hD3 hR0 hR1 hR2 hR3 hT0 hT1 hT2 hT3 hk3
  go_enter Tryz.func40, Tryz.ntmps40
  go_wp2
  rw [← hW0]
  clear hW0
  go_region_held3 (fun Z : World => Z.cell? ⟨w.heap.size, 12, none⟩ = some (.bool wr) ∧ Z.cell? ⟨w.heap.size, 13, none⟩ = some (.bool en) ∧ Z.cell? ⟨w.heap.size, 14, none⟩ = some (.bool cf) ∧ Z.frozen? ⟨w.heap.size + 1 + 1, 0, none⟩ = false ∧ Z.frozen? ⟨w.heap.size + 1 + 1, 1, none⟩ = false ∧ Z.frozen? ⟨w.heap.size + 1 + 1, 2, none⟩ = false) (first | exact ⟨a0, b0, c0, f00, f01, f02⟩ | exact ⟨a1, b1, c1, f10, f11, f12⟩ | exact ⟨a2, b2, c2, f20, f21, f22⟩ | exact ⟨a3, b3, c3, f30, f31, f32⟩) (fail)
  clear a0 b0 c0 f00 f01 f02 v00 v01 v02 a1 b1 c1 f10 f11 f12 v10 v11 v12 a2 b2 c2 f20 f21 f22 v20 v21 v22 a3 b3 c3 f30 f31 f32 v30 v31 v32
  obtain ⟨W3, hW3⟩ : ∃ W3, W3 = ((((W0.setCell ⟨w.heap.size + 1 + 1, 0, none⟩ (.bool wr)).setCell ⟨w.heap.size + 1 + 1, 1, none⟩ (.bool en)).setCell ⟨w.heap.size + 1 + 1, 2, none⟩ (.bool cf)).drew) := ⟨_, rfl⟩
  have HK3 : Hid (Kx [] w W3) := by rw [hW3]; exact (show Kx [] w _ from HH.out.1.drw1)
  have HD3 : Hid (W3.heap[w.heap.size]? = some (Obj.cells #[.bool true, .bool false, .bool false, .bool hw, .bool he, .bool hc, .int .i64 k, .float .f64 x, .string tx, .int .i64 rf, .int .i64 g, .int .i64 s, .bool wr, .bool en, .bool cf] 34 (0, 0))) := by rw [hW3]; exact HH.out.2.1
  have HR3 : Hid (W3.heap[w.heap.size + 1]? = some (Obj.cells #[.bool false, .bool false, .bool false, .bool false, .int .i64 0, .float .f64 0, .string ⟨#[]⟩, .pointer none, .pointer none, .pointer none, .bool false, .bool false, .bool false, .bool false, .bool false, .bool false] 99 (0, 0))) := by rw [hW3]; exact HH.out.2.2.1
  have HT3 : Hid (W3.heap[w.heap.size + 1 + 1]? = some (Obj.cells #[.bool wr, .bool en, .bool cf, .bool false, .int .i64 0, .float .f64 0, .string ⟨#[]⟩, .pointer none, .pointer none, .pointer none, .bool true, .bool false, .bool false, .bool hw, .bool he, .bool hc] 99 (0, 0))) := by rw [hW3]; exact HH.out.2.2.2
  rw [← hW3]
  clear hW3 HH
  have y0 := cell_at HD3.out 0 rfl
  have y1 := cell_at HD3.out 1 rfl
  have y2 := cell_at HD3.out 2 rfl
  have y3 := cell_at HD3.out 3 rfl
  have y4 := cell_at HD3.out 4 rfl
  have y5 := cell_at HD3.out 5 rfl
  have y6 := cell_at HD3.out 6 rfl
  have y7 := cell_at HD3.out 7 rfl
  have y8 := cell_at HD3.out 8 rfl
  have y9 := cell_at HD3.out 9 rfl
  have y10 := cell_at HD3.out 10 rfl
  have y11 := cell_at HD3.out 11 rfl
  have y12 := cell_at HD3.out 12 rfl
  have y13 := cell_at HD3.out 13 rfl
  have y14 := cell_at HD3.out 14 rfl
  go_wp2_with (first | (go_at_call 63; fail))
  refine (CV.out W3 HK3.out).mono ?_
  rintro e w4 ⟨rfl, hk4⟩
  clear y0 y1 y2 y3 y4 y5 y6 y7 y8 y9 y10 y11 y12 y13 y14 CV
  have HK4 : Hid (Kx [] w w4) := (show Kx [] w w4 from HK3.out.same hk4)
  have hD4 := hk4.get HD3.out (by simp)
  have HR4 : Hid (w4.heap[w.heap.size + 1]? = some (Obj.cells #[.bool false, .bool false, .bool false, .bool false, .int .i64 0, .float .f64 0, .string ⟨#[]⟩, .pointer none, .pointer none, .pointer none, .bool false, .bool false, .bool false, .bool false, .bool false, .bool false] 99 (0, 0))) := hk4.get HR3.out (by simp)
  have HT4 : Hid (w4.heap[w.heap.size + 1 + 1]? = some (Obj.cells #[.bool wr, .bool en, .bool cf, .bool false, .int .i64 0, .float .f64 0, .string ⟨#[]⟩, .pointer none, .pointer none, .pointer none, .bool true, .bool false, .bool false, .bool hw, .bool he, .bool hc] 99 (0, 0))) := hk4.get HT3.out (by simp)
  have y1 := cell_at hD4 1 rfl
  have y2 := cell_at hD4 2 rfl
  have z0 := cell_at HT4.out 0 rfl
  have z1 := cell_at HT4.out 1 rfl
  have z2 := cell_at HT4.out 2 rfl
  have z3 := cell_at HT4.out 3 rfl
  have z4 := cell_at HT4.out 4 rfl
  have z5 := cell_at HT4.out 5 rfl
  have z6 := cell_at HT4.out 6 rfl
  have z7 := cell_at HT4.out 7 rfl
  have z8 := cell_at HT4.out 8 rfl
  have z9 := cell_at HT4.out 9 rfl
  have z10 := cell_at HT4.out 10 rfl
  have z11 := cell_at HT4.out 11 rfl
  have z12 := cell_at HT4.out 12 rfl
  have z13 := cell_at HT4.out 13 rfl
  have z14 := cell_at HT4.out 14 rfl
  have z15 := cell_at HT4.out 15 rfl
  have hf4 := fr_all HT4.out
  have u0 := cell_at HR4.out 0 rfl
  have u1 := cell_at HR4.out 1 rfl
  have u2 := cell_at HR4.out 2 rfl
  have u3 := cell_at HR4.out 3 rfl
  have u4 := cell_at HR4.out 4 rfl
  have u5 := cell_at HR4.out 5 rfl
  have u6 := cell_at HR4.out 6 rfl
  have u7 := cell_at HR4.out 7 rfl
  have u8 := cell_at HR4.out 8 rfl
  have u9 := cell_at HR4.out 9 rfl
  have u10 := cell_at HR4.out 10 rfl
  have u11 := cell_at HR4.out 11 rfl
  have u12 := cell_at HR4.out 12 rfl
  have u13 := cell_at HR4.out 13 rfl
  have u14 := cell_at HR4.out 14 rfl
  have u15 := cell_at HR4.out 15 rfl
  have hg4 := fr_all HR4.out
  clear hk4 hD4 HK3 HD3 HR3 HT3
  go_wp2
  have n0 := heap_setCell_ne HR4.out (show w.heap.size + 1 + 1 ≠ w.heap.size + 1 by omega) 4 (.int .i64 k')
  have n1 := heap_setCell_ne n0 (show w.heap.size + 1 + 1 ≠ w.heap.size + 1 by omega) 5 (.float .f64 x')
  have n2 := heap_setCell_ne n1 (show w.heap.size + 1 + 1 ≠ w.heap.size + 1 by omega) 6 (.string tx')
  have n3 := heap_setCell_ne n2 (show w.heap.size + 1 + 1 ≠ w.heap.size + 1 by omega) 7 (.pointer r')
  have r0 := heap_set_at (C' := #[.bool wr, .bool false, .bool false, .bool false, .int .i64 0, .float .f64 0, .string ⟨#[]⟩, .pointer none, .pointer none, .pointer none, .bool false, .bool false, .bool false, .bool false, .bool false, .bool false]) n3 0 (.bool wr) rfl
  have r1 := heap_set_at (C' := #[.bool wr, .bool en, .bool false, .bool false, .int .i64 0, .float .f64 0, .string ⟨#[]⟩, .pointer none, .pointer none, .pointer none, .bool false, .bool false, .bool false, .bool false, .bool false, .bool false]) r0 1 (.bool en) rfl
  have r2 := heap_set_at (C' := #[.bool wr, .bool en, .bool cf, .bool false, .int .i64 0, .float .f64 0, .string ⟨#[]⟩, .pointer none, .pointer none, .pointer none, .bool false, .bool false, .bool false, .bool false, .bool false, .bool false]) r1 2 (.bool cf) rfl
  have r3 := heap_set_at (C' := #[.bool wr, .bool en, .bool cf, .bool false, .int .i64 0, .float .f64 0, .string ⟨#[]⟩, .pointer none, .pointer none, .pointer none, .bool false, .bool false, .bool false, .bool false, .bool false, .bool false]) r2 3 (.bool false) rfl
  have r4 := heap_set_at (C' := #[.bool wr, .bool en, .bool cf, .bool false, .int .i64 k', .float .f64 0, .string ⟨#[]⟩, .pointer none, .pointer none, .pointer none, .bool false, .bool false, .bool false, .bool false, .bool false, .bool false]) r3 4 (.int .i64 k') rfl
  have r5 := heap_set_at (C' := #[.bool wr, .bool en, .bool cf, .bool false, .int .i64 k', .float .f64 x', .string ⟨#[]⟩, .pointer none, .pointer none, .pointer none, .bool false, .bool false, .bool false, .bool false, .bool false, .bool false]) r4 5 (.float .f64 x') rfl
  have r6 := heap_set_at (C' := #[.bool wr, .bool en, .bool cf, .bool false, .int .i64 k', .float .f64 x', .string tx', .pointer none, .pointer none, .pointer none, .bool false, .bool false, .bool false, .bool false, .bool false, .bool false]) r5 6 (.string tx') rfl
  have r7 := heap_set_at (C' := #[.bool wr, .bool en, .bool cf, .bool false, .int .i64 k', .float .f64 x', .string tx', .pointer r', .pointer none, .pointer none, .bool false, .bool false, .bool false, .bool false, .bool false, .bool false]) r6 7 (.pointer r') rfl
  have r8 := heap_set_at (C' := #[.bool wr, .bool en, .bool cf, .bool false, .int .i64 k', .float .f64 x', .string tx', .pointer r', .pointer none, .pointer none, .bool false, .bool false, .bool false, .bool false, .bool false, .bool false]) r7 8 (.pointer none) rfl
  have r9 := heap_set_at (C' := #[.bool wr, .bool en, .bool cf, .bool false, .int .i64 k', .float .f64 x', .string tx', .pointer r', .pointer none, .pointer none, .bool false, .bool false, .bool false, .bool false, .bool false, .bool false]) r8 9 (.pointer none) rfl
  have r10 := heap_set_at (C' := #[.bool wr, .bool en, .bool cf, .bool false, .int .i64 k', .float .f64 x', .string tx', .pointer r', .pointer none, .pointer none, .bool true, .bool false, .bool false, .bool false, .bool false, .bool false]) r9 10 (.bool true) rfl
  have r11 := heap_set_at (C' := #[.bool wr, .bool en, .bool cf, .bool false, .int .i64 k', .float .f64 x', .string tx', .pointer r', .pointer none, .pointer none, .bool true, .bool false, .bool false, .bool false, .bool false, .bool false]) r10 11 (.bool false) rfl
  have r12 := heap_set_at (C' := #[.bool wr, .bool en, .bool cf, .bool false, .int .i64 k', .float .f64 x', .string tx', .pointer r', .pointer none, .pointer none, .bool true, .bool false, .bool false, .bool false, .bool false, .bool false]) r11 12 (.bool false) rfl
  have r13 := heap_set_at (C' := #[.bool wr, .bool en, .bool cf, .bool false, .int .i64 k', .float .f64 x', .string tx', .pointer r', .pointer none, .pointer none, .bool true, .bool false, .bool false, .bool hw, .bool false, .bool false]) r12 13 (.bool hw) rfl
  have r14 := heap_set_at (C' := #[.bool wr, .bool en, .bool cf, .bool false, .int .i64 k', .float .f64 x', .string tx', .pointer r', .pointer none, .pointer none, .bool true, .bool false, .bool false, .bool hw, .bool he, .bool false]) r13 14 (.bool he) rfl
  have r15 := heap_set_at (C' := #[.bool wr, .bool en, .bool cf, .bool false, .int .i64 k', .float .f64 x', .string tx', .pointer r', .pointer none, .pointer none, .bool true, .bool false, .bool false, .bool hw, .bool he, .bool hc]) r14 15 (.bool hc) rfl
  clear n0 n1 n2 n3 r0 r1 r2 r3 r4 r5 r6 r7 r8 r9 r10 r11 r12 r13 r14 z0 z1 z2 z3 z4 z5 z6 z7 z8 z9 z10 z11 z12 z13 z14 z15 u0 u1 u2 u3 u4 u5 u6 u7 u8 u9 u10 u11 u12 u13 u14 u15 y1 y2 hf4 hg4
  refine bodyPost_ret (results_row_tmp rfl _ _ (w.heap.size + 1) 99 _ (0, 0) _ rfl r15 Tryz.underlying99 rfl (by kernel_rfl) _ rfl) rfl ?_
  exact ⟨rfl, HK4.out.trans (((((((((((((((((((((Kx.refl [w.heap.size + 1, w.heap.size + 1 + 1] w4).set (by simp) _).set (by simp) _).set (by simp) _).set (by simp) _).set (by simp) _).set (by simp) _).set (by simp) _).set (by simp) _).set (by simp) _).set (by simp) _).set (by simp) _).set (by simp) _).set (by simp) _).set (by simp) _).set (by simp) _).set (by simp) _).set (by simp) _).set (by simp) _).set (by simp) _).set (by simp) _) (fun i hi => .inr (by simp at hi; omega))⟩
end Go.Proofs.YtmicdbplkfdfnaaGreatDoor
set_option linter.unusedVariables false
namespace Go.Proofs.YtmicdbplkfdfnaaGreatDoor
open Go.RowKit Go.Shelf
attribute [local go_sem] run_store_flt


set_option maxRecDepth 100000 in
set_option maxHeartbeats 2000000 in
theorem define_face (O H b : Nat) (l : List Nat) (r : Int) (s nm : ByteArray) (pl : Int) (isP : Bool) (d0 d1 d2 d3 d4 d5 d12 d13 d14 : Bool) (k rf g st : Int) (x : Nat) (tx : ByteArray) (t0 t1 t2 t3 : Bool) (t4 : Int) (t5 : Nat) (t6 : ByteArray) (t7 t8 t9 : Option Addr) (t10 t11 t12 t13 t14 t15 : Bool) (R : World → Prop) (w : World)
    (hO : w.cell? ⟨O, 0, none⟩ = some (.pointer (some ⟨H, 0, none⟩))) (hH : Objs w H l) (hr1 : 1 ≤ r) (hr : l[(r - 1).toNat]? = some b)
    (cT : ∀ W, Kx [] w W → Calls Tryz.prog 40 #[.pointer (some ⟨O, 0, none⟩), .agg #[.bool d0, .bool d1, .bool d2, .bool d3, .bool d4, .bool d5, .int .i64 k, .float .f64 x, .string tx, .int .i64 rf, .int .i64 g, .int .i64 st, .bool d12, .bool d13, .bool d14]] W fun e w' => e = .returned (.tuple #[.agg #[.bool t0, .bool t1, .bool t2, .bool t3, .int .i64 t4, .float .f64 t5, .string t6, .pointer t7, .pointer t8, .pointer t9, .bool t10, .bool t11, .bool t12, .bool t13, .bool t14, .bool t15], .bool true]) ∧ Kx [] W w')
    (cK : ∀ W, Kx [] w W → Calls Tryz.prog 26 #[.string s] W fun e w' => e = .returned (.agg #[.string nm, .int .u32 pl, .bool isP]) ∧ Kx [] W w')
    (cD : ∀ W, Kx [] w W → Calls Tryz.prog 41 #[.pointer (some ⟨b, 0, none⟩), .agg #[.string nm, .int .u32 pl, .bool isP], .agg #[.bool t0, .bool t1, .bool t2, .bool t3, .int .i64 t4, .float .f64 t5, .string t6, .pointer t7, .pointer t8, .pointer t9, .bool t10, .bool t11, .bool t12, .bool t13, .bool t14, .bool t15]] W fun e w' => e = .returned .nilIface ∧ R w') :
    Calls Tryz.prog 20 #[.pointer (some ⟨O, 0, none⟩), .int .i64 r, .string s, .agg #[.bool d0, .bool d1, .bool d2, .bool d3, .bool d4, .bool d5, .int .i64 k, .float .f64 x, .string tx, .int .i64 rf, .int .i64 g, .int .i64 st, .bool d12, .bool d13, .bool d14]] w fun e w' => e = .returned .nilIface ∧ R w' := by
  obtain ⟨W0, hW0⟩ : ∃ W0, W0 = w.alloc (Obj.cells #[.bool d0, .bool d1, .bool d2, .bool d3, .bool d4, .bool d5, .int .i64 k, .float .f64 x, .string tx, .int .i64 rf, .int .i64 g, .int .i64 st, .bool d12, .bool d13, .bool d14] 34) := ⟨_, rfl⟩
  have hk0 : Kx [] w W0 := by rw [hW0]; exact Kx.alloc _ _ _
  have hD0 : W0.heap[w.heap.size]? = some (Obj.cells #[.bool d0, .bool d1, .bool d2, .bool d3, .bool d4, .bool d5, .int .i64 k, .float .f64 x, .string tx, .int .i64 rf, .int .i64 g, .int .i64 st, .bool d12, .bool d13, .bool d14] 34 (0, 0)) := by rw [hW0]; exact heap_alloc_new _ _
  have hO0 : W0.cell? ⟨O, 0, none⟩ = some (.pointer (some ⟨H, 0, none⟩)) := hk0.cell hO (by simp)
  have c1 := numbered_any H l r W0 (hH.kept hk0)
  rw [objP_hit hr1 hr] at c1
  have CT := (show Hid _ from cT)
  have CK := (show Hid _ from cK)
  have CD := (show Hid _ from cD)
  have HK0 := (show Hid _ from hk0)
  have HD0 := (show Hid _ from hD0)
  clear cT cK cD hk0 hD0 hO hH hr1 hr
  rw [hW0] at hO0
  go_enter Tryz.func20, Tryz.ntmps20
  go_wp2_with (first | (go_at_call 21; fail))
  rw [← hW0]
  clear hW0 hO0
  refine c1.mono ?_
  rintro e w1 ⟨rfl, rfl⟩
  have y0 := cell_at HD0.out 0 rfl
  have y1 := cell_at HD0.out 1 rfl
  have y2 := cell_at HD0.out 2 rfl
  have y3 := cell_at HD0.out 3 rfl
  have y4 := cell_at HD0.out 4 rfl
  have y5 := cell_at HD0.out 5 rfl
  have y6 := cell_at HD0.out 6 rfl
  have y7 := cell_at HD0.out 7 rfl
  have y8 := cell_at HD0.out 8 rfl
  have y9 := cell_at HD0.out 9 rfl
  have y10 := cell_at HD0.out 10 rfl
  have y11 := cell_at HD0.out 11 rfl
  have y12 := cell_at HD0.out 12 rfl
  have y13 := cell_at HD0.out 13 rfl
  have y14 := cell_at HD0.out 14 rfl
  go_wp2_with (first | (go_at_call 40; fail))
  refine (CT.out w1 HK0.out).mono ?_
  rintro e w2 ⟨rfl, hk2⟩
  clear y0 y1 y2 y3 y4 y5 y6 y7 y8 y9 y10 y11 y12 y13 y14 c1 CT HD0
  obtain ⟨W2, hW2⟩ : ∃ W2, W2 = w2.alloc (Obj.cells #[.bool t0, .bool t1, .bool t2, .bool t3, .int .i64 t4, .float .f64 t5, .string t6, .pointer t7, .pointer t8, .pointer t9, .bool t10, .bool t11, .bool t12, .bool t13, .bool t14, .bool t15] 99) := ⟨_, rfl⟩
  have hk3 : Kx [] w W2 := by rw [hW2]; exact (HK0.out.same hk2).alc _
  have HT : Hid (W2.heap[w2.heap.size]? = some (Obj.cells #[.bool t0, .bool t1, .bool t2, .bool t3, .int .i64 t4, .float .f64 t5, .string t6, .pointer t7, .pointer t8, .pointer t9, .bool t10, .bool t11, .bool t12, .bool t13, .bool t14, .bool t15] 99 (0, 0))) := by rw [hW2]; exact heap_alloc_new _ _
  have HK3 := (show Hid _ from hk3)
  clear hk2 hk3 HK0
  go_wp2
  rw [← hW2]
  clear hW2
  have z0 := cell_at HT.out 0 rfl
  have z1 := cell_at HT.out 1 rfl
  have z2 := cell_at HT.out 2 rfl
  have z3 := cell_at HT.out 3 rfl
  have z4 := cell_at HT.out 4 rfl
  have z5 := cell_at HT.out 5 rfl
  have z6 := cell_at HT.out 6 rfl
  have z7 := cell_at HT.out 7 rfl
  have z8 := cell_at HT.out 8 rfl
  have z9 := cell_at HT.out 9 rfl
  have z10 := cell_at HT.out 10 rfl
  have z11 := cell_at HT.out 11 rfl
  have z12 := cell_at HT.out 12 rfl
  have z13 := cell_at HT.out 13 rfl
  have z14 := cell_at HT.out 14 rfl
  have z15 := cell_at HT.out 15 rfl
  go_region_law (first | (go_simp; go_at_call 26; refine (CK.out _ HK3.out.drw1).mono ?_; rintro e w4 ⟨rfl, hk4⟩; have HT4 : Hid (w4.heap[w2.heap.size]? = some (Obj.cells #[.bool t0, .bool t1, .bool t2, .bool t3, .int .i64 t4, .float .f64 t5, .string t6, .pointer t7, .pointer t8, .pointer t9, .bool t10, .bool t11, .bool t12, .bool t13, .bool t14, .bool t15] 99 (0, 0))) := hk4.get HT.out (by simp); have u0 := cell_at HT4.out 0 rfl; have u1 := cell_at HT4.out 1 rfl; have u2 := cell_at HT4.out 2 rfl; have u3 := cell_at HT4.out 3 rfl; have u4 := cell_at HT4.out 4 rfl; have u5 := cell_at HT4.out 5 rfl; have u6 := cell_at HT4.out 6 rfl; have u7 := cell_at HT4.out 7 rfl; have u8 := cell_at HT4.out 8 rfl; have u9 := cell_at HT4.out 9 rfl; have u10 := cell_at HT4.out 10 rfl; have u11 := cell_at HT4.out 11 rfl; have u12 := cell_at HT4.out 12 rfl; have u13 := cell_at HT4.out 13 rfl; have u14 := cell_at HT4.out 14 rfl; have u15 := cell_at HT4.out 15 rfl; have HK4 : Hid (Kx [] w w4) := (show Kx [] w w4 from (HK3.out.drw1).same hk4)) | (go_simp; go_at_call 41; refine (CD.out _ HK4.out).mono ?_; rintro e w5 ⟨rfl, hR⟩))
  all_goals
    have HR : Hid (R w5) := hR
    clear u0 u1 u2 u3 u4 u5 u6 u7 u8 u9 u10 u11 u12 u13 u14 u15 z0 z1 z2 z3 z4 z5 z6 z7 z8 z9 z10 z11 z12 z13 z14 z15 hR CD CK
    go_wp2
    go_ret
    exact ⟨rfl, HR.out⟩
end Go.Proofs.YtmicdbplkfdfnaaGreatDoor
set_option linter.unusedVariables false
namespace Go.Proofs.YtmicdbplkfdfnaaGreatDoor
open Go.RowKit Go.Shelf Go.Maps

set_option maxRecDepth 100000 in
set_option maxHeartbeats 2000000 in
theorem define_plain (O : Nat) (r : Int) (s : ByteArray) (d0 d1 d2 d3 d4 d5 d12 d13 d14 : Bool) (k rf g st : Int) (x : Nat) (tx : ByteArray) (R : World → Prop) (w : World)
    (cD : ∀ W, Kx [] w W → Calls Tryz.prog 20 #[.pointer (some ⟨O, 0, none⟩), .int .i64 r, .string s, .agg #[.bool d0, .bool d1, .bool d2, .bool d3, .bool d4, .bool d5, .int .i64 k, .float .f64 x, .string tx, .int .i64 rf, .int .i64 g, .int .i64 st, .bool d12, .bool d13, .bool d14]] W fun e w' => e = .returned .nilIface ∧ R w') :
    Calls Tryz.prog 7 #[.pointer (some ⟨O, 0, none⟩), .int .i64 r, .string s, .agg #[.bool d0, .bool d1, .bool d2, .bool d3, .bool d4, .bool d5, .int .i64 k, .float .f64 x, .string tx, .int .i64 rf, .int .i64 g, .int .i64 st, .bool d12, .bool d13, .bool d14]] w fun e w' => e = .returned (.int .i64 0) ∧ ∃ W, R W ∧ Kx [] W w' := by
  have CD := (show Hid _ from cD)
  clear cD
  go_enter Tryz.func7, Tryz.ntmps7
  go_wp2_with (first | (go_at_call 20; fail))
  refine (CD.out _ (Kx.alloc _ _ _)).mono ?_
  rintro e w1 ⟨rfl, hR⟩
  have HR := (show Hid (R w1) from hR)
  have cn := number_nil w1
  clear hR CD
  go_wp2_with (first | (go_at_call 19; refine cn.mono ?_; rintro e w2 ⟨rfl, hk⟩))
  go_ret
  exact ⟨rfl, w1, HR.out, hk⟩
set_option maxRecDepth 100000 in
set_option maxHeartbeats 2000000 in
theorem clone_str (s : ByteArray) (hs : s.size ≤ 1000) (w : World) : Calls Tryz.prog 37 #[.string s] w fun e w' => e = .returned (.string s) ∧ Kx [] w w' := by
  have c := Tryz.stringslite_Clone s w (by omega)
  go_enter Tryz.func37, Tryz.ntmps37
  go_wp2_with (first | (go_at_call 60; refine c.mono ?_; rintro e w1 ⟨rfl, hb⟩))
  go_ret
  exact ⟨rfl, Kx.ofBelow hb []⟩
theorem info61 : (Tryz.prog.info? 61).map (fun i => (i.zero, i.size, i.bytes)) = some (some (.pointer none), 1, 8) := by kernel_rfl
def objV (C : ByteArray) (pr : Value) (n : Int) (S : Nat) : Array Value := #[.string C, pr, .bool false, .nilIface, .int .i64 n, .pointer (some ⟨S, 0, none⟩), .slice none 0 0, .slice none 0 0, .map none, .bool false]
set_option maxRecDepth 100000 in
set_option maxHeartbeats 2000000 in
theorem make_heap (H S base : Nat) (l : List Nat) (v : Value) (C : ByteArray) (w : World)
    (hH : w.heap[H]? = some (.cells #[v, .int .i64 (l.length : Int), .int .i64 0, .int .i64 0, .pointer (some ⟨S, 0, none⟩), .int .i64 0, .int .i64 0] 91 (0, 0))) (hrow : w.ownsRow base 61 1 v l.length (l.map ptrV)) (hl : l.length ≤ 1000) (hbase : base ≤ w.heap.size) (hC : (C.toList == [65, 114, 114, 97, 121]) = false) :
    Calls Tryz.prog 36 #[.pointer (some ⟨H, 0, none⟩), .string C, .pointer none] w fun e w' => ∃ b v', e = .returned (.pointer (some ⟨b, 0, none⟩)) ∧ w.heap.size ≤ b ∧ w'.heap[b]? = some (.cells (objV C (.pointer none) ((l.length : Int) + 1) S) 111 (0, 0)) ∧
      w'.heap[H]? = some (.cells #[v', .int .i64 ((l.length : Int) + 1), .int .i64 0, .int .i64 0, .pointer (some ⟨S, 0, none⟩), .int .i64 0, .int .i64 0] 91 (0, 0)) ∧ w'.ownsRow base 61 1 v' (l.length + 1) ((l ++ [b]).map ptrV) ∧ (∀ g, v'.ownBlock = some g → v.ownBlock = some g ∨ w.heap.size ≤ g) ∧ Kx (H :: v.ownBlock.toList) w w' := by
  have c1 := cell_at hH 1 rfl
  have f1 := fr_all hH 1
  obtain ⟨W1, hW1⟩ : ∃ W1, W1 = w.setCell ⟨H, 1, none⟩ (.int .i64 ((l.length : Int) + 1)) := ⟨_, rfl⟩
  have hk1 : Kx [H] w W1 := by rw [hW1]; exact Kx.setCell _ (by simp) _
  have hH1 : W1.heap[H]? = some (.cells #[v, .int .i64 ((l.length : Int) + 1), .int .i64 0, .int .i64 0, .pointer (some ⟨S, 0, none⟩), .int .i64 0, .int .i64 0] 91 (0, 0)) := by rw [hW1]; exact heap_set_at hH 1 _ rfl
  have hr1 : W1.ownsRow base 61 1 v l.length (l.map ptrV) := hk1.owns hrow (fun g hg hm => row_apart hrow hH (by decide) (by rw [hg, List.mem_singleton.1 hm]; simp))
  have hHW : H ∉ v.ownBlock.toList := row_apart hr1 hH1 (by decide)
  have hsz : W1.heap.size = w.heap.size := by rw [hW1]; simp [World.setCell]
  obtain ⟨W2, hW2⟩ : ∃ W2, W2 = W1.alloc (Obj.cells #[.string C, .pointer none, .bool false, .nilIface, .int .i64 ((l.length : Int) + 1), .pointer (some ⟨S, 0, none⟩), .slice none 0 0, .slice none 0 0, .map none, .bool false] 111) := ⟨_, rfl⟩
  have hk2 : Kx [] W1 W2 := by rw [hW2]; exact Kx.alloc _ _ _
  have hH2 := hk2.get hH1 (by simp)
  have hb2 : W2.heap[W1.heap.size]? = some (.cells (objV C (.pointer none) ((l.length : Int) + 1) S) 111 (0, 0)) := by rw [hW2]; exact heap_alloc_new _ _
  have hr2 := hk2.owns hr1 (fun g hg => by simp)
  have a1 := cell_at hH1 1 rfl
  have a2 := cell_at hH1 4 rfl
  have b1 := cell_at hH2 1 rfl
  have b2 := cell_at hH2 4 rfl
  rw [hW2] at b1 b2
  have HH := (show Hid _ from And.intro hk1 (And.intro hk2 (And.intro hH2 (And.intro hb2 hr2))))
  clear hrow hr1 hr2 hH2 hb2 hk1 hk2 hH1 hH
  go_enter Tryz.func36, Tryz.ntmps36
  go_wp2
  rw [← hW1]
  clear hW1 c1 f1
  go_region_held3 (fun Z : World => Z.cell? ⟨H, 1, none⟩ = some (.int .i64 ((l.length : Int) + 1)) ∧ Z.cell? ⟨H, 4, none⟩ = some (.pointer (some ⟨S, 0, none⟩))) (first | exact ⟨a1, a2⟩ | exact ⟨b1, b2⟩) (fail)
  rw [← hW2]
  obtain ⟨W3, hW3⟩ : ∃ W3, W3 = W2.drew := ⟨_, rfl⟩
  have HK3 : Hid (Kx [H] w W3) := by rw [hW3]; exact (show Kx [H] w _ from HH.out.1.trans HH.out.2.1.drw1 (fun i hi => by cases hi))
  have HH3 : Hid (W3.heap[H]? = some (.cells #[v, .int .i64 ((l.length : Int) + 1), .int .i64 0, .int .i64 0, .pointer (some ⟨S, 0, none⟩), .int .i64 0, .int .i64 0] 91 (0, 0))) := by rw [hW3]; exact HH.out.2.2.1
  have HB3 : Hid (W3.heap[w.heap.size]? = some (.cells (objV C (.pointer none) ((l.length : Int) + 1) S) 111 (0, 0))) := by rw [hW3, ← hsz]; exact HH.out.2.2.2.1
  have HR3 : Hid (W3.ownsRow base 61 1 v l.length (l.map ptrV)) := by rw [hW3]; exact HH.out.2.2.2.2
  have HS3 : Hid (W3.heap.size = w.heap.size + 1) := by rw [hW3, hW2]; exact (show _ = _ by simp [World.drew, hsz])
  rw [← hW3]
  clear hW3 hW2 HH a1 a2 b1 b2
  obtain ⟨i0, hi, hz0, hz1, hz2⟩ := info_parts info61
  have q1 : l.length + 1 ≤ maxLen := by unfold maxLen; omega
  have q2 : base ≤ W3.heap.size + 1 := by have := HS3.out; omega
  have z0 := cell_at HH3.out 0 rfl
  go_wp2_with (first | (at_builtin; refine wpList_append_lies _ rfl _ _ 89 rfl base 61 i0 (.pointer none) 1 8 Tryz.underlying89 hi hz0 hz1 hz2 rfl (by decide) _ _ _ rfl (HR3.out.alloc _) ⟨W3.heap.size, 0, none⟩ 1 1 [(.pointer (some ⟨w.heap.size, 0, none⟩))] rfl rfl (cells_new W3 [(.pointer (some ⟨w.heap.size, 0, none⟩))] 61) (by intro u hu; simp at hu; rw [hu]; rfl) (by decide) q1 (by omega) (by simp; omega) (W3.heap.size + 1) (by simp) ?_; intro gg cc w4 hown1 hgrow hat hlt1; have JN4 : Hid (w4.heap[H]? = some (.cells #[v, .int .i64 ((l.length : Int) + 1), .int .i64 0, .int .i64 0, .pointer (some ⟨S, 0, none⟩), .int .i64 0, .int .i64 0] 91 (0, 0))) := (Kx.grown hgrow).get ((Kx.alloc [] W3 _).get HH3.out (by simp)) hHW; have JB4 : Hid (w4.heap[w.heap.size]? = some (.cells (objV C (.pointer none) ((l.length : Int) + 1) S) 111 (0, 0))) := (Kx.grown hgrow).get ((Kx.alloc [] W3 _).get HB3.out (by simp)) (row_apart HR3.out HB3.out (by decide)); have cN4 : w4.cell? ⟨H, 0, none⟩ = some v := cell_at JN4.out 0 rfl; have fN4 : w4.frozen? ⟨H, 0, none⟩ = false := fr_all JN4.out 0))
  go_ret
  have hbh : H ≠ w.heap.size := cells_ne HH3.out HB3.out (by decide)
  have kD : Kx [H] w4 (w4.setCell ⟨H, 0, none⟩ (.slice (some ⟨gg, 0, none⟩) (l.length + 1) cc)) := Kx.setCell _ (by simp) _
  refine ⟨w.heap.size, .slice (some ⟨gg, 0, none⟩) (l.length + 1) cc, rfl, Nat.le_refl _, heap_setCell_ne JB4.out hbh 0 _, heap_set_at JN4.out 0 _ rfl, ?_, ?_, ?_⟩
  · rw [List.map_append]
    exact kD.owns hown1 (fun q hq hm => row_apart hown1 JN4.out (by decide) (by rw [hq, List.mem_singleton.1 hm]; simp))
  · intro q hq
    have e : gg = q := by simpa [Value.ownBlock] using hq
    rcases hat with h | h
    · exact .inl (by have h' : v.ownBlock = some gg := h; rw [h', e])
    · exact .inr (by have := HS3.out; rw [← e, h]; omega)
  · exact (((HK3.out.alc (Obj.cells #[.pointer (some ⟨w.heap.size, 0, none⟩)] 61)).mono (S := H :: v.ownBlock.toList) (fun i hi => .inl (by simp at hi; simp [hi]))).trans (Kx.grown hgrow) (fun i hi => .inl (List.mem_cons_of_mem _ hi))).trans kD (fun i hi => .inl (by simp at hi; simp [hi]))
set_option maxRecDepth 100000 in
set_option maxHeartbeats 2000000 in
theorem make_face (O H : Nat) (C : ByteArray) (l : List Nat) (R : Nat → World → Prop) (w : World) (hC : C.size ≤ 1000) (hO : w.cell? ⟨O, 0, none⟩ = some (.pointer (some ⟨H, 0, none⟩))) (hH : Objs w H l) (n : Int)
    (cM : ∀ W, Kx [] w W → Calls Tryz.prog 36 #[.pointer (some ⟨H, 0, none⟩), .string C, .pointer none] W fun e w' => ∃ b, e = .returned (.pointer (some ⟨b, 0, none⟩)) ∧ w'.cell? ⟨b, 4, none⟩ = some (.int .i64 n) ∧ R b w') :
    Calls Tryz.prog 18 #[.pointer (some ⟨O, 0, none⟩), .string C, .int .i64 0] w fun e w' => e = .returned (.tuple #[.int .i64 n, .nilIface]) ∧ ∃ b, R b w' := by
  have c1 := orNone_any O H l 0 w hO hH
  rw [objP_none (by omega)] at c1
  have c2 := clone_str C hC
  have CM := (show Hid _ from cM)
  clear cM hH
  go_enter Tryz.func18, Tryz.ntmps18
  go_wp2_with (first | (go_at_call 35; refine c1.mono ?_; rintro e w1 ⟨rfl, rfl⟩))
  have k0 : ∀ W, Kx [] w1 W → W.cell? ⟨O, 0, none⟩ = some (.pointer (some ⟨H, 0, none⟩)) := fun W hW => hW.cell hO (by simp)
  have K0 := (show Hid _ from k0)
  clear k0
  go_region_law (first | (go_simp; go_at_call 37; refine (c2 _).mono ?_; rintro e w2 ⟨rfl, hk2⟩; have HK2 : Hid (Kx [] w1 w2) := (show Kx [] w1 w2 from (Kx.drew [] w1).same hk2); have o2 := K0.out w2 HK2.out) | (go_simp; go_at_call 36; refine (CM.out _ HK2.out).mono ?_; rintro e w3 ⟨b, rfl, h4, hR⟩; have c38 := number_any b n w3 h4) | (go_simp; go_at_call 38; refine c38.mono ?_; rintro e w4 ⟨rfl, rfl⟩))
  all_goals
    go_wp2
    go_ret2
    exact ⟨rfl, b, hR⟩
set_option maxRecDepth 100000 in
set_option maxHeartbeats 2000000 in
theorem make_plain (O : Nat) (C : ByteArray) (n : Int) (R : World → Prop) (w : World)
    (cM : Calls Tryz.prog 18 #[.pointer (some ⟨O, 0, none⟩), .string C, .int .i64 0] w fun e w' => e = .returned (.tuple #[.int .i64 n, .nilIface]) ∧ R w') :
    Calls Tryz.prog 6 #[.pointer (some ⟨O, 0, none⟩), .string C, .int .i64 0] w fun e w' => e = .returned (.tuple #[.int .i64 n, .int .i64 0]) ∧ ∃ W, R W ∧ Kx [] W w' := by
  have c2 := number_nil
  go_enter Tryz.func6, Tryz.ntmps6
  go_wp2_with (first | (go_at_call 18; refine cM.mono ?_; rintro e w1 ⟨rfl, hR⟩) | (go_at_call 19; refine (c2 _).mono ?_; rintro e w2 ⟨rfl, hk⟩))
  go_ret2
  exact ⟨rfl, w1, hR, hk⟩
end Go.Proofs.YtmicdbplkfdfnaaGreatDoor
