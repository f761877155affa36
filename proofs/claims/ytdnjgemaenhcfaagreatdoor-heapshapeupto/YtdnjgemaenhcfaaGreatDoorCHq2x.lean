/- told: a value and flags. -/
import Derived.Test.YtdnjgemaenhcfaaGreatDoorCHs2x
import Derived.Test.YtdnjgemaenhcfaaGreatDoorCHq4x
set_option linter.unusedVariables false
namespace Go.Proofs.YtdnjgemaenhcfaaGreatDoor
open Go.RowKit Go.Shelf Go.Maps

attribute [local go_sem] run_store_flt
set_option maxRecDepth 100000 in
set_option maxHeartbeats 2000000 in
theorem told_val (O : Nat) (hw he hc wr en cf : Bool) (k k' rf g s : Int) (x x' : Nat) (tx tx' : ByteArray) (r' : Option Addr) (w : World)
    (cV : ∀ W, Kx [] w W → Calls Tryz.prog 61 #[.pointer (some ⟨O, 0, none⟩), .agg #[.int .i64 k, .float .f64 x, .string tx, .int .i64 rf]] W fun e w' => e = .returned (.tuple #[.agg #[.int .i64 k', .float .f64 x', .string tx', .pointer r'], .bool true]) ∧ Kx [] W w') :
    Calls Tryz.prog 40 #[.pointer (some ⟨O, 0, none⟩), .agg #[.bool true, .bool false, .bool false, .bool hw, .bool he, .bool hc, .int .i64 k, .float .f64 x, .string tx, .int .i64 rf, .int .i64 g, .int .i64 s, .bool wr, .bool en, .bool cf]] w fun e w' => e = .returned (.tuple #[.agg #[.bool wr, .bool en, .bool cf, .bool false, .int .i64 k', .float .f64 x', .string tx', .pointer r', .pointer none, .pointer none, .bool true, .bool false, .bool false, .bool hw, .bool he, .bool hc], .bool true]) ∧ Kx [] w w' := by
  obtain ⟨W0, hW0⟩ : ∃ W0, W0 = ((w.alloc (Obj.cells #[.bool true, .bool false, .bool false, .bool hw, .bool he, .bool hc, .int .i64 k, .float .f64 x, .string tx, .int .i64 rf, .int .i64 g, .int .i64 s, .bool wr, .bool en, .bool cf] 34)).alloc (Obj.cells #[.bool false, .bool false, .bool false, .bool false, .int .i64 0, .float .f64 0, .string ⟨#[]⟩, .pointer none, .pointer none, .pointer none, .bool false, .bool false, .bool false, .bool false, .bool false, .bool false] 99)).alloc (Obj.cells #[.bool false, .bool false, .bool false, .bool false, .int .i64 0, .float .f64 0, .string ⟨#[]⟩, .pointer none, .pointer none, .pointer none, .bool true, .bool false, .bool false, .bool hw, .bool he, .bool hc] 99) := ⟨_, rfl⟩
  have hk0 : Kx [] w W0 := by rw [hW0]; exact (show Kx [] w _ from ((Kx.alloc _ _ _).alc _).alc _)
  have hD0 : W0.heap[w.heap.size]? = some (Obj.cells #[.bool true, .bool false, .bool false, .bool hw, .bool he, .bool hc, .int .i64 k, .float .f64 x, .string tx, .int .i64 rf, .int .i64 g, .int .i64 s, .bool wr, .bool en, .bool cf] 34 (0, 0)) := by rw [hW0]; exact heap_old (heap_old (heap_alloc_new _ _) _) _
  have hR0 : W0.heap[w.heap.size + 1]? = some (Obj.cells #[.bool false, .bool false, .bool false, .bool false, .int .i64 0, .float .f64 0, .string ⟨#[]⟩, .pointer none, .pointer none, .pointer none, .bool false, .bool false, .bool false, .bool false, .bool false, .bool false] 99 (0, 0)) := by rw [hW0]; exact heap_old (heap_alloc2_new _ _ _) _
  have hT0 : W0.heap[w.heap.size + 1 + 1]? = some (Obj.cells #[.bool false, .bool false, .bool false, .bool false, .int .i64 0, .float .f64 0, .string ⟨#[]⟩, .pointer none, .pointer none, .pointer none, .bool true, .bool false, .bool false, .bool hw, .bool he, .bool hc] 99 (0, 0)) := by
    have e : w.heap.size + 1 + 1 = ((w.alloc (Obj.cells #[.bool true, .bool false, .bool false, .bool hw, .bool he, .bool hc, .int .i64 k, .float .f64 x, .string tx, .int .i64 rf, .int .i64 g, .int .i64 s, .bool wr, .bool en, .bool cf] 34)).alloc (Obj.cells #[.bool false, .bool false, .bool false, .bool false, .int .i64 0, .float .f64 0, .string ⟨#[]⟩, .pointer none, .pointer none, .pointer none, .bool false, .bool false, .bool false, .bool false, .bool false, .bool false] 99)).heap.size := by simp
    rw [hW0, e]; exact heap_alloc_new _ _
  have hT1 := heap_set_at (C' := #[.bool wr, .bool false, .bool false, .bool false, .int .i64 0, .float .f64 0, .string ⟨#[]⟩, .pointer none, .pointer none, .pointer none, .bool true, .bool false, .bool false, .bool hw, .bool he, .bool hc]) hT0 0 (.bool wr) rfl
  have hT2 := heap_set_at (C' := #[.bool wr, .bool en, .bool false, .bool false, .int .i64 0, .float .f64 0, .string ⟨#[]⟩, .pointer none, .pointer none, .pointer none, .bool true, .bool false, .bool false, .bool hw, .bool he, .bool hc]) hT1 1 (.bool en) rfl
  have hT3 := heap_set_at (C' := #[.bool wr, .bool en, .bool cf, .bool false, .int .i64 0, .float .f64 0, .string ⟨#[]⟩, .pointer none, .pointer none, .pointer none, .bool true, .bool false, .bool false, .bool hw, .bool he, .bool hc]) hT2 2 (.bool cf) rfl
  have hD1 := heap_setCell_ne hD0 (show w.heap.size + 1 + 1 ≠ w.heap.size by omega) 0 (.bool wr)
  have hD2 := heap_setCell_ne hD1 (show w.heap.size + 1 + 1 ≠ w.heap.size by omega) 1 (.bool en)
  have hD3 := heap_setCell_ne hD2 (show w.heap.size + 1 + 1 ≠ w.heap.size by omega) 2 (.bool cf)
  have hR1 := heap_setCell_ne hR0 (show w.heap.size + 1 + 1 ≠ w.heap.size + 1 by omega) 0 (.bool wr)
  have hR2 := heap_setCell_ne hR1 (show w.heap.size + 1 + 1 ≠ w.heap.size + 1 by omega) 1 (.bool en)
  have hR3 := heap_setCell_ne hR2 (show w.heap.size + 1 + 1 ≠ w.heap.size + 1 by omega) 2 (.bool cf)
  have hk3 : Kx [] w (((W0.setCell ⟨w.heap.size + 1 + 1, 0, none⟩ (.bool wr)).setCell ⟨w.heap.size + 1 + 1, 1, none⟩ (.bool en)).setCell ⟨w.heap.size + 1 + 1, 2, none⟩ (.bool cf)) := hk0.trans ((((Kx.refl [w.heap.size + 1 + 1] W0).set (by simp) _).set (by simp) _).set (by simp) _) (fun i hi => .inr (by simp at hi; omega))
  have HH := (show Hid _ from And.intro hk3 (And.intro hD3 (And.intro hR3 hT3)))
  have a0 := cell_at hD0 12 rfl
  have b0 := cell_at hD0 13 rfl
  have c0 := cell_at hD0 14 rfl
  have f00 := fr_all hT0 0
  have v00 := cell_at hT0 0 rfl
  have f01 := fr_all hT0 1
  have v01 := cell_at hT0 1 rfl
  have f02 := fr_all hT0 2
  have v02 := cell_at hT0 2 rfl
  have a1 := cell_at hD1 12 rfl
  have b1 := cell_at hD1 13 rfl
  have c1 := cell_at hD1 14 rfl
  have f10 := fr_all hT1 0
  have v10 := cell_at hT1 0 rfl
  have f11 := fr_all hT1 1
  have v11 := cell_at hT1 1 rfl
  have f12 := fr_all hT1 2
  have v12 := cell_at hT1 2 rfl
  have a2 := cell_at hD2 12 rfl
  have b2 := cell_at hD2 13 rfl
  have c2 := cell_at hD2 14 rfl
  have f20 := fr_all hT2 0
  have v20 := cell_at hT2 0 rfl
  have f21 := fr_all hT2 1
  have v21 := cell_at hT2 1 rfl
  have f22 := fr_all hT2 2
  have v22 := cell_at hT2 2 rfl
  have a3 := cell_at hD3 12 rfl
  have b3 := cell_at hD3 13 rfl
  have c3 := cell_at hD3 14 rfl
  have f30 := fr_all hT3 0
  have v30 := cell_at hT3 0 rfl
  have f31 := fr_all hT3 1
  have v31 := cell_at hT3 1 rfl
  have f32 := fr_all hT3 2
  have v32 := cell_at hT3 2 rfl
  have CV := (show Hid _ from cV)
  clear cV hk0 hD0 hD1 hD2 hD3 hR0 hR1 hR2 hR3 hT0 hT1 hT2 hT3 hk3
  go_enter Tryz.func40, Tryz.ntmps40
  go_wp2
  rw [← hW0]
  clear hW0
  go_region_held3 (fun Z : World => Z.cell? ⟨w.heap.size, 12, none⟩ = some (.bool wr) ∧ Z.cell? ⟨w.heap.size, 13, none⟩ = some (.bool en) ∧ Z.cell? ⟨w.heap.size, 14, none⟩ = some (.bool cf) ∧ Z.frozen? ⟨w.heap.size + 1 + 1, 0, none⟩ = false ∧ Z.frozen? ⟨w.heap.size + 1 + 1, 1, none⟩ = false ∧ Z.frozen? ⟨w.heap.size + 1 + 1, 2, none⟩ = false) (first | exact ⟨a0, b0, c0, f00, f01, f02⟩ | exact ⟨a1, b1, c1, f10, f11, f12⟩ | exact ⟨a2, b2, c2, f20, f21, f22⟩ | exact ⟨a3, b3, c3, f30, f31, f32⟩) (fail)
  clear a0 b0 c0 f00 f01 f02 v00 v01 v02 a1 b1 c1 f10 f11 f12 v10 v11 v12 a2 b2 c2 f20 f21 f22 v20 v21 v22 a3 b3 c3 f30 f31 f32 v30 v31 v32
  obtain ⟨W3, hW3⟩ : ∃ W3, W3 = ((((W0.setCell ⟨w.heap.size + 1 + 1, 0, none⟩ (.bool wr)).setCell ⟨w.heap.size + 1 + 1, 1, none⟩ (.bool en)).setCell ⟨w.heap.size + 1 + 1, 2, none⟩ (.bool cf)).drew) := ⟨_, rfl⟩
  have HK3 : Hid (Kx [] w W3) := by rw [hW3]; exact (show Kx [] w _ from HH.out.1.drw1)
  have HD3 : Hid (W3.heap[w.heap.size]? = some (Obj.cells #[.bool true, .bool false, .bool false, .bool hw, .bool he, .bool hc, .int .i64 k, .float .f64 x, .string tx, .int .i64 rf, .int .i64 g, .int .i64 s, .bool wr, .bool en, .bool cf] 34 (0, 0))) := by rw [hW3]; exact HH.out.2.1
  have HR3 : Hid (W3.heap[w.heap.size + 1]? = some (Obj.cells #[.bool false, .bool false, .bool false, .bool false, .int .i64 0, .float .f64 0, .string ⟨#[]⟩, .pointer none, .pointer none, .pointer none, .bool false, .bool false, .bool false, .bool false, .bool false, .bool false] 99 (0, 0))) := by rw [hW3]; exact HH.out.2.2.1
  have HT3 : Hid (W3.heap[w.heap.size + 1 + 1]? = some (Obj.cells #[.bool wr, .bool en, .bool cf, .bool false, .int .i64 0, .float .f64 0, .string ⟨#[]⟩, .pointer none, .pointer none, .pointer none, .bool true, .bool false, .bool false, .bool hw, .bool he, .bool hc] 99 (0, 0))) := by rw [hW3]; exact HH.out.2.2.2
  rw [← hW3]
  clear hW3 HH
  have y0 := cell_at HD3.out 0 rfl
  have y1 := cell_at HD3.out 1 rfl
  have y2 := cell_at HD3.out 2 rfl
  have y3 := cell_at HD3.out 3 rfl
  have y4 := cell_at HD3.out 4 rfl
  have y5 := cell_at HD3.out 5 rfl
  have y6 := cell_at HD3.out 6 rfl
  have y7 := cell_at HD3.out 7 rfl
  have y8 := cell_at HD3.out 8 rfl
  have y9 := cell_at HD3.out 9 rfl
  have y10 := cell_at HD3.out 10 rfl
  have y11 := cell_at HD3.out 11 rfl
  have y12 := cell_at HD3.out 12 rfl
  have y13 := cell_at HD3.out 13 rfl
  have y14 := cell_at HD3.out 14 rfl
  go_wp2_with (first | (go_at_call 61; fail))
  refine (CV.out W3 HK3.out).mono ?_
  rintro e w4 ⟨rfl, hk4⟩
  clear y0 y1 y2 y3 y4 y5 y6 y7 y8 y9 y10 y11 y12 y13 y14 CV
  have HK4 : Hid (Kx [] w w4) := (show Kx [] w w4 from HK3.out.same hk4)
  have hD4 := hk4.get HD3.out (by simp)
  have HR4 : Hid (w4.heap[w.heap.size + 1]? = some (Obj.cells #[.bool false, .bool false, .bool false, .bool false, .int .i64 0, .float .f64 0, .string ⟨#[]⟩, .pointer none, .pointer none, .pointer none, .bool false, .bool false, .bool false, .bool false, .bool false, .bool false] 99 (0, 0))) := hk4.get HR3.out (by simp)
  have HT4 : Hid (w4.heap[w.heap.size + 1 + 1]? = some (Obj.cells #[.bool wr, .bool en, .bool cf, .bool false, .int .i64 0, .float .f64 0, .string ⟨#[]⟩, .pointer none, .pointer none, .pointer none, .bool true, .bool false, .bool false, .bool hw, .bool he, .bool hc] 99 (0, 0))) := hk4.get HT3.out (by simp)
  have y1 := cell_at hD4 1 rfl
  have y2 := cell_at hD4 2 rfl
  have z0 := cell_at HT4.out 0 rfl
  have z1 := cell_at HT4.out 1 rfl
  have z2 := cell_at HT4.out 2 rfl
  have z3 := cell_at HT4.out 3 rfl
  have z4 := cell_at HT4.out 4 rfl
  have z5 := cell_at HT4.out 5 rfl
  have z6 := cell_at HT4.out 6 rfl
  have z7 := cell_at HT4.out 7 rfl
  have z8 := cell_at HT4.out 8 rfl
  have z9 := cell_at HT4.out 9 rfl
  have z10 := cell_at HT4.out 10 rfl
  have z11 := cell_at HT4.out 11 rfl
  have z12 := cell_at HT4.out 12 rfl
  have z13 := cell_at HT4.out 13 rfl
  have z14 := cell_at HT4.out 14 rfl
  have z15 := cell_at HT4.out 15 rfl
  have hf4 := fr_all HT4.out
  have u0 := cell_at HR4.out 0 rfl
  have u1 := cell_at HR4.out 1 rfl
  have u2 := cell_at HR4.out 2 rfl
  have u3 := cell_at HR4.out 3 rfl
  have u4 := cell_at HR4.out 4 rfl
  have u5 := cell_at HR4.out 5 rfl
  have u6 := cell_at HR4.out 6 rfl
  have u7 := cell_at HR4.out 7 rfl
  have u8 := cell_at HR4.out 8 rfl
  have u9 := cell_at HR4.out 9 rfl
  have u10 := cell_at HR4.out 10 rfl
  have u11 := cell_at HR4.out 11 rfl
  have u12 := cell_at HR4.out 12 rfl
  have u13 := cell_at HR4.out 13 rfl
  have u14 := cell_at HR4.out 14 rfl
  have u15 := cell_at HR4.out 15 rfl
  have hg4 := fr_all HR4.out
  clear hk4 hD4 HK3 HD3 HR3 HT3
  go_wp2
  have n0 := heap_setCell_ne HR4.out (show w.heap.size + 1 + 1 ≠ w.heap.size + 1 by omega) 4 (.int .i64 k')
  have n1 := heap_setCell_ne n0 (show w.heap.size + 1 + 1 ≠ w.heap.size + 1 by omega) 5 (.float .f64 x')
  have n2 := heap_setCell_ne n1 (show w.heap.size + 1 + 1 ≠ w.heap.size + 1 by omega) 6 (.string tx')
  have n3 := heap_setCell_ne n2 (show w.heap.size + 1 + 1 ≠ w.heap.size + 1 by omega) 7 (.pointer r')
  have r0 := heap_set_at (C' := #[.bool wr, .bool false, .bool false, .bool false, .int .i64 0, .float .f64 0, .string ⟨#[]⟩, .pointer none, .pointer none, .pointer none, .bool false, .bool false, .bool false, .bool false, .bool false, .bool false]) n3 0 (.bool wr) rfl
  have r1 := heap_set_at (C' := #[.bool wr, .bool en, .bool false, .bool false, .int .i64 0, .float .f64 0, .string ⟨#[]⟩, .pointer none, .pointer none, .pointer none, .bool false, .bool false, .bool false, .bool false, .bool false, .bool false]) r0 1 (.bool en) rfl
  have r2 := heap_set_at (C' := #[.bool wr, .bool en, .bool cf, .bool false, .int .i64 0, .float .f64 0, .string ⟨#[]⟩, .pointer none, .pointer none, .pointer none, .bool false, .bool false, .bool false, .bool false, .bool false, .bool false]) r1 2 (.bool cf) rfl
  have r3 := heap_set_at (C' := #[.bool wr, .bool en, .bool cf, .bool false, .int .i64 0, .float .f64 0, .string ⟨#[]⟩, .pointer none, .pointer none, .pointer none, .bool false, .bool false, .bool false, .bool false, .bool false, .bool false]) r2 3 (.bool false) rfl
  have r4 := heap_set_at (C' := #[.bool wr, .bool en, .bool cf, .bool false, .int .i64 k', .float .f64 0, .string ⟨#[]⟩, .pointer none, .pointer none, .pointer none, .bool false, .bool false, .bool false, .bool false, .bool false, .bool false]) r3 4 (.int .i64 k') rfl
  have r5 := heap_set_at (C' := #[.bool wr, .bool en, .bool cf, .bool false, .int .i64 k', .float .f64 x', .string ⟨#[]⟩, .pointer none, .pointer none, .pointer none, .bool false, .bool false, .bool false, .bool false, .bool false, .bool false]) r4 5 (.float .f64 x') rfl
  have r6 := heap_set_at (C' := #[.bool wr, .bool en, .bool cf, .bool false, .int .i64 k', .float .f64 x', .string tx', .pointer none, .pointer none, .pointer none, .bool false, .bool false, .bool false, .bool false, .bool false, .bool false]) r5 6 (.string tx') rfl
  have r7 := heap_set_at (C' := #[.bool wr, .bool en, .bool cf, .bool false, .int .i64 k', .float .f64 x', .string tx', .pointer r', .pointer none, .pointer none, .bool false, .bool false, .bool false, .bool false, .bool false, .bool false]) r6 7 (.pointer r') rfl
  have r8 := heap_set_at (C' := #[.bool wr, .bool en, .bool cf, .bool false, .int .i64 k', .float .f64 x', .string tx', .pointer r', .pointer none, .pointer none, .bool false, .bool false, .bool false, .bool false, .bool false, .bool false]) r7 8 (.pointer none) rfl
  have r9 := heap_set_at (C' := #[.bool wr, .bool en, .bool cf, .bool false, .int .i64 k', .float .f64 x', .string tx', .pointer r', .pointer none, .pointer none, .bool false, .bool false, .bool false, .bool false, .bool false, .bool false]) r8 9 (.pointer none) rfl
  have r10 := heap_set_at (C' := #[.bool wr, .bool en, .bool cf, .bool false, .int .i64 k', .float .f64 x', .string tx', .pointer r', .pointer none, .pointer none, .bool true, .bool false, .bool false, .bool false, .bool false, .bool false]) r9 10 (.bool true) rfl
  have r11 := heap_set_at (C' := #[.bool wr, .bool en, .bool cf, .bool false, .int .i64 k', .float .f64 x', .string tx', .pointer r', .pointer none, .pointer none, .bool true, .bool false, .bool false, .bool false, .bool false, .bool false]) r10 11 (.bool false) rfl
  have r12 := heap_set_at (C' := #[.bool wr, .bool en, .bool cf, .bool false, .int .i64 k', .float .f64 x', .string tx', .pointer r', .pointer none, .pointer none, .bool true, .bool false, .bool false, .bool false, .bool false, .bool false]) r11 12 (.bool false) rfl
  have r13 := heap_set_at (C' := #[.bool wr, .bool en, .bool cf, .bool false, .int .i64 k', .float .f64 x', .string tx', .pointer r', .pointer none, .pointer none, .bool true, .bool false, .bool false, .bool hw, .bool false, .bool false]) r12 13 (.bool hw) rfl
  have r14 := heap_set_at (C' := #[.bool wr, .bool en, .bool cf, .bool false, .int .i64 k', .float .f64 x', .string tx', .pointer r', .pointer none, .pointer none, .bool true, .bool false, .bool false, .bool hw, .bool he, .bool false]) r13 14 (.bool he) rfl
  have r15 := heap_set_at (C' := #[.bool wr, .bool en, .bool cf, .bool false, .int .i64 k', .float .f64 x', .string tx', .pointer r', .pointer none, .pointer none, .bool true, .bool false, .bool false, .bool hw, .bool he, .bool hc]) r14 15 (.bool hc) rfl
  clear n0 n1 n2 n3 r0 r1 r2 r3 r4 r5 r6 r7 r8 r9 r10 r11 r12 r13 r14 z0 z1 z2 z3 z4 z5 z6 z7 z8 z9 z10 z11 z12 z13 z14 z15 u0 u1 u2 u3 u4 u5 u6 u7 u8 u9 u10 u11 u12 u13 u14 u15 y1 y2 hf4 hg4
  refine bodyPost_ret (results_row_tmp rfl _ _ (w.heap.size + 1) 99 _ (0, 0) _ rfl r15 Tryz.underlying99 rfl (by kernel_rfl) _ rfl) rfl ?_
  exact ⟨rfl, HK4.out.trans (((((((((((((((((((((Kx.refl [w.heap.size + 1, w.heap.size + 1 + 1] w4).set (by simp) _).set (by simp) _).set (by simp) _).set (by simp) _).set (by simp) _).set (by simp) _).set (by simp) _).set (by simp) _).set (by simp) _).set (by simp) _).set (by simp) _).set (by simp) _).set (by simp) _).set (by simp) _).set (by simp) _).set (by simp) _).set (by simp) _).set (by simp) _).set (by simp) _).set (by simp) _) (fun i hi => .inr (by simp at hi; omega))⟩
end Go.Proofs.YtdnjgemaenhcfaaGreatDoor
/- Object.Own. -/
set_option linter.unusedVariables false
namespace Go.Proofs.YtdnjgemaenhcfaaGreatDoor
open Go.RowKit Go.Shelf Go.Maps

attribute [local go_sem] run_store_flt
set_option maxRecDepth 100000 in
set_option maxHeartbeats 2000000 in
theorem own_place (b : Nat) (a : Option Addr) (c : Nat) (nm : ByteArray) (n : Int) (hn : 0 ≤ n) (hn2 : n < 4294967296) (w : World) (h7 : w.cell? ⟨b, 7, none⟩ = some (.slice a 0 c)) (h8 : w.cell? ⟨b, 8, none⟩ = some (.map none)) :
    Calls Tryz.prog 25 #[.pointer (some ⟨b, 0, none⟩), .agg #[.string nm, .int .u32 n, .bool true]] w fun e w' => e = .returned (.tuple #[noP, .bool false]) ∧ Kx [] w w' := by
  obtain ⟨W0, hW0⟩ : ∃ W0, W0 = (w.alloc (Obj.cells #[.string nm, .int .u32 n, .bool true] 67)).alloc (Obj.cells #[.bool false, .bool false, .bool false, .bool false, .int .i64 0, .float .f64 0, .string ⟨#[]⟩, .pointer none, .pointer none, .pointer none] 75) := ⟨_, rfl⟩
  have h7' : W0.cell? ⟨b, 7, none⟩ = some (.slice a 0 c) := by
    have e : (w.alloc (Obj.cells #[.string nm, .int .u32 n, .bool true] 67)).cell? ⟨b, 7, none⟩ = some (.slice a 0 c) := by rw [World.cell?_alloc_some _ _ _ (by rw [h7]; rfl)]; exact h7
    rw [hW0, World.cell?_alloc_some _ _ _ (by rw [e]; rfl)]; exact e
  have h8' : W0.cell? ⟨b, 8, none⟩ = some (.map none) := by
    have e : (w.alloc (Obj.cells #[.string nm, .int .u32 n, .bool true] 67)).cell? ⟨b, 8, none⟩ = some (.map none) := by rw [World.cell?_alloc_some _ _ _ (by rw [h8]; rfl)]; exact h8
    rw [hW0, World.cell?_alloc_some _ _ _ (by rw [e]; rfl)]; exact e
  have cp := place_none b a c n hn hn2 W0 h7' h8'
  have hk : Hid (Kx [] w W0) := by rw [hW0]; exact (show Kx [] w _ from (Kx.alloc _ _ _).alc _)
  have hR : W0.heap[w.heap.size + 1]? = some (Obj.cells #[.bool false, .bool false, .bool false, .bool false, .int .i64 0, .float .f64 0, .string ⟨#[]⟩, .pointer none, .pointer none, .pointer none] 75 (0, 0)) := by rw [hW0]; exact heap_alloc2_new _ _ _
  have HR := (show Hid _ from hR)
  unfold noP at *
  clear h7' h8' h7 h8 hR
  go_enter Tryz.func25, Tryz.ntmps25
  go_wp2_with (first | (go_at_call 48; fail))
  rw [← hW0]
  clear hW0
  refine cp.mono ?_
  rintro e w1 ⟨rfl, hk1⟩
  clear cp
  have hR : w1.heap[w.heap.size + 1]? = some (Obj.cells #[.bool false, .bool false, .bool false, .bool false, .int .i64 0, .float .f64 0, .string ⟨#[]⟩, .pointer none, .pointer none, .pointer none] 75 (0, 0)) := hk1.get HR.out (by simp)
  have HK : Hid (Kx [] w w1) := (show Kx [] w w1 from hk.out.same hk1)
  have cR0 : w1.cell? ⟨w.heap.size + 1, 0, none⟩ = some (.bool false) := by simp [World.cell?, hR]
  have fR0 : w1.frozen? ⟨w.heap.size + 1, 0, none⟩ = false := by simp [World.frozen?, hR]
  have cR1 : w1.cell? ⟨w.heap.size + 1, 1, none⟩ = some (.bool false) := by simp [World.cell?, hR]
  have fR1 : w1.frozen? ⟨w.heap.size + 1, 1, none⟩ = false := by simp [World.frozen?, hR]
  have cR2 : w1.cell? ⟨w.heap.size + 1, 2, none⟩ = some (.bool false) := by simp [World.cell?, hR]
  have fR2 : w1.frozen? ⟨w.heap.size + 1, 2, none⟩ = false := by simp [World.frozen?, hR]
  have cR3 : w1.cell? ⟨w.heap.size + 1, 3, none⟩ = some (.bool false) := by simp [World.cell?, hR]
  have fR3 : w1.frozen? ⟨w.heap.size + 1, 3, none⟩ = false := by simp [World.frozen?, hR]
  have cR4 : w1.cell? ⟨w.heap.size + 1, 4, none⟩ = some (.int .i64 0) := by simp [World.cell?, hR]
  have fR4 : w1.frozen? ⟨w.heap.size + 1, 4, none⟩ = false := by simp [World.frozen?, hR]
  have cR5 : w1.cell? ⟨w.heap.size + 1, 5, none⟩ = some (.float .f64 0) := by simp [World.cell?, hR]
  have fR5 : w1.frozen? ⟨w.heap.size + 1, 5, none⟩ = false := by simp [World.frozen?, hR]
  have cR6 : w1.cell? ⟨w.heap.size + 1, 6, none⟩ = some (.string ⟨#[]⟩) := by simp [World.cell?, hR]
  have fR6 : w1.frozen? ⟨w.heap.size + 1, 6, none⟩ = false := by simp [World.frozen?, hR]
  have cR7 : w1.cell? ⟨w.heap.size + 1, 7, none⟩ = some (.pointer none) := by simp [World.cell?, hR]
  have fR7 : w1.frozen? ⟨w.heap.size + 1, 7, none⟩ = false := by simp [World.frozen?, hR]
  have cR8 : w1.cell? ⟨w.heap.size + 1, 8, none⟩ = some (.pointer none) := by simp [World.cell?, hR]
  have fR8 : w1.frozen? ⟨w.heap.size + 1, 8, none⟩ = false := by simp [World.frozen?, hR]
  have cR9 : w1.cell? ⟨w.heap.size + 1, 9, none⟩ = some (.pointer none) := by simp [World.cell?, hR]
  have fR9 : w1.frozen? ⟨w.heap.size + 1, 9, none⟩ = false := by simp [World.frozen?, hR]
  clear HR hk hk1
  have HR := (show Hid _ from hR)
  clear hR
  go_wp2
  have r1 := heap_set_at (C' := #[.bool false, .bool false, .bool false, .bool false, .int .i64 0, .float .f64 0, .string ⟨#[]⟩, .pointer none, .pointer none, .pointer none]) HR.out 0 (.bool false) rfl
  have r2 := heap_set_at (C' := #[.bool false, .bool false, .bool false, .bool false, .int .i64 0, .float .f64 0, .string ⟨#[]⟩, .pointer none, .pointer none, .pointer none]) r1 1 (.bool false) rfl
  have r3 := heap_set_at (C' := #[.bool false, .bool false, .bool false, .bool false, .int .i64 0, .float .f64 0, .string ⟨#[]⟩, .pointer none, .pointer none, .pointer none]) r2 2 (.bool false) rfl
  have r4 := heap_set_at (C' := #[.bool false, .bool false, .bool false, .bool false, .int .i64 0, .float .f64 0, .string ⟨#[]⟩, .pointer none, .pointer none, .pointer none]) r3 3 (.bool false) rfl
  have r5 := heap_set_at (C' := #[.bool false, .bool false, .bool false, .bool false, .int .i64 0, .float .f64 0, .string ⟨#[]⟩, .pointer none, .pointer none, .pointer none]) r4 4 (.int .i64 0) rfl
  have r6 := heap_set_at (C' := #[.bool false, .bool false, .bool false, .bool false, .int .i64 0, .float .f64 0, .string ⟨#[]⟩, .pointer none, .pointer none, .pointer none]) r5 5 (.float .f64 0) rfl
  have r7 := heap_set_at (C' := #[.bool false, .bool false, .bool false, .bool false, .int .i64 0, .float .f64 0, .string ⟨#[]⟩, .pointer none, .pointer none, .pointer none]) r6 6 (.string ⟨#[]⟩) rfl
  have r8 := heap_set_at (C' := #[.bool false, .bool false, .bool false, .bool false, .int .i64 0, .float .f64 0, .string ⟨#[]⟩, .pointer none, .pointer none, .pointer none]) r7 7 (.pointer none) rfl
  have r9 := heap_set_at (C' := #[.bool false, .bool false, .bool false, .bool false, .int .i64 0, .float .f64 0, .string ⟨#[]⟩, .pointer none, .pointer none, .pointer none]) r8 8 (.pointer none) rfl
  have r10 := heap_set_at (C' := #[.bool false, .bool false, .bool false, .bool false, .int .i64 0, .float .f64 0, .string ⟨#[]⟩, .pointer none, .pointer none, .pointer none]) r9 9 (.pointer none) rfl
  clear r1 r2 r3 r4 r5 r6 r7 r8 r9
  refine bodyPost_ret (results_row_tmp rfl _ _ (w.heap.size + 1) 75 _ (0, 0) _ rfl r10 Tryz.underlying75 rfl (by kernel_rfl) _ rfl) rfl ?_
  exact ⟨rfl, HK.out.trans (((((((((((Kx.refl [w.heap.size + 1] w1).set (by simp) _).set (by simp) _).set (by simp) _).set (by simp) _).set (by simp) _).set (by simp) _).set (by simp) _).set (by simp) _).set (by simp) _).set (by simp) _) (fun i hi => .inr (by simp at hi; omega))⟩
end Go.Proofs.YtdnjgemaenhcfaaGreatDoor
/- Object.set, where a name comes. -/
set_option linter.unusedVariables false
namespace Go.Proofs.YtdnjgemaenhcfaaGreatDoor
open Go.RowKit Go.Shelf Go.Maps

attribute [local go_sem] run_store_flt
theorem info75 : (Tryz.prog.info? 75).map (fun i => (i.zero, i.size, i.bytes)) = some (some noP, 10, 64) := by kernel_rfl
set_option maxRecDepth 100000 in
set_option maxHeartbeats 2000000 in
theorem set_new (b S base n : Nat) (nm : ByteArray) (pl i : Int) (p0 p1 p2 p3 : Bool) (p4 : Int) (p5 : Nat) (p6 : ByteArray) (p7 p8 p9 : Option Addr) (cl pr fx inn num nv rw st kp : Value) (xs : List Value) (T : List Nat) (Q : Nat → World → Prop) (w : World)
    (hB : w.heap[b]? = some (.cells #[cl, pr, fx, inn, num, .pointer (some ⟨S, 0, none⟩), nv, rw, st, kp] 111 (0, 0)))
    (hrow : w.ownsRow base 75 10 nv n xs) (hn : n ≤ 1000) (hbase : base ≤ w.heap.size)
    (hT : ∀ i ∈ T, i < w.heap.size) (hbT : b ∉ T) (hrT : ∀ g, nv.ownBlock = some g → g ∉ T)
    (cf : ∀ W, Kx [] w W → Calls Tryz.prog 49 #[.pointer (some ⟨S, 0, none⟩), .string nm] W fun e w' => e = .returned (.tuple #[.int .i64 i, .bool false]) ∧ ∃ q, w' = W.drewN q)
    (ca : ∀ W, Kx [] w W → Calls Tryz.prog 81 #[.pointer (some ⟨S, 0, none⟩), .agg #[.string nm, .bool p0, .bool p1, .bool p2, .bool p3]] W fun e w' => ∃ S', e = .returned (.pointer (some ⟨S', 0, none⟩)) ∧ Kx T W w' ∧ Q S' w') :
    Calls Tryz.prog 57 #[.pointer (some ⟨b, 0, none⟩), .agg #[.string nm, .int .u32 pl, .bool false], .agg #[.bool p0, .bool p1, .bool p2, .bool p3, .int .i64 p4, .float .f64 p5, .string p6, .pointer p7, .pointer p8, .pointer p9]] w fun e w' => (∃ u, e = .returned u) ∧ ∃ S' w2 v', Kx T w w2 ∧ Q S' w2 ∧
      w'.heap[b]? = some (.cells #[cl, pr, fx, inn, num, .pointer (some ⟨S', 0, none⟩), v', rw, st, kp] 111 (0, 0)) ∧ w'.ownsRow base 75 10 v' (n + 1) (xs ++ [.bool p0, .bool p1, .bool p2, .bool p3, .int .i64 p4, .float .f64 p5, .string p6, .pointer p7, .pointer p8, .pointer p9]) ∧ (∀ g, v'.ownBlock = some g → nv.ownBlock = some g ∨ w2.heap.size ≤ g) ∧ Kx (b :: nv.ownBlock.toList) w2 w' := by
  obtain ⟨W0, hW0⟩ : ∃ W0, W0 = (w.alloc (Obj.cells #[.string nm, .int .u32 pl, .bool false] 67)).alloc (Obj.cells #[.bool p0, .bool p1, .bool p2, .bool p3, .int .i64 p4, .float .f64 p5, .string p6, .pointer p7, .pointer p8, .pointer p9] 75) := ⟨_, rfl⟩
  have hk : Kx [] w W0 := by rw [hW0]; exact (show Kx [] w _ from (Kx.alloc _ _ _).alc _)
  have hB0 := hk.get hB (by simp)
  have hK0 : W0.heap[w.heap.size]? = some (Obj.cells #[.string nm, .int .u32 pl, .bool false] 67 (0, 0)) := by rw [hW0]; exact heap_old (heap_alloc_new _ _) _
  have hP0 : W0.heap[w.heap.size + 1]? = some (Obj.cells #[.bool p0, .bool p1, .bool p2, .bool p3, .int .i64 p4, .float .f64 p5, .string p6, .pointer p7, .pointer p8, .pointer p9] 75 (0, 0)) := by rw [hW0]; exact heap_alloc2_new _ _ _
  have hbl : b < w.heap.size := by rcases Nat.lt_or_ge b w.heap.size with h | h; exact h; rw [Array.getElem?_eq_none h] at hB; cases hB
  have b5 := cell_at hB0 5 rfl
  have k0 := cell_at hK0 0 rfl
  have k2 := cell_at hK0 2 rfl
  have HB0 := (show Hid _ from hB0)
  have HK0 := (show Hid _ from hK0)
  have HP0 := (show Hid _ from hP0)
  have HK := (show Hid _ from hk)
  have CF := (show Hid _ from cf)
  have CA := (show Hid _ from ca)
  have HRW := (show Hid _ from hrow)
  rw [hW0] at b5 k0 k2
  clear hB hB0 hK0 hP0 hk cf ca hrow
  go_enter Tryz.func57, Tryz.ntmps57
  go_wp2
  rw [← hW0] at b5 k0 k2 ⊢
  clear hW0
  go_quiet (first | (go_at_call 49; exact Calls.quiet_of (CF.out _ (HK.out.drw _))))
  have HB1 : Hid ((W0.drewN nq).heap[b]? = some (.cells #[cl, pr, fx, inn, num, .pointer (some ⟨S, 0, none⟩), nv, rw, st, kp] 111 (0, 0))) := HB0
  have HK1 : Hid ((W0.drewN nq).heap[w.heap.size]? = some (Obj.cells #[.string nm, .int .u32 pl, .bool false] 67 (0, 0))) := HK0
  have HP1 : Hid ((W0.drewN nq).heap[w.heap.size + 1]? = some (Obj.cells #[.bool p0, .bool p1, .bool p2, .bool p3, .int .i64 p4, .float .f64 p5, .string p6, .pointer p7, .pointer p8, .pointer p9] 75 (0, 0))) := HP0
  have HW1 : Hid (Kx [] w (W0.drewN nq)) := (show Kx [] w (W0.drewN nq) from HK.out.drw nq)
  clear b5 k0 k2 HB0 HK0 HP0 HK CF
  obtain ⟨w1, hw1⟩ : ∃ w1, w1 = W0.drewN nq := ⟨_, rfl⟩
  rw [← hw1] at HB1 HK1 HP1 HW1 ⊢
  clear hw1
  have b5 := cell_at HB1.out 5 rfl
  have k0 := cell_at HK1.out 0 rfl
  have x0 := cell_at HP1.out 0 rfl
  have x1 := cell_at HP1.out 1 rfl
  have x2 := cell_at HP1.out 2 rfl
  have x3 := cell_at HP1.out 3 rfl
  go_wp2
  go_region_law (first | (go_simp; go_at_call 81; refine (CA.out _ ?_).mono ?_; (exact HW1.out.drw1); rintro e w2 ⟨S', rfl, hk2, hq2⟩; have JB2 : Hid (w2.heap[b]? = some (.cells #[cl, pr, fx, inn, num, .pointer (some ⟨S, 0, none⟩), nv, rw, st, kp] 111 (0, 0))) := hk2.get (k := b) HB1.out hbT; have y5 := cell_at JB2.out 5 rfl; have g5 := fr_all JB2.out 5))
  all_goals have HKA : Hid (Kx T w w2) := (show Kx T w w2 from (HW1.out.mono (fun i hi => by cases hi)).trans (((Kx.drew T w1).same hk2)) (fun i hi => .inl hi))
  all_goals have HP2 : Hid (w2.heap[w.heap.size + 1]? = some (Obj.cells #[.bool p0, .bool p1, .bool p2, .bool p3, .int .i64 p4, .float .f64 p5, .string p6, .pointer p7, .pointer p8, .pointer p9] 75 (0, 0))) := hk2.get (k := w.heap.size + 1) HP1.out (fun hm => by have := hT _ hm; omega)
  all_goals have HQ2 : Hid (Q S' w2) := hq2
  all_goals have HR2 : Hid (w2.ownsRow base 75 10 nv n xs) := HKA.out.owns HRW.out hrT
  all_goals clear hk2 hq2 HP1 HW1 HB1 HK1 CA b5 k0 x0 x1 x2 x3 y5 g5 HRW
  all_goals have HB3 : Hid ((w2.setCell ⟨b, 5, none⟩ (Value.pointer (some ⟨S', 0, none⟩))).heap[b]? = some (.cells #[cl, pr, fx, inn, num, .pointer (some ⟨S', 0, none⟩), nv, rw, st, kp] 111 (0, 0))) := heap_set_at JB2.out 5 _ rfl
  all_goals have HP3 : Hid ((w2.setCell ⟨b, 5, none⟩ (Value.pointer (some ⟨S', 0, none⟩))).heap[w.heap.size + 1]? = some (Obj.cells #[.bool p0, .bool p1, .bool p2, .bool p3, .int .i64 p4, .float .f64 p5, .string p6, .pointer p7, .pointer p8, .pointer p9] 75 (0, 0))) := heap_setCell_ne HP2.out (by omega) 5 _
  all_goals have HK3 : Hid (Kx [b] w2 (w2.setCell ⟨b, 5, none⟩ (Value.pointer (some ⟨S', 0, none⟩)))) := (show Kx [b] w2 _ from Kx.setCell _ (by simp) _)
  all_goals have HR3 : Hid ((w2.setCell ⟨b, 5, none⟩ (Value.pointer (some ⟨S', 0, none⟩))).ownsRow base 75 10 nv n xs) := HK3.out.owns HR2.out (fun g hg hm => row_apart HR2.out JB2.out (by decide) (by rw [hg, List.mem_singleton.1 hm]; simp))
  all_goals have hbs : base ≤ (w2.setCell ⟨b, 5, none⟩ (Value.pointer (some ⟨S', 0, none⟩))).heap.size := Nat.le_trans hbase (Nat.le_trans HKA.out.size HK3.out.size)
  all_goals clear HP2 HR2 JB2
  all_goals (obtain ⟨W3, hW3⟩ : ∃ W3, W3 = w2.setCell ⟨b, 5, none⟩ (Value.pointer (some ⟨S', 0, none⟩)) := ⟨_, rfl⟩)
  all_goals rw [← hW3] at HB3 HP3 HK3 HR3 hbs ⊢
  all_goals clear hW3
  all_goals have z6 := cell_at HB3.out 6 rfl
  all_goals have x0 := cell_at HP3.out 0 rfl
  all_goals have x1 := cell_at HP3.out 1 rfl
  all_goals have x2 := cell_at HP3.out 2 rfl
  all_goals have x3 := cell_at HP3.out 3 rfl
  all_goals have x4 := cell_at HP3.out 4 rfl
  all_goals have x5 := cell_at HP3.out 5 rfl
  all_goals have x6 := cell_at HP3.out 6 rfl
  all_goals have x7 := cell_at HP3.out 7 rfl
  all_goals have x8 := cell_at HP3.out 8 rfl
  all_goals have x9 := cell_at HP3.out 9 rfl
  all_goals have d6 : ∀ o, (W3.alloc o).cell? ⟨b, 6, none⟩ = some nv := fun o => cell_at ((Kx.alloc [] W3 o).get HB3.out (by simp)) 6 rfl
  all_goals have d6' : ∀ o, (W3.drew.alloc o).cell? ⟨b, 6, none⟩ = some nv := fun o => d6 o
  all_goals have hne : b ∉ nv.ownBlock.toList := row_apart HR3.out HB3.out (by decide)
  all_goals (obtain ⟨i0, hi, hz0, hz1, hz2⟩ := info_parts info75)
  all_goals have q3 : n + 1 ≤ maxLen := by unfold maxLen; omega
  all_goals
    go_wp2
    go_region_law (first | (refine step_append_lies _ (by rfl) _ _ _ (by rfl) base 75 i0 _ 10 64 Tryz.underlying107 hi hz0 hz1 hz2 rfl (by omega) nv n xs (by rfl) (HR3.out.drew.alloc _) ⟨W3.heap.size, 0, none⟩ 1 1 [.bool p0, .bool p1, .bool p2, .bool p3, .int .i64 p4, .float .f64 p5, .string p6, .pointer p7, .pointer p8, .pointer p9] (by rfl) (by rfl) (cells_new W3.drew [.bool p0, .bool p1, .bool p2, .bool p3, .int .i64 p4, .float .f64 p5, .string p6, .pointer p7, .pointer p8, .pointer p9] 75) (by intro u hu; simp at hu; rcases hu with rfl | rfl | rfl | rfl | rfl | rfl | rfl | rfl | rfl | rfl <;> rfl) (by omega) q3 (by omega) (by simp; omega) (W3.heap.size + 1) (by simp) ?_; intro gg cap w4 hown1 hgrow hat hlt1; have JN4 : Hid (w4.heap[b]? = some (.cells #[cl, pr, fx, inn, num, .pointer (some ⟨S', 0, none⟩), nv, rw, st, kp] 111 (0, 0))) := (Kx.grown hgrow).get ((Kx.alloc [] W3.drew _).get HB3.out (by simp)) hne; have cN4 : w4.cell? ⟨b, 6, none⟩ = some nv := cell_at JN4.out 6 rfl; have fN4 : w4.frozen? ⟨b, 6, none⟩ = false := fr_all JN4.out 6))
    all_goals
      go_wp2
      refine bodyPost_ret (results_none rfl _ _ _) rfl ?_
      have kD : Kx [b] w4 (w4.setCell ⟨b, 6, none⟩ (.slice (some ⟨gg, 0, none⟩) (n + 1) cap)) := Kx.setCell _ (by simp) _
      have kA : Kx (b :: nv.ownBlock.toList) w2 _ := ((HK3.out.drw1).alc (Obj.cells #[.bool p0, .bool p1, .bool p2, .bool p3, .int .i64 p4, .float .f64 p5, .string p6, .pointer p7, .pointer p8, .pointer p9] 75)).mono (S := b :: nv.ownBlock.toList) (fun q hq => .inl (by simp [List.mem_singleton.1 hq]))
      refine ⟨⟨_, rfl⟩, S', w2, .slice (some ⟨gg, 0, none⟩) (n + 1) cap, HKA.out, HQ2.out, heap_set_at JN4.out 6 _ rfl, ?_, (fun q hq => by
        have e : gg = q := by simpa [Value.ownBlock] using hq
        rcases hat with h | h
        · exact .inl (by rw [h, e])
        · exact .inr (by have h2 := HK3.out.size; rw [← e, h]; omega)), (kA.trans (Kx.grown hgrow) (fun q hq => .inl (by simp; exact .inr (by simpa using hq)))).trans kD (fun q hq => .inl (by simp [List.mem_singleton.1 hq]))⟩
      exact kD.owns hown1 (fun q hq hm => row_apart hown1 JN4.out (by decide) (by rw [hq, List.mem_singleton.1 hm]; simp))
end Go.Proofs.YtdnjgemaenhcfaaGreatDoor
