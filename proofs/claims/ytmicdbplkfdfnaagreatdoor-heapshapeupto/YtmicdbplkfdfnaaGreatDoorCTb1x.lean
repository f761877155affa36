/- told: whatever is told. -/
import Derived.Test.YtmicdbplkfdfnaaGreatDoorCTk1x
import Derived.Test.YtmicdbplkfdfnaaGreatDoorCHo3x
import Derived.Deep.DeepCutAuto
import Derived.Deep.CutBlock
import Derived.Test.YtmicdbplkfdfnaaGreatDoorCHn6x
import Derived.BigQuiet
import Derived.Laws.StructEq
set_option linter.unusedVariables false
namespace Go.Proofs.YtmicdbplkfdfnaaGreatDoor
open Go.RowKit Go.Shelf Go.Maps

attribute [local go_sem] run_store_flt
theorem set16_heap {w : World} {g : Nat} {c0 c1 c2 c3 c4 c5 c6 c7 c8 c9 c10 c11 c12 c13 c14 c15 : Value} {t : TypeId} (h : w.heap[g]? = some (.cells #[c0, c1, c2, c3, c4, c5, c6, c7, c8, c9, c10, c11, c12, c13, c14, c15] t (0, 0))) (v0 v1 v2 v3 v4 v5 v6 v7 v8 v9 v10 v11 v12 v13 v14 v15 : Value) :
    ((((((((((((((((w.setCell ⟨g, 0, none⟩ v0).setCell ⟨g, 1, none⟩ v1).setCell ⟨g, 2, none⟩ v2).setCell ⟨g, 3, none⟩ v3).setCell ⟨g, 4, none⟩ v4).setCell ⟨g, 5, none⟩ v5).setCell ⟨g, 6, none⟩ v6).setCell ⟨g, 7, none⟩ v7).setCell ⟨g, 8, none⟩ v8).setCell ⟨g, 9, none⟩ v9).setCell ⟨g, 10, none⟩ v10).setCell ⟨g, 11, none⟩ v11).setCell ⟨g, 12, none⟩ v12).setCell ⟨g, 13, none⟩ v13).setCell ⟨g, 14, none⟩ v14).setCell ⟨g, 15, none⟩ v15).heap[g]? = some (.cells #[v0, v1, v2, v3, v4, v5, v6, v7, v8, v9, v10, v11, v12, v13, v14, v15] t (0, 0)) := by
  have r0 := heap_set_at (C' := #[v0, c1, c2, c3, c4, c5, c6, c7, c8, c9, c10, c11, c12, c13, c14, c15]) h 0 v0 rfl
  have r1 := heap_set_at (C' := #[v0, v1, c2, c3, c4, c5, c6, c7, c8, c9, c10, c11, c12, c13, c14, c15]) r0 1 v1 rfl
  have r2 := heap_set_at (C' := #[v0, v1, v2, c3, c4, c5, c6, c7, c8, c9, c10, c11, c12, c13, c14, c15]) r1 2 v2 rfl
  have r3 := heap_set_at (C' := #[v0, v1, v2, v3, c4, c5, c6, c7, c8, c9, c10, c11, c12, c13, c14, c15]) r2 3 v3 rfl
  have r4 := heap_set_at (C' := #[v0, v1, v2, v3, v4, c5, c6, c7, c8, c9, c10, c11, c12, c13, c14, c15]) r3 4 v4 rfl
  have r5 := heap_set_at (C' := #[v0, v1, v2, v3, v4, v5, c6, c7, c8, c9, c10, c11, c12, c13, c14, c15]) r4 5 v5 rfl
  have r6 := heap_set_at (C' := #[v0, v1, v2, v3, v4, v5, v6, c7, c8, c9, c10, c11, c12, c13, c14, c15]) r5 6 v6 rfl
  have r7 := heap_set_at (C' := #[v0, v1, v2, v3, v4, v5, v6, v7, c8, c9, c10, c11, c12, c13, c14, c15]) r6 7 v7 rfl
  have r8 := heap_set_at (C' := #[v0, v1, v2, v3, v4, v5, v6, v7, v8, c9, c10, c11, c12, c13, c14, c15]) r7 8 v8 rfl
  have r9 := heap_set_at (C' := #[v0, v1, v2, v3, v4, v5, v6, v7, v8, v9, c10, c11, c12, c13, c14, c15]) r8 9 v9 rfl
  have r10 := heap_set_at (C' := #[v0, v1, v2, v3, v4, v5, v6, v7, v8, v9, v10, c11, c12, c13, c14, c15]) r9 10 v10 rfl
  have r11 := heap_set_at (C' := #[v0, v1, v2, v3, v4, v5, v6, v7, v8, v9, v10, v11, c12, c13, c14, c15]) r10 11 v11 rfl
  have r12 := heap_set_at (C' := #[v0, v1, v2, v3, v4, v5, v6, v7, v8, v9, v10, v11, v12, c13, c14, c15]) r11 12 v12 rfl
  have r13 := heap_set_at (C' := #[v0, v1, v2, v3, v4, v5, v6, v7, v8, v9, v10, v11, v12, v13, c14, c15]) r12 13 v13 rfl
  have r14 := heap_set_at (C' := #[v0, v1, v2, v3, v4, v5, v6, v7, v8, v9, v10, v11, v12, v13, v14, c15]) r13 14 v14 rfl
  have r15 := heap_set_at (C' := #[v0, v1, v2, v3, v4, v5, v6, v7, v8, v9, v10, v11, v12, v13, v14, v15]) r14 15 v15 rfl
  exact r15
theorem set16_kx (w : World) (g : Nat) (v0 v1 v2 v3 v4 v5 v6 v7 v8 v9 v10 v11 v12 v13 v14 v15 : Value) : Kx [g] w ((((((((((((((((w.setCell ⟨g, 0, none⟩ v0).setCell ⟨g, 1, none⟩ v1).setCell ⟨g, 2, none⟩ v2).setCell ⟨g, 3, none⟩ v3).setCell ⟨g, 4, none⟩ v4).setCell ⟨g, 5, none⟩ v5).setCell ⟨g, 6, none⟩ v6).setCell ⟨g, 7, none⟩ v7).setCell ⟨g, 8, none⟩ v8).setCell ⟨g, 9, none⟩ v9).setCell ⟨g, 10, none⟩ v10).setCell ⟨g, 11, none⟩ v11).setCell ⟨g, 12, none⟩ v12).setCell ⟨g, 13, none⟩ v13).setCell ⟨g, 14, none⟩ v14).setCell ⟨g, 15, none⟩ v15) :=
  (((((((((((((((((Kx.refl [g] w).set (by simp) _).set (by simp) _).set (by simp) _).set (by simp) _).set (by simp) _).set (by simp) _).set (by simp) _).set (by simp) _).set (by simp) _).set (by simp) _).set (by simp) _).set (by simp) _).set (by simp) _).set (by simp) _).set (by simp) _).set (by simp) _)
def ToldAt (w : World) (desc told : Array Value) (W : World) : Prop :=
  Kx [] w W ∧ W.heap[w.heap.size]? = some (Obj.cells desc 34 (0, 0)) ∧ W.heap[w.heap.size + 1]? = some (Obj.cells #[.bool false, .bool false, .bool false, .bool false, .int .i64 0, .float .f64 0, .string ⟨#[]⟩, .pointer none, .pointer none, .pointer none, .bool false, .bool false, .bool false, .bool false, .bool false, .bool false] 99 (0, 0)) ∧ W.heap[w.heap.size + 1 + 1]? = some (Obj.cells told 99 (0, 0))
theorem ToldAt.next {w W W' : World} {d t : Array Value} (h : ToldAt w d t W) (hk : Kx [] W W') : ToldAt w d t W' := ⟨h.1.same hk, hk.get h.2.1 (by simp), hk.get h.2.2.1 (by simp), hk.get h.2.2.2 (by simp)⟩
theorem ToldAt.put {w W : World} {d t t' : Array Value} (h : ToldAt w d t W) (j : Nat) (v : Value) (e : t.setIfInBounds j v = t') : ToldAt w d t' (W.setCell ⟨w.heap.size + 1 + 1, j, none⟩ v) :=
  ⟨h.1.trans ((Kx.refl [w.heap.size + 1 + 1] W).set (by simp) _) (fun i hi => .inr (by simp at hi; omega)), heap_setCell_ne h.2.1 (by omega) j v, heap_setCell_ne h.2.2.1 (by omega) j v, heap_set_at h.2.2.2 j v e⟩
theorem ToldAt.puts4 {w W : World} {d t t' : Array Value} (h : ToldAt w d t W) (a b c e : Value) (he : (((t.setIfInBounds 4 a).setIfInBounds 5 b).setIfInBounds 6 c).setIfInBounds 7 e = t') :
    ToldAt w d t' ((((W.setCell ⟨w.heap.size + 1 + 1, 4, none⟩ a).setCell ⟨w.heap.size + 1 + 1, 5, none⟩ b).setCell ⟨w.heap.size + 1 + 1, 6, none⟩ c).setCell ⟨w.heap.size + 1 + 1, 7, none⟩ e) :=
  (((h.put 4 a rfl).put 5 b rfl).put 6 c rfl).put 7 e he
set_option maxRecDepth 100000 in
set_option maxHeartbeats 4000000 in
theorem told_any (O : Nat) (hv hg hs hw he hc wr en cf okv okg oks : Bool) (k k' rf g s : Int) (x x' : Nat) (tx tx' : ByteArray) (r' g' s' : Option Addr) (w : World)
    (cV : hv = true → ∀ W, Kx [] w W → Calls Tryz.prog 63 #[.pointer (some ⟨O, 0, none⟩), .agg #[.int .i64 k, .float .f64 x, .string tx, .int .i64 rf]] W fun e w' => e = .returned (.tuple #[.agg #[.int .i64 k', .float .f64 x', .string tx', .pointer r'], .bool okv]) ∧ Kx [] W w')
    (nV : hv = false → k' = 0 ∧ x' = 0 ∧ tx' = ⟨#[]⟩ ∧ r' = none ∧ okv = true)
    (cG : hg = true → ∀ W, Kx [] w W → Calls Tryz.prog 35 #[.pointer (some ⟨O, 0, none⟩), .int .i64 g] W fun e w' => e = .returned (.tuple #[.pointer g', .bool okg]) ∧ w' = W)
    (nG : hg = false → g' = none ∧ okg = true)
    (cS : hs = true → ∀ W, Kx [] w W → Calls Tryz.prog 35 #[.pointer (some ⟨O, 0, none⟩), .int .i64 s] W fun e w' => e = .returned (.tuple #[.pointer s', .bool oks]) ∧ w' = W)
    (nS : hs = false → s' = none ∧ oks = true) :
    Calls Tryz.prog 40 #[.pointer (some ⟨O, 0, none⟩), .agg #[.bool hv, .bool hg, .bool hs, .bool hw, .bool he, .bool hc, .int .i64 k, .float .f64 x, .string tx, .int .i64 rf, .int .i64 g, .int .i64 s, .bool wr, .bool en, .bool cf]] w fun e w' => e = .returned (.tuple #[.agg #[.bool wr, .bool en, .bool cf, .bool false, .int .i64 k', .float .f64 x', .string tx', .pointer r', .pointer g', .pointer s', .bool hv, .bool hg, .bool hs, .bool hw, .bool he, .bool hc], .bool (okv && okg && oks)]) ∧ Kx [] w w' := by
  obtain ⟨W0, hW0⟩ : ∃ W0, W0 = ((w.alloc (Obj.cells #[.bool hv, .bool hg, .bool hs, .bool hw, .bool he, .bool hc, .int .i64 k, .float .f64 x, .string tx, .int .i64 rf, .int .i64 g, .int .i64 s, .bool wr, .bool en, .bool cf] 34)).alloc (Obj.cells #[.bool false, .bool false, .bool false, .bool false, .int .i64 0, .float .f64 0, .string ⟨#[]⟩, .pointer none, .pointer none, .pointer none, .bool false, .bool false, .bool false, .bool false, .bool false, .bool false] 99)).alloc (Obj.cells #[.bool false, .bool false, .bool false, .bool false, .int .i64 0, .float .f64 0, .string ⟨#[]⟩, .pointer none, .pointer none, .pointer none, .bool hv, .bool hg, .bool hs, .bool hw, .bool he, .bool hc] 99) := ⟨_, rfl⟩
  have t0 : ToldAt w #[.bool hv, .bool hg, .bool hs, .bool hw, .bool he, .bool hc, .int .i64 k, .float .f64 x, .string tx, .int .i64 rf, .int .i64 g, .int .i64 s, .bool wr, .bool en, .bool cf] #[.bool false, .bool false, .bool false, .bool false, .int .i64 0, .float .f64 0, .string ⟨#[]⟩, .pointer none, .pointer none, .pointer none, .bool hv, .bool hg, .bool hs, .bool hw, .bool he, .bool hc] W0 := by
    have e : w.heap.size + 1 + 1 = ((w.alloc (Obj.cells #[.bool hv, .bool hg, .bool hs, .bool hw, .bool he, .bool hc, .int .i64 k, .float .f64 x, .string tx, .int .i64 rf, .int .i64 g, .int .i64 s, .bool wr, .bool en, .bool cf] 34)).alloc (Obj.cells #[.bool false, .bool false, .bool false, .bool false, .int .i64 0, .float .f64 0, .string ⟨#[]⟩, .pointer none, .pointer none, .pointer none, .bool false, .bool false, .bool false, .bool false, .bool false, .bool false] 99)).heap.size := by simp
    rw [hW0]
    exact ⟨((Kx.alloc _ _ _).alc _).alc _, heap_old (heap_old (heap_alloc_new _ _) _) _, heap_old (heap_alloc2_new _ _ _) _, by rw [e]; exact heap_alloc_new _ _⟩
  have t1 := t0.put (t' := #[.bool wr, .bool false, .bool false, .bool false, .int .i64 0, .float .f64 0, .string ⟨#[]⟩, .pointer none, .pointer none, .pointer none, .bool hv, .bool hg, .bool hs, .bool hw, .bool he, .bool hc]) 0 (.bool wr) rfl
  have t2 := t1.put (t' := #[.bool wr, .bool en, .bool false, .bool false, .int .i64 0, .float .f64 0, .string ⟨#[]⟩, .pointer none, .pointer none, .pointer none, .bool hv, .bool hg, .bool hs, .bool hw, .bool he, .bool hc]) 1 (.bool en) rfl
  have t3 := t2.put (t' := #[.bool wr, .bool en, .bool cf, .bool false, .int .i64 0, .float .f64 0, .string ⟨#[]⟩, .pointer none, .pointer none, .pointer none, .bool hv, .bool hg, .bool hs, .bool hw, .bool he, .bool hc]) 2 (.bool cf) rfl
  have a0 := cell_at t0.2.1 12 rfl
  have b0 := cell_at t0.2.1 13 rfl
  have c0 := cell_at t0.2.1 14 rfl
  have f00 := fr_all t0.2.2.2 0
  have v00 := cell_at t0.2.2.2 0 rfl
  have f01 := fr_all t0.2.2.2 1
  have v01 := cell_at t0.2.2.2 1 rfl
  have f02 := fr_all t0.2.2.2 2
  have v02 := cell_at t0.2.2.2 2 rfl
  have a1 := cell_at t1.2.1 12 rfl
  have b1 := cell_at t1.2.1 13 rfl
  have c1 := cell_at t1.2.1 14 rfl
  have f10 := fr_all t1.2.2.2 0
  have v10 := cell_at t1.2.2.2 0 rfl
  have f11 := fr_all t1.2.2.2 1
  have v11 := cell_at t1.2.2.2 1 rfl
  have f12 := fr_all t1.2.2.2 2
  have v12 := cell_at t1.2.2.2 2 rfl
  have a2 := cell_at t2.2.1 12 rfl
  have b2 := cell_at t2.2.1 13 rfl
  have c2 := cell_at t2.2.1 14 rfl
  have f20 := fr_all t2.2.2.2 0
  have v20 := cell_at t2.2.2.2 0 rfl
  have f21 := fr_all t2.2.2.2 1
  have v21 := cell_at t2.2.2.2 1 rfl
  have f22 := fr_all t2.2.2.2 2
  have v22 := cell_at t2.2.2.2 2 rfl
  have a3 := cell_at t3.2.1 12 rfl
  have b3 := cell_at t3.2.1 13 rfl
  have c3 := cell_at t3.2.1 14 rfl
  have f30 := fr_all t3.2.2.2 0
  have v30 := cell_at t3.2.2.2 0 rfl
  have f31 := fr_all t3.2.2.2 1
  have v31 := cell_at t3.2.2.2 1 rfl
  have f32 := fr_all t3.2.2.2 2
  have v32 := cell_at t3.2.2.2 2 rfl
  have CV := (show Hid (hv = true → ∀ W, Kx [] w W → Calls Tryz.prog 63 #[.pointer (some ⟨O, 0, none⟩), .agg #[.int .i64 k, .float .f64 x, .string tx, .int .i64 rf]] W fun e w' => e = .returned (.tuple #[.agg #[.int .i64 k', .float .f64 x', .string tx', .pointer r'], .bool okv]) ∧ Kx [] W w') from cV)
  have NV := (show Hid (hv = false → k' = 0 ∧ x' = 0 ∧ tx' = ⟨#[]⟩ ∧ r' = none ∧ okv = true) from nV)
  have CG := (show Hid (hg = true → ∀ W, Kx [] w W → Calls Tryz.prog 35 #[.pointer (some ⟨O, 0, none⟩), .int .i64 g] W fun e w' => e = .returned (.tuple #[.pointer g', .bool okg]) ∧ w' = W) from cG)
  have NG := (show Hid (hg = false → g' = none ∧ okg = true) from nG)
  have CS := (show Hid (hs = true → ∀ W, Kx [] w W → Calls Tryz.prog 35 #[.pointer (some ⟨O, 0, none⟩), .int .i64 s] W fun e w' => e = .returned (.tuple #[.pointer s', .bool oks]) ∧ w' = W) from cS)
  have NS := (show Hid (hs = false → s' = none ∧ oks = true) from nS)
  have HH := (show Hid (ToldAt w #[.bool hv, .bool hg, .bool hs, .bool hw, .bool he, .bool hc, .int .i64 k, .float .f64 x, .string tx, .int .i64 rf, .int .i64 g, .int .i64 s, .bool wr, .bool en, .bool cf] #[.bool wr, .bool en, .bool cf, .bool false, .int .i64 0, .float .f64 0, .string ⟨#[]⟩, .pointer none, .pointer none, .pointer none, .bool hv, .bool hg, .bool hs, .bool hw, .bool he, .bool hc] _) from t3)
  clear cV cG cS nV nG nS t0 t1 t2 t3
  go_enter Tryz.func40, Tryz.ntmps40
  go_wp2
  rw [← hW0]
  clear hW0
  go_region_held3 (fun Z : World => Z.cell? ⟨w.heap.size, 12, none⟩ = some (.bool wr) ∧ Z.cell? ⟨w.heap.size, 13, none⟩ = some (.bool en) ∧ Z.cell? ⟨w.heap.size, 14, none⟩ = some (.bool cf) ∧ Z.frozen? ⟨w.heap.size + 1 + 1, 0, none⟩ = false ∧ Z.frozen? ⟨w.heap.size + 1 + 1, 1, none⟩ = false ∧ Z.frozen? ⟨w.heap.size + 1 + 1, 2, none⟩ = false) (first | exact ⟨a0, b0, c0, f00, f01, f02⟩ | exact ⟨a1, b1, c1, f10, f11, f12⟩ | exact ⟨a2, b2, c2, f20, f21, f22⟩ | exact ⟨a3, b3, c3, f30, f31, f32⟩) (fail)
  clear a0 b0 c0 f00 f01 f02 v00 v01 v02 a1 b1 c1 f10 f11 f12 v10 v11 v12 a2 b2 c2 f20 f21 f22 v20 v21 v22 a3 b3 c3 f30 f31 f32 v30 v31 v32
  obtain ⟨W3, hW3⟩ : ∃ W3, W3 = ((((W0.setCell ⟨w.heap.size + 1 + 1, 0, none⟩ (.bool wr)).setCell ⟨w.heap.size + 1 + 1, 1, none⟩ (.bool en)).setCell ⟨w.heap.size + 1 + 1, 2, none⟩ (.bool cf)).drew) := ⟨_, rfl⟩
  replace HH : Hid (ToldAt w #[.bool hv, .bool hg, .bool hs, .bool hw, .bool he, .bool hc, .int .i64 k, .float .f64 x, .string tx, .int .i64 rf, .int .i64 g, .int .i64 s, .bool wr, .bool en, .bool cf] #[.bool wr, .bool en, .bool cf, .bool false, .int .i64 0, .float .f64 0, .string ⟨#[]⟩, .pointer none, .pointer none, .pointer none, .bool hv, .bool hg, .bool hs, .bool hw, .bool he, .bool hc] W3) := by rw [hW3]; exact HH.out.next (Kx.drew _ _)
  rw [← hW3]
  clear hW3
  have y0 := cell_at HH.out.2.1 0 rfl
  have y1 := cell_at HH.out.2.1 1 rfl
  have y2 := cell_at HH.out.2.1 2 rfl
  have y3 := cell_at HH.out.2.1 3 rfl
  have y4 := cell_at HH.out.2.1 4 rfl
  have y5 := cell_at HH.out.2.1 5 rfl
  have y6 := cell_at HH.out.2.1 6 rfl
  have y7 := cell_at HH.out.2.1 7 rfl
  have y8 := cell_at HH.out.2.1 8 rfl
  have y9 := cell_at HH.out.2.1 9 rfl
  have y10 := cell_at HH.out.2.1 10 rfl
  have y11 := cell_at HH.out.2.1 11 rfl
  have y12 := cell_at HH.out.2.1 12 rfl
  have y13 := cell_at HH.out.2.1 13 rfl
  have y14 := cell_at HH.out.2.1 14 rfl
  go_upto_if 39 with fail
  go_cut [7] (fun v wx => v = .bool okv ∧ ToldAt w #[.bool hv, .bool hg, .bool hs, .bool hw, .bool he, .bool hc, .int .i64 k, .float .f64 x, .string tx, .int .i64 rf, .int .i64 g, .int .i64 s, .bool wr, .bool en, .bool cf] #[.bool wr, .bool en, .bool cf, .bool false, .int .i64 k', .float .f64 x', .string tx', .pointer r', .pointer none, .pointer none, .bool hv, .bool hg, .bool hs, .bool hw, .bool he, .bool hc] wx)
  case first =>
    cases hv
    · obtain ⟨rfl, rfl, rfl, rfl, rfl⟩ := NV.out (by simp)
      go_wp2
      go_meet
      exact ⟨rfl, HH.out⟩
    · go_wp2_with (first | (go_at_call 63; fail))
      refine (CV.out (by simp) W3 HH.out.1).mono ?_
      rintro e w4 ⟨rfl, hk4⟩
      have H4 := HH.out.next hk4
      have HH4 := (show Hid (ToldAt w #[.bool true, .bool hg, .bool hs, .bool hw, .bool he, .bool hc, .int .i64 k, .float .f64 x, .string tx, .int .i64 rf, .int .i64 g, .int .i64 s, .bool wr, .bool en, .bool cf] #[.bool wr, .bool en, .bool cf, .bool false, .int .i64 0, .float .f64 0, .string ⟨#[]⟩, .pointer none, .pointer none, .pointer none, .bool true, .bool hg, .bool hs, .bool hw, .bool he, .bool hc] w4) from H4)
      have hf4 := fr_all H4.2.2.2
      have z4 := cell_at H4.2.2.2 4 rfl
      have z5 := cell_at H4.2.2.2 5 rfl
      have z6 := cell_at H4.2.2.2 6 rfl
      have z7 := cell_at H4.2.2.2 7 rfl
      clear hk4 H4 HH
      clear y0 y1 y2 y3 y4 y5 y6 y7 y8 y9 y10 y11 y12 y13 y14
      go_wp2
      go_meet
      exact ⟨rfl, HH4.out.puts4 _ _ _ _ rfl⟩
  case rest =>
    obtain ⟨rfl, hc1⟩ := hcut
    clear HH CV NV
    clear y0 y1 y2 y3 y4 y5 y6 y7 y8 y9 y10 y11 y12 y13 y14
    have HH := (show Hid (ToldAt w #[.bool hv, .bool hg, .bool hs, .bool hw, .bool he, .bool hc, .int .i64 k, .float .f64 x, .string tx, .int .i64 rf, .int .i64 g, .int .i64 s, .bool wr, .bool en, .bool cf] #[.bool wr, .bool en, .bool cf, .bool false, .int .i64 k', .float .f64 x', .string tx', .pointer r', .pointer none, .pointer none, .bool hv, .bool hg, .bool hs, .bool hw, .bool he, .bool hc] wc) from hc1)
    clear hc1
    have y0 := cell_at HH.out.2.1 0 rfl
    have y1 := cell_at HH.out.2.1 1 rfl
    have y2 := cell_at HH.out.2.1 2 rfl
    have y3 := cell_at HH.out.2.1 3 rfl
    have y4 := cell_at HH.out.2.1 4 rfl
    have y5 := cell_at HH.out.2.1 5 rfl
    have y6 := cell_at HH.out.2.1 6 rfl
    have y7 := cell_at HH.out.2.1 7 rfl
    have y8 := cell_at HH.out.2.1 8 rfl
    have y9 := cell_at HH.out.2.1 9 rfl
    have y10 := cell_at HH.out.2.1 10 rfl
    have y11 := cell_at HH.out.2.1 11 rfl
    have y12 := cell_at HH.out.2.1 12 rfl
    have y13 := cell_at HH.out.2.1 13 rfl
    have y14 := cell_at HH.out.2.1 14 rfl
    go_upto_if 50 with fail
    go_cut [8] (fun v wx => v = .bool okg ∧ ToldAt w #[.bool hv, .bool hg, .bool hs, .bool hw, .bool he, .bool hc, .int .i64 k, .float .f64 x, .string tx, .int .i64 rf, .int .i64 g, .int .i64 s, .bool wr, .bool en, .bool cf] #[.bool wr, .bool en, .bool cf, .bool false, .int .i64 k', .float .f64 x', .string tx', .pointer r', .pointer g', .pointer none, .bool hv, .bool hg, .bool hs, .bool hw, .bool he, .bool hc] wx)
    case first =>
      cases hg
      · obtain ⟨rfl, rfl⟩ := NG.out (by simp)
        go_wp2
        go_meet
        exact ⟨rfl, HH.out⟩
      · have hf4 := fr_all HH.out.2.2.2
        have z4 := cell_at HH.out.2.2.2 8 rfl
        go_wp2_with (first | (go_at_call 35; refine (CG.out (by simp) _ HH.out.1).mono ?_; rintro e w5 ⟨rfl, rfl⟩))
        go_meet
        exact ⟨rfl, HH.out.put 8 _ rfl⟩
    case rest =>
      obtain ⟨rfl, hc1⟩ := hcut
      clear HH CG NG
      clear y0 y1 y2 y3 y4 y5 y6 y7 y8 y9 y10 y11 y12 y13 y14
      have HH := (show Hid (ToldAt w #[.bool hv, .bool hg, .bool hs, .bool hw, .bool he, .bool hc, .int .i64 k, .float .f64 x, .string tx, .int .i64 rf, .int .i64 g, .int .i64 s, .bool wr, .bool en, .bool cf] #[.bool wr, .bool en, .bool cf, .bool false, .int .i64 k', .float .f64 x', .string tx', .pointer r', .pointer g', .pointer none, .bool hv, .bool hg, .bool hs, .bool hw, .bool he, .bool hc] wc) from hc1)
      clear hc1
      have y0 := cell_at HH.out.2.1 0 rfl
      have y1 := cell_at HH.out.2.1 1 rfl
      have y2 := cell_at HH.out.2.1 2 rfl
      have y3 := cell_at HH.out.2.1 3 rfl
      have y4 := cell_at HH.out.2.1 4 rfl
      have y5 := cell_at HH.out.2.1 5 rfl
      have y6 := cell_at HH.out.2.1 6 rfl
      have y7 := cell_at HH.out.2.1 7 rfl
      have y8 := cell_at HH.out.2.1 8 rfl
      have y9 := cell_at HH.out.2.1 9 rfl
      have y10 := cell_at HH.out.2.1 10 rfl
      have y11 := cell_at HH.out.2.1 11 rfl
      have y12 := cell_at HH.out.2.1 12 rfl
      have y13 := cell_at HH.out.2.1 13 rfl
      have y14 := cell_at HH.out.2.1 14 rfl
      go_upto_if 61 with fail
      go_cut [9] (fun v wx => v = .bool oks ∧ ToldAt w #[.bool hv, .bool hg, .bool hs, .bool hw, .bool he, .bool hc, .int .i64 k, .float .f64 x, .string tx, .int .i64 rf, .int .i64 g, .int .i64 s, .bool wr, .bool en, .bool cf] #[.bool wr, .bool en, .bool cf, .bool false, .int .i64 k', .float .f64 x', .string tx', .pointer r', .pointer g', .pointer s', .bool hv, .bool hg, .bool hs, .bool hw, .bool he, .bool hc] wx)
      case first =>
        cases hs
        · obtain ⟨rfl, rfl⟩ := NS.out (by simp)
          go_wp2
          go_meet
          exact ⟨rfl, HH.out⟩
        · have hf4 := fr_all HH.out.2.2.2
          have z4 := cell_at HH.out.2.2.2 9 rfl
          go_wp2_with (first | (go_at_call 35; refine (CS.out (by simp) _ HH.out.1).mono ?_; rintro e w5 ⟨rfl, rfl⟩))
          go_meet
          exact ⟨rfl, HH.out.put 9 _ rfl⟩
      case rest =>
        obtain ⟨rfl, hc1⟩ := hcut
        clear HH CS NS
        clear y0 y1 y2 y3 y4 y5 y6 y7 y8 y9 y10 y11 y12 y13 y14
        have HH := (show Hid (ToldAt w #[.bool hv, .bool hg, .bool hs, .bool hw, .bool he, .bool hc, .int .i64 k, .float .f64 x, .string tx, .int .i64 rf, .int .i64 g, .int .i64 s, .bool wr, .bool en, .bool cf] #[.bool wr, .bool en, .bool cf, .bool false, .int .i64 k', .float .f64 x', .string tx', .pointer r', .pointer g', .pointer s', .bool hv, .bool hg, .bool hs, .bool hw, .bool he, .bool hc] wc) from hc1)
        clear hc1
        have z0 := cell_at HH.out.2.2.2 0 rfl
        have z1 := cell_at HH.out.2.2.2 1 rfl
        have z2 := cell_at HH.out.2.2.2 2 rfl
        have z3 := cell_at HH.out.2.2.2 3 rfl
        have z4 := cell_at HH.out.2.2.2 4 rfl
        have z5 := cell_at HH.out.2.2.2 5 rfl
        have z6 := cell_at HH.out.2.2.2 6 rfl
        have z7 := cell_at HH.out.2.2.2 7 rfl
        have z8 := cell_at HH.out.2.2.2 8 rfl
        have z9 := cell_at HH.out.2.2.2 9 rfl
        have z10 := cell_at HH.out.2.2.2 10 rfl
        have z11 := cell_at HH.out.2.2.2 11 rfl
        have z12 := cell_at HH.out.2.2.2 12 rfl
        have z13 := cell_at HH.out.2.2.2 13 rfl
        have z14 := cell_at HH.out.2.2.2 14 rfl
        have z15 := cell_at HH.out.2.2.2 15 rfl
        have u0 := cell_at HH.out.2.2.1 0 rfl
        have u1 := cell_at HH.out.2.2.1 1 rfl
        have u2 := cell_at HH.out.2.2.1 2 rfl
        have u3 := cell_at HH.out.2.2.1 3 rfl
        have u4 := cell_at HH.out.2.2.1 4 rfl
        have u5 := cell_at HH.out.2.2.1 5 rfl
        have u6 := cell_at HH.out.2.2.1 6 rfl
        have u7 := cell_at HH.out.2.2.1 7 rfl
        have u8 := cell_at HH.out.2.2.1 8 rfl
        have u9 := cell_at HH.out.2.2.1 9 rfl
        have u10 := cell_at HH.out.2.2.1 10 rfl
        have u11 := cell_at HH.out.2.2.1 11 rfl
        have u12 := cell_at HH.out.2.2.1 12 rfl
        have u13 := cell_at HH.out.2.2.1 13 rfl
        have u14 := cell_at HH.out.2.2.1 14 rfl
        have u15 := cell_at HH.out.2.2.1 15 rfl
        have hg4 := fr_all HH.out.2.2.1
        have HF : Hid (∀ b1 : Bool, b1 = (okv && okg && oks) → b1 = (okv && okg && oks)) := fun _ h => h
        go_wp2
        all_goals
          refine bodyPost_ret (results_row_tmp rfl _ _ (w.heap.size + 1) 99 _ (0, 0) _ rfl (set16_heap HH.out.2.2.1 _ _ _ _ _ _ _ _ _ _ _ _ _ _ _ _) Tryz.underlying99 rfl (by kernel_rfl) _ rfl) rfl ?_
          exact ⟨by simp [*], HH.out.1.trans (set16_kx _ _ _ _ _ _ _ _ _ _ _ _ _ _ _ _ _ _) (fun i hi => .inr (by simp at hi; omega))⟩
end Go.Proofs.YtmicdbplkfdfnaaGreatDoor
set_option linter.unusedVariables false
namespace Go.Proofs.YtmicdbplkfdfnaaGreatDoor
open Go.RowKit Go.Shelf Go.Maps

set_option maxRecDepth 100000 in
theorem signbit_any (y : Nat) (w : World) : Calls Tryz.prog 29 #[.float .f64 y] w fun e w' => e = .returned (.bool (decide (wrap64 (y : Int) < 0))) ∧ w' = w := by
  have hb := bits57
  go_enter Tryz.func29, Tryz.ntmps29
  go_wp2
  go_ret
  exact ⟨rfl, rfl⟩
theorem equalIn_flt (d y z : Nat) (W : World) : (Op.equalIn (d + 1) 30 (.float .f64 y) (.float .f64 z)).run Tryz.prog W = .ok (FloatKind.f64.format.order y z == some .eq) W := by
  simp [Op.equalIn, run_underlying Tryz.underlying30]
  rfl
theorem eql34 (y : Nat) (wr en cf : Bool) (hy : (FloatKind.f64.format.order y y == some .eq) = true) (W : World) : (binOp .eql 34 (.agg #[.bool true, .bool false, .bool false, .bool true, .bool true, .bool true, .int .i64 3, .float .f64 y, .string ⟨#[]⟩, .int .i64 0, .int .i64 0, .int .i64 0, .bool wr, .bool en, .bool cf]) (.agg #[.bool true, .bool false, .bool false, .bool true, .bool true, .bool true, .int .i64 3, .float .f64 y, .string ⟨#[]⟩, .int .i64 0, .int .i64 0, .int .i64 0, .bool wr, .bool en, .bool cf])).run Tryz.prog W = .ok (.bool true) W := by
  have h := equalIn_flt 9997 y y W
  rw [hy] at h
  go_simp
set_option maxRecDepth 100000 in
set_option maxHeartbeats 2000000 in
theorem sameDescs_same (y : Nat) (wr en cf : Bool) (hy : (FloatKind.f64.format.order y y == some .eq) = true) (w : World) :
    Calls Tryz.prog 13 #[.agg #[.bool true, .bool false, .bool false, .bool true, .bool true, .bool true, .int .i64 3, .float .f64 y, .string ⟨#[]⟩, .int .i64 0, .int .i64 0, .int .i64 0, .bool wr, .bool en, .bool cf], .agg #[.bool true, .bool false, .bool false, .bool true, .bool true, .bool true, .int .i64 3, .float .f64 y, .string ⟨#[]⟩, .int .i64 0, .int .i64 0, .int .i64 0, .bool wr, .bool en, .bool cf]] w fun e w' => e = .returned (.bool true) ∧ Kx [] w w' := by
  have hn : (FloatKind.f64.format.order y y != some .eq) = false := by simpa [bne] using hy
  have heq := eql34 y wr en cf hy
  obtain ⟨B, hB⟩ : ∃ B, B = decide (wrap64 (y : Int) < 0) := ⟨_, rfl⟩
  have cb := signbit_any y
  rw [← hB] at cb
  clear hB
  have CB := (show Hid (∀ w, Calls Tryz.prog 29 #[.float .f64 y] w fun e w' => e = .returned (.bool B) ∧ w' = w) from cb)
  clear cb
  obtain ⟨W0, hW0⟩ : ∃ W0, W0 = (w.alloc (Obj.cells #[.bool true, .bool false, .bool false, .bool true, .bool true, .bool true, .int .i64 3, .float .f64 y, .string ⟨#[]⟩, .int .i64 0, .int .i64 0, .int .i64 0, .bool wr, .bool en, .bool cf] 34)).alloc (Obj.cells #[.bool true, .bool false, .bool false, .bool true, .bool true, .bool true, .int .i64 3, .float .f64 y, .string ⟨#[]⟩, .int .i64 0, .int .i64 0, .int .i64 0, .bool wr, .bool en, .bool cf] 34) := ⟨_, rfl⟩
  have HK : Hid (Kx [] w W0) := by rw [hW0]; exact (show Kx [] w _ from (Kx.alloc _ _ _).alc _)
  have HA : Hid (W0.heap[w.heap.size]? = some (Obj.cells #[.bool true, .bool false, .bool false, .bool true, .bool true, .bool true, .int .i64 3, .float .f64 y, .string ⟨#[]⟩, .int .i64 0, .int .i64 0, .int .i64 0, .bool wr, .bool en, .bool cf] 34 (0, 0))) := by rw [hW0]; exact heap_old (heap_alloc_new _ _) _
  have HB : Hid (W0.heap[w.heap.size + 1]? = some (Obj.cells #[.bool true, .bool false, .bool false, .bool true, .bool true, .bool true, .int .i64 3, .float .f64 y, .string ⟨#[]⟩, .int .i64 0, .int .i64 0, .int .i64 0, .bool wr, .bool en, .bool cf] 34 (0, 0))) := by rw [hW0]; exact heap_alloc2_new _ _ _
  go_enter Tryz.func13, Tryz.ntmps13
  go_upto_region 6 with fail
  rw [← hW0]
  clear hW0
  have a0 := cell_at HA.out 0 rfl
  have b0 := cell_at HB.out 0 rfl
  have a1 := cell_at HA.out 1 rfl
  have b1 := cell_at HB.out 1 rfl
  have a2 := cell_at HA.out 2 rfl
  have b2 := cell_at HB.out 2 rfl
  have a3 := cell_at HA.out 3 rfl
  have b3 := cell_at HB.out 3 rfl
  have a4 := cell_at HA.out 4 rfl
  have b4 := cell_at HB.out 4 rfl
  have a5 := cell_at HA.out 5 rfl
  have b5 := cell_at HB.out 5 rfl
  have a6 := cell_at HA.out 6 rfl
  have b6 := cell_at HB.out 6 rfl
  have a7 := cell_at HA.out 7 rfl
  have b7 := cell_at HB.out 7 rfl
  have a8 := cell_at HA.out 8 rfl
  have b8 := cell_at HB.out 8 rfl
  have a9 := cell_at HA.out 9 rfl
  have b9 := cell_at HB.out 9 rfl
  have a10 := cell_at HA.out 10 rfl
  have b10 := cell_at HB.out 10 rfl
  have a11 := cell_at HA.out 11 rfl
  have b11 := cell_at HB.out 11 rfl
  have a12 := cell_at HA.out 12 rfl
  have b12 := cell_at HB.out 12 rfl
  have a13 := cell_at HA.out 13 rfl
  have b13 := cell_at HB.out 13 rfl
  have a14 := cell_at HA.out 14 rfl
  have b14 := cell_at HB.out 14 rfl
  go_quiet (first | (go_at_call 29; exact Calls.quiet_of_same (CB.out _)))
  go_wp2
  go_ret
  exact ⟨by simp, HK.out.drw _⟩
set_option maxRecDepth 100000 in
set_option maxHeartbeats 2000000 in
/-- The length of an Array may be shut. -/
theorem refuses_len (q1 : Bool) (y : Nat) (w : World) :
    Calls Tryz.prog 67 #[.agg #[.bool true, .bool q1, .bool false, .bool false, .int .i64 3, .float .f64 y, .string ⟨#[]⟩, .pointer none, .pointer none, .pointer none], .agg #[.bool false, .bool false, .bool false, .bool false, .int .i64 0, .float .f64 0, .string ⟨#[]⟩, .pointer none, .pointer none, .pointer none, .bool false, .bool false, .bool false, .bool true, .bool false, .bool true]] w fun e w' => e = .returned (.bool false) ∧ Kx [] w w' := by
  have cf := fun W => tellsF_any (.bool false) (.bool false) (.bool false) (.bool false) (.int .i64 0) (.float .f64 0) (.string ⟨#[]⟩) (.pointer none) (.pointer none) (.pointer none) false false false true false true W
  rw [Bool.or_false] at cf
  go_enter Tryz.func67, Tryz.ntmps67
  go_wp2_with (first | (go_at_call 64; refine (cf _).mono ?_; rintro e w1 ⟨rfl, rfl⟩))
  go_ret
  exact ⟨rfl, ((Kx.alloc _ _ _).alc _).alc _⟩
end Go.Proofs.YtmicdbplkfdfnaaGreatDoor
