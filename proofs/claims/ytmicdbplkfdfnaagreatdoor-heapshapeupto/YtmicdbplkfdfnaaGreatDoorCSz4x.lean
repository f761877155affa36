/- Object.Define, where a property is set. -/
import Derived.Test.YtmicdbplkfdfnaaGreatDoorCHo3x
import Derived.Test.YtmicdbplkfdfnaaGreatDoorCTj1x
import Derived.BigQuiet
import Derived.Deep.DeepCutAuto
import Derived.Deep.CutBlock
set_option linter.unusedVariables false
namespace Go.Proofs.YtmicdbplkfdfnaaGreatDoor
open Go.RowKit Go.Shelf Go.Maps
attribute [local go_sem] run_store_flt

set_option maxRecDepth 100000 in
set_option maxHeartbeats 4000000 in
theorem define_hasP (b : Nat) (C nm : ByteArray) (pl : Int) (t0 t1 t2 hv hw he hc : Bool) (t4 : Int) (t5 : Nat) (t6 : ByteArray) (t7 : Option Addr) (q0 q1 q2 p0 p1 p2 : Bool) (q4 p4 : Int) (q5 p5 : Nat) (q6 p6 : ByteArray) (q7 p7 : Option Addr) (T : List Nat) (R : World → Prop) (w : World)
    (hb : w.cell? ⟨b, 0, none⟩ = some (.string C)) (hC : (C.toList == [65, 114, 114, 97, 121]) = false) (hT : ∀ i ∈ T, i < w.heap.size)
    (cO : ∀ W, Kx [] w W → Calls Tryz.prog 25 #[.pointer (some ⟨b, 0, none⟩), .agg #[.string nm, .int .u32 pl, .bool true]] W fun e w' => e = .returned (.tuple #[.agg #[.bool q0, .bool q1, .bool q2, .bool false, .int .i64 q4, .float .f64 q5, .string q6, .pointer q7, .pointer none, .pointer none], .bool true]) ∧ Kx [] W w')
    (cR : ∀ W, Kx [] w W → Calls Tryz.prog 67 #[.agg #[.bool q0, .bool q1, .bool q2, .bool false, .int .i64 q4, .float .f64 q5, .string q6, .pointer q7, .pointer none, .pointer none], .agg #[.bool t0, .bool t1, .bool t2, .bool false, .int .i64 t4, .float .f64 t5, .string t6, .pointer t7, .pointer none, .pointer none, .bool hv, .bool false, .bool false, .bool hw, .bool he, .bool hc]] W fun e w' => e = .returned (.bool false) ∧ Kx [] W w')
    (cU : ∀ W, Kx [] w W → Calls Tryz.prog 45 #[.pointer (some ⟨b, 0, none⟩)] W fun e w' => e = .returned (.int .i64 0) ∧ ∃ q, w' = W.drewN q)
    (cW : ∀ W, Kx [] w W → Calls Tryz.prog 69 #[.agg #[.bool q0, .bool q1, .bool q2, .bool false, .int .i64 q4, .float .f64 q5, .string q6, .pointer q7, .pointer none, .pointer none], .agg #[.bool t0, .bool t1, .bool t2, .bool false, .int .i64 t4, .float .f64 t5, .string t6, .pointer t7, .pointer none, .pointer none, .bool hv, .bool false, .bool false, .bool hw, .bool he, .bool hc]] W fun e w' => e = .returned (.agg #[.bool p0, .bool p1, .bool p2, .bool false, .int .i64 p4, .float .f64 p5, .string p6, .pointer p7, .pointer none, .pointer none]) ∧ Kx [] W w')
    (cS : ∀ W, Kx [] w W → Calls Tryz.prog 59 #[.pointer (some ⟨b, 0, none⟩), .agg #[.string nm, .int .u32 pl, .bool true], .agg #[.bool p0, .bool p1, .bool p2, .bool false, .int .i64 p4, .float .f64 p5, .string p6, .pointer p7, .pointer none, .pointer none]] W fun e w' => (∃ u, e = .returned u) ∧ Kx T W w' ∧ R w')
    (cL : ∀ W, R W → Calls Tryz.prog 70 #[.pointer (some ⟨b, 0, none⟩)] W fun e w' => e = .returned (.pointer none) ∧ w' = W)
    (hpl : 0 ≤ pl) (hpl2 : pl < 4294967296) :
    Calls Tryz.prog 41 #[.pointer (some ⟨b, 0, none⟩), .agg #[.string nm, .int .u32 pl, .bool true], .agg #[.bool t0, .bool t1, .bool t2, .bool false, .int .i64 t4, .float .f64 t5, .string t6, .pointer t7, .pointer none, .pointer none, .bool hv, .bool false, .bool false, .bool hw, .bool he, .bool hc]] w fun e w' => e = .returned .nilIface ∧ ∃ W q, R W ∧ w' = W.drewN q := by
  have c1 := fun W => tellsF_any (.bool t0) (.bool t1) (.bool t2) (.bool false) (.int .i64 t4) (.float .f64 t5) (.string t6) (.pointer t7) (.pointer none) (.pointer none) hv false false hw he hc W
  rw [Bool.or_false] at c1
  have hwr : IntKind.i64.wrap pl = pl := by rw [IntKind.wrap_i64]; omega
  have hlt0 : ¬ pl < 0 := by omega
  obtain ⟨W1, hW1⟩ : ∃ W1, W1 = ((w.alloc (Obj.cells #[.string nm, .int .u32 pl, .bool true] 67)).alloc (Obj.cells #[.bool t0, .bool t1, .bool t2, .bool false, .int .i64 t4, .float .f64 t5, .string t6, .pointer t7, .pointer none, .pointer none, .bool hv, .bool false, .bool false, .bool hw, .bool he, .bool hc] 99)).alloc (Obj.cells #[.bool t0, .bool t1, .bool t2, .bool false, .int .i64 t4, .float .f64 t5, .string t6, .pointer t7, .pointer none, .pointer none, .bool hv, .bool false, .bool false, .bool hw, .bool he, .bool hc] 99) := ⟨_, rfl⟩
  have hk1 : Kx [] w W1 := by rw [hW1]; exact (show Kx [] w _ from ((Kx.alloc _ _ _).alc _).alc _)
  have hK1 : W1.heap[w.heap.size]? = some (Obj.cells #[.string nm, .int .u32 pl, .bool true] 67 (0, 0)) := by rw [hW1]; exact heap_old (heap_old (heap_alloc_new _ _) _) _
  have hT1 : W1.heap[w.heap.size + 1]? = some (Obj.cells #[.bool t0, .bool t1, .bool t2, .bool false, .int .i64 t4, .float .f64 t5, .string t6, .pointer t7, .pointer none, .pointer none, .bool hv, .bool false, .bool false, .bool hw, .bool he, .bool hc] 99 (0, 0)) := by rw [hW1]; exact heap_old (heap_alloc2_new _ _ _) _
  have b0 : W1.cell? ⟨b, 0, none⟩ = some (.string C) := hk1.cell hb (by simp)
  have CO := (show Hid (∀ W, Kx [] w W → Calls Tryz.prog 25 #[.pointer (some ⟨b, 0, none⟩), .agg #[.string nm, .int .u32 pl, .bool true]] W fun e w' => e = .returned (.tuple #[.agg #[.bool q0, .bool q1, .bool q2, .bool false, .int .i64 q4, .float .f64 q5, .string q6, .pointer q7, .pointer none, .pointer none], .bool true]) ∧ Kx [] W w') from cO)
  clear cO
  have CR := (show Hid (∀ W, Kx [] w W → Calls Tryz.prog 67 #[.agg #[.bool q0, .bool q1, .bool q2, .bool false, .int .i64 q4, .float .f64 q5, .string q6, .pointer q7, .pointer none, .pointer none], .agg #[.bool t0, .bool t1, .bool t2, .bool false, .int .i64 t4, .float .f64 t5, .string t6, .pointer t7, .pointer none, .pointer none, .bool hv, .bool false, .bool false, .bool hw, .bool he, .bool hc]] W fun e w' => e = .returned (.bool false) ∧ Kx [] W w') from cR)
  clear cR
  have CU := (show Hid (∀ W, Kx [] w W → Calls Tryz.prog 45 #[.pointer (some ⟨b, 0, none⟩)] W fun e w' => e = .returned (.int .i64 0) ∧ ∃ q, w' = W.drewN q) from cU)
  clear cU
  have CW := (show Hid (∀ W, Kx [] w W → Calls Tryz.prog 69 #[.agg #[.bool q0, .bool q1, .bool q2, .bool false, .int .i64 q4, .float .f64 q5, .string q6, .pointer q7, .pointer none, .pointer none], .agg #[.bool t0, .bool t1, .bool t2, .bool false, .int .i64 t4, .float .f64 t5, .string t6, .pointer t7, .pointer none, .pointer none, .bool hv, .bool false, .bool false, .bool hw, .bool he, .bool hc]] W fun e w' => e = .returned (.agg #[.bool p0, .bool p1, .bool p2, .bool false, .int .i64 p4, .float .f64 p5, .string p6, .pointer p7, .pointer none, .pointer none]) ∧ Kx [] W w') from cW)
  clear cW
  have CS := (show Hid (∀ W, Kx [] w W → Calls Tryz.prog 59 #[.pointer (some ⟨b, 0, none⟩), .agg #[.string nm, .int .u32 pl, .bool true], .agg #[.bool p0, .bool p1, .bool p2, .bool false, .int .i64 p4, .float .f64 p5, .string p6, .pointer p7, .pointer none, .pointer none]] W fun e w' => (∃ u, e = .returned u) ∧ Kx T W w' ∧ R w') from cS)
  clear cS
  have CL := (show Hid (∀ W, R W → Calls Tryz.prog 70 #[.pointer (some ⟨b, 0, none⟩)] W fun e w' => e = .returned (.pointer none) ∧ w' = W) from cL)
  clear cL
  have HT := (show Hid (∀ i ∈ T, i < w.heap.size) from hT)
  have C1 := (show Hid _ from c1)
  have HK1 := (show Hid (Kx [] w W1) from hk1)
  have HKB := (show Hid (W1.heap[w.heap.size]? = some (Obj.cells #[.string nm, .int .u32 pl, .bool true] 67 (0, 0))) from hK1)
  have HTB := (show Hid (W1.heap[w.heap.size + 1]? = some (Obj.cells #[.bool t0, .bool t1, .bool t2, .bool false, .int .i64 t4, .float .f64 t5, .string t6, .pointer t7, .pointer none, .pointer none, .bool hv, .bool false, .bool false, .bool hw, .bool he, .bool hc] 99 (0, 0))) from hT1)
  clear hT c1 hk1 hK1 hT1 hb
  have B0 := (show Hid (W1.cell? ⟨b, 0, none⟩ = some (.string C)) from b0)
  clear b0
  go_enter Tryz.func41, Tryz.ntmps41
  go_wp2_with (first | (go_at_call 64; fail))
  refine (C1.out _).mono ?_
  rintro e w1 ⟨rfl, rfl⟩
  rw [← hW1]
  clear hW1 C1
  have b0 := B0.out
  have k0 := cell_at HKB.out 0 rfl
  have k1 := cell_at HKB.out 1 rfl
  have k2 := cell_at HKB.out 2 rfl
  go_wp2_with (first | (go_at_call 25; fail))
  refine (CO.out W1 HK1.out).mono ?_
  rintro e w2 ⟨rfl, hk2⟩
  clear b0 k0 k1 k2 CO B0
  have hk2' : Kx [] W1 (w2.alloc (Obj.cells #[.bool q0, .bool q1, .bool q2, .bool false, .int .i64 q4, .float .f64 q5, .string q6, .pointer q7, .pointer none, .pointer none] 75)) := hk2.alc _
  replace HKB : Hid ((w2.alloc (Obj.cells #[.bool q0, .bool q1, .bool q2, .bool false, .int .i64 q4, .float .f64 q5, .string q6, .pointer q7, .pointer none, .pointer none] 75)).heap[w.heap.size]? = some (Obj.cells #[.string nm, .int .u32 pl, .bool true] 67 (0, 0))) := hk2'.get HKB.out (by simp)
  replace HTB : Hid ((w2.alloc (Obj.cells #[.bool q0, .bool q1, .bool q2, .bool false, .int .i64 q4, .float .f64 q5, .string q6, .pointer q7, .pointer none, .pointer none] 75)).heap[w.heap.size + 1]? = some (Obj.cells #[.bool t0, .bool t1, .bool t2, .bool false, .int .i64 t4, .float .f64 t5, .string t6, .pointer t7, .pointer none, .pointer none, .bool hv, .bool false, .bool false, .bool hw, .bool he, .bool hc] 99 (0, 0))) := hk2'.get HTB.out (by simp)
  have HPB : Hid ((w2.alloc (Obj.cells #[.bool q0, .bool q1, .bool q2, .bool false, .int .i64 q4, .float .f64 q5, .string q6, .pointer q7, .pointer none, .pointer none] 75)).heap[w2.heap.size]? = some (Obj.cells #[.bool q0, .bool q1, .bool q2, .bool false, .int .i64 q4, .float .f64 q5, .string q6, .pointer q7, .pointer none, .pointer none] 75 (0, 0))) := heap_alloc_new _ _
  replace HK1 : Hid (Kx [] w (w2.alloc (Obj.cells #[.bool q0, .bool q1, .bool q2, .bool false, .int .i64 q4, .float .f64 q5, .string q6, .pointer q7, .pointer none, .pointer none] 75))) := (show Kx [] w _ from HK1.out.same hk2')
  obtain ⟨B2, hB2⟩ : ∃ B2, B2 = w2.heap.size := ⟨_, rfl⟩
  clear hk2 hk2'
  have ct0 := cell_at HTB.out 0 rfl
  have ct1 := cell_at HTB.out 1 rfl
  have ct2 := cell_at HTB.out 2 rfl
  have ct3 := cell_at HTB.out 3 rfl
  have ct4 := cell_at HTB.out 4 rfl
  have ct5 := cell_at HTB.out 5 rfl
  have ct6 := cell_at HTB.out 6 rfl
  have ct7 := cell_at HTB.out 7 rfl
  have ct8 := cell_at HTB.out 8 rfl
  have ct9 := cell_at HTB.out 9 rfl
  have ct10 := cell_at HTB.out 10 rfl
  have ct11 := cell_at HTB.out 11 rfl
  have ct12 := cell_at HTB.out 12 rfl
  have ct13 := cell_at HTB.out 13 rfl
  have ct14 := cell_at HTB.out 14 rfl
  have ct15 := cell_at HTB.out 15 rfl
  go_wp2_with (first | (go_at_call 67; fail))
  refine (CR.out _ HK1.out).mono ?_
  rintro e w3 ⟨rfl, hk3⟩
  clear ct0 ct1 ct2 ct3 ct4 ct5 ct6 ct7 ct8 ct9 ct10 ct11 ct12 ct13 ct14 ct15
  replace HKB : Hid (w3.heap[w.heap.size]? = some (Obj.cells #[.string nm, .int .u32 pl, .bool true] 67 (0, 0))) := hk3.get HKB.out (by simp)
  replace HTB : Hid (w3.heap[w.heap.size + 1]? = some (Obj.cells #[.bool t0, .bool t1, .bool t2, .bool false, .int .i64 t4, .float .f64 t5, .string t6, .pointer t7, .pointer none, .pointer none, .bool hv, .bool false, .bool false, .bool hw, .bool he, .bool hc] 99 (0, 0))) := hk3.get HTB.out (by simp)
  replace HPB : Hid (w3.heap[w2.heap.size]? = some (Obj.cells #[.bool q0, .bool q1, .bool q2, .bool false, .int .i64 q4, .float .f64 q5, .string q6, .pointer q7, .pointer none, .pointer none] 75 (0, 0))) := hk3.get HPB.out (by simp)
  rw [← hB2] at HPB
  replace HK1 : Hid (Kx [] w w3) := (show Kx [] w w3 from HK1.out.same hk3)
  clear hk3 CR
  have k0 := cell_at HKB.out 0 rfl
  have k1 := cell_at HKB.out 1 rfl
  have k2 := cell_at HKB.out 2 rfl
  rw [← hB2]
  clear hB2
  go_upto_region 8 with fail
  go_quiet (first | (go_at_call 45; exact Calls.quiet_of (CU.out _ (HK1.out.drw _))))
  obtain ⟨w6, hw6⟩ : ∃ w6, w6 = w3.drewN nq := ⟨_, rfl⟩
  rw [← hw6]
  replace HKB : Hid (w6.heap[w.heap.size]? = some (Obj.cells #[.string nm, .int .u32 pl, .bool true] 67 (0, 0))) := by rw [hw6]; exact HKB.out
  replace HTB : Hid (w6.heap[w.heap.size + 1]? = some (Obj.cells #[.bool t0, .bool t1, .bool t2, .bool false, .int .i64 t4, .float .f64 t5, .string t6, .pointer t7, .pointer none, .pointer none, .bool hv, .bool false, .bool false, .bool hw, .bool he, .bool hc] 99 (0, 0))) := by rw [hw6]; exact HTB.out
  replace HPB : Hid (w6.heap[B2]? = some (Obj.cells #[.bool q0, .bool q1, .bool q2, .bool false, .int .i64 q4, .float .f64 q5, .string q6, .pointer q7, .pointer none, .pointer none] 75 (0, 0))) := by rw [hw6]; exact HPB.out
  replace HK1 : Hid (Kx [] w w6) := by rw [hw6]; exact HK1.out.drw _
  clear hw6 k0 k1 k2
  have k0 := cell_at HKB.out 0 rfl
  have k1 := cell_at HKB.out 1 rfl
  have k2 := cell_at HKB.out 2 rfl
  have ct0 := cell_at HTB.out 0 rfl
  have ct1 := cell_at HTB.out 1 rfl
  have ct2 := cell_at HTB.out 2 rfl
  have ct3 := cell_at HTB.out 3 rfl
  have ct4 := cell_at HTB.out 4 rfl
  have ct5 := cell_at HTB.out 5 rfl
  have ct6 := cell_at HTB.out 6 rfl
  have ct7 := cell_at HTB.out 7 rfl
  have ct8 := cell_at HTB.out 8 rfl
  have ct9 := cell_at HTB.out 9 rfl
  have ct10 := cell_at HTB.out 10 rfl
  have ct11 := cell_at HTB.out 11 rfl
  have ct12 := cell_at HTB.out 12 rfl
  have ct13 := cell_at HTB.out 13 rfl
  have ct14 := cell_at HTB.out 14 rfl
  have ct15 := cell_at HTB.out 15 rfl
  have cz0 := cell_at HPB.out 0 rfl
  have cz1 := cell_at HPB.out 1 rfl
  have cz2 := cell_at HPB.out 2 rfl
  have cz3 := cell_at HPB.out 3 rfl
  have cz4 := cell_at HPB.out 4 rfl
  have cz5 := cell_at HPB.out 5 rfl
  have cz6 := cell_at HPB.out 6 rfl
  have cz7 := cell_at HPB.out 7 rfl
  have cz8 := cell_at HPB.out 8 rfl
  have cz9 := cell_at HPB.out 9 rfl
  go_wp2_with (first | (go_at_call 69; fail) | (go_at_call 59; fail))
  go_region_law (first | (go_simp; go_at_call 69; refine (CW.out _ (by first | exact HK1.out | exact HK1.out.drw1 | exact HK1.out.drw _)).mono ?_; rintro e w4 ⟨rfl, hk4⟩; have HKC : Hid (w4.heap[w.heap.size]? = some (Obj.cells #[.string nm, .int .u32 pl, .bool true] 67 (0, 0))) := hk4.get HKB.out (by simp); have y0 := cell_at HKC.out 0 rfl; have y1 := cell_at HKC.out 1 rfl; have y2 := cell_at HKC.out 2 rfl; have HK4 : Hid (Kx [] w w4) := (show Kx [] w w4 from (HK1.out.drw1).same hk4)) | (go_simp; go_at_call 59; refine (CS.out _ HK4.out).mono ?_; rintro e w5 ⟨⟨u, rfl⟩, hk5, hR5⟩))
  all_goals have HR5 : Hid (R w5) := hR5
  all_goals have HKD : Hid (w5.heap[w.heap.size]? = some (Obj.cells #[.string nm, .int .u32 pl, .bool true] 67 (0, 0))) := hk5.get HKC.out (fun hm => by have := HT.out _ hm; omega)
  all_goals have c70 := CL.out w5 HR5.out
  all_goals clear hR5 hk4 hk5 CS CW HK1 HK4 HKB HTB HPB HKC y0 y1 y2 k0 k1 k2 ct0 ct1 ct2 ct3 ct4 ct5 ct6 ct7 ct8 ct9 ct10 ct11 ct12 ct13 ct14 ct15 cz0 cz1 cz2 cz3 cz4 cz5 cz6 cz7 cz8 cz9 HT CL hC CU
  all_goals clear HKD
  all_goals
    go_wp2_with (first | (go_at_call 70; refine c70.mono ?_; rintro e w7 ⟨rfl, rfl⟩))
    go_ret
    exact ⟨rfl, _, 0, HR5.out, rfl⟩
end Go.Proofs.YtmicdbplkfdfnaaGreatDoor
set_option linter.unusedVariables false
namespace Go.Proofs.YtmicdbplkfdfnaaGreatDoor
open Go.RowKit Go.Shelf Go.Maps
attribute [local go_sem] run_store_flt

set_option maxRecDepth 100000 in
set_option maxHeartbeats 4000000 in
theorem define_newNA (b : Nat) (C nm : ByteArray) (pl : Int) (t0 t1 t2 hv hw he hc : Bool) (t4 : Int) (t5 : Nat) (t6 : ByteArray) (t7 : Option Addr) (q0 q1 q2 p0 p1 p2 : Bool) (q4 p4 : Int) (q5 p5 : Nat) (q6 p6 : ByteArray) (q7 p7 : Option Addr) (T : List Nat) (R : World → Prop) (w : World)
    (hb : w.cell? ⟨b, 0, none⟩ = some (.string C)) (hC : (C.toList == [65, 114, 114, 97, 121]) = true) (hnm : (nm.toList == [108, 101, 110, 103, 116, 104]) = false) (hT : ∀ i ∈ T, i < w.heap.size)
    (cO : ∀ W, Kx [] w W → Calls Tryz.prog 25 #[.pointer (some ⟨b, 0, none⟩), .agg #[.string nm, .int .u32 pl, .bool false]] W fun e w' => e = .returned (.tuple #[.agg #[.bool q0, .bool q1, .bool q2, .bool false, .int .i64 q4, .float .f64 q5, .string q6, .pointer q7, .pointer none, .pointer none], .bool false]) ∧ Kx [] W w')
    (cR : ∀ W, Kx [] w W → Calls Tryz.prog 68 #[.pointer (some ⟨b, 0, none⟩), .agg #[.string nm, .int .u32 pl, .bool false]] W fun e w' => e = .returned (.bool true) ∧ Kx [] W w')
    (cW : ∀ W, Kx [] w W → Calls Tryz.prog 69 #[.agg #[.bool q0, .bool q1, .bool q2, .bool false, .int .i64 q4, .float .f64 q5, .string q6, .pointer q7, .pointer none, .pointer none], .agg #[.bool t0, .bool t1, .bool t2, .bool false, .int .i64 t4, .float .f64 t5, .string t6, .pointer t7, .pointer none, .pointer none, .bool hv, .bool false, .bool false, .bool hw, .bool he, .bool hc]] W fun e w' => e = .returned (.agg #[.bool p0, .bool p1, .bool p2, .bool false, .int .i64 p4, .float .f64 p5, .string p6, .pointer p7, .pointer none, .pointer none]) ∧ Kx [] W w')
    (cS : ∀ W, Kx [] w W → Calls Tryz.prog 59 #[.pointer (some ⟨b, 0, none⟩), .agg #[.string nm, .int .u32 pl, .bool false], .agg #[.bool p0, .bool p1, .bool p2, .bool false, .int .i64 p4, .float .f64 p5, .string p6, .pointer p7, .pointer none, .pointer none]] W fun e w' => (∃ u, e = .returned u) ∧ Kx T W w' ∧ R w')
    (cL : ∀ W, R W → Calls Tryz.prog 70 #[.pointer (some ⟨b, 0, none⟩)] W fun e w' => (∃ g, e = .returned (.pointer (some ⟨g, 4, none⟩))) ∧ w' = W) :
    Calls Tryz.prog 41 #[.pointer (some ⟨b, 0, none⟩), .agg #[.string nm, .int .u32 pl, .bool false], .agg #[.bool t0, .bool t1, .bool t2, .bool false, .int .i64 t4, .float .f64 t5, .string t6, .pointer t7, .pointer none, .pointer none, .bool hv, .bool false, .bool false, .bool hw, .bool he, .bool hc]] w fun e w' => e = .returned .nilIface ∧ ∃ W q, R W ∧ w' = W.drewN q := by
  have c1 := fun W => tellsF_any (.bool t0) (.bool t1) (.bool t2) (.bool false) (.int .i64 t4) (.float .f64 t5) (.string t6) (.pointer t7) (.pointer none) (.pointer none) hv false false hw he hc W
  rw [Bool.or_false] at c1
  obtain ⟨W1, hW1⟩ : ∃ W1, W1 = ((w.alloc (Obj.cells #[.string nm, .int .u32 pl, .bool false] 67)).alloc (Obj.cells #[.bool t0, .bool t1, .bool t2, .bool false, .int .i64 t4, .float .f64 t5, .string t6, .pointer t7, .pointer none, .pointer none, .bool hv, .bool false, .bool false, .bool hw, .bool he, .bool hc] 99)).alloc (Obj.cells #[.bool t0, .bool t1, .bool t2, .bool false, .int .i64 t4, .float .f64 t5, .string t6, .pointer t7, .pointer none, .pointer none, .bool hv, .bool false, .bool false, .bool hw, .bool he, .bool hc] 99) := ⟨_, rfl⟩
  have hk1 : Kx [] w W1 := by rw [hW1]; exact (show Kx [] w _ from ((Kx.alloc _ _ _).alc _).alc _)
  have hK1 : W1.heap[w.heap.size]? = some (Obj.cells #[.string nm, .int .u32 pl, .bool false] 67 (0, 0)) := by rw [hW1]; exact heap_old (heap_old (heap_alloc_new _ _) _) _
  have hT1 : W1.heap[w.heap.size + 1]? = some (Obj.cells #[.bool t0, .bool t1, .bool t2, .bool false, .int .i64 t4, .float .f64 t5, .string t6, .pointer t7, .pointer none, .pointer none, .bool hv, .bool false, .bool false, .bool hw, .bool he, .bool hc] 99 (0, 0)) := by rw [hW1]; exact heap_old (heap_alloc2_new _ _ _) _
  have b0 : W1.cell? ⟨b, 0, none⟩ = some (.string C) := hk1.cell hb (by simp)
  have CO := (show Hid (∀ W, Kx [] w W → Calls Tryz.prog 25 #[.pointer (some ⟨b, 0, none⟩), .agg #[.string nm, .int .u32 pl, .bool false]] W fun e w' => e = .returned (.tuple #[.agg #[.bool q0, .bool q1, .bool q2, .bool false, .int .i64 q4, .float .f64 q5, .string q6, .pointer q7, .pointer none, .pointer none], .bool false]) ∧ Kx [] W w') from cO)
  clear cO
  have CR := (show Hid (∀ W, Kx [] w W → Calls Tryz.prog 68 #[.pointer (some ⟨b, 0, none⟩), .agg #[.string nm, .int .u32 pl, .bool false]] W fun e w' => e = .returned (.bool true) ∧ Kx [] W w') from cR)
  clear cR
  have CW := (show Hid (∀ W, Kx [] w W → Calls Tryz.prog 69 #[.agg #[.bool q0, .bool q1, .bool q2, .bool false, .int .i64 q4, .float .f64 q5, .string q6, .pointer q7, .pointer none, .pointer none], .agg #[.bool t0, .bool t1, .bool t2, .bool false, .int .i64 t4, .float .f64 t5, .string t6, .pointer t7, .pointer none, .pointer none, .bool hv, .bool false, .bool false, .bool hw, .bool he, .bool hc]] W fun e w' => e = .returned (.agg #[.bool p0, .bool p1, .bool p2, .bool false, .int .i64 p4, .float .f64 p5, .string p6, .pointer p7, .pointer none, .pointer none]) ∧ Kx [] W w') from cW)
  clear cW
  have CS := (show Hid (∀ W, Kx [] w W → Calls Tryz.prog 59 #[.pointer (some ⟨b, 0, none⟩), .agg #[.string nm, .int .u32 pl, .bool false], .agg #[.bool p0, .bool p1, .bool p2, .bool false, .int .i64 p4, .float .f64 p5, .string p6, .pointer p7, .pointer none, .pointer none]] W fun e w' => (∃ u, e = .returned u) ∧ Kx T W w' ∧ R w') from cS)
  clear cS
  have CL := (show Hid (∀ W, R W → Calls Tryz.prog 70 #[.pointer (some ⟨b, 0, none⟩)] W fun e w' => (∃ g, e = .returned (.pointer (some ⟨g, 4, none⟩))) ∧ w' = W) from cL)
  clear cL
  have HT := (show Hid (∀ i ∈ T, i < w.heap.size) from hT)
  have C1 := (show Hid _ from c1)
  have HK1 := (show Hid (Kx [] w W1) from hk1)
  have HKB := (show Hid (W1.heap[w.heap.size]? = some (Obj.cells #[.string nm, .int .u32 pl, .bool false] 67 (0, 0))) from hK1)
  have HTB := (show Hid (W1.heap[w.heap.size + 1]? = some (Obj.cells #[.bool t0, .bool t1, .bool t2, .bool false, .int .i64 t4, .float .f64 t5, .string t6, .pointer t7, .pointer none, .pointer none, .bool hv, .bool false, .bool false, .bool hw, .bool he, .bool hc] 99 (0, 0))) from hT1)
  clear hT c1 hk1 hK1 hT1 hb
  have B0 := (show Hid (W1.cell? ⟨b, 0, none⟩ = some (.string C)) from b0)
  clear b0
  go_enter Tryz.func41, Tryz.ntmps41
  go_wp2_with (first | (go_at_call 64; fail))
  refine (C1.out _).mono ?_
  rintro e w1 ⟨rfl, rfl⟩
  rw [← hW1]
  clear hW1 C1
  have b0 := B0.out
  have k0 := cell_at HKB.out 0 rfl
  have k1 := cell_at HKB.out 1 rfl
  have k2 := cell_at HKB.out 2 rfl
  go_wp2_with (first | (go_at_call 25; fail))
  refine (CO.out W1 HK1.out).mono ?_
  rintro e w2 ⟨rfl, hk2⟩
  clear b0 k0 k1 k2 CO B0
  have hk2' : Kx [] W1 (w2.alloc (Obj.cells #[.bool q0, .bool q1, .bool q2, .bool false, .int .i64 q4, .float .f64 q5, .string q6, .pointer q7, .pointer none, .pointer none] 75)) := hk2.alc _
  replace HKB : Hid ((w2.alloc (Obj.cells #[.bool q0, .bool q1, .bool q2, .bool false, .int .i64 q4, .float .f64 q5, .string q6, .pointer q7, .pointer none, .pointer none] 75)).heap[w.heap.size]? = some (Obj.cells #[.string nm, .int .u32 pl, .bool false] 67 (0, 0))) := hk2'.get HKB.out (by simp)
  replace HTB : Hid ((w2.alloc (Obj.cells #[.bool q0, .bool q1, .bool q2, .bool false, .int .i64 q4, .float .f64 q5, .string q6, .pointer q7, .pointer none, .pointer none] 75)).heap[w.heap.size + 1]? = some (Obj.cells #[.bool t0, .bool t1, .bool t2, .bool false, .int .i64 t4, .float .f64 t5, .string t6, .pointer t7, .pointer none, .pointer none, .bool hv, .bool false, .bool false, .bool hw, .bool he, .bool hc] 99 (0, 0))) := hk2'.get HTB.out (by simp)
  have HPB : Hid ((w2.alloc (Obj.cells #[.bool q0, .bool q1, .bool q2, .bool false, .int .i64 q4, .float .f64 q5, .string q6, .pointer q7, .pointer none, .pointer none] 75)).heap[w2.heap.size]? = some (Obj.cells #[.bool q0, .bool q1, .bool q2, .bool false, .int .i64 q4, .float .f64 q5, .string q6, .pointer q7, .pointer none, .pointer none] 75 (0, 0))) := heap_alloc_new _ _
  replace HK1 : Hid (Kx [] w (w2.alloc (Obj.cells #[.bool q0, .bool q1, .bool q2, .bool false, .int .i64 q4, .float .f64 q5, .string q6, .pointer q7, .pointer none, .pointer none] 75))) := (show Kx [] w _ from HK1.out.same hk2')
  obtain ⟨B2, hB2⟩ : ∃ B2, B2 = w2.heap.size := ⟨_, rfl⟩
  clear hk2 hk2'
  have k0 := cell_at HKB.out 0 rfl
  have k1 := cell_at HKB.out 1 rfl
  have k2 := cell_at HKB.out 2 rfl
  go_wp2_with (first | (go_at_call 68; fail))
  refine (CR.out _ HK1.out).mono ?_
  rintro e w3 ⟨rfl, hk3⟩
  clear k0 k1 k2
  replace HKB : Hid (w3.heap[w.heap.size]? = some (Obj.cells #[.string nm, .int .u32 pl, .bool false] 67 (0, 0))) := hk3.get HKB.out (by simp)
  replace HTB : Hid (w3.heap[w.heap.size + 1]? = some (Obj.cells #[.bool t0, .bool t1, .bool t2, .bool false, .int .i64 t4, .float .f64 t5, .string t6, .pointer t7, .pointer none, .pointer none, .bool hv, .bool false, .bool false, .bool hw, .bool he, .bool hc] 99 (0, 0))) := hk3.get HTB.out (by simp)
  replace HPB : Hid (w3.heap[w2.heap.size]? = some (Obj.cells #[.bool q0, .bool q1, .bool q2, .bool false, .int .i64 q4, .float .f64 q5, .string q6, .pointer q7, .pointer none, .pointer none] 75 (0, 0))) := hk3.get HPB.out (by simp)
  rw [← hB2] at HPB
  replace HK1 : Hid (Kx [] w w3) := (show Kx [] w w3 from HK1.out.same hk3)
  clear hk3 CR
  have k0 := cell_at HKB.out 0 rfl
  have k1 := cell_at HKB.out 1 rfl
  have k2 := cell_at HKB.out 2 rfl
  rw [← hB2]
  clear hB2
  go_upto_region 8 with fail
  go_quiet (fail)
  obtain ⟨w6, hw6⟩ : ∃ w6, w6 = w3.drewN nq := ⟨_, rfl⟩
  rw [← hw6]
  replace HKB : Hid (w6.heap[w.heap.size]? = some (Obj.cells #[.string nm, .int .u32 pl, .bool false] 67 (0, 0))) := by rw [hw6]; exact HKB.out
  replace HTB : Hid (w6.heap[w.heap.size + 1]? = some (Obj.cells #[.bool t0, .bool t1, .bool t2, .bool false, .int .i64 t4, .float .f64 t5, .string t6, .pointer t7, .pointer none, .pointer none, .bool hv, .bool false, .bool false, .bool hw, .bool he, .bool hc] 99 (0, 0))) := by rw [hw6]; exact HTB.out
  replace HPB : Hid (w6.heap[B2]? = some (Obj.cells #[.bool q0, .bool q1, .bool q2, .bool false, .int .i64 q4, .float .f64 q5, .string q6, .pointer q7, .pointer none, .pointer none] 75 (0, 0))) := by rw [hw6]; exact HPB.out
  replace HK1 : Hid (Kx [] w w6) := by rw [hw6]; exact HK1.out.drw _
  clear hw6 k0 k1 k2
  have k0 := cell_at HKB.out 0 rfl
  have k1 := cell_at HKB.out 1 rfl
  have k2 := cell_at HKB.out 2 rfl
  have ct0 := cell_at HTB.out 0 rfl
  have ct1 := cell_at HTB.out 1 rfl
  have ct2 := cell_at HTB.out 2 rfl
  have ct3 := cell_at HTB.out 3 rfl
  have ct4 := cell_at HTB.out 4 rfl
  have ct5 := cell_at HTB.out 5 rfl
  have ct6 := cell_at HTB.out 6 rfl
  have ct7 := cell_at HTB.out 7 rfl
  have ct8 := cell_at HTB.out 8 rfl
  have ct9 := cell_at HTB.out 9 rfl
  have ct10 := cell_at HTB.out 10 rfl
  have ct11 := cell_at HTB.out 11 rfl
  have ct12 := cell_at HTB.out 12 rfl
  have ct13 := cell_at HTB.out 13 rfl
  have ct14 := cell_at HTB.out 14 rfl
  have ct15 := cell_at HTB.out 15 rfl
  have cz0 := cell_at HPB.out 0 rfl
  have cz1 := cell_at HPB.out 1 rfl
  have cz2 := cell_at HPB.out 2 rfl
  have cz3 := cell_at HPB.out 3 rfl
  have cz4 := cell_at HPB.out 4 rfl
  have cz5 := cell_at HPB.out 5 rfl
  have cz6 := cell_at HPB.out 6 rfl
  have cz7 := cell_at HPB.out 7 rfl
  have cz8 := cell_at HPB.out 8 rfl
  have cz9 := cell_at HPB.out 9 rfl
  go_wp2_with (first | (go_at_call 69; fail) | (go_at_call 59; fail))
  go_region_law (first | (go_simp; go_at_call 69; refine (CW.out _ (by first | exact HK1.out | exact HK1.out.drw1 | exact HK1.out.drw _)).mono ?_; rintro e w4 ⟨rfl, hk4⟩; have HKC : Hid (w4.heap[w.heap.size]? = some (Obj.cells #[.string nm, .int .u32 pl, .bool false] 67 (0, 0))) := hk4.get HKB.out (by simp); have y0 := cell_at HKC.out 0 rfl; have y1 := cell_at HKC.out 1 rfl; have y2 := cell_at HKC.out 2 rfl; have HK4 : Hid (Kx [] w w4) := (show Kx [] w w4 from (HK1.out.drw1).same hk4)) | (go_simp; go_at_call 59; refine (CS.out _ HK4.out).mono ?_; rintro e w5 ⟨⟨u, rfl⟩, hk5, hR5⟩))
  all_goals have HR5 : Hid (R w5) := hR5
  all_goals have HKD : Hid (w5.heap[w.heap.size]? = some (Obj.cells #[.string nm, .int .u32 pl, .bool false] 67 (0, 0))) := hk5.get HKC.out (fun hm => by have := HT.out _ hm; omega)
  all_goals have c70 := CL.out w5 HR5.out
  all_goals clear hR5 hk4 hk5 CS CW HK1 HK4 HKB HTB HPB HKC y0 y1 y2 k0 k1 k2 ct0 ct1 ct2 ct3 ct4 ct5 ct6 ct7 ct8 ct9 ct10 ct11 ct12 ct13 ct14 ct15 cz0 cz1 cz2 cz3 cz4 cz5 cz6 cz7 cz8 cz9 HT CL hC
  all_goals have k2 := cell_at HKD.out 2 rfl
  all_goals
    go_wp2_with (first | (go_at_call 70; refine c70.mono ?_; rintro e w7 ⟨⟨g, rfl⟩, rfl⟩))
    go_ret
    exact ⟨rfl, _, 0, HR5.out, rfl⟩
end Go.Proofs.YtmicdbplkfdfnaaGreatDoor
