/- Object.Define, where nothing is set. -/
import Derived.Test.YtmicdbplkfdfnaaGreatDoorCHo3x
import Derived.Test.YtmicdbplkfdfnaaGreatDoorCTj1x
import Derived.BigQuiet
import Derived.Deep.DeepCutAuto
import Derived.Deep.CutBlock
set_option linter.unusedVariables false
namespace Go.Proofs.YtmicdbplkfdfnaaGreatDoor
open Go.RowKit Go.Shelf Go.Maps
attribute [local go_sem] run_store_flt

set_option maxRecDepth 100000 in
set_option maxHeartbeats 4000000 in
theorem define_both (b : Nat) (C nm : ByteArray) (pl : Int) (isP t0 t1 t2 hv hg hs hw he hc : Bool) (t4 : Int) (t5 : Nat) (t6 : ByteArray) (t7 t8 t9 : Option Addr) (w : World) (hF : (hg || hs) = true) (hV : (hv || hw) = true) :
    Calls Tryz.prog 41 #[.pointer (some ⟨b, 0, none⟩), .agg #[.string nm, .int .u32 pl, .bool isP], .agg #[.bool t0, .bool t1, .bool t2, .bool false, .int .i64 t4, .float .f64 t5, .string t6, .pointer t7, .pointer t8, .pointer t9, .bool hv, .bool hg, .bool hs, .bool hw, .bool he, .bool hc]] w fun e w' => e = .returned (.iface 26 (.int .i64 6)) ∧ Kx [] w w' := by
  have c1 := fun W => tellsF_any (.bool t0) (.bool t1) (.bool t2) (.bool false) (.int .i64 t4) (.float .f64 t5) (.string t6) (.pointer t7) (.pointer t8) (.pointer t9) hv hg hs hw he hc W
  have c2 := fun W => tellsV_any (.bool t0) (.bool t1) (.bool t2) (.bool false) (.int .i64 t4) (.float .f64 t5) (.string t6) (.pointer t7) (.pointer t8) (.pointer t9) hv hg hs hw he hc W
  rw [hF] at c1
  rw [hV] at c2
  clear hF hV
  go_enter Tryz.func41, Tryz.ntmps41
  go_wp2_with (first | (go_at_call 64; refine (c1 _).mono ?_; rintro e w1 ⟨rfl, rfl⟩) | (go_at_call 65; refine (c2 _).mono ?_; rintro e w1 ⟨rfl, rfl⟩))
  go_ret
  exact ⟨rfl, (((Kx.alloc _ _ _).alc _).alc _).alc _⟩
set_option maxRecDepth 100000 in
set_option maxHeartbeats 4000000 in
theorem define_ref (b : Nat) (C nm : ByteArray) (pl : Int) (isP t0 t1 t2 hv hg hs hw he hc : Bool) (t4 : Int) (t5 : Nat) (t6 : ByteArray) (t7 t8 t9 : Option Addr) (q0 q1 q2 : Bool) (q4 : Int) (q5 : Nat) (q6 : ByteArray) (q7 : Option Addr) (w : World) (hFV : ((hg || hs) && (hv || hw)) = false)
    (hb : w.cell? ⟨b, 0, none⟩ = some (.string C)) (hC : (C.toList == [65, 114, 114, 97, 121]) = false)
    (cO : ∀ W, Kx [] w W → Calls Tryz.prog 25 #[.pointer (some ⟨b, 0, none⟩), .agg #[.string nm, .int .u32 pl, .bool isP]] W fun e w' => e = .returned (.tuple #[.agg #[.bool q0, .bool q1, .bool q2, .bool false, .int .i64 q4, .float .f64 q5, .string q6, .pointer q7, .pointer none, .pointer none], .bool true]) ∧ Kx [] W w')
    (cR : ∀ W, Kx [] w W → Calls Tryz.prog 67 #[.agg #[.bool q0, .bool q1, .bool q2, .bool false, .int .i64 q4, .float .f64 q5, .string q6, .pointer q7, .pointer none, .pointer none], .agg #[.bool t0, .bool t1, .bool t2, .bool false, .int .i64 t4, .float .f64 t5, .string t6, .pointer t7, .pointer t8, .pointer t9, .bool hv, .bool hg, .bool hs, .bool hw, .bool he, .bool hc]] W fun e w' => e = .returned (.bool true) ∧ Kx [] W w') :
    Calls Tryz.prog 41 #[.pointer (some ⟨b, 0, none⟩), .agg #[.string nm, .int .u32 pl, .bool isP], .agg #[.bool t0, .bool t1, .bool t2, .bool false, .int .i64 t4, .float .f64 t5, .string t6, .pointer t7, .pointer t8, .pointer t9, .bool hv, .bool hg, .bool hs, .bool hw, .bool he, .bool hc]] w fun e w' => e = .returned (.iface 26 (.int .i64 6)) ∧ Kx [] w w' := by
  have c1 := fun W => tellsF_any (.bool t0) (.bool t1) (.bool t2) (.bool false) (.int .i64 t4) (.float .f64 t5) (.string t6) (.pointer t7) (.pointer t8) (.pointer t9) hv hg hs hw he hc W
  have c2 := fun W => tellsV_any (.bool t0) (.bool t1) (.bool t2) (.bool false) (.int .i64 t4) (.float .f64 t5) (.string t6) (.pointer t7) (.pointer t8) (.pointer t9) hv hg hs hw he hc W
  obtain ⟨W1, hW1⟩ : ∃ W1, W1 = (w.alloc (Obj.cells #[.string nm, .int .u32 pl, .bool isP] 67)).alloc (Obj.cells #[.bool t0, .bool t1, .bool t2, .bool false, .int .i64 t4, .float .f64 t5, .string t6, .pointer t7, .pointer t8, .pointer t9, .bool hv, .bool hg, .bool hs, .bool hw, .bool he, .bool hc] 99) := ⟨_, rfl⟩
  have hk1 : Kx [] w W1 := by rw [hW1]; exact (show Kx [] w _ from (Kx.alloc _ _ _).alc _)
  have hK1 : W1.heap[w.heap.size]? = some (Obj.cells #[.string nm, .int .u32 pl, .bool isP] 67 (0, 0)) := by rw [hW1]; exact heap_old (heap_alloc_new _ _) _
  have hT1 : W1.heap[w.heap.size + 1]? = some (Obj.cells #[.bool t0, .bool t1, .bool t2, .bool false, .int .i64 t4, .float .f64 t5, .string t6, .pointer t7, .pointer t8, .pointer t9, .bool hv, .bool hg, .bool hs, .bool hw, .bool he, .bool hc] 99 (0, 0)) := by rw [hW1]; exact heap_alloc2_new _ _ _
  have b0 : W1.cell? ⟨b, 0, none⟩ = some (.string C) := hk1.cell hb (by simp)
  have CO := (show Hid (∀ W, Kx [] w W → Calls Tryz.prog 25 #[.pointer (some ⟨b, 0, none⟩), .agg #[.string nm, .int .u32 pl, .bool isP]] W fun e w' => e = .returned (.tuple #[.agg #[.bool q0, .bool q1, .bool q2, .bool false, .int .i64 q4, .float .f64 q5, .string q6, .pointer q7, .pointer none, .pointer none], .bool true]) ∧ Kx [] W w') from cO)
  clear cO
  have CR := (show Hid (∀ W, Kx [] w W → Calls Tryz.prog 67 #[.agg #[.bool q0, .bool q1, .bool q2, .bool false, .int .i64 q4, .float .f64 q5, .string q6, .pointer q7, .pointer none, .pointer none], .agg #[.bool t0, .bool t1, .bool t2, .bool false, .int .i64 t4, .float .f64 t5, .string t6, .pointer t7, .pointer t8, .pointer t9, .bool hv, .bool hg, .bool hs, .bool hw, .bool he, .bool hc]] W fun e w' => e = .returned (.bool true) ∧ Kx [] W w') from cR)
  clear cR
  have HK1 := (show Hid (Kx [] w W1) from hk1)
  have HKB := (show Hid (W1.heap[w.heap.size]? = some (Obj.cells #[.string nm, .int .u32 pl, .bool isP] 67 (0, 0))) from hK1)
  have HTB := (show Hid (W1.heap[w.heap.size + 1]? = some (Obj.cells #[.bool t0, .bool t1, .bool t2, .bool false, .int .i64 t4, .float .f64 t5, .string t6, .pointer t7, .pointer t8, .pointer t9, .bool hv, .bool hg, .bool hs, .bool hw, .bool he, .bool hc] 99 (0, 0))) from hT1)
  clear hk1 hK1 hT1 hb
  have B0 := (show Hid (W1.cell? ⟨b, 0, none⟩ = some (.string C)) from b0)
  clear b0
  obtain ⟨F, hF⟩ : ∃ F, F = (hg || hs) := ⟨_, rfl⟩
  obtain ⟨V, hV⟩ : ∃ V, V = (hv || hw) := ⟨_, rfl⟩
  rw [← hF, ← hV] at hFV
  rw [← hF] at c1
  rw [← hV] at c2
  clear hF hV
  go_enter Tryz.func41, Tryz.ntmps41
  go_upto_region 1 with fail
  rw [← hW1]
  clear hW1
  have ct0 := cell_at HTB.out 0 rfl
  have ct1 := cell_at HTB.out 1 rfl
  have ct2 := cell_at HTB.out 2 rfl
  have ct3 := cell_at HTB.out 3 rfl
  have ct4 := cell_at HTB.out 4 rfl
  have ct5 := cell_at HTB.out 5 rfl
  have ct6 := cell_at HTB.out 6 rfl
  have ct7 := cell_at HTB.out 7 rfl
  have ct8 := cell_at HTB.out 8 rfl
  have ct9 := cell_at HTB.out 9 rfl
  have ct10 := cell_at HTB.out 10 rfl
  have ct11 := cell_at HTB.out 11 rfl
  have ct12 := cell_at HTB.out 12 rfl
  have ct13 := cell_at HTB.out 13 rfl
  have ct14 := cell_at HTB.out 14 rfl
  have ct15 := cell_at HTB.out 15 rfl
  go_cut [15] (fun v wx => v = .bool false ∧ Kx [] W1 wx)
  case first =>
    cases F
    · go_wp2_with (first | (go_at_call 64; refine (c1 _).mono ?_; rintro e w1 ⟨rfl, rfl⟩))
      go_meet
      exact ⟨rfl, Kx.alloc _ _ _⟩
    · cases V
      · have HT2 : Hid ((W1.alloc (Obj.cells #[.bool t0, .bool t1, .bool t2, .bool false, .int .i64 t4, .float .f64 t5, .string t6, .pointer t7, .pointer t8, .pointer t9, .bool hv, .bool hg, .bool hs, .bool hw, .bool he, .bool hc] 99)).heap[w.heap.size + 1]? = some (Obj.cells #[.bool t0, .bool t1, .bool t2, .bool false, .int .i64 t4, .float .f64 t5, .string t6, .pointer t7, .pointer t8, .pointer t9, .bool hv, .bool hg, .bool hs, .bool hw, .bool he, .bool hc] 99 (0, 0))) := heap_old HTB.out _
        have cu0 := cell_at HT2.out 0 rfl
        have cu1 := cell_at HT2.out 1 rfl
        have cu2 := cell_at HT2.out 2 rfl
        have cu3 := cell_at HT2.out 3 rfl
        have cu4 := cell_at HT2.out 4 rfl
        have cu5 := cell_at HT2.out 5 rfl
        have cu6 := cell_at HT2.out 6 rfl
        have cu7 := cell_at HT2.out 7 rfl
        have cu8 := cell_at HT2.out 8 rfl
        have cu9 := cell_at HT2.out 9 rfl
        have cu10 := cell_at HT2.out 10 rfl
        have cu11 := cell_at HT2.out 11 rfl
        have cu12 := cell_at HT2.out 12 rfl
        have cu13 := cell_at HT2.out 13 rfl
        have cu14 := cell_at HT2.out 14 rfl
        have cu15 := cell_at HT2.out 15 rfl
        go_wp2_with (first | (go_at_call 64; refine (c1 _).mono ?_; rintro e w1 ⟨rfl, rfl⟩) | (go_at_call 65; refine (c2 _).mono ?_; rintro e w1 ⟨rfl, rfl⟩))
        go_meet
        exact ⟨rfl, (Kx.alloc _ _ _).alc _⟩
      · simp at hFV
  case rest =>
    obtain ⟨rfl, hkc⟩ := hcut
    clear ct0 ct1 ct2 ct3 ct4 ct5 ct6 ct7 ct8 ct9 ct10 ct11 ct12 ct13 ct14 ct15
    replace HKB : Hid (wc.heap[w.heap.size]? = some (Obj.cells #[.string nm, .int .u32 pl, .bool isP] 67 (0, 0))) := hkc.get HKB.out (by simp)
    replace HTB : Hid (wc.heap[w.heap.size + 1]? = some (Obj.cells #[.bool t0, .bool t1, .bool t2, .bool false, .int .i64 t4, .float .f64 t5, .string t6, .pointer t7, .pointer t8, .pointer t9, .bool hv, .bool hg, .bool hs, .bool hw, .bool he, .bool hc] 99 (0, 0))) := hkc.get HTB.out (by simp)
    have b0 : wc.cell? ⟨b, 0, none⟩ = some (.string C) := hkc.cell B0.out (by simp)
    replace HK1 : Hid (Kx [] w wc) := (show Kx [] w wc from HK1.out.same hkc)
    clear hkc B0 c1 c2 hFV
    have k0 := cell_at HKB.out 0 rfl
    have k1 := cell_at HKB.out 1 rfl
    have k2 := cell_at HKB.out 2 rfl
    go_wp2_with (first | (go_at_call 25; fail))
    refine (CO.out wc HK1.out).mono ?_
    rintro e w2 ⟨rfl, hk2⟩
    clear b0 k0 k1 k2 CO
    have hk2' : Kx [] wc (w2.alloc (Obj.cells #[.bool q0, .bool q1, .bool q2, .bool false, .int .i64 q4, .float .f64 q5, .string q6, .pointer q7, .pointer none, .pointer none] 75)) := hk2.alc _
    replace HKB : Hid ((w2.alloc (Obj.cells #[.bool q0, .bool q1, .bool q2, .bool false, .int .i64 q4, .float .f64 q5, .string q6, .pointer q7, .pointer none, .pointer none] 75)).heap[w.heap.size]? = some (Obj.cells #[.string nm, .int .u32 pl, .bool isP] 67 (0, 0))) := hk2'.get HKB.out (by simp)
    replace HTB : Hid ((w2.alloc (Obj.cells #[.bool q0, .bool q1, .bool q2, .bool false, .int .i64 q4, .float .f64 q5, .string q6, .pointer q7, .pointer none, .pointer none] 75)).heap[w.heap.size + 1]? = some (Obj.cells #[.bool t0, .bool t1, .bool t2, .bool false, .int .i64 t4, .float .f64 t5, .string t6, .pointer t7, .pointer t8, .pointer t9, .bool hv, .bool hg, .bool hs, .bool hw, .bool he, .bool hc] 99 (0, 0))) := hk2'.get HTB.out (by simp)
    replace HK1 : Hid (Kx [] w (w2.alloc (Obj.cells #[.bool q0, .bool q1, .bool q2, .bool false, .int .i64 q4, .float .f64 q5, .string q6, .pointer q7, .pointer none, .pointer none] 75))) := (show Kx [] w _ from HK1.out.same hk2')
    clear hk2 hk2'
    have ct0 := cell_at HTB.out 0 rfl
    have ct1 := cell_at HTB.out 1 rfl
    have ct2 := cell_at HTB.out 2 rfl
    have ct3 := cell_at HTB.out 3 rfl
    have ct4 := cell_at HTB.out 4 rfl
    have ct5 := cell_at HTB.out 5 rfl
    have ct6 := cell_at HTB.out 6 rfl
    have ct7 := cell_at HTB.out 7 rfl
    have ct8 := cell_at HTB.out 8 rfl
    have ct9 := cell_at HTB.out 9 rfl
    have ct10 := cell_at HTB.out 10 rfl
    have ct11 := cell_at HTB.out 11 rfl
    have ct12 := cell_at HTB.out 12 rfl
    have ct13 := cell_at HTB.out 13 rfl
    have ct14 := cell_at HTB.out 14 rfl
    have ct15 := cell_at HTB.out 15 rfl
    go_wp2_with (first | (go_at_call 67; fail))
    refine (CR.out _ HK1.out).mono ?_
    rintro e w3 ⟨rfl, hk3⟩
    go_wp2
    go_ret
    exact ⟨rfl, HK1.out.same hk3⟩
set_option maxRecDepth 100000 in
set_option maxHeartbeats 4000000 in
theorem define_no (b : Nat) (C nm : ByteArray) (pl : Int) (isP t0 t1 t2 hv hg hs hw he hc : Bool) (t4 : Int) (t5 : Nat) (t6 : ByteArray) (t7 t8 t9 : Option Addr) (q0 q1 q2 : Bool) (q4 : Int) (q5 : Nat) (q6 : ByteArray) (q7 : Option Addr) (w : World) (hFV : ((hg || hs) && (hv || hw)) = false)
    (hb : w.cell? ⟨b, 0, none⟩ = some (.string C)) (hC : (C.toList == [65, 114, 114, 97, 121]) = false)
    (cO : ∀ W, Kx [] w W → Calls Tryz.prog 25 #[.pointer (some ⟨b, 0, none⟩), .agg #[.string nm, .int .u32 pl, .bool isP]] W fun e w' => e = .returned (.tuple #[.agg #[.bool q0, .bool q1, .bool q2, .bool false, .int .i64 q4, .float .f64 q5, .string q6, .pointer q7, .pointer none, .pointer none], .bool false]) ∧ Kx [] W w')
    (cR : ∀ W, Kx [] w W → Calls Tryz.prog 68 #[.pointer (some ⟨b, 0, none⟩), .agg #[.string nm, .int .u32 pl, .bool isP]] W fun e w' => e = .returned (.bool false) ∧ Kx [] W w') :
    Calls Tryz.prog 41 #[.pointer (some ⟨b, 0, none⟩), .agg #[.string nm, .int .u32 pl, .bool isP], .agg #[.bool t0, .bool t1, .bool t2, .bool false, .int .i64 t4, .float .f64 t5, .string t6, .pointer t7, .pointer t8, .pointer t9, .bool hv, .bool hg, .bool hs, .bool hw, .bool he, .bool hc]] w fun e w' => e = .returned (.iface 26 (.int .i64 6)) ∧ Kx [] w w' := by
  have c1 := fun W => tellsF_any (.bool t0) (.bool t1) (.bool t2) (.bool false) (.int .i64 t4) (.float .f64 t5) (.string t6) (.pointer t7) (.pointer t8) (.pointer t9) hv hg hs hw he hc W
  have c2 := fun W => tellsV_any (.bool t0) (.bool t1) (.bool t2) (.bool false) (.int .i64 t4) (.float .f64 t5) (.string t6) (.pointer t7) (.pointer t8) (.pointer t9) hv hg hs hw he hc W
  obtain ⟨W1, hW1⟩ : ∃ W1, W1 = (w.alloc (Obj.cells #[.string nm, .int .u32 pl, .bool isP] 67)).alloc (Obj.cells #[.bool t0, .bool t1, .bool t2, .bool false, .int .i64 t4, .float .f64 t5, .string t6, .pointer t7, .pointer t8, .pointer t9, .bool hv, .bool hg, .bool hs, .bool hw, .bool he, .bool hc] 99) := ⟨_, rfl⟩
  have hk1 : Kx [] w W1 := by rw [hW1]; exact (show Kx [] w _ from (Kx.alloc _ _ _).alc _)
  have hK1 : W1.heap[w.heap.size]? = some (Obj.cells #[.string nm, .int .u32 pl, .bool isP] 67 (0, 0)) := by rw [hW1]; exact heap_old (heap_alloc_new _ _) _
  have hT1 : W1.heap[w.heap.size + 1]? = some (Obj.cells #[.bool t0, .bool t1, .bool t2, .bool false, .int .i64 t4, .float .f64 t5, .string t6, .pointer t7, .pointer t8, .pointer t9, .bool hv, .bool hg, .bool hs, .bool hw, .bool he, .bool hc] 99 (0, 0)) := by rw [hW1]; exact heap_alloc2_new _ _ _
  have b0 : W1.cell? ⟨b, 0, none⟩ = some (.string C) := hk1.cell hb (by simp)
  have CO := (show Hid (∀ W, Kx [] w W → Calls Tryz.prog 25 #[.pointer (some ⟨b, 0, none⟩), .agg #[.string nm, .int .u32 pl, .bool isP]] W fun e w' => e = .returned (.tuple #[.agg #[.bool q0, .bool q1, .bool q2, .bool false, .int .i64 q4, .float .f64 q5, .string q6, .pointer q7, .pointer none, .pointer none], .bool false]) ∧ Kx [] W w') from cO)
  clear cO
  have CR := (show Hid (∀ W, Kx [] w W → Calls Tryz.prog 68 #[.pointer (some ⟨b, 0, none⟩), .agg #[.string nm, .int .u32 pl, .bool isP]] W fun e w' => e = .returned (.bool false) ∧ Kx [] W w') from cR)
  clear cR
  have HK1 := (show Hid (Kx [] w W1) from hk1)
  have HKB := (show Hid (W1.heap[w.heap.size]? = some (Obj.cells #[.string nm, .int .u32 pl, .bool isP] 67 (0, 0))) from hK1)
  have HTB := (show Hid (W1.heap[w.heap.size + 1]? = some (Obj.cells #[.bool t0, .bool t1, .bool t2, .bool false, .int .i64 t4, .float .f64 t5, .string t6, .pointer t7, .pointer t8, .pointer t9, .bool hv, .bool hg, .bool hs, .bool hw, .bool he, .bool hc] 99 (0, 0))) from hT1)
  clear hk1 hK1 hT1 hb
  have B0 := (show Hid (W1.cell? ⟨b, 0, none⟩ = some (.string C)) from b0)
  clear b0
  obtain ⟨F, hF⟩ : ∃ F, F = (hg || hs) := ⟨_, rfl⟩
  obtain ⟨V, hV⟩ : ∃ V, V = (hv || hw) := ⟨_, rfl⟩
  rw [← hF, ← hV] at hFV
  rw [← hF] at c1
  rw [← hV] at c2
  clear hF hV
  go_enter Tryz.func41, Tryz.ntmps41
  go_upto_region 1 with fail
  rw [← hW1]
  clear hW1
  have ct0 := cell_at HTB.out 0 rfl
  have ct1 := cell_at HTB.out 1 rfl
  have ct2 := cell_at HTB.out 2 rfl
  have ct3 := cell_at HTB.out 3 rfl
  have ct4 := cell_at HTB.out 4 rfl
  have ct5 := cell_at HTB.out 5 rfl
  have ct6 := cell_at HTB.out 6 rfl
  have ct7 := cell_at HTB.out 7 rfl
  have ct8 := cell_at HTB.out 8 rfl
  have ct9 := cell_at HTB.out 9 rfl
  have ct10 := cell_at HTB.out 10 rfl
  have ct11 := cell_at HTB.out 11 rfl
  have ct12 := cell_at HTB.out 12 rfl
  have ct13 := cell_at HTB.out 13 rfl
  have ct14 := cell_at HTB.out 14 rfl
  have ct15 := cell_at HTB.out 15 rfl
  go_cut [15] (fun v wx => v = .bool false ∧ Kx [] W1 wx)
  case first =>
    cases F
    · go_wp2_with (first | (go_at_call 64; refine (c1 _).mono ?_; rintro e w1 ⟨rfl, rfl⟩))
      go_meet
      exact ⟨rfl, Kx.alloc _ _ _⟩
    · cases V
      · have HT2 : Hid ((W1.alloc (Obj.cells #[.bool t0, .bool t1, .bool t2, .bool false, .int .i64 t4, .float .f64 t5, .string t6, .pointer t7, .pointer t8, .pointer t9, .bool hv, .bool hg, .bool hs, .bool hw, .bool he, .bool hc] 99)).heap[w.heap.size + 1]? = some (Obj.cells #[.bool t0, .bool t1, .bool t2, .bool false, .int .i64 t4, .float .f64 t5, .string t6, .pointer t7, .pointer t8, .pointer t9, .bool hv, .bool hg, .bool hs, .bool hw, .bool he, .bool hc] 99 (0, 0))) := heap_old HTB.out _
        have cu0 := cell_at HT2.out 0 rfl
        have cu1 := cell_at HT2.out 1 rfl
        have cu2 := cell_at HT2.out 2 rfl
        have cu3 := cell_at HT2.out 3 rfl
        have cu4 := cell_at HT2.out 4 rfl
        have cu5 := cell_at HT2.out 5 rfl
        have cu6 := cell_at HT2.out 6 rfl
        have cu7 := cell_at HT2.out 7 rfl
        have cu8 := cell_at HT2.out 8 rfl
        have cu9 := cell_at HT2.out 9 rfl
        have cu10 := cell_at HT2.out 10 rfl
        have cu11 := cell_at HT2.out 11 rfl
        have cu12 := cell_at HT2.out 12 rfl
        have cu13 := cell_at HT2.out 13 rfl
        have cu14 := cell_at HT2.out 14 rfl
        have cu15 := cell_at HT2.out 15 rfl
        go_wp2_with (first | (go_at_call 64; refine (c1 _).mono ?_; rintro e w1 ⟨rfl, rfl⟩) | (go_at_call 65; refine (c2 _).mono ?_; rintro e w1 ⟨rfl, rfl⟩))
        go_meet
        exact ⟨rfl, (Kx.alloc _ _ _).alc _⟩
      · simp at hFV
  case rest =>
    obtain ⟨rfl, hkc⟩ := hcut
    clear ct0 ct1 ct2 ct3 ct4 ct5 ct6 ct7 ct8 ct9 ct10 ct11 ct12 ct13 ct14 ct15
    replace HKB : Hid (wc.heap[w.heap.size]? = some (Obj.cells #[.string nm, .int .u32 pl, .bool isP] 67 (0, 0))) := hkc.get HKB.out (by simp)
    replace HTB : Hid (wc.heap[w.heap.size + 1]? = some (Obj.cells #[.bool t0, .bool t1, .bool t2, .bool false, .int .i64 t4, .float .f64 t5, .string t6, .pointer t7, .pointer t8, .pointer t9, .bool hv, .bool hg, .bool hs, .bool hw, .bool he, .bool hc] 99 (0, 0))) := hkc.get HTB.out (by simp)
    have b0 : wc.cell? ⟨b, 0, none⟩ = some (.string C) := hkc.cell B0.out (by simp)
    replace HK1 : Hid (Kx [] w wc) := (show Kx [] w wc from HK1.out.same hkc)
    clear hkc B0 c1 c2 hFV
    have k0 := cell_at HKB.out 0 rfl
    have k1 := cell_at HKB.out 1 rfl
    have k2 := cell_at HKB.out 2 rfl
    go_wp2_with (first | (go_at_call 25; fail))
    refine (CO.out wc HK1.out).mono ?_
    rintro e w2 ⟨rfl, hk2⟩
    clear b0 k0 k1 k2 CO
    have hk2' : Kx [] wc (w2.alloc (Obj.cells #[.bool q0, .bool q1, .bool q2, .bool false, .int .i64 q4, .float .f64 q5, .string q6, .pointer q7, .pointer none, .pointer none] 75)) := hk2.alc _
    replace HKB : Hid ((w2.alloc (Obj.cells #[.bool q0, .bool q1, .bool q2, .bool false, .int .i64 q4, .float .f64 q5, .string q6, .pointer q7, .pointer none, .pointer none] 75)).heap[w.heap.size]? = some (Obj.cells #[.string nm, .int .u32 pl, .bool isP] 67 (0, 0))) := hk2'.get HKB.out (by simp)
    replace HTB : Hid ((w2.alloc (Obj.cells #[.bool q0, .bool q1, .bool q2, .bool false, .int .i64 q4, .float .f64 q5, .string q6, .pointer q7, .pointer none, .pointer none] 75)).heap[w.heap.size + 1]? = some (Obj.cells #[.bool t0, .bool t1, .bool t2, .bool false, .int .i64 t4, .float .f64 t5, .string t6, .pointer t7, .pointer t8, .pointer t9, .bool hv, .bool hg, .bool hs, .bool hw, .bool he, .bool hc] 99 (0, 0))) := hk2'.get HTB.out (by simp)
    replace HK1 : Hid (Kx [] w (w2.alloc (Obj.cells #[.bool q0, .bool q1, .bool q2, .bool false, .int .i64 q4, .float .f64 q5, .string q6, .pointer q7, .pointer none, .pointer none] 75))) := (show Kx [] w _ from HK1.out.same hk2')
    clear hk2 hk2'
    have k0 := cell_at HKB.out 0 rfl
    have k1 := cell_at HKB.out 1 rfl
    have k2 := cell_at HKB.out 2 rfl
    go_wp2_with (first | (go_at_call 68; fail))
    refine (CR.out _ HK1.out).mono ?_
    rintro e w3 ⟨rfl, hk3⟩
    go_wp2
    go_ret
    exact ⟨rfl, HK1.out.same hk3⟩
end Go.Proofs.YtmicdbplkfdfnaaGreatDoor
