/- Object.defineLength. -/
import Derived.Test.YtmicdbplkfdfnaaGreatDoorCTc1
import Derived.Test.YtmicdbplkfdfnaaGreatDoorCHo3x
set_option linter.unusedVariables false
namespace Go.Proofs.YtmicdbplkfdfnaaGreatDoor
open Go.RowKit Go.Shelf Go.Maps
attribute [local go_sem] run_store_flt

/-- An error, or none. -/
def ErrV (v : Value) : Prop := v = .nilIface ∨ v = .iface 26 (.int .i64 5) ∨ v = .iface 26 (.int .i64 6)
set_option maxRecDepth 100000 in
set_option maxHeartbeats 4000000 in
theorem len_set (b g n cap : Nat) (t0 t1 t2 hg hs hw he hc : Bool) (t4 : Int) (x y z : Nat) (t6 : ByteArray) (t7 t8 t9 : Option Addr) (q0 q1 q2 p0 p1 p2 : Bool) (T : List Nat) (R : World → Prop) (w : World)
    (h6 : w.cell? ⟨b, 6, none⟩ = some (.slice (some ⟨g, 0, none⟩) n cap)) (hn : 0 < n) (hn2 : n ≤ 1000) (hT : ∀ i ∈ T, i < w.heap.size)
    (e0 : w.cell? ⟨g, 0, none⟩ = some (.bool q0)) (e1 : w.cell? ⟨g, 1, none⟩ = some (.bool q1)) (e2 : w.cell? ⟨g, 2, none⟩ = some (.bool q2)) (e3 : w.cell? ⟨g, 3, none⟩ = some (.bool false)) (e4 : w.cell? ⟨g, 4, none⟩ = some (.int .i64 3)) (e5 : w.cell? ⟨g, 5, none⟩ = some (.float .f64 y)) (e6 : w.cell? ⟨g, 6, none⟩ = some (.string ⟨#[]⟩)) (e7 : w.cell? ⟨g, 7, none⟩ = some (.pointer none)) (e8 : w.cell? ⟨g, 8, none⟩ = some (.pointer none)) (e9 : w.cell? ⟨g, 9, none⟩ = some (.pointer none))
    (hz : ∀ W, (binOp .add 30 (.float .f64 x) (.float .f64 0)).run Tryz.prog W = .ok (.float .f64 z) W)
    (cR : ∀ W, Kx [] w W → Calls Tryz.prog 67 #[.agg #[.bool q0, .bool q1, .bool q2, .bool false, .int .i64 3, .float .f64 y, .string ⟨#[]⟩, .pointer none, .pointer none, .pointer none], .agg #[.bool t0, .bool t1, .bool t2, .bool false, .int .i64 t4, .float .f64 z, .string t6, .pointer t7, .pointer t8, .pointer t9, .bool false, .bool hg, .bool hs, .bool hw, .bool he, .bool hc]] W fun e w' => e = .returned (.bool false) ∧ Kx [] W w')
    (cW : ∀ W, Kx [] w W → Calls Tryz.prog 69 #[.agg #[.bool q0, .bool q1, .bool q2, .bool false, .int .i64 3, .float .f64 y, .string ⟨#[]⟩, .pointer none, .pointer none, .pointer none], .agg #[.bool t0, .bool t1, .bool t2, .bool false, .int .i64 t4, .float .f64 z, .string t6, .pointer t7, .pointer t8, .pointer t9, .bool false, .bool hg, .bool hs, .bool hw, .bool he, .bool hc]] W fun e w' => e = .returned (.agg #[.bool p0, .bool p1, .bool p2, .bool false, .int .i64 3, .float .f64 y, .string ⟨#[]⟩, .pointer none, .pointer none, .pointer none]) ∧ Kx [] W w')
    (cS : ∀ W, Kx [] w W → Calls Tryz.prog 59 #[.pointer (some ⟨b, 0, none⟩), .agg #[.string ⟨#[108, 101, 110, 103, 116, 104]⟩, .int .u32 0, .bool false], .agg #[.bool p0, .bool p1, .bool p2, .bool false, .int .i64 3, .float .f64 y, .string ⟨#[]⟩, .pointer none, .pointer none, .pointer none]] W fun e w' => (∃ u, e = .returned u) ∧ Kx T W w' ∧ R w')
    (hyy : (FloatKind.f64.format.order y y == some .lt) = false) :
    Calls Tryz.prog 66 #[.pointer (some ⟨b, 0, none⟩), .agg #[.bool t0, .bool t1, .bool t2, .bool false, .int .i64 t4, .float .f64 x, .string t6, .pointer t7, .pointer t8, .pointer t9, .bool false, .bool hg, .bool hs, .bool hw, .bool he, .bool hc]] w fun e w' => e = .returned .nilIface ∧ R w' := by
  obtain ⟨W1, hW1⟩ : ∃ W1, W1 = w.alloc (Obj.cells #[.bool t0, .bool t1, .bool t2, .bool false, .int .i64 t4, .float .f64 x, .string t6, .pointer t7, .pointer t8, .pointer t9, .bool false, .bool hg, .bool hs, .bool hw, .bool he, .bool hc] 99) := ⟨_, rfl⟩
  have hk1 : Kx [] w W1 := by rw [hW1]; exact Kx.alloc _ _ _
  have hT1 : W1.heap[w.heap.size]? = some (Obj.cells #[.bool t0, .bool t1, .bool t2, .bool false, .int .i64 t4, .float .f64 x, .string t6, .pointer t7, .pointer t8, .pointer t9, .bool false, .bool hg, .bool hs, .bool hw, .bool he, .bool hc] 99 (0, 0)) := by rw [hW1]; exact heap_alloc_new _ _
  have HZ := (show Hid (∀ W, (binOp .add 30 (.float .f64 x) (.float .f64 0)).run Tryz.prog W = .ok (.float .f64 z) W) from hz)
  clear hz
  have CR := (show Hid (∀ W, Kx [] w W → Calls Tryz.prog 67 #[.agg #[.bool q0, .bool q1, .bool q2, .bool false, .int .i64 3, .float .f64 y, .string ⟨#[]⟩, .pointer none, .pointer none, .pointer none], .agg #[.bool t0, .bool t1, .bool t2, .bool false, .int .i64 t4, .float .f64 z, .string t6, .pointer t7, .pointer t8, .pointer t9, .bool false, .bool hg, .bool hs, .bool hw, .bool he, .bool hc]] W fun e w' => e = .returned (.bool false) ∧ Kx [] W w') from cR)
  clear cR
  have CW := (show Hid (∀ W, Kx [] w W → Calls Tryz.prog 69 #[.agg #[.bool q0, .bool q1, .bool q2, .bool false, .int .i64 3, .float .f64 y, .string ⟨#[]⟩, .pointer none, .pointer none, .pointer none], .agg #[.bool t0, .bool t1, .bool t2, .bool false, .int .i64 t4, .float .f64 z, .string t6, .pointer t7, .pointer t8, .pointer t9, .bool false, .bool hg, .bool hs, .bool hw, .bool he, .bool hc]] W fun e w' => e = .returned (.agg #[.bool p0, .bool p1, .bool p2, .bool false, .int .i64 3, .float .f64 y, .string ⟨#[]⟩, .pointer none, .pointer none, .pointer none]) ∧ Kx [] W w') from cW)
  clear cW
  have CS := (show Hid (∀ W, Kx [] w W → Calls Tryz.prog 59 #[.pointer (some ⟨b, 0, none⟩), .agg #[.string ⟨#[108, 101, 110, 103, 116, 104]⟩, .int .u32 0, .bool false], .agg #[.bool p0, .bool p1, .bool p2, .bool false, .int .i64 3, .float .f64 y, .string ⟨#[]⟩, .pointer none, .pointer none, .pointer none]] W fun e w' => (∃ u, e = .returned u) ∧ Kx T W w' ∧ R w') from cS)
  clear cS
  have HT := (show Hid (∀ i ∈ T, i < w.heap.size) from hT)
  have HK1 := (show Hid (Kx [] w W1) from hk1)
  have HTB := (show Hid (W1.heap[w.heap.size]? = some (Obj.cells #[.bool t0, .bool t1, .bool t2, .bool false, .int .i64 t4, .float .f64 x, .string t6, .pointer t7, .pointer t8, .pointer t9, .bool false, .bool hg, .bool hs, .bool hw, .bool he, .bool hc] 99 (0, 0))) from hT1)
  have E := (show Hid (w.cell? ⟨b, 6, none⟩ = some (.slice (some ⟨g, 0, none⟩) n cap) ∧ w.cell? ⟨g, 0, none⟩ = some (.bool q0) ∧ w.cell? ⟨g, 1, none⟩ = some (.bool q1) ∧ w.cell? ⟨g, 2, none⟩ = some (.bool q2) ∧ w.cell? ⟨g, 3, none⟩ = some (.bool false) ∧ w.cell? ⟨g, 4, none⟩ = some (.int .i64 3) ∧ w.cell? ⟨g, 5, none⟩ = some (.float .f64 y) ∧ w.cell? ⟨g, 6, none⟩ = some (.string ⟨#[]⟩) ∧ w.cell? ⟨g, 7, none⟩ = some (.pointer none) ∧ w.cell? ⟨g, 8, none⟩ = some (.pointer none) ∧ w.cell? ⟨g, 9, none⟩ = some (.pointer none)) from ⟨h6, e0, e1, e2, e3, e4, e5, e6, e7, e8, e9⟩)
  clear hT hk1 hT1 h6 e0 e1 e2 e3 e4 e5 e6 e7 e8 e9
  have ct0 := cell_at HTB.out 0 rfl
  have ct1 := cell_at HTB.out 1 rfl
  have ct2 := cell_at HTB.out 2 rfl
  have ct3 := cell_at HTB.out 3 rfl
  have ct4 := cell_at HTB.out 4 rfl
  have ct5 := cell_at HTB.out 5 rfl
  have ct6 := cell_at HTB.out 6 rfl
  have ct7 := cell_at HTB.out 7 rfl
  have ct8 := cell_at HTB.out 8 rfl
  have ct9 := cell_at HTB.out 9 rfl
  have ct10 := cell_at HTB.out 10 rfl
  have ct11 := cell_at HTB.out 11 rfl
  have ct12 := cell_at HTB.out 12 rfl
  have ct13 := cell_at HTB.out 13 rfl
  have ct14 := cell_at HTB.out 14 rfl
  have ct15 := cell_at HTB.out 15 rfl
  go_enter Tryz.func66, Tryz.ntmps66
  go_upto_region 3 with fail
  rw [← hW1]
  clear hW1
  have hz := HZ.out
  clear HZ ct0 ct1 ct2 ct3 ct4 ct5 ct6 ct7 ct8 ct9 ct10 ct11 ct12 ct13 ct14 ct15
  have HTZ := (show Hid ((W1.setCell ⟨w.heap.size, 5, none⟩ (.float .f64 z)).heap[w.heap.size]? = some (Obj.cells #[.bool t0, .bool t1, .bool t2, .bool false, .int .i64 t4, .float .f64 z, .string t6, .pointer t7, .pointer t8, .pointer t9, .bool false, .bool hg, .bool hs, .bool hw, .bool he, .bool hc] 99 (0, 0))) from heap_set_at HTB.out 5 (.float .f64 z) rfl)
  have HKZ := (show Hid (Kx [] w (W1.setCell ⟨w.heap.size, 5, none⟩ (.float .f64 z))) from HK1.out.trans ((Kx.refl [w.heap.size] _).set (by simp) _) (fun i hi => .inr (by simp at hi; omega)))
  have hf := fr_all HTB.out 5
  have ct5 := cell_at HTB.out 5 rfl
  go_upto_region 4 with fail
  obtain ⟨W2, hW2⟩ : ∃ W2, W2 = W1.setCell ⟨w.heap.size, 5, none⟩ (.float .f64 z) := ⟨_, rfl⟩
  rw [← hW2] at HTZ HKZ ⊢
  clear hW2 hf ct5 HTB HK1
  obtain ⟨h6, e0, e1, e2, e3, e4, e5, e6, e7, e8, e9⟩ := E.out
  have d6 := HKZ.out.cell h6 (by simp)
  have d10 := HKZ.out.cell e0 (by simp)
  have d11 := HKZ.out.cell e1 (by simp)
  have d12 := HKZ.out.cell e2 (by simp)
  have d13 := HKZ.out.cell e3 (by simp)
  have d14 := HKZ.out.cell e4 (by simp)
  have d15 := HKZ.out.cell e5 (by simp)
  have d16 := HKZ.out.cell e6 (by simp)
  have d17 := HKZ.out.cell e7 (by simp)
  have d18 := HKZ.out.cell e8 (by simp)
  have d19 := HKZ.out.cell e9 (by simp)
  clear h6 e0 e1 e2 e3 e4 e5 e6 e7 e8 e9 hz
  have HQ := (show Hid ((W2.alloc (Obj.cells #[.bool q0, .bool q1, .bool q2, .bool false, .int .i64 3, .float .f64 y, .string ⟨#[]⟩, .pointer none, .pointer none, .pointer none] 75)).heap[W2.heap.size]? = some (Obj.cells #[.bool q0, .bool q1, .bool q2, .bool false, .int .i64 3, .float .f64 y, .string ⟨#[]⟩, .pointer none, .pointer none, .pointer none] 75 (0, 0))) from heap_alloc_new _ _)
  have HTZ2 := (show Hid ((W2.alloc (Obj.cells #[.bool q0, .bool q1, .bool q2, .bool false, .int .i64 3, .float .f64 y, .string ⟨#[]⟩, .pointer none, .pointer none, .pointer none] 75)).heap[w.heap.size]? = some (Obj.cells #[.bool t0, .bool t1, .bool t2, .bool false, .int .i64 t4, .float .f64 z, .string t6, .pointer t7, .pointer t8, .pointer t9, .bool false, .bool hg, .bool hs, .bool hw, .bool he, .bool hc] 99 (0, 0))) from heap_old HTZ.out _)
  have ct0 := cell_at HTZ2.out 0 rfl
  have ct1 := cell_at HTZ2.out 1 rfl
  have ct2 := cell_at HTZ2.out 2 rfl
  have ct3 := cell_at HTZ2.out 3 rfl
  have ct4 := cell_at HTZ2.out 4 rfl
  have ct5 := cell_at HTZ2.out 5 rfl
  have ct6 := cell_at HTZ2.out 6 rfl
  have ct7 := cell_at HTZ2.out 7 rfl
  have ct8 := cell_at HTZ2.out 8 rfl
  have ct9 := cell_at HTZ2.out 9 rfl
  have ct10 := cell_at HTZ2.out 10 rfl
  have ct11 := cell_at HTZ2.out 11 rfl
  have ct12 := cell_at HTZ2.out 12 rfl
  have ct13 := cell_at HTZ2.out 13 rfl
  have ct14 := cell_at HTZ2.out 14 rfl
  have ct15 := cell_at HTZ2.out 15 rfl
  go_wp2_with (first | (go_at_call 67; fail))
  refine (CR.out _ (HKZ.out.alc _)).mono ?_
  rintro e w3 ⟨rfl, hk3⟩
  have HT3 := (show Hid (w3.heap[w.heap.size]? = some (Obj.cells #[.bool t0, .bool t1, .bool t2, .bool false, .int .i64 t4, .float .f64 z, .string t6, .pointer t7, .pointer t8, .pointer t9, .bool false, .bool hg, .bool hs, .bool hw, .bool he, .bool hc] 99 (0, 0))) from hk3.get HTZ2.out (by simp))
  have HQ3 := (show Hid (w3.heap[W2.heap.size]? = some (Obj.cells #[.bool q0, .bool q1, .bool q2, .bool false, .int .i64 3, .float .f64 y, .string ⟨#[]⟩, .pointer none, .pointer none, .pointer none] 75 (0, 0))) from hk3.get HQ.out (by simp))
  have HK3 := (show Hid (Kx [] w w3) from (HKZ.out.alc _).same hk3)
  obtain ⟨B2, hB2⟩ : ∃ B2, B2 = W2.heap.size := ⟨_, rfl⟩
  rw [← hB2] at HQ3 ⊢
  have hlt : w.heap.size < B2 := by rw [hB2]; exact lt_get HTZ.out
  have HLT := (show Hid (w.heap.size < B2) from hlt)
  clear hB2 hk3 HTZ HTZ2 HQ HKZ CR d6 hlt d10 d11 d12 d13 d14 d15 d16 d17 d18 d19 ct0 ct1 ct2 ct3 ct4 ct5 ct6 ct7 ct8 ct9 ct10 ct11 ct12 ct13 ct14 ct15
  have cz0 := cell_at HQ3.out 0 rfl
  have cz1 := cell_at HQ3.out 1 rfl
  have cz2 := cell_at HQ3.out 2 rfl
  have cz3 := cell_at HQ3.out 3 rfl
  have cz4 := cell_at HQ3.out 4 rfl
  have cz5 := cell_at HQ3.out 5 rfl
  have cz6 := cell_at HQ3.out 6 rfl
  have cz7 := cell_at HQ3.out 7 rfl
  have cz8 := cell_at HQ3.out 8 rfl
  have cz9 := cell_at HQ3.out 9 rfl
  have ct0 := cell_at HT3.out 0 rfl
  have ct1 := cell_at HT3.out 1 rfl
  have ct2 := cell_at HT3.out 2 rfl
  have ct3 := cell_at HT3.out 3 rfl
  have ct4 := cell_at HT3.out 4 rfl
  have ct5 := cell_at HT3.out 5 rfl
  have ct6 := cell_at HT3.out 6 rfl
  have ct7 := cell_at HT3.out 7 rfl
  have ct8 := cell_at HT3.out 8 rfl
  have ct9 := cell_at HT3.out 9 rfl
  have ct10 := cell_at HT3.out 10 rfl
  have ct11 := cell_at HT3.out 11 rfl
  have ct12 := cell_at HT3.out 12 rfl
  have ct13 := cell_at HT3.out 13 rfl
  have ct14 := cell_at HT3.out 14 rfl
  have ct15 := cell_at HT3.out 15 rfl
  go_wp2_with (first | (go_at_call 69; fail))
  refine (CW.out _ HK3.out).mono ?_
  rintro e w4 ⟨rfl, hk4⟩
  have HT4 := (show Hid ((w4.alloc (Obj.cells #[.bool p0, .bool p1, .bool p2, .bool false, .int .i64 3, .float .f64 y, .string ⟨#[]⟩, .pointer none, .pointer none, .pointer none] 75)).heap[w.heap.size]? = some (Obj.cells #[.bool t0, .bool t1, .bool t2, .bool false, .int .i64 t4, .float .f64 z, .string t6, .pointer t7, .pointer t8, .pointer t9, .bool false, .bool hg, .bool hs, .bool hw, .bool he, .bool hc] 99 (0, 0))) from heap_old (hk4.get HT3.out (by simp)) _)
  have HP4 := (show Hid ((w4.alloc (Obj.cells #[.bool p0, .bool p1, .bool p2, .bool false, .int .i64 3, .float .f64 y, .string ⟨#[]⟩, .pointer none, .pointer none, .pointer none] 75)).heap[w4.heap.size]? = some (Obj.cells #[.bool p0, .bool p1, .bool p2, .bool false, .int .i64 3, .float .f64 y, .string ⟨#[]⟩, .pointer none, .pointer none, .pointer none] 75 (0, 0))) from heap_alloc_new _ _)
  have HK4 := (show Hid (Kx [] w (w4.alloc (Obj.cells #[.bool p0, .bool p1, .bool p2, .bool false, .int .i64 3, .float .f64 y, .string ⟨#[]⟩, .pointer none, .pointer none, .pointer none] 75))) from (HK3.out.same hk4).alc _)
  have q5 := cell_at (heap_old (hk4.get HQ3.out (by simp)) (Obj.cells #[.bool p0, .bool p1, .bool p2, .bool false, .int .i64 3, .float .f64 y, .string ⟨#[]⟩, .pointer none, .pointer none, .pointer none] 75)) 5 rfl
  have hl4 : w.heap.size < w4.heap.size := Nat.lt_of_lt_of_le (lt_get HT3.out) hk4.size
  have HL4 := (show Hid (w.heap.size < w4.heap.size) from hl4)
  clear hk4 hl4 HK3 HT3 HQ3 HLT CW cz0 cz1 cz2 cz3 cz4 cz5 cz6 cz7 cz8 cz9 ct0 ct1 ct2 ct3 ct4 ct5 ct6 ct7 ct8 ct9 ct10 ct11 ct12 ct13 ct14 ct15
  go_wp2_with (first | (go_at_call 59; fail))
  refine (CS.out _ HK4.out).mono ?_
  rintro e w5 ⟨⟨u, rfl⟩, hk5, hR5⟩
  have HR5 := (show Hid (R w5) from hR5)
  have ht5 := hk5.get HT4.out (fun hm => by have := HT.out _ hm; omega)
  have hp5 := hk5.get HP4.out (fun hm => by have := HT.out _ hm; have := HL4.out; omega)
  have t10 := cell_at ht5 10 rfl
  have t5 := cell_at ht5 5 rfl
  have p5 := cell_at hp5 5 rfl
  clear hk5 hR5 HT4 HP4 HK4 HL4 HT CS q5 ht5 hp5
  go_wp2
  go_ret
  exact ⟨rfl, HR5.out⟩
set_option maxRecDepth 100000 in
set_option maxHeartbeats 4000000 in
theorem len_all (b g n cap : Nat) (t0 t1 t2 hv hg hs hw he hc : Bool) (t4 : Int) (x y z : Nat) (t6 : ByteArray) (t7 t8 t9 : Option Addr) (q0 q1 q2 p0 p1 p2 rb : Bool) (T : List Nat) (R : World → Prop) (w : World)
    (h6 : w.cell? ⟨b, 6, none⟩ = some (.slice (some ⟨g, 0, none⟩) n cap)) (hn : 0 < n) (hn2 : n ≤ 1000) (hT : ∀ i ∈ T, i < w.heap.size)
    (e0 : w.cell? ⟨g, 0, none⟩ = some (.bool q0)) (e1 : w.cell? ⟨g, 1, none⟩ = some (.bool q1)) (e2 : w.cell? ⟨g, 2, none⟩ = some (.bool q2)) (e3 : w.cell? ⟨g, 3, none⟩ = some (.bool false)) (e4 : w.cell? ⟨g, 4, none⟩ = some (.int .i64 3)) (e5 : w.cell? ⟨g, 5, none⟩ = some (.float .f64 y)) (e6 : w.cell? ⟨g, 6, none⟩ = some (.string ⟨#[]⟩)) (e7 : w.cell? ⟨g, 7, none⟩ = some (.pointer none)) (e8 : w.cell? ⟨g, 8, none⟩ = some (.pointer none)) (e9 : w.cell? ⟨g, 9, none⟩ = some (.pointer none))
    (hz : (hv = true → LenB t4 x true) → ∀ W, (binOp .add 30 (.float .f64 x) (.float .f64 0)).run Tryz.prog W = .ok (.float .f64 z) W)
    (cR : ∀ W, Kx [] w W → Calls Tryz.prog 67 #[.agg #[.bool q0, .bool q1, .bool q2, .bool false, .int .i64 3, .float .f64 y, .string ⟨#[]⟩, .pointer none, .pointer none, .pointer none], .agg #[.bool t0, .bool t1, .bool t2, .bool false, .int .i64 t4, .float .f64 z, .string t6, .pointer t7, .pointer t8, .pointer t9, .bool hv, .bool hg, .bool hs, .bool hw, .bool he, .bool hc]] W fun e w' => e = .returned (.bool rb) ∧ Kx [] W w')
    (cW : rb = false → ∀ W, Kx [] w W → Calls Tryz.prog 69 #[.agg #[.bool q0, .bool q1, .bool q2, .bool false, .int .i64 3, .float .f64 y, .string ⟨#[]⟩, .pointer none, .pointer none, .pointer none], .agg #[.bool t0, .bool t1, .bool t2, .bool false, .int .i64 t4, .float .f64 z, .string t6, .pointer t7, .pointer t8, .pointer t9, .bool hv, .bool hg, .bool hs, .bool hw, .bool he, .bool hc]] W fun e w' => e = .returned (.agg #[.bool p0, .bool p1, .bool p2, .bool false, .int .i64 3, .float .f64 y, .string ⟨#[]⟩, .pointer none, .pointer none, .pointer none]) ∧ Kx [] W w')
    (cS : rb = false → ∀ W, Kx [] w W → Calls Tryz.prog 59 #[.pointer (some ⟨b, 0, none⟩), .agg #[.string ⟨#[108, 101, 110, 103, 116, 104]⟩, .int .u32 0, .bool false], .agg #[.bool p0, .bool p1, .bool p2, .bool false, .int .i64 3, .float .f64 y, .string ⟨#[]⟩, .pointer none, .pointer none, .pointer none]] W fun e w' => (∃ u, e = .returned u) ∧ Kx T W w' ∧ R w')
    (hyz : rb = false → hv = true → (FloatKind.f64.format.order y z != some .eq) = false)
    (hyy : (FloatKind.f64.format.order y y == some .lt) = false) :
    Calls Tryz.prog 66 #[.pointer (some ⟨b, 0, none⟩), .agg #[.bool t0, .bool t1, .bool t2, .bool false, .int .i64 t4, .float .f64 x, .string t6, .pointer t7, .pointer t8, .pointer t9, .bool hv, .bool hg, .bool hs, .bool hw, .bool he, .bool hc]] w fun e w' => ∃ er, e = .returned er ∧ ErrV er ∧ (Kx [] w w' ∨ (rb = false ∧ R w')) := by
  obtain ⟨W1, hW1⟩ : ∃ W1, W1 = w.alloc (Obj.cells #[.bool t0, .bool t1, .bool t2, .bool false, .int .i64 t4, .float .f64 x, .string t6, .pointer t7, .pointer t8, .pointer t9, .bool hv, .bool hg, .bool hs, .bool hw, .bool he, .bool hc] 99) := ⟨_, rfl⟩
  have hk1 : Kx [] w W1 := by rw [hW1]; exact Kx.alloc _ _ _
  have hT1 : W1.heap[w.heap.size]? = some (Obj.cells #[.bool t0, .bool t1, .bool t2, .bool false, .int .i64 t4, .float .f64 x, .string t6, .pointer t7, .pointer t8, .pointer t9, .bool hv, .bool hg, .bool hs, .bool hw, .bool he, .bool hc] 99 (0, 0)) := by rw [hW1]; exact heap_alloc_new _ _
  have HZ := (show Hid ((hv = true → LenB t4 x true) → ∀ W, (binOp .add 30 (.float .f64 x) (.float .f64 0)).run Tryz.prog W = .ok (.float .f64 z) W) from hz)
  clear hz
  have CR := (show Hid (∀ W, Kx [] w W → Calls Tryz.prog 67 #[.agg #[.bool q0, .bool q1, .bool q2, .bool false, .int .i64 3, .float .f64 y, .string ⟨#[]⟩, .pointer none, .pointer none, .pointer none], .agg #[.bool t0, .bool t1, .bool t2, .bool false, .int .i64 t4, .float .f64 z, .string t6, .pointer t7, .pointer t8, .pointer t9, .bool hv, .bool hg, .bool hs, .bool hw, .bool he, .bool hc]] W fun e w' => e = .returned (.bool rb) ∧ Kx [] W w') from cR)
  clear cR
  have CW := (show Hid (rb = false → ∀ W, Kx [] w W → Calls Tryz.prog 69 #[.agg #[.bool q0, .bool q1, .bool q2, .bool false, .int .i64 3, .float .f64 y, .string ⟨#[]⟩, .pointer none, .pointer none, .pointer none], .agg #[.bool t0, .bool t1, .bool t2, .bool false, .int .i64 t4, .float .f64 z, .string t6, .pointer t7, .pointer t8, .pointer t9, .bool hv, .bool hg, .bool hs, .bool hw, .bool he, .bool hc]] W fun e w' => e = .returned (.agg #[.bool p0, .bool p1, .bool p2, .bool false, .int .i64 3, .float .f64 y, .string ⟨#[]⟩, .pointer none, .pointer none, .pointer none]) ∧ Kx [] W w') from cW)
  clear cW
  have CS := (show Hid (rb = false → ∀ W, Kx [] w W → Calls Tryz.prog 59 #[.pointer (some ⟨b, 0, none⟩), .agg #[.string ⟨#[108, 101, 110, 103, 116, 104]⟩, .int .u32 0, .bool false], .agg #[.bool p0, .bool p1, .bool p2, .bool false, .int .i64 3, .float .f64 y, .string ⟨#[]⟩, .pointer none, .pointer none, .pointer none]] W fun e w' => (∃ u, e = .returned u) ∧ Kx T W w' ∧ R w') from cS)
  clear cS
  have HT := (show Hid (∀ i ∈ T, i < w.heap.size) from hT)
  have HK1 := (show Hid (Kx [] w W1) from hk1)
  have HTB := (show Hid (W1.heap[w.heap.size]? = some (Obj.cells #[.bool t0, .bool t1, .bool t2, .bool false, .int .i64 t4, .float .f64 x, .string t6, .pointer t7, .pointer t8, .pointer t9, .bool hv, .bool hg, .bool hs, .bool hw, .bool he, .bool hc] 99 (0, 0))) from hT1)
  have E := (show Hid (w.cell? ⟨b, 6, none⟩ = some (.slice (some ⟨g, 0, none⟩) n cap) ∧ w.cell? ⟨g, 0, none⟩ = some (.bool q0) ∧ w.cell? ⟨g, 1, none⟩ = some (.bool q1) ∧ w.cell? ⟨g, 2, none⟩ = some (.bool q2) ∧ w.cell? ⟨g, 3, none⟩ = some (.bool false) ∧ w.cell? ⟨g, 4, none⟩ = some (.int .i64 3) ∧ w.cell? ⟨g, 5, none⟩ = some (.float .f64 y) ∧ w.cell? ⟨g, 6, none⟩ = some (.string ⟨#[]⟩) ∧ w.cell? ⟨g, 7, none⟩ = some (.pointer none) ∧ w.cell? ⟨g, 8, none⟩ = some (.pointer none) ∧ w.cell? ⟨g, 9, none⟩ = some (.pointer none)) from ⟨h6, e0, e1, e2, e3, e4, e5, e6, e7, e8, e9⟩)
  clear hT hk1 hT1 h6 e0 e1 e2 e3 e4 e5 e6 e7 e8 e9
  have HYZ := (show Hid (rb = false → hv = true → (FloatKind.f64.format.order y z != some .eq) = false) from hyz)
  clear hyz
  have ct0 := cell_at HTB.out 0 rfl
  have ct1 := cell_at HTB.out 1 rfl
  have ct2 := cell_at HTB.out 2 rfl
  have ct3 := cell_at HTB.out 3 rfl
  have ct4 := cell_at HTB.out 4 rfl
  have ct5 := cell_at HTB.out 5 rfl
  have ct6 := cell_at HTB.out 6 rfl
  have ct7 := cell_at HTB.out 7 rfl
  have ct8 := cell_at HTB.out 8 rfl
  have ct9 := cell_at HTB.out 9 rfl
  have ct10 := cell_at HTB.out 10 rfl
  have ct11 := cell_at HTB.out 11 rfl
  have ct12 := cell_at HTB.out 12 rfl
  have ct13 := cell_at HTB.out 13 rfl
  have ct14 := cell_at HTB.out 14 rfl
  have ct15 := cell_at HTB.out 15 rfl
  go_enter Tryz.func66, Tryz.ntmps66
  go_upto_region 1 with fail
  rw [← hW1]
  clear hW1
  go_cut [15] (fun v wx => ∃ B, v = .bool B ∧ Kx [] W1 wx ∧ (B = false → hv = true → LenB t4 x true))
  case first =>
    cases hv
    · go_wp2
      go_meet
      exact ⟨_, rfl, Kx.refl _ _, fun _ h => by cases h⟩
    · go_wp2_with (first | (go_at_call 93; fail))
      refine (isLength_any t4 x t6 t7 W1).mono ?_
      rintro e w2 ⟨⟨B, rfl, hB⟩, hk2⟩
      have HB2 := (show Hid (LenB t4 x B ∧ Kx [] W1 w2) from ⟨hB, hk2⟩)
      clear hB hk2
      go_wp2
      go_meet
      exact ⟨!B, rfl, HB2.out.2, fun h _ => by cases B with | true => exact HB2.out.1 | false => cases h⟩
  case rest =>
    obtain ⟨B, rfl, hkc, hBc⟩ := hcut
    clear ct0 ct1 ct2 ct3 ct4 ct5 ct6 ct7 ct8 ct9 ct10 ct11 ct12 ct13 ct14 ct15
    replace HTB : Hid (wc.heap[w.heap.size]? = some (Obj.cells #[.bool t0, .bool t1, .bool t2, .bool false, .int .i64 t4, .float .f64 x, .string t6, .pointer t7, .pointer t8, .pointer t9, .bool hv, .bool hg, .bool hs, .bool hw, .bool he, .bool hc] 99 (0, 0))) := hkc.get HTB.out (by simp)
    replace HK1 : Hid (Kx [] w wc) := (show Kx [] w wc from HK1.out.same hkc)
    have HBC := (show Hid (B = false → hv = true → LenB t4 x true) from hBc)
    clear hkc hBc
    cases B
    · have hz := HZ.out (HBC.out rfl)
      clear HZ HBC
      have HTZ := (show Hid ((wc.setCell ⟨w.heap.size, 5, none⟩ (.float .f64 z)).heap[w.heap.size]? = some (Obj.cells #[.bool t0, .bool t1, .bool t2, .bool false, .int .i64 t4, .float .f64 z, .string t6, .pointer t7, .pointer t8, .pointer t9, .bool hv, .bool hg, .bool hs, .bool hw, .bool he, .bool hc] 99 (0, 0))) from heap_set_at HTB.out 5 (.float .f64 z) rfl)
      have HKZ := (show Hid (Kx [] w (wc.setCell ⟨w.heap.size, 5, none⟩ (.float .f64 z))) from HK1.out.trans ((Kx.refl [w.heap.size] _).set (by simp) _) (fun i hi => .inr (by simp at hi; omega)))
      have hf := fr_all HTB.out 5
      have ct5 := cell_at HTB.out 5 rfl
      go_upto_region 4 with fail
      obtain ⟨W2, hW2⟩ : ∃ W2, W2 = wc.setCell ⟨w.heap.size, 5, none⟩ (.float .f64 z) := ⟨_, rfl⟩
      rw [← hW2] at HTZ HKZ ⊢
      clear hW2 hf ct5 HTB HK1
      obtain ⟨h6, e0, e1, e2, e3, e4, e5, e6, e7, e8, e9⟩ := E.out
      have d6 := HKZ.out.cell h6 (by simp)
      have d10 := HKZ.out.cell e0 (by simp)
      have d11 := HKZ.out.cell e1 (by simp)
      have d12 := HKZ.out.cell e2 (by simp)
      have d13 := HKZ.out.cell e3 (by simp)
      have d14 := HKZ.out.cell e4 (by simp)
      have d15 := HKZ.out.cell e5 (by simp)
      have d16 := HKZ.out.cell e6 (by simp)
      have d17 := HKZ.out.cell e7 (by simp)
      have d18 := HKZ.out.cell e8 (by simp)
      have d19 := HKZ.out.cell e9 (by simp)
      clear h6 e0 e1 e2 e3 e4 e5 e6 e7 e8 e9 hz
      have HQ := (show Hid ((W2.alloc (Obj.cells #[.bool q0, .bool q1, .bool q2, .bool false, .int .i64 3, .float .f64 y, .string ⟨#[]⟩, .pointer none, .pointer none, .pointer none] 75)).heap[W2.heap.size]? = some (Obj.cells #[.bool q0, .bool q1, .bool q2, .bool false, .int .i64 3, .float .f64 y, .string ⟨#[]⟩, .pointer none, .pointer none, .pointer none] 75 (0, 0))) from heap_alloc_new _ _)
      have HTZ2 := (show Hid ((W2.alloc (Obj.cells #[.bool q0, .bool q1, .bool q2, .bool false, .int .i64 3, .float .f64 y, .string ⟨#[]⟩, .pointer none, .pointer none, .pointer none] 75)).heap[w.heap.size]? = some (Obj.cells #[.bool t0, .bool t1, .bool t2, .bool false, .int .i64 t4, .float .f64 z, .string t6, .pointer t7, .pointer t8, .pointer t9, .bool hv, .bool hg, .bool hs, .bool hw, .bool he, .bool hc] 99 (0, 0))) from heap_old HTZ.out _)
      have ct0 := cell_at HTZ2.out 0 rfl
      have ct1 := cell_at HTZ2.out 1 rfl
      have ct2 := cell_at HTZ2.out 2 rfl
      have ct3 := cell_at HTZ2.out 3 rfl
      have ct4 := cell_at HTZ2.out 4 rfl
      have ct5 := cell_at HTZ2.out 5 rfl
      have ct6 := cell_at HTZ2.out 6 rfl
      have ct7 := cell_at HTZ2.out 7 rfl
      have ct8 := cell_at HTZ2.out 8 rfl
      have ct9 := cell_at HTZ2.out 9 rfl
      have ct10 := cell_at HTZ2.out 10 rfl
      have ct11 := cell_at HTZ2.out 11 rfl
      have ct12 := cell_at HTZ2.out 12 rfl
      have ct13 := cell_at HTZ2.out 13 rfl
      have ct14 := cell_at HTZ2.out 14 rfl
      have ct15 := cell_at HTZ2.out 15 rfl
      go_wp2_with (first | (go_at_call 67; fail))
      refine (CR.out _ (HKZ.out.alc _)).mono ?_
      rintro e w3 ⟨rfl, hk3⟩
      have HT3 := (show Hid (w3.heap[w.heap.size]? = some (Obj.cells #[.bool t0, .bool t1, .bool t2, .bool false, .int .i64 t4, .float .f64 z, .string t6, .pointer t7, .pointer t8, .pointer t9, .bool hv, .bool hg, .bool hs, .bool hw, .bool he, .bool hc] 99 (0, 0))) from hk3.get HTZ2.out (by simp))
      have HQ3 := (show Hid (w3.heap[W2.heap.size]? = some (Obj.cells #[.bool q0, .bool q1, .bool q2, .bool false, .int .i64 3, .float .f64 y, .string ⟨#[]⟩, .pointer none, .pointer none, .pointer none] 75 (0, 0))) from hk3.get HQ.out (by simp))
      have HK3 := (show Hid (Kx [] w w3) from (HKZ.out.alc _).same hk3)
      obtain ⟨B2, hB2⟩ : ∃ B2, B2 = W2.heap.size := ⟨_, rfl⟩
      rw [← hB2] at HQ3 ⊢
      have hlt : w.heap.size < B2 := by rw [hB2]; exact lt_get HTZ.out
      have HLT := (show Hid (w.heap.size < B2) from hlt)
      clear hB2 hk3 HTZ HTZ2 HQ HKZ CR d6 hlt d10 d11 d12 d13 d14 d15 d16 d17 d18 d19 ct0 ct1 ct2 ct3 ct4 ct5 ct6 ct7 ct8 ct9 ct10 ct11 ct12 ct13 ct14 ct15
      cases rb
      · have cz0 := cell_at HQ3.out 0 rfl
        have cz1 := cell_at HQ3.out 1 rfl
        have cz2 := cell_at HQ3.out 2 rfl
        have cz3 := cell_at HQ3.out 3 rfl
        have cz4 := cell_at HQ3.out 4 rfl
        have cz5 := cell_at HQ3.out 5 rfl
        have cz6 := cell_at HQ3.out 6 rfl
        have cz7 := cell_at HQ3.out 7 rfl
        have cz8 := cell_at HQ3.out 8 rfl
        have cz9 := cell_at HQ3.out 9 rfl
        have ct0 := cell_at HT3.out 0 rfl
        have ct1 := cell_at HT3.out 1 rfl
        have ct2 := cell_at HT3.out 2 rfl
        have ct3 := cell_at HT3.out 3 rfl
        have ct4 := cell_at HT3.out 4 rfl
        have ct5 := cell_at HT3.out 5 rfl
        have ct6 := cell_at HT3.out 6 rfl
        have ct7 := cell_at HT3.out 7 rfl
        have ct8 := cell_at HT3.out 8 rfl
        have ct9 := cell_at HT3.out 9 rfl
        have ct10 := cell_at HT3.out 10 rfl
        have ct11 := cell_at HT3.out 11 rfl
        have ct12 := cell_at HT3.out 12 rfl
        have ct13 := cell_at HT3.out 13 rfl
        have ct14 := cell_at HT3.out 14 rfl
        have ct15 := cell_at HT3.out 15 rfl
        go_wp2_with (first | (go_at_call 69; fail))
        refine (CW.out (by simp) _ HK3.out).mono ?_
        rintro e w4 ⟨rfl, hk4⟩
        have HT4 := (show Hid ((w4.alloc (Obj.cells #[.bool p0, .bool p1, .bool p2, .bool false, .int .i64 3, .float .f64 y, .string ⟨#[]⟩, .pointer none, .pointer none, .pointer none] 75)).heap[w.heap.size]? = some (Obj.cells #[.bool t0, .bool t1, .bool t2, .bool false, .int .i64 t4, .float .f64 z, .string t6, .pointer t7, .pointer t8, .pointer t9, .bool hv, .bool hg, .bool hs, .bool hw, .bool he, .bool hc] 99 (0, 0))) from heap_old (hk4.get HT3.out (by simp)) _)
        have HP4 := (show Hid ((w4.alloc (Obj.cells #[.bool p0, .bool p1, .bool p2, .bool false, .int .i64 3, .float .f64 y, .string ⟨#[]⟩, .pointer none, .pointer none, .pointer none] 75)).heap[w4.heap.size]? = some (Obj.cells #[.bool p0, .bool p1, .bool p2, .bool false, .int .i64 3, .float .f64 y, .string ⟨#[]⟩, .pointer none, .pointer none, .pointer none] 75 (0, 0))) from heap_alloc_new _ _)
        have HK4 := (show Hid (Kx [] w (w4.alloc (Obj.cells #[.bool p0, .bool p1, .bool p2, .bool false, .int .i64 3, .float .f64 y, .string ⟨#[]⟩, .pointer none, .pointer none, .pointer none] 75))) from (HK3.out.same hk4).alc _)
        have q5 := cell_at (heap_old (hk4.get HQ3.out (by simp)) (Obj.cells #[.bool p0, .bool p1, .bool p2, .bool false, .int .i64 3, .float .f64 y, .string ⟨#[]⟩, .pointer none, .pointer none, .pointer none] 75)) 5 rfl
        have hl4 : w.heap.size < w4.heap.size := Nat.lt_of_lt_of_le (lt_get HT3.out) hk4.size
        have HL4 := (show Hid (w.heap.size < w4.heap.size) from hl4)
        clear hk4 hl4 HK3 HT3 HQ3 HLT CW cz0 cz1 cz2 cz3 cz4 cz5 cz6 cz7 cz8 cz9 ct0 ct1 ct2 ct3 ct4 ct5 ct6 ct7 ct8 ct9 ct10 ct11 ct12 ct13 ct14 ct15
        go_wp2_with (first | (go_at_call 59; fail))
        refine (CS.out (by simp) _ HK4.out).mono ?_
        rintro e w5 ⟨⟨u, rfl⟩, hk5, hR5⟩
        have HR5 := (show Hid (R w5) from hR5)
        have ht5 := hk5.get HT4.out (fun hm => by have := HT.out _ hm; omega)
        have hp5 := hk5.get HP4.out (fun hm => by have := HT.out _ hm; have := HL4.out; omega)
        have t10 := cell_at ht5 10 rfl
        have t5 := cell_at ht5 5 rfl
        have p5 := cell_at hp5 5 rfl
        clear hk5 hR5 HT4 HP4 HK4 HL4 HT CS q5 ht5 hp5
        have hyz := HYZ.out (by simp)
        clear HYZ
        cases hv
        · go_wp2
          go_ret
          exact ⟨_, rfl, .inl rfl, .inr (by first | exact HR5.out | exact ⟨rfl, HR5.out⟩)⟩
        · have hyz2 := hyz (by simp)
          clear hyz
          go_wp2
          go_ret
          exact ⟨_, rfl, .inl rfl, .inr (by first | exact HR5.out | exact ⟨rfl, HR5.out⟩)⟩
      · go_wp2
        go_ret
        exact ⟨_, rfl, .inr (.inr rfl), .inl HK3.out⟩
    · go_wp2
      go_ret
      exact ⟨_, rfl, .inr (.inl rfl), .inl HK1.out⟩
end Go.Proofs.YtmicdbplkfdfnaaGreatDoor
