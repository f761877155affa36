/- Object.length, takes, Alike; Told's two questions. -/
import Derived.Test.YtdnjgemaenhcfaaGreatDoorCHn7x
import Derived.LaidEqlPtr
import Derived.Test.YtdnjgemaenhcfaaGreatDoorCHq2x
set_option linter.unusedVariables false
namespace Go.Proofs.YtdnjgemaenhcfaaGreatDoor
open Go.RowKit Go.Shelf Go.Maps

theorem info118 : ∃ j, Tryz.prog.info? 118 = some j ∧ j.size ≠ 0 := by
  have h : (Tryz.prog.info? 118).map (fun i => i.size) = some 6 := by kernel_rfl
  cases hj : Tryz.prog.info? 118 with
  | none => rw [hj] at h; cases h
  | some j =>
    rw [hj] at h
    simp at h
    exact ⟨j, rfl, by omega⟩
theorem und87 : Tryz.prog.underlying 87 = some (.pointer 118) := by kernel_rfl
theorem ptr_ne87 {a b : Nat} (h : a ≠ b) {W : World} {ca cb : Array Value} {ta tb : TypeId} (ha : W.heap[a]? = some (.cells ca ta (0, 0))) (hb : W.heap[b]? = some (.cells cb tb (0, 0))) : (binOp .eql 87 (.pointer (some ⟨a, 0, none⟩)) (.pointer (some ⟨b, 0, none⟩))).run Tryz.prog W = .ok (.bool false) W := by
  obtain ⟨j, h1, h2⟩ := info118
  exact run_eql_ptr_other W und87 h1 h2 (fun hc => h (congrArg Addr.block hc)) ha hb
theorem ptr_eq87 (a : Nat) (W : World) : (binOp .eql 87 (.pointer (some ⟨a, 0, none⟩)) (.pointer (some ⟨a, 0, none⟩))).run Tryz.prog W = .ok (.bool true) W := by
  obtain ⟨j, h1, h2⟩ := info118
  exact run_eql_ptr_same W _ und87 h1
set_option maxHeartbeats 2000000 in
theorem length_no (b : Nat) (C : ByteArray) (w : World) (h0 : w.cell? ⟨b, 0, none⟩ = some (.string C)) (hC : (C.toList == [65, 114, 114, 97, 121]) = false) :
    Calls Tryz.prog 68 #[.pointer (some ⟨b, 0, none⟩)] w fun e w' => e = .returned (.pointer none) ∧ w' = w := by
  go_enter Tryz.func68, Tryz.ntmps68
  go_wp2
  go_ret
  exact ⟨rfl, rfl⟩

set_option maxRecDepth 100000 in
set_option maxHeartbeats 2000000 in
theorem takes_no (b : Nat) (C : ByteArray) (fx : Bool) (nm : ByteArray) (pl : Int) (isP : Bool) (w : World) (h0 : w.cell? ⟨b, 0, none⟩ = some (.string C)) (hC : (C.toList == [65, 114, 114, 97, 121]) = false) (h2 : w.cell? ⟨b, 2, none⟩ = some (.bool fx)) (hb : b < w.heap.size) :
    Calls Tryz.prog 66 #[.pointer (some ⟨b, 0, none⟩), .agg #[.string nm, .int .u32 pl, .bool isP]] w fun e w' => e = .returned (.bool (!fx)) ∧ Kx [] w w' := by
  have h0' : (w.alloc (Obj.cells #[.string nm, .int .u32 pl, .bool isP] 67)).cell? ⟨b, 0, none⟩ = some (.string C) := by rw [World.cell?_alloc_some _ _ _ (by rw [h0]; rfl)]; exact h0
  have c := length_no b C (w.alloc (Obj.cells #[.string nm, .int .u32 pl, .bool isP] 67)) h0' hC
  have hk : Hid (Kx [] w (w.alloc (Obj.cells #[.string nm, .int .u32 pl, .bool isP] 67))) := (show Kx [] w _ from Kx.alloc _ _ _)
  clear hC h0'
  obtain ⟨W0, hW0⟩ : ∃ W0, W0 = w.alloc (Obj.cells #[.string nm, .int .u32 pl, .bool isP] 67) := ⟨_, rfl⟩
  cases fx with
  | false =>
    go_enter Tryz.func66, Tryz.ntmps66
    go_wp2_with (first | (go_at_call 68; refine c.mono ?_; rintro e w1 ⟨rfl, rfl⟩))
    rw [← hW0] at hk ⊢
    clear hW0 c
    go_quiet (fail)
    go_wp2
    go_ret
    exact ⟨rfl, hk.out.drw _⟩
  | true =>
    go_enter Tryz.func66, Tryz.ntmps66
    go_wp2
    go_ret
    exact ⟨rfl, hk.out⟩

set_option maxRecDepth 100000 in
set_option maxHeartbeats 2000000 in
theorem alike_any (a b Sa Sb : Nat) (al : Bool) (w : World) (ha : w.cell? ⟨a, 5, none⟩ = some (.pointer (some ⟨Sa, 0, none⟩))) (hb : w.cell? ⟨b, 5, none⟩ = some (.pointer (some ⟨Sb, 0, none⟩))) (hS : w.cell? ⟨Sa, 4, none⟩ = some (.bool al)) (ca cb : Array Value) (hA : w.heap[Sa]? = some (.cells ca 118 (0, 0))) (hB : w.heap[Sb]? = some (.cells cb 118 (0, 0))) :
    Calls Tryz.prog 30 #[.pointer (some ⟨a, 0, none⟩), .pointer (some ⟨b, 0, none⟩)] w fun e w' => e = .returned (.bool (decide (Sa = Sb) && !al)) ∧ ∃ q, w' = w.drewN q := by
  by_cases h : Sa = Sb
  · subst h
    rw [decide_eq_true rfl, Bool.true_and]
    have he := ptr_eq87 Sa
    clear hA hB
    cases al <;>
    · go_enter Tryz.func30, Tryz.ntmps30
      go_wp2
      go_quiet (fail)
      go_wp2
      go_ret
      exact ⟨rfl, _, rfl⟩
  · rw [decide_eq_false h, Bool.false_and]
    have he : ∀ q, (binOp .eql 87 (.pointer (some ⟨Sa, 0, none⟩)) (.pointer (some ⟨Sb, 0, none⟩))).run Tryz.prog (w.drewN q) = .ok (.bool false) (w.drewN q) := fun q => ptr_ne87 h (show (w.drewN q).heap[Sa]? = _ from hA) (show (w.drewN q).heap[Sb]? = _ from hB)
    clear hA hB
    go_enter Tryz.func30, Tryz.ntmps30
    go_wp2
    go_quiet (fail)
    go_wp2
    go_ret
    exact ⟨rfl, _, rfl⟩
set_option maxRecDepth 100000 in
set_option maxHeartbeats 2000000 in
theorem same_any (O H : Nat) (l : List Nat) (r q : Int) (a b Sa Sb : Nat) (al : Bool) (w : World) (hO : w.cell? ⟨O, 0, none⟩ = some (.pointer (some ⟨H, 0, none⟩))) (hH : Objs w H l) (hr1 : 1 ≤ r) (hr : l[(r - 1).toNat]? = some a) (hq1 : 1 ≤ q) (hq : l[(q - 1).toNat]? = some b)
    (ha : w.cell? ⟨a, 5, none⟩ = some (.pointer (some ⟨Sa, 0, none⟩))) (hb : w.cell? ⟨b, 5, none⟩ = some (.pointer (some ⟨Sb, 0, none⟩))) (hS : w.cell? ⟨Sa, 4, none⟩ = some (.bool al)) (ca cb : Array Value) (hA : w.heap[Sa]? = some (.cells ca 118 (0, 0))) (hB : w.heap[Sb]? = some (.cells cb 118 (0, 0))) :
    Calls Tryz.prog 14 #[.pointer (some ⟨O, 0, none⟩), .int .i64 r, .int .i64 q] w fun e w' => e = .returned (.bool (decide (Sa = Sb) && !al)) ∧ ∃ q, w' = w.drewN q := by
  have c1 := fun (k : Nat) (n : Int) => numbered_any H l n (w.drewN k) hH
  have E1 := objP_hit hr1 hr
  have E2 := objP_hit hq1 hq
  obtain ⟨f, hf⟩ : ∃ f : Int → Value, f = objP l := ⟨_, rfl⟩
  rw [← hf] at c1 E1 E2
  have c3 := fun k => alike_any a b Sa Sb al (w.drewN k) ha hb hS ca cb hA hB
  generalize (decide (Sa = Sb) && !al) = R at *
  clear ha hb hS hA hB hH hr hq hr1 hq1 hf
  have HE := (show Hid _ from And.intro E1 E2)
  clear E1 E2
  go_enter Tryz.func14, Tryz.ntmps14
  go_wp2
  go_quiet (first | (go_at_call 21; exact Calls.quiet_of_same (c1 _ _)))
  obtain ⟨E1, E2⟩ := HE.out
  rw [E1, E2]
  clear E1 E2 HE
  go_wp2_with (first | (go_at_call 30; refine (c3 nq).mono ?_; rintro e w1 ⟨rfl, k, rfl⟩))
  go_ret
  exact ⟨rfl, _, rfl⟩
end Go.Proofs.YtdnjgemaenhcfaaGreatDoor
/- Object.Define, where a name comes to an object that is no Array. -/
set_option linter.unusedVariables false
namespace Go.Proofs.YtdnjgemaenhcfaaGreatDoor
open Go.RowKit Go.Shelf Go.Maps

attribute [local go_sem] run_store_flt
set_option maxRecDepth 100000 in
set_option maxHeartbeats 2000000 in
theorem define_new (b : Nat) (nm C : ByteArray) (pl : Int) (p0 p1 p2 : Bool) (p4 : Int) (p5 : Nat) (p6 : ByteArray) (p7 p8 p9 : Option Addr) (R : World → Prop) (w : World)
    (h0 : ∀ W, Kx [] w W → W.cell? ⟨b, 0, none⟩ = some (.string C)) (hC : (C.toList == [65, 114, 114, 97, 121]) = false)
    (cO : ∀ W, Kx [] w W → Calls Tryz.prog 25 #[.pointer (some ⟨b, 0, none⟩), .agg #[.string nm, .int .u32 pl, .bool false]] W fun e w' => e = .returned (.tuple #[noP, .bool false]) ∧ Kx [] W w')
    (cT : ∀ W, Kx [] w W → Calls Tryz.prog 66 #[.pointer (some ⟨b, 0, none⟩), .agg #[.string nm, .int .u32 pl, .bool false]] W fun e w' => e = .returned (.bool true) ∧ Kx [] W w')
    (cS : ∀ W, Kx [] w W → Calls Tryz.prog 57 #[.pointer (some ⟨b, 0, none⟩), .agg #[.string nm, .int .u32 pl, .bool false], .agg #[.bool p0, .bool p1, .bool p2, .bool false, .int .i64 p4, .float .f64 p5, .string p6, .pointer p7, .pointer none, .pointer none]] W fun e w' => (∃ u, e = .returned u) ∧ w'.cell? ⟨b, 0, none⟩ = some (.string C) ∧ R w') :
    Calls Tryz.prog 41 #[.pointer (some ⟨b, 0, none⟩), .agg #[.string nm, .int .u32 pl, .bool false], .agg #[.bool p0, .bool p1, .bool p2, .bool false, .int .i64 p4, .float .f64 p5, .string p6, .pointer p7, .pointer p8, .pointer p9, .bool true, .bool false, .bool false, .bool true, .bool true, .bool true]] w fun e w' => e = .returned .nilIface ∧ ∃ W q, R W ∧ w' = W.drewN q := by
  have c1 := fun W => tellsF_any (.bool p0) (.bool p1) (.bool p2) (.bool false) (.int .i64 p4) (.float .f64 p5) (.string p6) (.pointer p7) (.pointer p8) (.pointer p9) true false false true true true W
  rw [Bool.or_false] at c1
  obtain ⟨W1, hW1⟩ : ∃ W1, W1 = ((w.alloc (Obj.cells #[.string nm, .int .u32 pl, .bool false] 67)).alloc (Obj.cells #[.bool p0, .bool p1, .bool p2, .bool false, .int .i64 p4, .float .f64 p5, .string p6, .pointer p7, .pointer p8, .pointer p9, .bool true, .bool false, .bool false, .bool true, .bool true, .bool true] 99)).alloc (Obj.cells #[.bool p0, .bool p1, .bool p2, .bool false, .int .i64 p4, .float .f64 p5, .string p6, .pointer p7, .pointer p8, .pointer p9, .bool true, .bool false, .bool false, .bool true, .bool true, .bool true] 99) := ⟨_, rfl⟩
  have hk1 : Kx [] w W1 := by rw [hW1]; exact (show Kx [] w _ from ((Kx.alloc _ _ _).alc _).alc _)
  have hK1 : W1.heap[w.heap.size]? = some (Obj.cells #[.string nm, .int .u32 pl, .bool false] 67 (0, 0)) := by rw [hW1]; exact heap_old (heap_old (heap_alloc_new _ _) _) _
  have hT1 : W1.heap[w.heap.size + 1]? = some (Obj.cells #[.bool p0, .bool p1, .bool p2, .bool false, .int .i64 p4, .float .f64 p5, .string p6, .pointer p7, .pointer p8, .pointer p9, .bool true, .bool false, .bool false, .bool true, .bool true, .bool true] 99 (0, 0)) := by rw [hW1]; exact heap_old (heap_alloc2_new _ _ _) _
  have b0 : W1.cell? ⟨b, 0, none⟩ = some (.string C) := h0 _ hk1
  have CO := (show Hid _ from cO)
  have CT := (show Hid _ from cT)
  have CS := (show Hid _ from cS)
  have H0 := (show Hid _ from h0)
  have C1 := (show Hid _ from c1)
  have HK1 := (show Hid _ from hk1)
  have HKB := (show Hid _ from hK1)
  have HTB := (show Hid _ from hT1)
  clear cO cT cS h0 c1 hk1 hK1 hT1
  have B0 := (show Hid _ from b0)
  clear b0
  go_enter Tryz.func41, Tryz.ntmps41
  go_wp2_with (first | (go_at_call 62; fail))
  refine (C1.out _).mono ?_
  rintro e w1 ⟨rfl, rfl⟩
  rw [← hW1]
  clear hW1 C1
  have b0 := B0.out
  have k0 := cell_at HKB.out 0 rfl
  have k1 := cell_at HKB.out 1 rfl
  have k2 := cell_at HKB.out 2 rfl
  have t0 := cell_at HTB.out 0 rfl
  have t1 := cell_at HTB.out 1 rfl
  have t2 := cell_at HTB.out 2 rfl
  have t3 := cell_at HTB.out 3 rfl
  have t4 := cell_at HTB.out 4 rfl
  have t5 := cell_at HTB.out 5 rfl
  have t6 := cell_at HTB.out 6 rfl
  have t7 := cell_at HTB.out 7 rfl
  have t8 := cell_at HTB.out 8 rfl
  have t9 := cell_at HTB.out 9 rfl
  have t10 := cell_at HTB.out 10 rfl
  have t11 := cell_at HTB.out 11 rfl
  have t12 := cell_at HTB.out 12 rfl
  have t13 := cell_at HTB.out 13 rfl
  have t14 := cell_at HTB.out 14 rfl
  have t15 := cell_at HTB.out 15 rfl
  go_wp2_with (first | (go_at_call 25; fail))
  refine (CO.out W1 HK1.out).mono ?_
  rintro e w2 ⟨rfl, hk2⟩
  clear b0 k0 k1 k2 t0 t1 t2 t3 t4 t5 t6 t7 t8 t9 t10 t11 t12 t13 t14 t15
  obtain ⟨W2, hW2⟩ : ∃ W2, W2 = w2.alloc (Obj.cells #[.bool false, .bool false, .bool false, .bool false, .int .i64 0, .float .f64 0, .string ⟨#[]⟩, .pointer none, .pointer none, .pointer none] 75) := ⟨_, rfl⟩
  have hk2' : Kx [] W1 W2 := by rw [hW2]; exact hk2.alc _
  replace HKB : Hid (W2.heap[w.heap.size]? = some (Obj.cells #[.string nm, .int .u32 pl, .bool false] 67 (0, 0))) := hk2'.get HKB.out (by simp)
  replace HTB : Hid (W2.heap[w.heap.size + 1]? = some (Obj.cells #[.bool p0, .bool p1, .bool p2, .bool false, .int .i64 p4, .float .f64 p5, .string p6, .pointer p7, .pointer p8, .pointer p9, .bool true, .bool false, .bool false, .bool true, .bool true, .bool true] 99 (0, 0))) := hk2'.get HTB.out (by simp)
  have HPB : Hid (W2.heap[w2.heap.size]? = some (Obj.cells #[.bool false, .bool false, .bool false, .bool false, .int .i64 0, .float .f64 0, .string ⟨#[]⟩, .pointer none, .pointer none, .pointer none] 75 (0, 0))) := by rw [hW2]; exact heap_alloc_new _ _
  replace HK1 : Hid (Kx [] w W2) := (show Kx [] w W2 from HK1.out.same hk2')
  obtain ⟨B2, hB2⟩ : ∃ B2, B2 = w2.heap.size := ⟨_, rfl⟩
  rw [← hB2] at HPB
  clear hk2 hk2' CO B0
  unfold noP
  have k0 := cell_at HKB.out 0 rfl
  have k1 := cell_at HKB.out 1 rfl
  have k2 := cell_at HKB.out 2 rfl
  rw [hW2] at k0 k1 k2
  have HW2 := (show Hid _ from And.intro hW2 hB2)
  clear hW2 hB2
  go_wp2_with (first | (go_at_call 66; fail))
  rw [← HW2.out.1]
  rw [← HW2.out.2]
  clear k0 k1 k2 HW2
  refine (CT.out W2 HK1.out).mono ?_
  rintro e w3 ⟨rfl, hk3⟩
  replace HKB : Hid (w3.heap[w.heap.size]? = some (Obj.cells #[.string nm, .int .u32 pl, .bool false] 67 (0, 0))) := hk3.get HKB.out (by simp)
  replace HTB : Hid (w3.heap[w.heap.size + 1]? = some (Obj.cells #[.bool p0, .bool p1, .bool p2, .bool false, .int .i64 p4, .float .f64 p5, .string p6, .pointer p7, .pointer p8, .pointer p9, .bool true, .bool false, .bool false, .bool true, .bool true, .bool true] 99 (0, 0))) := hk3.get HTB.out (by simp)
  replace HPB : Hid (w3.heap[B2]? = some (Obj.cells #[.bool false, .bool false, .bool false, .bool false, .int .i64 0, .float .f64 0, .string ⟨#[]⟩, .pointer none, .pointer none, .pointer none] 75 (0, 0))) := hk3.get HPB.out (by simp)
  replace HK1 : Hid (Kx [] w w3) := (show Kx [] w w3 from HK1.out.same hk3)
  clear hk3 CT
  have k0 := cell_at HKB.out 0 rfl
  have k1 := cell_at HKB.out 1 rfl
  have k2 := cell_at HKB.out 2 rfl
  have t0 := cell_at HTB.out 0 rfl
  have t1 := cell_at HTB.out 1 rfl
  have t2 := cell_at HTB.out 2 rfl
  have t3 := cell_at HTB.out 3 rfl
  have t4 := cell_at HTB.out 4 rfl
  have t5 := cell_at HTB.out 5 rfl
  have t6 := cell_at HTB.out 6 rfl
  have t7 := cell_at HTB.out 7 rfl
  have t8 := cell_at HTB.out 8 rfl
  have t9 := cell_at HTB.out 9 rfl
  have t10 := cell_at HTB.out 10 rfl
  have t11 := cell_at HTB.out 11 rfl
  have t12 := cell_at HTB.out 12 rfl
  have t13 := cell_at HTB.out 13 rfl
  have t14 := cell_at HTB.out 14 rfl
  have t15 := cell_at HTB.out 15 rfl
  have z0 := cell_at HPB.out 0 rfl
  have z1 := cell_at HPB.out 1 rfl
  have z2 := cell_at HPB.out 2 rfl
  have z3 := cell_at HPB.out 3 rfl
  have z4 := cell_at HPB.out 4 rfl
  have z5 := cell_at HPB.out 5 rfl
  have z6 := cell_at HPB.out 6 rfl
  have z7 := cell_at HPB.out 7 rfl
  have z8 := cell_at HPB.out 8 rfl
  have z9 := cell_at HPB.out 9 rfl
  have CW := (show Hid _ from with_all false false false p0 p1 p2 false 0 p4 0 p5 ⟨#[]⟩ p6 none none none p7 p8 p9)
  go_wp2_with (first | (go_at_call 67; fail) | (go_at_call 57; fail))
  go_region_law (first | (go_simp; go_at_call 67; refine (CW.out _).mono ?_; rintro e w4 ⟨rfl, hk4⟩; have HKC : Hid (w4.heap[w.heap.size]? = some (Obj.cells #[.string nm, .int .u32 pl, .bool false] 67 (0, 0))) := hk4.get HKB.out (by simp); have y0 := cell_at HKC.out 0 rfl; have y1 := cell_at HKC.out 1 rfl; have y2 := cell_at HKC.out 2 rfl; have HK4 : Hid (Kx [] w w4) := (show Kx [] w w4 from (HK1.out.drw1).same hk4)) | (go_simp; go_at_call 57; refine (CS.out _ HK4.out).mono ?_; rintro e w5 ⟨⟨u, rfl⟩, h05, hR5⟩))
  all_goals have HR5 : Hid (R w5) := hR5
  all_goals clear hR5 hk4 CS CW HK1 HK4 HKB HTB HPB y0 y1 y2
  all_goals have c68 := length_no b C w5 h05 hC
  all_goals clear k0 k1 k2 t0 t1 t2 t3 t4 t5 t6 t7 t8 t9 t10 t11 t12 t13 t14 t15 z0 z1 z2 z3 z4 z5 z6 z7 z8 z9 H0 hC h05
  all_goals
    go_wp2_with (first | (go_at_call 68; refine c68.mono ?_; rintro e w6 ⟨rfl, rfl⟩))
    go_ret
    exact ⟨rfl, _, 0, HR5.out, rfl⟩
end Go.Proofs.YtdnjgemaenhcfaaGreatDoor
/- Object.Own, where the name is not there. -/
set_option linter.unusedVariables false
namespace Go.Proofs.YtdnjgemaenhcfaaGreatDoor
open Go.RowKit Go.Shelf Go.Maps

attribute [local go_sem] run_store_flt
set_option maxRecDepth 100000 in
set_option maxHeartbeats 2000000 in
theorem own_no (b S : Nat) (nm : ByteArray) (n i : Int) (w : World) (h5 : w.cell? ⟨b, 5, none⟩ = some (.pointer (some ⟨S, 0, none⟩)))
    (cf : ∀ W, Kx [] w W → Calls Tryz.prog 49 #[.pointer (some ⟨S, 0, none⟩), .string nm] W fun e w' => e = .returned (.tuple #[.int .i64 i, .bool false]) ∧ ∃ q, w' = W.drewN q) :
    Calls Tryz.prog 25 #[.pointer (some ⟨b, 0, none⟩), .agg #[.string nm, .int .u32 n, .bool false]] w fun e w' => e = .returned (.tuple #[noP, .bool false]) ∧ Kx [] w w' := by
  obtain ⟨W0, hW0⟩ : ∃ W0, W0 = (w.alloc (Obj.cells #[.string nm, .int .u32 n, .bool false] 67)).alloc (Obj.cells #[.bool false, .bool false, .bool false, .bool false, .int .i64 0, .float .f64 0, .string ⟨#[]⟩, .pointer none, .pointer none, .pointer none] 75) := ⟨_, rfl⟩
  have h5' : W0.cell? ⟨b, 5, none⟩ = some (.pointer (some ⟨S, 0, none⟩)) := by
    have e : (w.alloc (Obj.cells #[.string nm, .int .u32 n, .bool false] 67)).cell? ⟨b, 5, none⟩ = some (.pointer (some ⟨S, 0, none⟩)) := by rw [World.cell?_alloc_some _ _ _ (by rw [h5]; rfl)]; exact h5
    rw [hW0, World.cell?_alloc_some _ _ _ (by rw [e]; rfl)]; exact e
  have k2 : W0.cell? ⟨w.heap.size, 2, none⟩ = some (.bool false) := by
    have h := heap_old (heap_alloc_new w (Obj.cells #[.string nm, .int .u32 n, .bool false] 67)) (Obj.cells #[.bool false, .bool false, .bool false, .bool false, .int .i64 0, .float .f64 0, .string ⟨#[]⟩, .pointer none, .pointer none, .pointer none] 75)
    rw [← hW0] at h
    simp [World.cell?, h]
  have k0 : W0.cell? ⟨w.heap.size, 0, none⟩ = some (.string nm) := by
    have h := heap_old (heap_alloc_new w (Obj.cells #[.string nm, .int .u32 n, .bool false] 67)) (Obj.cells #[.bool false, .bool false, .bool false, .bool false, .int .i64 0, .float .f64 0, .string ⟨#[]⟩, .pointer none, .pointer none, .pointer none] 75)
    rw [← hW0] at h
    simp [World.cell?, h]
  have hk : Kx [] w W0 := by rw [hW0]; exact (show Kx [] w _ from (Kx.alloc _ _ _).alc _)
  have hR : W0.heap[w.heap.size + 1]? = some (Obj.cells #[.bool false, .bool false, .bool false, .bool false, .int .i64 0, .float .f64 0, .string ⟨#[]⟩, .pointer none, .pointer none, .pointer none] 75 (0, 0)) := by rw [hW0]; exact heap_alloc2_new _ _ _
  have HR := (show Hid _ from hR)
  have HK := (show Hid _ from hk)
  have CF := (show Hid _ from cf)
  unfold noP at *
  rw [hW0] at k0 k2 h5'
  clear h5 hR hk cf
  go_enter Tryz.func25, Tryz.ntmps25
  go_wp2
  rw [← hW0] at k0 k2 h5' ⊢
  clear hW0
  go_quiet (first | (go_at_call 49; exact Calls.quiet_of (CF.out _ (HK.out.drw _))))
  have hR : (W0.drewN nq).heap[w.heap.size + 1]? = some (Obj.cells #[.bool false, .bool false, .bool false, .bool false, .int .i64 0, .float .f64 0, .string ⟨#[]⟩, .pointer none, .pointer none, .pointer none] 75 (0, 0)) := HR.out
  have HK1 : Hid (Kx [] w (W0.drewN nq)) := (show Kx [] w (W0.drewN nq) from HK.out.drw nq)
  clear HR HK CF k0 k2 h5'
  obtain ⟨w1, hw1⟩ : ∃ w1, w1 = W0.drewN nq := ⟨_, rfl⟩
  rw [← hw1] at hR HK1 ⊢
  clear hw1
  have cR0 : w1.cell? ⟨w.heap.size + 1, 0, none⟩ = some (.bool false) := by simp [World.cell?, hR]
  have fR0 : w1.frozen? ⟨w.heap.size + 1, 0, none⟩ = false := by simp [World.frozen?, hR]
  have cR1 : w1.cell? ⟨w.heap.size + 1, 1, none⟩ = some (.bool false) := by simp [World.cell?, hR]
  have fR1 : w1.frozen? ⟨w.heap.size + 1, 1, none⟩ = false := by simp [World.frozen?, hR]
  have cR2 : w1.cell? ⟨w.heap.size + 1, 2, none⟩ = some (.bool false) := by simp [World.cell?, hR]
  have fR2 : w1.frozen? ⟨w.heap.size + 1, 2, none⟩ = false := by simp [World.frozen?, hR]
  have cR3 : w1.cell? ⟨w.heap.size + 1, 3, none⟩ = some (.bool false) := by simp [World.cell?, hR]
  have fR3 : w1.frozen? ⟨w.heap.size + 1, 3, none⟩ = false := by simp [World.frozen?, hR]
  have cR4 : w1.cell? ⟨w.heap.size + 1, 4, none⟩ = some (.int .i64 0) := by simp [World.cell?, hR]
  have fR4 : w1.frozen? ⟨w.heap.size + 1, 4, none⟩ = false := by simp [World.frozen?, hR]
  have cR5 : w1.cell? ⟨w.heap.size + 1, 5, none⟩ = some (.float .f64 0) := by simp [World.cell?, hR]
  have fR5 : w1.frozen? ⟨w.heap.size + 1, 5, none⟩ = false := by simp [World.frozen?, hR]
  have cR6 : w1.cell? ⟨w.heap.size + 1, 6, none⟩ = some (.string ⟨#[]⟩) := by simp [World.cell?, hR]
  have fR6 : w1.frozen? ⟨w.heap.size + 1, 6, none⟩ = false := by simp [World.frozen?, hR]
  have cR7 : w1.cell? ⟨w.heap.size + 1, 7, none⟩ = some (.pointer none) := by simp [World.cell?, hR]
  have fR7 : w1.frozen? ⟨w.heap.size + 1, 7, none⟩ = false := by simp [World.frozen?, hR]
  have cR8 : w1.cell? ⟨w.heap.size + 1, 8, none⟩ = some (.pointer none) := by simp [World.cell?, hR]
  have fR8 : w1.frozen? ⟨w.heap.size + 1, 8, none⟩ = false := by simp [World.frozen?, hR]
  have cR9 : w1.cell? ⟨w.heap.size + 1, 9, none⟩ = some (.pointer none) := by simp [World.cell?, hR]
  have fR9 : w1.frozen? ⟨w.heap.size + 1, 9, none⟩ = false := by simp [World.frozen?, hR]
  have HR := (show Hid _ from hR)
  clear hR
  go_wp2
  have r1 := heap_set_at (C' := #[.bool false, .bool false, .bool false, .bool false, .int .i64 0, .float .f64 0, .string ⟨#[]⟩, .pointer none, .pointer none, .pointer none]) HR.out 0 (.bool false) rfl
  have r2 := heap_set_at (C' := #[.bool false, .bool false, .bool false, .bool false, .int .i64 0, .float .f64 0, .string ⟨#[]⟩, .pointer none, .pointer none, .pointer none]) r1 1 (.bool false) rfl
  have r3 := heap_set_at (C' := #[.bool false, .bool false, .bool false, .bool false, .int .i64 0, .float .f64 0, .string ⟨#[]⟩, .pointer none, .pointer none, .pointer none]) r2 2 (.bool false) rfl
  have r4 := heap_set_at (C' := #[.bool false, .bool false, .bool false, .bool false, .int .i64 0, .float .f64 0, .string ⟨#[]⟩, .pointer none, .pointer none, .pointer none]) r3 3 (.bool false) rfl
  have r5 := heap_set_at (C' := #[.bool false, .bool false, .bool false, .bool false, .int .i64 0, .float .f64 0, .string ⟨#[]⟩, .pointer none, .pointer none, .pointer none]) r4 4 (.int .i64 0) rfl
  have r6 := heap_set_at (C' := #[.bool false, .bool false, .bool false, .bool false, .int .i64 0, .float .f64 0, .string ⟨#[]⟩, .pointer none, .pointer none, .pointer none]) r5 5 (.float .f64 0) rfl
  have r7 := heap_set_at (C' := #[.bool false, .bool false, .bool false, .bool false, .int .i64 0, .float .f64 0, .string ⟨#[]⟩, .pointer none, .pointer none, .pointer none]) r6 6 (.string ⟨#[]⟩) rfl
  have r8 := heap_set_at (C' := #[.bool false, .bool false, .bool false, .bool false, .int .i64 0, .float .f64 0, .string ⟨#[]⟩, .pointer none, .pointer none, .pointer none]) r7 7 (.pointer none) rfl
  have r9 := heap_set_at (C' := #[.bool false, .bool false, .bool false, .bool false, .int .i64 0, .float .f64 0, .string ⟨#[]⟩, .pointer none, .pointer none, .pointer none]) r8 8 (.pointer none) rfl
  have r10 := heap_set_at (C' := #[.bool false, .bool false, .bool false, .bool false, .int .i64 0, .float .f64 0, .string ⟨#[]⟩, .pointer none, .pointer none, .pointer none]) r9 9 (.pointer none) rfl
  clear r1 r2 r3 r4 r5 r6 r7 r8 r9
  refine bodyPost_ret (results_row_tmp rfl _ _ (w.heap.size + 1) 75 _ (0, 0) _ rfl r10 Tryz.underlying75 rfl (by kernel_rfl) _ rfl) rfl ?_
  exact ⟨rfl, HK1.out.trans (((((((((((Kx.refl [w.heap.size + 1] w1).set (by simp) _).set (by simp) _).set (by simp) _).set (by simp) _).set (by simp) _).set (by simp) _).set (by simp) _).set (by simp) _).set (by simp) _).set (by simp) _) (fun i hi => .inr (by simp at hi; omega))⟩
end Go.Proofs.YtdnjgemaenhcfaaGreatDoor
/- Object.Own, where the name is there. -/
set_option linter.unusedVariables false
namespace Go.Proofs.YtdnjgemaenhcfaaGreatDoor
open Go.RowKit Go.Shelf Go.Maps

attribute [local go_sem] run_store_flt
set_option maxRecDepth 100000 in
set_option maxHeartbeats 2000000 in
theorem own_yes (b S i m cap g : Nat) (hi : i < m) (hm : m ≤ 1000) (p0 p1 p2 p3 : Bool) (p4 : Int) (p5 : Nat) (p6 : ByteArray) (p7 p8 p9 : Option Addr) (nm : ByteArray) (n : Int) (w : World) (h6 : w.cell? ⟨b, 6, none⟩ = some (.slice (some ⟨g, 0, none⟩) m cap))
    (e0 : w.cell? ⟨g, i * 10, none⟩ = some (.bool p0))
    (e1 : w.cell? ⟨g, i * 10 + 1, none⟩ = some (.bool p1))
    (e2 : w.cell? ⟨g, i * 10 + 2, none⟩ = some (.bool p2))
    (e3 : w.cell? ⟨g, i * 10 + 3, none⟩ = some (.bool p3))
    (e4 : w.cell? ⟨g, i * 10 + 4, none⟩ = some (.int .i64 p4))
    (e5 : w.cell? ⟨g, i * 10 + 5, none⟩ = some (.float .f64 p5))
    (e6 : w.cell? ⟨g, i * 10 + 6, none⟩ = some (.string p6))
    (e7 : w.cell? ⟨g, i * 10 + 7, none⟩ = some (.pointer p7))
    (e8 : w.cell? ⟨g, i * 10 + 8, none⟩ = some (.pointer p8))
    (e9 : w.cell? ⟨g, i * 10 + 9, none⟩ = some (.pointer p9))
    (h5 : w.cell? ⟨b, 5, none⟩ = some (.pointer (some ⟨S, 0, none⟩)))
    (cf : ∀ W, Kx [] w W → Calls Tryz.prog 49 #[.pointer (some ⟨S, 0, none⟩), .string nm] W fun e w' => e = .returned (.tuple #[.int .i64 (i : Int), .bool true]) ∧ ∃ q, w' = W.drewN q) :
    Calls Tryz.prog 25 #[.pointer (some ⟨b, 0, none⟩), .agg #[.string nm, .int .u32 n, .bool false]] w fun e w' => e = .returned (.tuple #[.agg #[.bool p0, .bool p1, .bool p2, .bool p3, .int .i64 p4, .float .f64 p5, .string p6, .pointer p7, .pointer p8, .pointer p9], .bool true]) ∧ Kx [] w w' := by
  obtain ⟨W0, hW0⟩ : ∃ W0, W0 = (w.alloc (Obj.cells #[.string nm, .int .u32 n, .bool false] 67)).alloc (Obj.cells #[.bool false, .bool false, .bool false, .bool false, .int .i64 0, .float .f64 0, .string ⟨#[]⟩, .pointer none, .pointer none, .pointer none] 75) := ⟨_, rfl⟩
  have h5' : W0.cell? ⟨b, 5, none⟩ = some (.pointer (some ⟨S, 0, none⟩)) := by
    have e : (w.alloc (Obj.cells #[.string nm, .int .u32 n, .bool false] 67)).cell? ⟨b, 5, none⟩ = some (.pointer (some ⟨S, 0, none⟩)) := by rw [World.cell?_alloc_some _ _ _ (by rw [h5]; rfl)]; exact h5
    rw [hW0, World.cell?_alloc_some _ _ _ (by rw [e]; rfl)]; exact e
  have hold : ∀ (x : Addr) (v : Value), w.cell? x = some v → W0.cell? x = some v := fun x v h => by
    have e : (w.alloc (Obj.cells #[.string nm, .int .u32 n, .bool false] 67)).cell? x = some v := by rw [World.cell?_alloc_some _ _ _ (by rw [h]; rfl)]; exact h
    rw [hW0, World.cell?_alloc_some _ _ _ (by rw [e]; rfl)]; exact e
  have h6' := hold _ _ h6
  have e0' := hold _ _ e0
  have e1' := hold _ _ e1
  have e2' := hold _ _ e2
  have e3' := hold _ _ e3
  have e4' := hold _ _ e4
  have e5' := hold _ _ e5
  have e6' := hold _ _ e6
  have e7' := hold _ _ e7
  have e8' := hold _ _ e8
  have e9' := hold _ _ e9
  have k2 : W0.cell? ⟨w.heap.size, 2, none⟩ = some (.bool false) := by
    have h := heap_old (heap_alloc_new w (Obj.cells #[.string nm, .int .u32 n, .bool false] 67)) (Obj.cells #[.bool false, .bool false, .bool false, .bool false, .int .i64 0, .float .f64 0, .string ⟨#[]⟩, .pointer none, .pointer none, .pointer none] 75)
    rw [← hW0] at h
    simp [World.cell?, h]
  have k0 : W0.cell? ⟨w.heap.size, 0, none⟩ = some (.string nm) := by
    have h := heap_old (heap_alloc_new w (Obj.cells #[.string nm, .int .u32 n, .bool false] 67)) (Obj.cells #[.bool false, .bool false, .bool false, .bool false, .int .i64 0, .float .f64 0, .string ⟨#[]⟩, .pointer none, .pointer none, .pointer none] 75)
    rw [← hW0] at h
    simp [World.cell?, h]
  have hk : Kx [] w W0 := by rw [hW0]; exact (show Kx [] w _ from (Kx.alloc _ _ _).alc _)
  have hR : W0.heap[w.heap.size + 1]? = some (Obj.cells #[.bool false, .bool false, .bool false, .bool false, .int .i64 0, .float .f64 0, .string ⟨#[]⟩, .pointer none, .pointer none, .pointer none] 75 (0, 0)) := by rw [hW0]; exact heap_alloc2_new _ _ _
  have HR := (show Hid _ from hR)
  have HK := (show Hid _ from hk)
  have CF := (show Hid _ from cf)
  unfold noP at *
  rw [hW0] at k0 k2 h5'
  have HE := (show Hid _ from And.intro h6' (And.intro e0' (And.intro e1' (And.intro e2' (And.intro e3' (And.intro e4' (And.intro e5' (And.intro e6' (And.intro e7' (And.intro e8' e9'))))))))))
  clear h5 hR hk cf hold h6 e0 e1 e2 e3 e4 e5 e6 e7 e8 e9 h6' e0' e1' e2' e3' e4' e5' e6' e7' e8' e9'
  go_enter Tryz.func25, Tryz.ntmps25
  go_wp2
  rw [← hW0] at k0 k2 h5' ⊢
  clear hW0
  go_quiet (first | (go_at_call 49; exact Calls.quiet_of (CF.out _ (HK.out.drw _))))
  have hR : (W0.drewN nq).heap[w.heap.size + 1]? = some (Obj.cells #[.bool false, .bool false, .bool false, .bool false, .int .i64 0, .float .f64 0, .string ⟨#[]⟩, .pointer none, .pointer none, .pointer none] 75 (0, 0)) := HR.out
  have HK1 : Hid (Kx [] w (W0.drewN nq)) := (show Kx [] w (W0.drewN nq) from HK.out.drw nq)
  have HE1 : Hid ((W0.drewN nq).cell? ⟨b, 6, none⟩ = some (.slice (some ⟨g, 0, none⟩) m cap) ∧ (W0.drewN nq).cell? ⟨g, i * 10, none⟩ = some (.bool p0) ∧ (W0.drewN nq).cell? ⟨g, i * 10 + 1, none⟩ = some (.bool p1) ∧ (W0.drewN nq).cell? ⟨g, i * 10 + 2, none⟩ = some (.bool p2) ∧ (W0.drewN nq).cell? ⟨g, i * 10 + 3, none⟩ = some (.bool p3) ∧ (W0.drewN nq).cell? ⟨g, i * 10 + 4, none⟩ = some (.int .i64 p4) ∧ (W0.drewN nq).cell? ⟨g, i * 10 + 5, none⟩ = some (.float .f64 p5) ∧ (W0.drewN nq).cell? ⟨g, i * 10 + 6, none⟩ = some (.string p6) ∧ (W0.drewN nq).cell? ⟨g, i * 10 + 7, none⟩ = some (.pointer p7) ∧ (W0.drewN nq).cell? ⟨g, i * 10 + 8, none⟩ = some (.pointer p8) ∧ (W0.drewN nq).cell? ⟨g, i * 10 + 9, none⟩ = some (.pointer p9)) := HE
  clear HR HK CF k0 k2 h5' HE
  obtain ⟨w1, hw1⟩ : ∃ w1, w1 = W0.drewN nq := ⟨_, rfl⟩
  rw [← hw1] at hR HK1 HE1 ⊢
  clear hw1
  have cR0 : w1.cell? ⟨w.heap.size + 1, 0, none⟩ = some (.bool false) := by simp [World.cell?, hR]
  have fR0 : w1.frozen? ⟨w.heap.size + 1, 0, none⟩ = false := by simp [World.frozen?, hR]
  have cR1 : w1.cell? ⟨w.heap.size + 1, 1, none⟩ = some (.bool false) := by simp [World.cell?, hR]
  have fR1 : w1.frozen? ⟨w.heap.size + 1, 1, none⟩ = false := by simp [World.frozen?, hR]
  have cR2 : w1.cell? ⟨w.heap.size + 1, 2, none⟩ = some (.bool false) := by simp [World.cell?, hR]
  have fR2 : w1.frozen? ⟨w.heap.size + 1, 2, none⟩ = false := by simp [World.frozen?, hR]
  have cR3 : w1.cell? ⟨w.heap.size + 1, 3, none⟩ = some (.bool false) := by simp [World.cell?, hR]
  have fR3 : w1.frozen? ⟨w.heap.size + 1, 3, none⟩ = false := by simp [World.frozen?, hR]
  have cR4 : w1.cell? ⟨w.heap.size + 1, 4, none⟩ = some (.int .i64 0) := by simp [World.cell?, hR]
  have fR4 : w1.frozen? ⟨w.heap.size + 1, 4, none⟩ = false := by simp [World.frozen?, hR]
  have cR5 : w1.cell? ⟨w.heap.size + 1, 5, none⟩ = some (.float .f64 0) := by simp [World.cell?, hR]
  have fR5 : w1.frozen? ⟨w.heap.size + 1, 5, none⟩ = false := by simp [World.frozen?, hR]
  have cR6 : w1.cell? ⟨w.heap.size + 1, 6, none⟩ = some (.string ⟨#[]⟩) := by simp [World.cell?, hR]
  have fR6 : w1.frozen? ⟨w.heap.size + 1, 6, none⟩ = false := by simp [World.frozen?, hR]
  have cR7 : w1.cell? ⟨w.heap.size + 1, 7, none⟩ = some (.pointer none) := by simp [World.cell?, hR]
  have fR7 : w1.frozen? ⟨w.heap.size + 1, 7, none⟩ = false := by simp [World.frozen?, hR]
  have cR8 : w1.cell? ⟨w.heap.size + 1, 8, none⟩ = some (.pointer none) := by simp [World.cell?, hR]
  have fR8 : w1.frozen? ⟨w.heap.size + 1, 8, none⟩ = false := by simp [World.frozen?, hR]
  have cR9 : w1.cell? ⟨w.heap.size + 1, 9, none⟩ = some (.pointer none) := by simp [World.cell?, hR]
  have fR9 : w1.frozen? ⟨w.heap.size + 1, 9, none⟩ = false := by simp [World.frozen?, hR]
  obtain ⟨h6, e0, e1, e2, e3, e4, e5, e6, e7, e8, e9⟩ := HE1.out
  clear HE1
  have HR := (show Hid _ from hR)
  clear hR
  go_wp2
  have r1 := heap_set_at (C' := #[.bool p0, .bool false, .bool false, .bool false, .int .i64 0, .float .f64 0, .string ⟨#[]⟩, .pointer none, .pointer none, .pointer none]) HR.out 0 (.bool p0) rfl
  have r2 := heap_set_at (C' := #[.bool p0, .bool p1, .bool false, .bool false, .int .i64 0, .float .f64 0, .string ⟨#[]⟩, .pointer none, .pointer none, .pointer none]) r1 1 (.bool p1) rfl
  have r3 := heap_set_at (C' := #[.bool p0, .bool p1, .bool p2, .bool false, .int .i64 0, .float .f64 0, .string ⟨#[]⟩, .pointer none, .pointer none, .pointer none]) r2 2 (.bool p2) rfl
  have r4 := heap_set_at (C' := #[.bool p0, .bool p1, .bool p2, .bool p3, .int .i64 0, .float .f64 0, .string ⟨#[]⟩, .pointer none, .pointer none, .pointer none]) r3 3 (.bool p3) rfl
  have r5 := heap_set_at (C' := #[.bool p0, .bool p1, .bool p2, .bool p3, .int .i64 p4, .float .f64 0, .string ⟨#[]⟩, .pointer none, .pointer none, .pointer none]) r4 4 (.int .i64 p4) rfl
  have r6 := heap_set_at (C' := #[.bool p0, .bool p1, .bool p2, .bool p3, .int .i64 p4, .float .f64 p5, .string ⟨#[]⟩, .pointer none, .pointer none, .pointer none]) r5 5 (.float .f64 p5) rfl
  have r7 := heap_set_at (C' := #[.bool p0, .bool p1, .bool p2, .bool p3, .int .i64 p4, .float .f64 p5, .string p6, .pointer none, .pointer none, .pointer none]) r6 6 (.string p6) rfl
  have r8 := heap_set_at (C' := #[.bool p0, .bool p1, .bool p2, .bool p3, .int .i64 p4, .float .f64 p5, .string p6, .pointer p7, .pointer none, .pointer none]) r7 7 (.pointer p7) rfl
  have r9 := heap_set_at (C' := #[.bool p0, .bool p1, .bool p2, .bool p3, .int .i64 p4, .float .f64 p5, .string p6, .pointer p7, .pointer p8, .pointer none]) r8 8 (.pointer p8) rfl
  have r10 := heap_set_at (C' := #[.bool p0, .bool p1, .bool p2, .bool p3, .int .i64 p4, .float .f64 p5, .string p6, .pointer p7, .pointer p8, .pointer p9]) r9 9 (.pointer p9) rfl
  clear r1 r2 r3 r4 r5 r6 r7 r8 r9
  refine bodyPost_ret (results_row_tmp rfl _ _ (w.heap.size + 1) 75 _ (0, 0) _ rfl r10 Tryz.underlying75 rfl (by kernel_rfl) _ rfl) rfl ?_
  exact ⟨rfl, HK1.out.trans (((((((((((Kx.refl [w.heap.size + 1] w1).set (by simp) _).set (by simp) _).set (by simp) _).set (by simp) _).set (by simp) _).set (by simp) _).set (by simp) _).set (by simp) _).set (by simp) _).set (by simp) _) (fun i hi => .inr (by simp at hi; omega))⟩
end Go.Proofs.YtdnjgemaenhcfaaGreatDoor
