/- The face's Own. -/
import Derived.Test.YtdnjgemaenhcfaaGreatDoorCHq7x
import Derived.Deep.RegionLaw
import Derived.Test.YtdnjgemaenhcfaaGreatDoorCHt2x
import Derived.Test.YtdnjgemaenhcfaaGreatDoorCHn1x
import Derived.Test.YtdnjgemaenhcfaaGreatDoorCHu3x
set_option linter.unusedVariables false
namespace Go.Proofs.YtdnjgemaenhcfaaGreatDoor
open Go.RowKit Go.Shelf Go.Maps
attribute [local go_sem] run_store_flt
set_option maxRecDepth 100000 in
set_option maxHeartbeats 2000000 in
theorem ownF_yes (O H b : Nat) (l : List Nat) (r : Int) (s nm : ByteArray) (pl : Int) (isP : Bool) (p0 p1 p2 : Bool) (k : Int) (x : Nat) (tx : ByteArray) (p8 p9 : Option Addr) (w : World)
    (hO : w.cell? ⟨O, 0, none⟩ = some (.pointer (some ⟨H, 0, none⟩))) (hH : Objs w H l) (hr1 : 1 ≤ r) (hr : l[(r - 1).toNat]? = some b)
    (cK : ∀ W, Kx [] w W → Calls Tryz.prog 26 #[.string s] W fun e w' => e = .returned (.agg #[.string nm, .int .u32 pl, .bool isP]) ∧ Kx [] W w')
    (cO : ∀ W, Kx [] w W → Calls Tryz.prog 25 #[.pointer (some ⟨b, 0, none⟩), .agg #[.string nm, .int .u32 pl, .bool isP]] W fun e w' => e = .returned (.tuple #[.agg #[.bool p0, .bool p1, .bool p2, .bool false, .int .i64 k, .float .f64 x, .string tx, .pointer none, .pointer p8, .pointer p9], .bool true]) ∧ Kx [] W w') :
    Calls Tryz.prog 10 #[.pointer (some ⟨O, 0, none⟩), .int .i64 r, .string s] w fun e w' => e = .returned (.tuple #[.agg #[.bool true, .bool false, .bool false, .bool true, .bool true, .bool true, .int .i64 k, .float .f64 x, .string tx, .int .i64 0, .int .i64 0, .int .i64 0, .bool p0, .bool p1, .bool p2], .bool true]) ∧ Kx [] w w' := by
  obtain ⟨W0, hW0⟩ : ∃ W0, W0 = w.alloc (Obj.cells #[.bool false, .bool false, .bool false, .bool false, .bool false, .bool false, .int .i64 0, .float .f64 0, .string ⟨#[]⟩, .int .i64 0, .int .i64 0, .int .i64 0, .bool false, .bool false, .bool false] 34) := ⟨_, rfl⟩
  have hk0 : Kx [] w W0 := by rw [hW0]; exact Kx.alloc _ _ _
  have hR0 : W0.heap[w.heap.size]? = some (Obj.cells #[.bool false, .bool false, .bool false, .bool false, .bool false, .bool false, .int .i64 0, .float .f64 0, .string ⟨#[]⟩, .int .i64 0, .int .i64 0, .int .i64 0, .bool false, .bool false, .bool false] 34 (0, 0)) := by rw [hW0]; exact heap_alloc_new _ _
  have o0 : W0.cell? ⟨O, 0, none⟩ = some (.pointer (some ⟨H, 0, none⟩)) := hk0.cell hO (by simp)
  have c1 := numbered_any H l r W0 (hH.kept hk0)
  rw [objP_hit hr1 hr] at c1
  have CK := (show Hid _ from cK)
  have CO := (show Hid _ from cO)
  have HK0 : Hid (Kx [] w W0) := (show Kx [] w W0 from hk0)
  have HR0 := (show Hid _ from hR0)
  clear cK cO hH hO hr1 hr hk0 hR0
  rw [hW0] at o0

  go_enter Tryz.func10, Tryz.ntmps10
  go_wp2_with (first | (go_at_call 21; fail))
  rw [← hW0]
  clear hW0 o0
  refine c1.mono ?_
  rintro e w1 ⟨rfl, rfl⟩
  go_wp2_with (first | (go_at_call 26; fail))
  refine (CK.out _ HK0.out).mono ?_
  rintro e w2 ⟨rfl, hk2⟩
  have HK2 : Hid (Kx [] w w2) := (show Kx [] w w2 from HK0.out.same hk2)
  replace HR0 : Hid (w2.heap[w.heap.size]? = some (Obj.cells #[.bool false, .bool false, .bool false, .bool false, .bool false, .bool false, .int .i64 0, .float .f64 0, .string ⟨#[]⟩, .int .i64 0, .int .i64 0, .int .i64 0, .bool false, .bool false, .bool false] 34 (0, 0))) := hk2.get HR0.out (by simp)
  clear hk2 CK HK0 c1
  go_wp2_with (first | (go_at_call 25; fail))
  refine (CO.out _ HK2.out).mono ?_
  rintro e w3 ⟨rfl, hk3⟩
  have HK3 : Hid (Kx [] w w3) := (show Kx [] w w3 from HK2.out.same hk3)
  replace HR0 : Hid (w3.heap[w.heap.size]? = some (Obj.cells #[.bool false, .bool false, .bool false, .bool false, .bool false, .bool false, .int .i64 0, .float .f64 0, .string ⟨#[]⟩, .int .i64 0, .int .i64 0, .int .i64 0, .bool false, .bool false, .bool false] 34 (0, 0))) := hk3.get HR0.out (by simp)
  clear hk3 CO HK2
  obtain ⟨W4, hW4⟩ : ∃ W4, W4 = w3.alloc (Obj.cells #[.bool p0, .bool p1, .bool p2, .bool false, .int .i64 k, .float .f64 x, .string tx, .pointer none, .pointer p8, .pointer p9] 75) := ⟨_, rfl⟩
  have HK4 : Hid (Kx [] w W4) := by rw [hW4]; exact (show Kx [] w _ from HK3.out.alc _)
  have HR4 : Hid (W4.heap[w.heap.size]? = some (Obj.cells #[.bool false, .bool false, .bool false, .bool false, .bool false, .bool false, .int .i64 0, .float .f64 0, .string ⟨#[]⟩, .int .i64 0, .int .i64 0, .int .i64 0, .bool false, .bool false, .bool false] 34 (0, 0))) := by rw [hW4]; exact heap_old HR0.out _
  have HP4 : Hid (W4.heap[w3.heap.size]? = some (Obj.cells #[.bool p0, .bool p1, .bool p2, .bool false, .int .i64 k, .float .f64 x, .string tx, .pointer none, .pointer p8, .pointer p9] 75 (0, 0))) := by rw [hW4]; exact heap_alloc_new _ _
  clear HK3 HR0

  have z0 := cell_at HP4.out 0 rfl
  have z1 := cell_at HP4.out 1 rfl
  have z2 := cell_at HP4.out 2 rfl
  have z3 := cell_at HP4.out 3 rfl
  have z4 := cell_at HP4.out 4 rfl
  have z5 := cell_at HP4.out 5 rfl
  have z6 := cell_at HP4.out 6 rfl
  have z7 := cell_at HP4.out 7 rfl
  have z8 := cell_at HP4.out 8 rfl
  have z9 := cell_at HP4.out 9 rfl
  rw [hW4] at z0 z1 z2 z3 z4 z5 z6 z7 z8 z9
  go_wp2_with (first | (go_at_call 27; fail))
  rw [← hW4]
  clear hW4 z0 z1 z2 z3 z4 z5 z6 z7 z8 z9
  refine (descOf_val p0 p1 p2 k x tx p8 p9 W4).mono ?_
  rintro e w5 ⟨rfl, hk5⟩
  have HR5 : Hid (w5.heap[w.heap.size]? = some (Obj.cells #[.bool false, .bool false, .bool false, .bool false, .bool false, .bool false, .int .i64 0, .float .f64 0, .string ⟨#[]⟩, .int .i64 0, .int .i64 0, .int .i64 0, .bool false, .bool false, .bool false] 34 (0, 0))) := hk5.get HR4.out (by simp)
  have HK5 : Hid (Kx [] w w5) := (show Kx [] w w5 from HK4.out.same hk5)
  clear hk5 HK4 HR4 HP4
  have q0 := cell_at HR5.out 0 rfl
  have q1 := cell_at HR5.out 1 rfl
  have q2 := cell_at HR5.out 2 rfl
  have q3 := cell_at HR5.out 3 rfl
  have q4 := cell_at HR5.out 4 rfl
  have q5 := cell_at HR5.out 5 rfl
  have q6 := cell_at HR5.out 6 rfl
  have q7 := cell_at HR5.out 7 rfl
  have q8 := cell_at HR5.out 8 rfl
  have q9 := cell_at HR5.out 9 rfl
  have q10 := cell_at HR5.out 10 rfl
  have q11 := cell_at HR5.out 11 rfl
  have q12 := cell_at HR5.out 12 rfl
  have q13 := cell_at HR5.out 13 rfl
  have q14 := cell_at HR5.out 14 rfl
  have hf := fr_all HR5.out
  go_wp2
  have r0 := heap_set_at (C' := #[.bool true, .bool false, .bool false, .bool false, .bool false, .bool false, .int .i64 0, .float .f64 0, .string ⟨#[]⟩, .int .i64 0, .int .i64 0, .int .i64 0, .bool false, .bool false, .bool false]) HR5.out 0 (.bool true) rfl
  have r1 := heap_set_at (C' := #[.bool true, .bool false, .bool false, .bool false, .bool false, .bool false, .int .i64 0, .float .f64 0, .string ⟨#[]⟩, .int .i64 0, .int .i64 0, .int .i64 0, .bool false, .bool false, .bool false]) r0 1 (.bool false) rfl
  have r2 := heap_set_at (C' := #[.bool true, .bool false, .bool false, .bool false, .bool false, .bool false, .int .i64 0, .float .f64 0, .string ⟨#[]⟩, .int .i64 0, .int .i64 0, .int .i64 0, .bool false, .bool false, .bool false]) r1 2 (.bool false) rfl
  have r3 := heap_set_at (C' := #[.bool true, .bool false, .bool false, .bool true, .bool false, .bool false, .int .i64 0, .float .f64 0, .string ⟨#[]⟩, .int .i64 0, .int .i64 0, .int .i64 0, .bool false, .bool false, .bool false]) r2 3 (.bool true) rfl
  have r4 := heap_set_at (C' := #[.bool true, .bool false, .bool false, .bool true, .bool true, .bool false, .int .i64 0, .float .f64 0, .string ⟨#[]⟩, .int .i64 0, .int .i64 0, .int .i64 0, .bool false, .bool false, .bool false]) r3 4 (.bool true) rfl
  have r5 := heap_set_at (C' := #[.bool true, .bool false, .bool false, .bool true, .bool true, .bool true, .int .i64 0, .float .f64 0, .string ⟨#[]⟩, .int .i64 0, .int .i64 0, .int .i64 0, .bool false, .bool false, .bool false]) r4 5 (.bool true) rfl
  have r6 := heap_set_at (C' := #[.bool true, .bool false, .bool false, .bool true, .bool true, .bool true, .int .i64 k, .float .f64 0, .string ⟨#[]⟩, .int .i64 0, .int .i64 0, .int .i64 0, .bool false, .bool false, .bool false]) r5 6 (.int .i64 k) rfl
  have r7 := heap_set_at (C' := #[.bool true, .bool false, .bool false, .bool true, .bool true, .bool true, .int .i64 k, .float .f64 x, .string ⟨#[]⟩, .int .i64 0, .int .i64 0, .int .i64 0, .bool false, .bool false, .bool false]) r6 7 (.float .f64 x) rfl
  have r8 := heap_set_at (C' := #[.bool true, .bool false, .bool false, .bool true, .bool true, .bool true, .int .i64 k, .float .f64 x, .string tx, .int .i64 0, .int .i64 0, .int .i64 0, .bool false, .bool false, .bool false]) r7 8 (.string tx) rfl
  have r9 := heap_set_at (C' := #[.bool true, .bool false, .bool false, .bool true, .bool true, .bool true, .int .i64 k, .float .f64 x, .string tx, .int .i64 0, .int .i64 0, .int .i64 0, .bool false, .bool false, .bool false]) r8 9 (.int .i64 0) rfl
  have r10 := heap_set_at (C' := #[.bool true, .bool false, .bool false, .bool true, .bool true, .bool true, .int .i64 k, .float .f64 x, .string tx, .int .i64 0, .int .i64 0, .int .i64 0, .bool false, .bool false, .bool false]) r9 10 (.int .i64 0) rfl
  have r11 := heap_set_at (C' := #[.bool true, .bool false, .bool false, .bool true, .bool true, .bool true, .int .i64 k, .float .f64 x, .string tx, .int .i64 0, .int .i64 0, .int .i64 0, .bool false, .bool false, .bool false]) r10 11 (.int .i64 0) rfl
  have r12 := heap_set_at (C' := #[.bool true, .bool false, .bool false, .bool true, .bool true, .bool true, .int .i64 k, .float .f64 x, .string tx, .int .i64 0, .int .i64 0, .int .i64 0, .bool p0, .bool false, .bool false]) r11 12 (.bool p0) rfl
  have r13 := heap_set_at (C' := #[.bool true, .bool false, .bool false, .bool true, .bool true, .bool true, .int .i64 k, .float .f64 x, .string tx, .int .i64 0, .int .i64 0, .int .i64 0, .bool p0, .bool p1, .bool false]) r12 13 (.bool p1) rfl
  have r14 := heap_set_at (C' := #[.bool true, .bool false, .bool false, .bool true, .bool true, .bool true, .int .i64 k, .float .f64 x, .string tx, .int .i64 0, .int .i64 0, .int .i64 0, .bool p0, .bool p1, .bool p2]) r13 14 (.bool p2) rfl
  refine bodyPost_ret (results_row_tmp rfl _ _ w.heap.size 34 _ (0, 0) _ rfl r14 Tryz.underlying34 rfl (by kernel_rfl) _ rfl) rfl ?_
  exact ⟨rfl, HK5.out.trans ((((((((((((((((Kx.refl [w.heap.size] w5).set (by simp) _).set (by simp) _).set (by simp) _).set (by simp) _).set (by simp) _).set (by simp) _).set (by simp) _).set (by simp) _).set (by simp) _).set (by simp) _).set (by simp) _).set (by simp) _).set (by simp) _).set (by simp) _).set (by simp) _) (fun i hi => .inr (by simp at hi; omega))⟩
end Go.Proofs.YtdnjgemaenhcfaaGreatDoor
/- places of an object without places; has; Key.Text of a name. -/
set_option linter.unusedVariables false
namespace Go.Proofs.YtdnjgemaenhcfaaGreatDoor
open Go.RowKit Go.Shelf Go.Maps

set_option maxRecDepth 100000 in
set_option maxHeartbeats 2000000 in
theorem text_name (nm : ByteArray) (pl : Int) (w : World) : Calls Tryz.prog 23 #[.agg #[.string nm, .int .u32 pl, .bool false]] w fun e w' => e = .returned (.string nm) ∧ Kx [] w w' := by
  go_enter Tryz.func23, Tryz.ntmps23
  go_wp2
  go_ret
  exact ⟨rfl, Kx.alloc _ _ _⟩
set_option maxRecDepth 100000 in
set_option maxHeartbeats 2000000 in
theorem has_any (N M n i g c : Nat) (k : Value) (L : List ByteArray) (f : ByteArray → Option Nat) (s : ByteArray) (w : World)
    (hN : w.heap[N]? = some (.cells #[.slice (some ⟨g, 0, none⟩) L.length c, .map (some M), k] 121 (0, 0))) (hr : w.cell? ⟨g, i, none⟩ = some (.string s)) (hi : i < L.length) (hL : L.length ≤ 1000) (hm : IMap w M n f) (hs : s.size ≤ maxLen) (hf : f s = some i) :
    Calls Tryz.prog 46 #[.pointer (some ⟨N, 0, none⟩), .int .i64 (i : Int)] w fun e w' => e = .returned (.bool true) ∧ ∃ q, w' = w.drewN q := by
  have c0 := cell_at hN 0 rfl
  have c1 := cell_at hN 1 rfl
  have hl : ∀ q, (Instr.lookup 119 (.map (some M)) (.string s) true).run Tryz.prog (w.drewN q) = .ok (.tuple #[.int .i64 (i : Int), .bool true]) (w.drewN q) := fun q => by
    have h := imap_look (w := w.drewN q) (show IMap (w.drewN q) M n f from hm) s hs
    rw [hf] at h
    exact h
  clear hN hm
  go_enter Tryz.func46, Tryz.ntmps46
  go_wp2
  go_quiet (fail)
  go_wp2
  go_ret
  exact ⟨rfl, _, rfl⟩
set_option maxRecDepth 100000 in
set_option maxHeartbeats 2000000 in
theorem keysNil (w : World) : Calls Tryz.prog 71 #[.map none] w fun e w' => e = .returned (.func (.func 93) #[] #[.pointer (some ⟨w.heap.size, 0, none⟩)]) ∧ w' = w.alloc (Obj.cells #[.map none] 109) := by
  go_enter Tryz.func71, Tryz.ntmps71
  go_wp2
  go_ret
  exact ⟨rfl, rfl⟩
end Go.Proofs.YtdnjgemaenhcfaaGreatDoor
/- places of an object without places. -/
set_option linter.unusedVariables false
namespace Go.Proofs.YtdnjgemaenhcfaaGreatDoor
open Go.RowKit Go.Shelf Go.Maps
attribute [local go_sem] Oper.semAt_some

theorem range_none (W : World) : (Instr.range 109 (.map none)).run Tryz.prog W = .ok (.pointer (some ⟨W.heap.size, 0, none⟩)) (W.alloc (.mapIter none 0 #[] 0)) := by
  kernel_rfl
theorem next_none {W : World} {b : Nat} (h : W.heap[b]? = some (.mapIter none 0 #[] 0)) (ty : TypeId) : (Instr.next (.pointer (some ⟨b, 0, none⟩)) false ty).run Tryz.prog W = .ok (.tuple #[.bool false]) W := by
  simp [Instr.next, getObj, Sem.run, h]
set_option maxRecDepth 100000 in
set_option maxHeartbeats 1000000 in
theorem keys93_nil (F : Fence) (n : Nat) (hF : F.fn 93) (hro : F.round = none) (l Bs : Nat) (J : List Unit → World → Prop) (W : World) (hc : W.cell? ⟨Bs, 0, none⟩ = some (.map none)) (h0 : J [] (W.alloc (.mapIter none 0 #[] 0))) :
    CallsIn F n Tryz.prog 93 (#[.func (.yield l) #[] #[]] ++ #[.pointer (some ⟨Bs, 0, none⟩)]) W fun e W' => (∃ v, e = .returned v) ∧ J [] W' := by
  have hra := range_none
  show CallsIn F n Tryz.prog 93 #[.func (.yield l) #[] #[], .pointer (some ⟨Bs, 0, none⟩)] W _
  refine callsIn_of_wp Tryz.func93 rfl hF ?_ hro
  simp only [Tryz.ntmps93, List.size_toArray, List.length_cons, List.length_nil, Nat.reduceAdd, Nat.reduceSub, Array.replicate_succ, Array.replicate_zero, List.push_toArray, List.append_toArray, List.nil_append, List.cons_append]
  gi_wp2
  gi_loopw [] (fun wr => wr = W.alloc (.mapIter none 0 #[] 0)) (fun _ => 0)
  case atStart => rfl
  case round =>
    subst hrel
    have hn := next_none (heap_alloc_new W (.mapIter none 0 #[] 0))
    gi_wp2
    go_end0
    exact ⟨⟨_, rfl⟩, h0⟩
theorem keys93_stops (F : Fence) (n : Nat) (hF : F.fn 93) (hro : F.round = none) (Bs : Nat) (w : World) (hBs : Bs < w.heap.size) (hc : w.cell? ⟨Bs, 0, none⟩ = some (.map none)) :
    SeqStopsK F n Tryz.prog 93 #[.pointer (some ⟨Bs, 0, none⟩)] (fun x : Unit => #[Value.int .u32 0]) (Below w.heap.size) (fun ys => ys = []) (fun _ => False) 0 w := by
  intro l J Jx W hW hJ _ hY h0
  have hc' : W.cell? ⟨Bs, 0, none⟩ = some (.map none) := (hW.cell (p := ⟨Bs, 0, none⟩) hBs).trans hc
  have h1 : J [] (W.alloc (.mapIter none 0 #[] 0)) := hJ [] W _ none h0 (World.grownBy_alloc W _ none) (fun r e => by cases e)
  exact (keys93_nil F n hF hro l Bs J W hc' h1).mono fun e W' ⟨h1, h2⟩ => ⟨h1, .inl ⟨[], rfl, h2⟩⟩
set_option maxRecDepth 100000 in
set_option maxHeartbeats 2000000 in
theorem appendSeq_nil (Bs : Nat) (w : World) (hc : w.cell? ⟨Bs, 0, none⟩ = some (.map none)) (hBs : Bs < w.heap.size) :
    Calls Tryz.prog 92 #[.slice none 0 0, .func (.func 93) #[] #[.pointer (some ⟨Bs, 0, none⟩)]] w fun e W' => e = .returned (.slice none 0 0) ∧ Below w.heap.size w W' := by
  refine (callsIn_wide (n := 5)).1 ?_
  refine callsIn_of_wp_marks Tryz.func92 rfl trivial ?_ rfl
  simp only [Tryz.ntmps92, List.size_toArray, List.length_cons, List.length_nil, Nat.reduceAdd, Nat.reduceSub, Array.replicate_succ, Array.replicate_zero, List.push_toArray, List.append_toArray, List.nil_append, List.cons_append]
  gi_wp2
  have hs := keys93_stops Fence.wide 4 trivial rfl Bs (w.alloc (Obj.cells #[.slice none 0 0] 113)) (by simp; omega) (by rw [World.cell?_alloc_some _ _ _ (by rw [hc]; rfl)]; exact hc)
  have bO := Boxed.new w 113 (.slice none 0 0)
  have hB0 : Below w.heap.size w (w.alloc (Obj.cells #[.slice none 0 0] 113)) := (Below.refl _ w).alloc (Nat.le_refl _) _
  refine wpIn_rangeFunc_ownG rfl (by omega) (gf := 93) (lb := #[.pointer (some ⟨Bs, 0, none⟩)]) rfl trivial (enters_of Tryz.func93 (by kernel_rfl) rfl)
    hs belowK_t (belowK_b (by simp)) (Below.refl _ _) (fun _ => rfl)
    (fun pre W => Boxed W w.heap.size 113 (.slice none 0 0) ∧ Below w.heap.size w W)
    (fun _ _ _ => False)
    (OwnFrom.and (Own.from (boxed_own _ _ (fun _ => _)) _) (ownFrom_below (Nat.le_refl _) (by simp)))
    (fun _ _ _ _ _ hs _ _ => hs)
    ⟨bO, hB0⟩
    (fun x => { tmps := #[.slice none 0 0, .func (.func 93) #[] #[.pointer (some ⟨Bs, 0, none⟩)], .pointer (some ⟨w.heap.size, 0, none⟩), undef, .slice none 0 0, .int .u32 0, .func (.func 93) #[] #[.pointer (some ⟨Bs, 0, none⟩)], .int .u32 0, undef, undef, undef, undef, undef], defers := [] }) ?assign ?body ?done ?stop
  case assign =>
    intro l x W K hK
    gi_wp2
    exact hK
  case body =>
    rintro l pre x W _ hlt
    omega
  case done =>
    rintro D ys W hD hys ⟨hv, hB⟩ hK
    have hc := hv.cell
    gi_wp2
    refine ⟨by simp, .inl ⟨_, _, rfl, run_takeDeferred hK, ?_⟩⟩
    exact ⟨_, results_tmp rfl _ _ _, rfl, hB.trans (belowK_b (w := w) (Nat.le_refl _) W D _ _ (by simp at hD; omega) hK rfl rfl)⟩
  case stop =>
    rintro D c pre W _ _ h _
    exact h.elim
set_option maxRecDepth 100000 in
set_option maxHeartbeats 2000000 in
theorem collect_nil (Bs : Nat) (w : World) (hc : w.cell? ⟨Bs, 0, none⟩ = some (.map none)) (hBs : Bs < w.heap.size) :
    Calls Tryz.prog 70 #[.func (.func 93) #[] #[.pointer (some ⟨Bs, 0, none⟩)]] w fun e W' => e = .returned (.slice none 0 0) ∧ Below w.heap.size w W' := by
  have c := appendSeq_nil Bs w hc hBs
  go_enter Tryz.func70, Tryz.ntmps70
  go_wp2_with (first | (go_at_call 92; refine c.mono ?_; rintro e w1 ⟨rfl, hb⟩))
  go_ret
  exact ⟨rfl, hb⟩
end Go.Proofs.YtdnjgemaenhcfaaGreatDoor
/- Sorting nothing; places of an object without places. -/
set_option linter.unusedVariables false
namespace Go.Proofs.YtdnjgemaenhcfaaGreatDoor
open Go.RowKit Go.Shelf Go.Maps

set_option maxRecDepth 100000 in
set_option maxHeartbeats 1000000 in
theorem ins_nil (w : World) : Calls Tryz.prog 120 #[.slice none 0 0, .int .i64 0, .int .i64 0] w fun e w' => (∃ u, e = .returned u) ∧ w' = w := by
  go_enter Tryz.func120, Tryz.ntmps120
  go_wp2
  refine wp_loop_rounds 1 ?_
  rw [rounds_succ]
  go_wp2
  refine bodyPost_end (results_none rfl _ _ _) rfl ?_
  exact ⟨⟨_, rfl⟩, rfl⟩
set_option maxRecDepth 100000 in
set_option maxHeartbeats 1000000 in
theorem pdq_nil (w : World) : Calls Tryz.prog 94 #[.slice none 0 0, .int .i64 0, .int .i64 0, .int .i64 0] w fun e w' => (∃ u, e = .returned u) ∧ w' = w := by
  have c := ins_nil
  go_enter Tryz.func94, Tryz.ntmps94
  go_wp2
  refine wp_loop_rounds 1 ?_
  rw [rounds_succ]
  go_wp2_with (first | (go_at_call 120; refine (c _).mono ?_; rintro e w1 ⟨⟨u, rfl⟩, rfl⟩))
  refine bodyPost_ret (results_none rfl _ _ _) rfl ?_
  exact ⟨⟨_, rfl⟩, rfl⟩
set_option maxRecDepth 100000 in
set_option maxHeartbeats 1000000 in
theorem sort_nil (w : World) : Calls Tryz.prog 72 #[.slice none 0 0] w fun e w' => (∃ u, e = .returned u) ∧ w' = w := by
  have c := pdq_nil
  have c2 := Tryz.bits_Len 0 w (by omega) (by omega)
  go_enter Tryz.func72, Tryz.ntmps72
  have hz : Lib.bitLen (0 : Int).toNat = 0 := by decide
  rw [hz] at c2
  go_wp2_with (first | (go_at_call 95; refine c2.mono ?_; rintro e w1 ⟨rfl, rfl⟩) | (go_at_call 94; refine (c _).mono ?_; rintro e w2 ⟨⟨u, rfl⟩, rfl⟩))
  refine bodyPost_end (results_none rfl _ _ _) rfl ?_
  exact ⟨⟨_, rfl⟩, rfl⟩
set_option maxRecDepth 100000 in
set_option maxHeartbeats 1000000 in
theorem places_nil (b : Nat) (a : Option Addr) (c : Nat) (w : World) (h7 : w.cell? ⟨b, 7, none⟩ = some (.slice a 0 c)) (h8 : w.cell? ⟨b, 8, none⟩ = some (.map none)) :
    Calls Tryz.prog 45 #[.pointer (some ⟨b, 0, none⟩)] w fun e w' => e = .returned (.slice none 0 0) ∧ Kx [] w w' := by
  have cS := sort_nil
  have c1 := keysNil w
  have c2 := collect_nil w.heap.size (w.alloc (Obj.cells #[.map none] 109)) (cell_at (heap_alloc_new w (Obj.cells #[.map none] 109)) 0 rfl) (by simp)
  have hk7 : ∀ W, Kx [] w W → W.cell? ⟨b, 7, none⟩ = some (.slice a 0 c) := fun W hW => hW.cell h7 (by simp)
  have HK7 := (show Hid _ from hk7)
  clear hk7
  go_enter Tryz.func45, Tryz.ntmps45
  go_wp2_with (first | (go_at_call 71; refine c1.mono ?_; rintro e w1 ⟨rfl, rfl⟩) | (go_at_call 70; refine c2.mono ?_; rintro e w2 ⟨rfl, hb⟩; have hk2 : Kx [] w w2 := (Kx.alloc [] w _).same (Kx.ofBelow hb []); have h72 := HK7.out w2 hk2))
  refine wp_loop_rounds 1 ?_
  rw [rounds_succ]
  go_wp2_with (first | (go_at_call 72; refine (cS _).mono ?_; rintro e w3 ⟨⟨u, rfl⟩, rfl⟩))
  go_ret
  exact ⟨rfl, hk2⟩
end Go.Proofs.YtdnjgemaenhcfaaGreatDoor
/- Object.Keys of an object without places. -/
set_option linter.unusedVariables false
namespace Go.Proofs.YtdnjgemaenhcfaaGreatDoor
open Go.RowKit Go.Shelf Go.Maps

theorem info67 : (Tryz.prog.info? 67).map (fun i => (i.zero, i.size, i.bytes)) = some (some (.agg #[.string ⟨#[]⟩, .int .u32 0, .bool false]), 3, 24) := by kernel_rfl
/-- Names as keys, cell by cell. -/
def kcells (l : List ByteArray) : List Value := l.flatMap fun s => [.string s, .int .u32 0, .bool false]
theorem kcells_snoc (l : List ByteArray) (s : ByteArray) : kcells (l ++ [s]) = kcells l ++ [.string s, .int .u32 0, .bool false] := by simp [kcells]
set_option maxRecDepth 100000 in
set_option maxHeartbeats 2000000 in
theorem keys_obj (b S N M n c0 : Nat) (c : Nat) (ga : Option Addr) (k fr nx al kp : Value) (a : Option Addr) (cl pr fx inn num nv st kp2 : Value) (L : List ByteArray) (cnt : Nat) (w : World)
    (hB : w.heap[b]? = some (.cells #[cl, pr, fx, inn, num, .pointer (some ⟨S, 0, none⟩), nv, .slice a 0 c0, .map none, kp2] 111 (0, 0)))
    (hS : w.heap[S]? = some (.cells #[.pointer (some ⟨N, 0, none⟩), .int .i64 (cnt : Int), fr, nx, al, kp] 118 (0, 0)))
    (hN : w.heap[N]? = some (.cells #[.slice ga L.length c, .map (some M), k] 121 (0, 0))) (hrow : w.ownsRow 0 9 1 (.slice ga L.length c) L.length (L.map Value.string)) (hm : IMap w M n (pf L)) (hnd : L.Nodup) (hs : ∀ x ∈ L, x.size ≤ maxLen) (hL : L.length ≤ 1000) (hc : cnt ≤ L.length) :
    Calls Tryz.prog 22 #[.pointer (some ⟨b, 0, none⟩)] w fun e w' => ∃ v, e = .returned v ∧ w'.ownsRow w.heap.size 67 3 v cnt (kcells (L.take cnt)) ∧ Kx [] w w' := by
  have cP := places_nil b a c0 w (cell_at hB 7 rfl) (cell_at hB 8 rfl)
  have HB := (show Hid _ from hB)
  have HS := (show Hid _ from hS)
  have HN := (show Hid _ from hN)
  have HR := (show Hid _ from hrow)
  have HM := (show Hid _ from hm)
  have HX := (show Hid _ from And.intro hnd hs)
  have hcc : cnt ≤ c := by
    rcases hrow.2 with ⟨e, h0⟩ | ⟨g', cap, cur, e, _, _, h1, _⟩
    · omega
    · simp only [Value.slice.injEq] at e
      omega
  clear hB hS hN hrow hm hnd hs
  go_enter Tryz.func22, Tryz.ntmps22
  go_wp2_with (first | (go_at_call 45; refine cP.mono ?_; rintro e w1 ⟨rfl, hk1⟩))
  refine wp_loop_rounds 1 ?_
  rw [rounds_succ]
  have hB1 := hk1.get HB.out (by simp)
  have hS1 := hk1.get HS.out (by simp)
  have hN1 := hk1.get HN.out (by simp)
  have b5 := cell_at hB1 5 rfl
  have s0 := cell_at hS1 0 rfl
  have s1 := cell_at hS1 1 rfl
  have n0 := cell_at hN1 0 rfl
  clear hB1 hS1 hN1
  have HK1 : Hid (Kx [] w w1) := (show Kx [] w w1 from hk1)
  clear hk1 cP
  go_wp2
  go_quiet (fail)
  have HK2 : Hid (Kx [] w (w1.drewN nq)) := (show Kx [] w (w1.drewN nq) from HK1.out.drw nq)
  obtain ⟨W2, hW2⟩ : ∃ W2, W2 = w1.drewN nq := ⟨_, rfl⟩
  rw [← hW2] at HK2 ⊢
  clear hW2 HK1 b5 s0 s1 n0
  go_wp2
  obtain ⟨i0, hi, hz0, hz1, hz2⟩ := info_parts info67
  go_loopw [3, 7, 8, 42] (fun v _ _ i wr => ∃ q : Nat, q ≤ cnt ∧ i = .int .i64 q ∧ Hid (wr.ownsRow w.heap.size 67 3 v q (kcells (L.take q)) ∧ Kx [] w wr))
    (fun _ _ _ i _ => cnt - (intOf i).toNat)
  case atStart => exact ⟨0, Nat.zero_le _, rfl, (show _ ∧ _ from ⟨World.ownsRow_nil _ _ _ _, HK2.out⟩)⟩
  case round =>
    obtain ⟨q, hq, rfl, hH⟩ := hrel
    obtain ⟨r1, r2⟩ := hH.out
    clear hH HK2
    by_cases hlt2 : q < cnt
    · have hR : wr.ownsRow 0 9 1 (.slice ga L.length c) L.length (L.map Value.string) := r2.owns HR.out (fun g hg => by simp)
      obtain ⟨g, cg, ea⟩ := ownsRow_pos (by omega) hR
      simp only [Value.slice.injEq] at ea
      obtain ⟨rfl, -, rfl⟩ := ea
      obtain ⟨x, hx⟩ : ∃ x, L[q]? = some x := ⟨_, List.getElem?_eq_getElem (by omega)⟩
      have hxs : x.size ≤ maxLen := HX.out.2 x (List.mem_of_getElem? hx)
      have hcell : wr.cell? ⟨g, q, none⟩ = some (.string x) := by
        have := hR.cells (g := g) rfl q (.string x) (by rw [List.getElem?_map, hx]; rfl)
        rw [Addr.add_lit, Nat.zero_add] at this
        exact this
      have hf := (pf_get _ L rfl HX.out.1 x q).2 hx
      have cH := has_any N M n q g c k L (pf L) x wr (r2.get HN.out (by simp)) hcell (by omega) hL (r2.imap HM.out (by simp)) hxs hf
      have htk : L.take (q + 1) = L.take q ++ [x] := by rw [List.take_add_one, hx]; rfl
      have R1 : Hid (wr.ownsRow w.heap.size 67 3 u3 q (kcells (L.take q))) := r1
      have R2 : Hid (Kx [] w wr) := (show Kx [] w wr from r2)
      have hsz := r2.size
      have q1 : q + 1 ≤ maxLen := by unfold maxLen; omega
      have HT := (show Hid _ from htk)
      clear r1 r2 hR hx hxs hf htk
      go_wp2_with (first | (go_at_call 46; refine cH.mono ?_; rintro e w3 ⟨rfl, qq, rfl⟩) | (at_builtin; refine wpList_append_own _ rfl _ _ 63 rfl w.heap.size 67 i0 _ 3 24 Tryz.underlying63 hi hz0 hz1 hz2 rfl (by decide) _ _ _ rfl ((show (wr.drewN qq).ownsRow _ _ _ _ _ _ from R1.out).alloc _) ⟨wr.heap.size, 0, none⟩ 1 1 [.string x, .int .u32 0, .bool false] rfl rfl (cells_new (wr.drewN qq) [.string x, .int .u32 0, .bool false] 67) (by intro u hu; simp at hu; rcases hu with rfl | rfl | rfl <;> rfl) q1 (by omega) (by simp; omega) ?_; intro v' w4 hown' hgrow hnil'))
      have hg2 : ((wr.drewN qq).alloc (Obj.cells #[.string x, .int .u32 0, .bool false] 67)).grownBy w4 u3.ownBlock := hgrow
      have HH : Hid (w4.ownsRow w.heap.size 67 3 v' (q + 1) (kcells (L.take (q + 1))) ∧ Kx [] w w4) := by
        refine (show _ ∧ _ from ⟨?_, ?_⟩)
        · rw [HT.out, kcells_snoc]; exact hown'
        · exact ((R2.out.drw qq).alc (Obj.cells #[.string x, .int .u32 0, .bool false] 67)).trans (Kx.grown hg2) (fun i hi => .inr (by
            have h3 : u3.ownBlock = some i := by simpa using hi
            exact (R1.out.lt i h3).1))
      clear hown' hgrow hg2 hnil' R1 R2 HT cH hcell
      go_roundw
      case rel => exact ⟨q + 1, by omega, by go_num, HH⟩
      case measure => simp [intOf]; omega
    · have hqc : q = cnt := by omega
      subst hqc
      have R : Hid (wr.ownsRow w.heap.size 67 3 u3 q (kcells (L.take q)) ∧ Kx [] w wr) := ⟨r1, r2⟩
      clear r1 r2
      go_wp2
      go_ret
      exact ⟨_, rfl, R.out.1, R.out.2⟩
end Go.Proofs.YtdnjgemaenhcfaaGreatDoor
/- The face's Keys. -/
set_option linter.unusedVariables false
namespace Go.Proofs.YtdnjgemaenhcfaaGreatDoor
open Go.RowKit Go.Shelf Go.Maps

theorem kcells_get : ∀ (L : List ByteArray) (q : Nat) (x : ByteArray), L[q]? = some x → (kcells L)[q * 3]? = some (.string x) ∧ (kcells L)[q * 3 + 1]? = some (.int .u32 0) ∧ (kcells L)[q * 3 + 2]? = some (.bool false)
  | [], q, x, h => by simp at h
  | a :: L, 0, x, h => by
    simp at h
    subst h
    simp [kcells]
  | a :: L, q + 1, x, h => by
    have := kcells_get L q x (by simpa using h)
    have e : kcells (a :: L) = [.string a, .int .u32 0, .bool false] ++ kcells L := by simp [kcells]
    rw [e]
    refine ⟨?_, ?_, ?_⟩
    · rw [List.getElem?_append_right (by simp; omega)]
      simpa [Nat.add_mul] using this.1
    · rw [List.getElem?_append_right (by simp; omega), show (q + 1) * 3 + 1 - ([.string a, .int .u32 0, .bool false] : List Value).length = q * 3 + 1 by simp; omega]
      exact this.2.1
    · rw [List.getElem?_append_right (by simp; omega), show (q + 1) * 3 + 2 - ([.string a, .int .u32 0, .bool false] : List Value).length = q * 3 + 2 by simp; omega]
      exact this.2.2
set_option maxRecDepth 100000 in
set_option maxHeartbeats 2000000 in
theorem keys_face (O H b : Nat) (l : List Nat) (r : Int) (L : List ByteArray) (w : World)
    (hO : w.cell? ⟨O, 0, none⟩ = some (.pointer (some ⟨H, 0, none⟩))) (hH : Objs w H l) (hr1 : 1 ≤ r) (hr : l[(r - 1).toNat]? = some b) (hL : L.length ≤ 1000)
    (cK : Calls Tryz.prog 22 #[.pointer (some ⟨b, 0, none⟩)] w fun e w' => ∃ v, e = .returned v ∧ w'.ownsRow w.heap.size 67 3 v L.length (kcells L) ∧ Kx [] w w') :
    Calls Tryz.prog 8 #[.pointer (some ⟨O, 0, none⟩), .int .i64 r] w fun e w' => ∃ v, e = .returned v ∧ w'.ownsRow w.heap.size 9 1 v L.length (L.map Value.string) ∧ Kx [] w w' := by
  have c1 := numbered_any H l r w hH
  rw [objP_hit hr1 hr] at c1
  have CK := (show Hid (∀ _ : Unit, _) from fun _ : Unit => cK)
  clear cK hH hr1 hr
  go_enter Tryz.func8, Tryz.ntmps8
  go_wp2_with (first | (go_at_call 21; refine c1.mono ?_; rintro e w1 ⟨rfl, rfl⟩) | (go_at_call 22; refine (CK.out ()).mono ?_; rintro e w2 ⟨v, rfl, hrow, hk⟩; obtain ⟨va, vc, rfl⟩ := owns_slice hrow))
  have HRW : Hid (w2.ownsRow w1.heap.size 67 3 (.slice va L.length vc) L.length (kcells L)) := hrow
  have HK2 : Hid (Kx [] w1 w2) := (show Kx [] w1 w2 from hk)
  clear hrow hk c1 CK hO
  obtain ⟨i0, hi, hz0, hz1, hz2⟩ := info_parts info9
  go_loopw [6, 8, 20] (fun v _ i wr => ∃ q : Nat, q ≤ L.length ∧ i = .int .i64 q ∧ Hid (wr.ownsRow w2.heap.size 9 1 v q ((L.take q).map Value.string) ∧ Kx [] w2 wr))
    (fun _ _ i _ => L.length - (intOf i).toNat)
  case atStart => exact ⟨0, Nat.zero_le _, rfl, (show _ ∧ _ from ⟨World.ownsRow_nil _ _ _ _, Kx.refl _ _⟩)⟩
  case round =>
    obtain ⟨q, hq, rfl, hH⟩ := hrel
    obtain ⟨r1, r2⟩ := hH.out
    clear hH
    by_cases hlt2 : q < L.length
    · have hR := r2.owns HRW.out (fun g hg => by simp)
      obtain ⟨g, cg, ea⟩ := ownsRow_pos (by omega) hR
      simp only [Value.slice.injEq] at ea
      obtain ⟨rfl, -, rfl⟩ := ea
      obtain ⟨x, hx⟩ : ∃ x, L[q]? = some x := ⟨_, List.getElem?_eq_getElem hlt2⟩
      obtain ⟨x0, x1, x2⟩ := kcells_get L q x hx
      have y0 : wr.cell? ⟨g, q * 3, none⟩ = some (.string x) := by
        have := hR.cells (g := g) rfl _ _ x0
        rw [Addr.add_lit, Nat.zero_add] at this
        exact this
      have y1 : wr.cell? ⟨g, q * 3 + 1, none⟩ = some (.int .u32 0) := by
        have := hR.cells (g := g) rfl _ _ x1
        rw [Addr.add_lit, Nat.zero_add] at this
        exact this
      have y2 : wr.cell? ⟨g, q * 3 + 2, none⟩ = some (.bool false) := by
        have := hR.cells (g := g) rfl _ _ x2
        rw [Addr.add_lit, Nat.zero_add] at this
        exact this
      have cT := text_name x 0
      have htk : L.take (q + 1) = L.take q ++ [x] := by rw [List.take_add_one, hx]; rfl
      have R1 : Hid (wr.ownsRow w2.heap.size 9 1 u6 q ((L.take q).map Value.string)) := r1
      have R2 : Hid (Kx [] w2 wr) := (show Kx [] w2 wr from r2)
      have hsz := r2.size
      have q1 : q + 1 ≤ maxLen := by unfold maxLen; omega
      have HT := (show Hid _ from htk)
      clear r1 r2 hR hx htk x0 x1 x2
      go_wp2_with (first | (go_at_call 23; refine (cT _).mono ?_; rintro e w3 ⟨rfl, hk3⟩; have HK3 : Hid (Kx [] wr w3) := (show Kx [] wr w3 from (Kx.alloc [] wr _).same hk3); have R3 : Hid (w3.ownsRow w2.heap.size 9 1 u6 q ((L.take q).map Value.string)) := HK3.out.owns R1.out (fun g hg => by simp); have hs3 := HK3.out.size; clear hk3) | (at_builtin; refine wpList_append_own _ rfl _ _ 22 rfl w2.heap.size 9 i0 _ 1 16 Tryz.underlying22 hi hz0 hz1 hz2 rfl (by decide) _ _ _ rfl (R3.out.alloc _) ⟨w3.heap.size, 0, none⟩ 1 1 [.string x] rfl rfl (cells_new w3 [.string x] 9) (by intro u hu; simp at hu; rw [hu]; rfl) q1 (by omega) (by simp; omega) ?_; intro v' w4 hown' hgrow hnil'))
      have hg2 : (w3.alloc (Obj.cells #[.string x] 9)).grownBy w4 u6.ownBlock := hgrow
      have HH : Hid (w4.ownsRow w2.heap.size 9 1 v' (q + 1) ((L.take (q + 1)).map Value.string) ∧ Kx [] w2 w4) := by
        refine (show _ ∧ _ from ⟨?_, ?_⟩)
        · rw [HT.out, List.map_append]; exact hown'
        · exact (((R2.out.same HK3.out)).alc (Obj.cells #[.string x] 9)).trans (Kx.grown hg2) (fun i hi => .inr (by
            have h3 : u6.ownBlock = some i := by simpa using hi
            exact (R1.out.lt i h3).1))
      clear hown' hgrow hg2 hnil' R1 R2 R3 HT HK3 y0 y1 y2
      go_roundw
      case rel => exact ⟨q + 1, by omega, by go_num, HH⟩
      case measure => simp [intOf]; omega
    · have hqc : q = L.length := by omega
      subst hqc
      have R : Hid (wr.ownsRow w2.heap.size 9 1 u6 L.length ((L.take L.length).map Value.string) ∧ Kx [] w2 wr) := ⟨r1, r2⟩
      clear r1 r2
      go_wp2
      go_ret
      obtain ⟨r1, r2⟩ := R.out
      rw [List.take_length] at r1
      exact ⟨_, rfl, owns_low r1 HK2.out.size, HK2.out.same r2⟩
end Go.Proofs.YtdnjgemaenhcfaaGreatDoor
/- A name goes from a map; how many are left. -/
set_option linter.unusedVariables false
namespace Go.Proofs.YtdnjgemaenhcfaaGreatDoor
open Go.RowKit Go.Shelf Go.Maps Go.ChangeMaps Go.WideElems

theorem nodup_le {α : Type} : ∀ (a b : List α), a.Nodup → (∀ x ∈ a, x ∈ b) → a.length ≤ b.length
  | [], _, _, _ => Nat.zero_le _
  | x :: a, b, h, hs => by
    obtain ⟨b1, b2, rfl⟩ := List.append_of_mem (hs x (by simp))
    have := nodup_le a (b1 ++ b2) (List.nodup_cons.1 h).2 (fun y hy => by
      have h1 := hs y (by simp [hy])
      simp only [List.mem_append, List.mem_cons] at h1 ⊢
      rcases h1 with h1 | h1 | h1
      · exact .inl h1
      · exact absurd (h1 ▸ hy) (List.nodup_cons.1 h).1
      · exact .inr h1)
    simp at this ⊢
    omega
theorem string_ne {t s : ByteArray} (ht : t ≠ s) : (Lit.string t.data.toList) ≠ Lit.string s.data.toList := by
  intro e
  apply ht
  have e2 : t.data.toList = s.data.toList := by simpa using e
  obtain ⟨⟨a⟩⟩ := t
  obtain ⟨⟨c⟩⟩ := s
  simp at e2
  rw [e2]
theorem imap_drop {w : World} {b n : Nat} {f : ByteArray → Option Nat} (h : IMap w b n f) (s : ByteArray) (hs : s.size ≤ maxLen) (ty : TypeId) :
    ∃ w', (Builtin.delete_ #[119, 9] ty #[.map (some b), .string s]).run Tryz.prog w = .ok (.tuple #[]) w' ∧ IMap w' b n (fun t => if t = s then none else f t) ∧ w.grownBy w' (some b) := by
  obtain ⟨D, ⟨es, clock, hb, F, hn, rfl⟩, hD, hf⟩ := h
  have hkey := WideMaps.keyOf_string_mk (P := Tryz.prog) (k := 9) Tryz.underlying9 hs
  obtain ⟨es', hrun, F', hsz, hdel, _⟩ := fit_drop (ty := ty) (string_keyed Tryz.underlying9) Tryz.underlying119 hb F hkey
  refine ⟨_, hrun, ⟨_, ⟨es', clock, heap_setBlock_same hb _, F', Nat.le_trans hsz hn, rfl⟩, ⟨_, rfl⟩, ?_⟩, ⟨rfl, rfl, rfl, by simp [setBlock], fun i _ hi => heap_setBlock_other hb _ (fun e => hi (by rw [e]))⟩⟩
  rw [hdel]
  intro t
  dsimp only
  have hdd : (DataW.map (delKey (Lit.string s.data.toList) ((es.toList.map (rg Tryz.prog 9 (plainElem Tryz.prog 3))).foldr DataW.insert [])) : DataW Unit) = (DataW.map ((es.toList.map (rg Tryz.prog 9 (plainElem Tryz.prog 3))).foldr DataW.insert [])).del (Lit.string s.data.toList) := rfl
  rw [hdd]
  by_cases ht : t = s
  · subst ht
    rw [if_pos rfl]
    exact ⟨fun _ z => atKey_del_same z, fun j hj => by cases hj⟩
  · rw [if_neg ht]
    have hne := string_ne ht
    refine ⟨fun h z => ?_, fun j hj => ⟨((hf t).2 j hj).1, fun z => ?_⟩⟩
    · rw [atKey_del_other hne]; exact (hf t).1 h z
    · rw [atKey_del_other hne]; exact ((hf t).2 j hj).2 z
theorem imap_size {w : World} {b n : Nat} {f : ByteArray → Option Nat} (h : IMap w b n f) (L : List ByteArray) (hL : L.Nodup) (hs : ∀ s ∈ L, s.size ≤ maxLen) (hf : ∀ s ∈ L, f s ≠ none) : ∃ es clock, w.heap[b]? = some (.map es clock) ∧ L.length ≤ es.size ∧ es.size ≤ n := by
  obtain ⟨D, ⟨es, clock, hb, F, hn, rfl⟩, hD, hf2⟩ := h
  refine ⟨es, clock, hb, ?_, hn⟩
  have hsub : ∀ v ∈ L.map Value.string, v ∈ es.toList.map MapEntry.key := by
    intro v hv
    obtain ⟨s, hsL, rfl⟩ := List.mem_map.1 hv
    have hkey := WideMaps.keyOf_string_mk (P := Tryz.prog) (k := 9) Tryz.underlying9 (hs s hsL)
    rcases fit_look true (string_keyed Tryz.underlying9) Tryz.underlying119 (zero3 w) hb F hkey with ⟨hr, _, hz⟩ | ⟨e0, y, h1, h2, hr, hy, hz, _⟩
    · exfalso
      cases hc : f s with
      | none => exact hf s hsL hc
      | some i =>
        have h1 := ((hf2 s).2 i hc).2 .nil
        rw [hz .nil] at h1
        cases h1
    · exact List.mem_map.2 ⟨e0, h1, h2⟩
  have hnd : (L.map Value.string).Nodup := by
    rw [List.nodup_iff_pairwise_ne] at hL ⊢
    rw [List.pairwise_map]
    exact hL.imp (fun h e => h (by simpa using e))
  have := nodup_le _ _ hnd hsub
  simpa using this
end Go.Proofs.YtdnjgemaenhcfaaGreatDoor
