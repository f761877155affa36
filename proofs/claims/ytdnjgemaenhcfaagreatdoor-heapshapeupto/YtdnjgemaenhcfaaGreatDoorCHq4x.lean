/- The face's Define, plain.Define. -/
import Derived.Test.YtdnjgemaenhcfaaGreatDoorCHt2x
import Derived.Deep.RegionLaw
import Derived.Laws.ResultCell
import Derived.Deep.RegionHeld3
set_option linter.unusedVariables false
namespace Go.Proofs.YtdnjgemaenhcfaaGreatDoor
open Go.RowKit Go.Shelf
attribute [local go_sem] run_store_flt


set_option maxRecDepth 100000 in
set_option maxHeartbeats 2000000 in
theorem define_face (O H b : Nat) (l : List Nat) (r : Int) (s nm : ByteArray) (pl : Int) (isP : Bool) (d0 d1 d2 d3 d4 d5 d12 d13 d14 : Bool) (k rf g st : Int) (x : Nat) (tx : ByteArray) (t0 t1 t2 t3 : Bool) (t4 : Int) (t5 : Nat) (t6 : ByteArray) (t7 t8 t9 : Option Addr) (t10 t11 t12 t13 t14 t15 : Bool) (R : World → Prop) (w : World)
    (hO : w.cell? ⟨O, 0, none⟩ = some (.pointer (some ⟨H, 0, none⟩))) (hH : Objs w H l) (hr1 : 1 ≤ r) (hr : l[(r - 1).toNat]? = some b)
    (cT : ∀ W, Kx [] w W → Calls Tryz.prog 40 #[.pointer (some ⟨O, 0, none⟩), .agg #[.bool d0, .bool d1, .bool d2, .bool d3, .bool d4, .bool d5, .int .i64 k, .float .f64 x, .string tx, .int .i64 rf, .int .i64 g, .int .i64 st, .bool d12, .bool d13, .bool d14]] W fun e w' => e = .returned (.tuple #[.agg #[.bool t0, .bool t1, .bool t2, .bool t3, .int .i64 t4, .float .f64 t5, .string t6, .pointer t7, .pointer t8, .pointer t9, .bool t10, .bool t11, .bool t12, .bool t13, .bool t14, .bool t15], .bool true]) ∧ Kx [] W w')
    (cK : ∀ W, Kx [] w W → Calls Tryz.prog 26 #[.string s] W fun e w' => e = .returned (.agg #[.string nm, .int .u32 pl, .bool isP]) ∧ Kx [] W w')
    (cD : ∀ W, Kx [] w W → Calls Tryz.prog 41 #[.pointer (some ⟨b, 0, none⟩), .agg #[.string nm, .int .u32 pl, .bool isP], .agg #[.bool t0, .bool t1, .bool t2, .bool t3, .int .i64 t4, .float .f64 t5, .string t6, .pointer t7, .pointer t8, .pointer t9, .bool t10, .bool t11, .bool t12, .bool t13, .bool t14, .bool t15]] W fun e w' => e = .returned .nilIface ∧ R w') :
    Calls Tryz.prog 20 #[.pointer (some ⟨O, 0, none⟩), .int .i64 r, .string s, .agg #[.bool d0, .bool d1, .bool d2, .bool d3, .bool d4, .bool d5, .int .i64 k, .float .f64 x, .string tx, .int .i64 rf, .int .i64 g, .int .i64 st, .bool d12, .bool d13, .bool d14]] w fun e w' => e = .returned .nilIface ∧ R w' := by
  obtain ⟨W0, hW0⟩ : ∃ W0, W0 = w.alloc (Obj.cells #[.bool d0, .bool d1, .bool d2, .bool d3, .bool d4, .bool d5, .int .i64 k, .float .f64 x, .string tx, .int .i64 rf, .int .i64 g, .int .i64 st, .bool d12, .bool d13, .bool d14] 34) := ⟨_, rfl⟩
  have hk0 : Kx [] w W0 := by rw [hW0]; exact Kx.alloc _ _ _
  have hD0 : W0.heap[w.heap.size]? = some (Obj.cells #[.bool d0, .bool d1, .bool d2, .bool d3, .bool d4, .bool d5, .int .i64 k, .float .f64 x, .string tx, .int .i64 rf, .int .i64 g, .int .i64 st, .bool d12, .bool d13, .bool d14] 34 (0, 0)) := by rw [hW0]; exact heap_alloc_new _ _
  have hO0 : W0.cell? ⟨O, 0, none⟩ = some (.pointer (some ⟨H, 0, none⟩)) := hk0.cell hO (by simp)
  have c1 := numbered_any H l r W0 (hH.kept hk0)
  rw [objP_hit hr1 hr] at c1
  have CT := (show Hid _ from cT)
  have CK := (show Hid _ from cK)
  have CD := (show Hid _ from cD)
  have HK0 := (show Hid _ from hk0)
  have HD0 := (show Hid _ from hD0)
  clear cT cK cD hk0 hD0 hO hH hr1 hr
  rw [hW0] at hO0
  go_enter Tryz.func20, Tryz.ntmps20
  go_wp2_with (first | (go_at_call 21; fail))
  rw [← hW0]
  clear hW0 hO0
  refine c1.mono ?_
  rintro e w1 ⟨rfl, rfl⟩
  have y0 := cell_at HD0.out 0 rfl
  have y1 := cell_at HD0.out 1 rfl
  have y2 := cell_at HD0.out 2 rfl
  have y3 := cell_at HD0.out 3 rfl
  have y4 := cell_at HD0.out 4 rfl
  have y5 := cell_at HD0.out 5 rfl
  have y6 := cell_at HD0.out 6 rfl
  have y7 := cell_at HD0.out 7 rfl
  have y8 := cell_at HD0.out 8 rfl
  have y9 := cell_at HD0.out 9 rfl
  have y10 := cell_at HD0.out 10 rfl
  have y11 := cell_at HD0.out 11 rfl
  have y12 := cell_at HD0.out 12 rfl
  have y13 := cell_at HD0.out 13 rfl
  have y14 := cell_at HD0.out 14 rfl
  go_wp2_with (first | (go_at_call 40; fail))
  refine (CT.out w1 HK0.out).mono ?_
  rintro e w2 ⟨rfl, hk2⟩
  clear y0 y1 y2 y3 y4 y5 y6 y7 y8 y9 y10 y11 y12 y13 y14 c1 CT HD0
  obtain ⟨W2, hW2⟩ : ∃ W2, W2 = w2.alloc (Obj.cells #[.bool t0, .bool t1, .bool t2, .bool t3, .int .i64 t4, .float .f64 t5, .string t6, .pointer t7, .pointer t8, .pointer t9, .bool t10, .bool t11, .bool t12, .bool t13, .bool t14, .bool t15] 99) := ⟨_, rfl⟩
  have hk3 : Kx [] w W2 := by rw [hW2]; exact (HK0.out.same hk2).alc _
  have HT : Hid (W2.heap[w2.heap.size]? = some (Obj.cells #[.bool t0, .bool t1, .bool t2, .bool t3, .int .i64 t4, .float .f64 t5, .string t6, .pointer t7, .pointer t8, .pointer t9, .bool t10, .bool t11, .bool t12, .bool t13, .bool t14, .bool t15] 99 (0, 0))) := by rw [hW2]; exact heap_alloc_new _ _
  have HK3 := (show Hid _ from hk3)
  clear hk2 hk3 HK0
  go_wp2
  rw [← hW2]
  clear hW2
  have z0 := cell_at HT.out 0 rfl
  have z1 := cell_at HT.out 1 rfl
  have z2 := cell_at HT.out 2 rfl
  have z3 := cell_at HT.out 3 rfl
  have z4 := cell_at HT.out 4 rfl
  have z5 := cell_at HT.out 5 rfl
  have z6 := cell_at HT.out 6 rfl
  have z7 := cell_at HT.out 7 rfl
  have z8 := cell_at HT.out 8 rfl
  have z9 := cell_at HT.out 9 rfl
  have z10 := cell_at HT.out 10 rfl
  have z11 := cell_at HT.out 11 rfl
  have z12 := cell_at HT.out 12 rfl
  have z13 := cell_at HT.out 13 rfl
  have z14 := cell_at HT.out 14 rfl
  have z15 := cell_at HT.out 15 rfl
  go_region_law (first | (go_simp; go_at_call 26; refine (CK.out _ HK3.out.drw1).mono ?_; rintro e w4 ⟨rfl, hk4⟩; have HT4 : Hid (w4.heap[w2.heap.size]? = some (Obj.cells #[.bool t0, .bool t1, .bool t2, .bool t3, .int .i64 t4, .float .f64 t5, .string t6, .pointer t7, .pointer t8, .pointer t9, .bool t10, .bool t11, .bool t12, .bool t13, .bool t14, .bool t15] 99 (0, 0))) := hk4.get HT.out (by simp); have u0 := cell_at HT4.out 0 rfl; have u1 := cell_at HT4.out 1 rfl; have u2 := cell_at HT4.out 2 rfl; have u3 := cell_at HT4.out 3 rfl; have u4 := cell_at HT4.out 4 rfl; have u5 := cell_at HT4.out 5 rfl; have u6 := cell_at HT4.out 6 rfl; have u7 := cell_at HT4.out 7 rfl; have u8 := cell_at HT4.out 8 rfl; have u9 := cell_at HT4.out 9 rfl; have u10 := cell_at HT4.out 10 rfl; have u11 := cell_at HT4.out 11 rfl; have u12 := cell_at HT4.out 12 rfl; have u13 := cell_at HT4.out 13 rfl; have u14 := cell_at HT4.out 14 rfl; have u15 := cell_at HT4.out 15 rfl; have HK4 : Hid (Kx [] w w4) := (show Kx [] w w4 from (HK3.out.drw1).same hk4)) | (go_simp; go_at_call 41; refine (CD.out _ HK4.out).mono ?_; rintro e w5 ⟨rfl, hR⟩))
  all_goals
    have HR : Hid (R w5) := hR
    clear u0 u1 u2 u3 u4 u5 u6 u7 u8 u9 u10 u11 u12 u13 u14 u15 z0 z1 z2 z3 z4 z5 z6 z7 z8 z9 z10 z11 z12 z13 z14 z15 hR CD CK
    go_wp2
    go_ret
    exact ⟨rfl, HR.out⟩
end Go.Proofs.YtdnjgemaenhcfaaGreatDoor
/- Object.place of an object without places; Own. -/
set_option linter.unusedVariables false
namespace Go.Proofs.YtdnjgemaenhcfaaGreatDoor
open Go.RowKit Go.Shelf Go.Maps

theorem results_row_tmp {P : Program} {fn : Func} {p u : Tmp} {ty : TypeId} (h : fn.results = #[.cell p ty, .tmp u]) (tmps : Array Value) (w : World) (g : Nat) (t : TypeId) (cs : Array Value) (fr : Nat × Nat) (d : TypeDesc)
    (hp : tmps.getD p undef = .pointer (some ⟨g, 0, none⟩)) (hg : w.heap[g]? = some (.cells cs t fr))
    (hu : P.underlying ty = some d) (hd : (match d with | .struct _ | .array _ _ => true | _ => false) = true) (hi : (P.info? ty).map (·.size) = some cs.size) (b : Value) (hb : tmps.getD u undef = b) :
    (results fn tmps).run P w = .ok (.tuple #[.agg cs, b]) w := by
  rw [results_cell_tmp h, hp, hb]
  simp [asAddr, run_loadVar_row w g t ty cs fr d hg hu hd hi]
/-- No property. -/
def noP : Value := .agg #[.bool false, .bool false, .bool false, .bool false, .int .i64 0, .float .f64 0, .string ⟨#[]⟩, .pointer none, .pointer none, .pointer none]
attribute [local go_sem] run_store_flt
theorem strewn_none (n : Int) (w : World) : (Instr.lookup 109 (.map none) (.int .u32 n) true).run Tryz.prog w = .ok (.tuple #[noP, .bool false]) w := by kernel_rfl
set_option maxRecDepth 100000 in
set_option maxHeartbeats 2000000 in
theorem place_none (b : Nat) (a : Option Addr) (c : Nat) (n : Int) (hn : 0 ≤ n) (hn2 : n < 4294967296) (w : World) (h7 : w.cell? ⟨b, 7, none⟩ = some (.slice a 0 c)) (h8 : w.cell? ⟨b, 8, none⟩ = some (.map none)) :
    Calls Tryz.prog 48 #[.pointer (some ⟨b, 0, none⟩), .int .u32 n] w fun e w' => e = .returned (.tuple #[noP, .bool false]) ∧ Kx [] w w' := by
  have hw : IntKind.i64.wrap n = n := by rw [IntKind.wrap_i64]; omega
  have hl : ¬ n < 0 := by omega
  have hlk := strewn_none n
  have h7' : (w.alloc (Obj.cells #[.bool false, .bool false, .bool false, .bool false, .int .i64 0, .float .f64 0, .string ⟨#[]⟩, .pointer none, .pointer none, .pointer none] 75)).cell? ⟨b, 7, none⟩ = some (.slice a 0 c) := by rw [World.cell?_alloc_some _ _ _ (by rw [h7]; rfl)]; exact h7
  have h8' : (w.alloc (Obj.cells #[.bool false, .bool false, .bool false, .bool false, .int .i64 0, .float .f64 0, .string ⟨#[]⟩, .pointer none, .pointer none, .pointer none] 75)).cell? ⟨b, 8, none⟩ = some (.map none) := by rw [World.cell?_alloc_some _ _ _ (by rw [h8]; rfl)]; exact h8
  unfold noP at *
  clear h7 h8
  go_enter Tryz.func48, Tryz.ntmps48
  go_wp2
  refine bodyPost_ret (results_row_tmp rfl _ _ w.heap.size 75 _ (0, 0) _ rfl (heap_old (heap_alloc_new _ _) _) Tryz.underlying75 rfl (by kernel_rfl) _ rfl) rfl ?_
  exact ⟨rfl, (Kx.alloc _ _ _).alc _⟩
end Go.Proofs.YtdnjgemaenhcfaaGreatDoor
/- plain.Define; strings.Clone; heap.Make, the face's Make, plain.Make. -/
set_option linter.unusedVariables false
namespace Go.Proofs.YtdnjgemaenhcfaaGreatDoor
open Go.RowKit Go.Shelf Go.Maps

set_option maxRecDepth 100000 in
set_option maxHeartbeats 2000000 in
theorem define_plain (O : Nat) (r : Int) (s : ByteArray) (d0 d1 d2 d3 d4 d5 d12 d13 d14 : Bool) (k rf g st : Int) (x : Nat) (tx : ByteArray) (R : World → Prop) (w : World)
    (cD : ∀ W, Kx [] w W → Calls Tryz.prog 20 #[.pointer (some ⟨O, 0, none⟩), .int .i64 r, .string s, .agg #[.bool d0, .bool d1, .bool d2, .bool d3, .bool d4, .bool d5, .int .i64 k, .float .f64 x, .string tx, .int .i64 rf, .int .i64 g, .int .i64 st, .bool d12, .bool d13, .bool d14]] W fun e w' => e = .returned .nilIface ∧ R w') :
    Calls Tryz.prog 7 #[.pointer (some ⟨O, 0, none⟩), .int .i64 r, .string s, .agg #[.bool d0, .bool d1, .bool d2, .bool d3, .bool d4, .bool d5, .int .i64 k, .float .f64 x, .string tx, .int .i64 rf, .int .i64 g, .int .i64 st, .bool d12, .bool d13, .bool d14]] w fun e w' => e = .returned (.int .i64 0) ∧ ∃ W, R W ∧ Kx [] W w' := by
  have CD := (show Hid _ from cD)
  clear cD
  go_enter Tryz.func7, Tryz.ntmps7
  go_wp2_with (first | (go_at_call 20; fail))
  refine (CD.out _ (Kx.alloc _ _ _)).mono ?_
  rintro e w1 ⟨rfl, hR⟩
  have HR := (show Hid (R w1) from hR)
  have cn := number_nil w1
  clear hR CD
  go_wp2_with (first | (go_at_call 19; refine cn.mono ?_; rintro e w2 ⟨rfl, hk⟩))
  go_ret
  exact ⟨rfl, w1, HR.out, hk⟩
set_option maxRecDepth 100000 in
set_option maxHeartbeats 2000000 in
theorem clone_str (s : ByteArray) (hs : s.size ≤ 1000) (w : World) : Calls Tryz.prog 37 #[.string s] w fun e w' => e = .returned (.string s) ∧ Kx [] w w' := by
  have c := Tryz.stringslite_Clone s w (by omega)
  go_enter Tryz.func37, Tryz.ntmps37
  go_wp2_with (first | (go_at_call 58; refine c.mono ?_; rintro e w1 ⟨rfl, hb⟩))
  go_ret
  exact ⟨rfl, Kx.ofBelow hb []⟩
theorem info61 : (Tryz.prog.info? 61).map (fun i => (i.zero, i.size, i.bytes)) = some (some (.pointer none), 1, 8) := by kernel_rfl
def objV (C : ByteArray) (pr : Value) (n : Int) (S : Nat) : Array Value := #[.string C, pr, .bool false, .nilIface, .int .i64 n, .pointer (some ⟨S, 0, none⟩), .slice none 0 0, .slice none 0 0, .map none, .bool false]
set_option maxRecDepth 100000 in
set_option maxHeartbeats 2000000 in
theorem make_heap (H S base : Nat) (l : List Nat) (v : Value) (C : ByteArray) (w : World)
    (hH : w.heap[H]? = some (.cells #[v, .int .i64 (l.length : Int), .pointer (some ⟨S, 0, none⟩)] 91 (0, 0))) (hrow : w.ownsRow base 61 1 v l.length (l.map ptrV)) (hl : l.length ≤ 1000) (hbase : base ≤ w.heap.size) (hC : (C.toList == [65, 114, 114, 97, 121]) = false) :
    Calls Tryz.prog 36 #[.pointer (some ⟨H, 0, none⟩), .string C, .pointer none] w fun e w' => ∃ b v', e = .returned (.pointer (some ⟨b, 0, none⟩)) ∧ w.heap.size ≤ b ∧ w'.heap[b]? = some (.cells (objV C (.pointer none) ((l.length : Int) + 1) S) 111 (0, 0)) ∧
      w'.heap[H]? = some (.cells #[v', .int .i64 ((l.length : Int) + 1), .pointer (some ⟨S, 0, none⟩)] 91 (0, 0)) ∧ w'.ownsRow base 61 1 v' (l.length + 1) ((l ++ [b]).map ptrV) ∧ (∀ g, v'.ownBlock = some g → v.ownBlock = some g ∨ w.heap.size ≤ g) ∧ Kx (H :: v.ownBlock.toList) w w' := by
  have c1 := cell_at hH 1 rfl
  have f1 := fr_all hH 1
  obtain ⟨W1, hW1⟩ : ∃ W1, W1 = w.setCell ⟨H, 1, none⟩ (.int .i64 ((l.length : Int) + 1)) := ⟨_, rfl⟩
  have hk1 : Kx [H] w W1 := by rw [hW1]; exact Kx.setCell _ (by simp) _
  have hH1 : W1.heap[H]? = some (.cells #[v, .int .i64 ((l.length : Int) + 1), .pointer (some ⟨S, 0, none⟩)] 91 (0, 0)) := by rw [hW1]; exact heap_set_at hH 1 _ rfl
  have hr1 : W1.ownsRow base 61 1 v l.length (l.map ptrV) := hk1.owns hrow (fun g hg hm => row_apart hrow hH (by decide) (by rw [hg, List.mem_singleton.1 hm]; simp))
  have hHW : H ∉ v.ownBlock.toList := row_apart hr1 hH1 (by decide)
  have hsz : W1.heap.size = w.heap.size := by rw [hW1]; simp [World.setCell]
  obtain ⟨W2, hW2⟩ : ∃ W2, W2 = W1.alloc (Obj.cells #[.string C, .pointer none, .bool false, .nilIface, .int .i64 ((l.length : Int) + 1), .pointer (some ⟨S, 0, none⟩), .slice none 0 0, .slice none 0 0, .map none, .bool false] 111) := ⟨_, rfl⟩
  have hk2 : Kx [] W1 W2 := by rw [hW2]; exact Kx.alloc _ _ _
  have hH2 := hk2.get hH1 (by simp)
  have hb2 : W2.heap[W1.heap.size]? = some (.cells (objV C (.pointer none) ((l.length : Int) + 1) S) 111 (0, 0)) := by rw [hW2]; exact heap_alloc_new _ _
  have hr2 := hk2.owns hr1 (fun g hg => by simp)
  have a1 := cell_at hH1 1 rfl
  have a2 := cell_at hH1 2 rfl
  have b1 := cell_at hH2 1 rfl
  have b2 := cell_at hH2 2 rfl
  rw [hW2] at b1 b2
  have HH := (show Hid _ from And.intro hk1 (And.intro hk2 (And.intro hH2 (And.intro hb2 hr2))))
  clear hrow hr1 hr2 hH2 hb2 hk1 hk2 hH1 hH
  go_enter Tryz.func36, Tryz.ntmps36
  go_wp2
  rw [← hW1]
  clear hW1 c1 f1
  go_region_held3 (fun Z : World => Z.cell? ⟨H, 1, none⟩ = some (.int .i64 ((l.length : Int) + 1)) ∧ Z.cell? ⟨H, 2, none⟩ = some (.pointer (some ⟨S, 0, none⟩))) (first | exact ⟨a1, a2⟩ | exact ⟨b1, b2⟩) (fail)
  rw [← hW2]
  obtain ⟨W3, hW3⟩ : ∃ W3, W3 = W2.drew := ⟨_, rfl⟩
  have HK3 : Hid (Kx [H] w W3) := by rw [hW3]; exact (show Kx [H] w _ from HH.out.1.trans HH.out.2.1.drw1 (fun i hi => by cases hi))
  have HH3 : Hid (W3.heap[H]? = some (.cells #[v, .int .i64 ((l.length : Int) + 1), .pointer (some ⟨S, 0, none⟩)] 91 (0, 0))) := by rw [hW3]; exact HH.out.2.2.1
  have HB3 : Hid (W3.heap[w.heap.size]? = some (.cells (objV C (.pointer none) ((l.length : Int) + 1) S) 111 (0, 0))) := by rw [hW3, ← hsz]; exact HH.out.2.2.2.1
  have HR3 : Hid (W3.ownsRow base 61 1 v l.length (l.map ptrV)) := by rw [hW3]; exact HH.out.2.2.2.2
  have HS3 : Hid (W3.heap.size = w.heap.size + 1) := by rw [hW3, hW2]; exact (show _ = _ by simp [World.drew, hsz])
  rw [← hW3]
  clear hW3 hW2 HH a1 a2 b1 b2
  obtain ⟨i0, hi, hz0, hz1, hz2⟩ := info_parts info61
  have q1 : l.length + 1 ≤ maxLen := by unfold maxLen; omega
  have q2 : base ≤ W3.heap.size + 1 := by have := HS3.out; omega
  have z0 := cell_at HH3.out 0 rfl
  go_wp2_with (first | (at_builtin; refine wpList_append_lies _ rfl _ _ 89 rfl base 61 i0 (.pointer none) 1 8 Tryz.underlying89 hi hz0 hz1 hz2 rfl (by decide) _ _ _ rfl (HR3.out.alloc _) ⟨W3.heap.size, 0, none⟩ 1 1 [(.pointer (some ⟨w.heap.size, 0, none⟩))] rfl rfl (cells_new W3 [(.pointer (some ⟨w.heap.size, 0, none⟩))] 61) (by intro u hu; simp at hu; rw [hu]; rfl) (by decide) q1 (by omega) (by simp; omega) (W3.heap.size + 1) (by simp) ?_; intro gg cc w4 hown1 hgrow hat hlt1; have JN4 : Hid (w4.heap[H]? = some (.cells #[v, .int .i64 ((l.length : Int) + 1), .pointer (some ⟨S, 0, none⟩)] 91 (0, 0))) := (Kx.grown hgrow).get ((Kx.alloc [] W3 _).get HH3.out (by simp)) hHW; have JB4 : Hid (w4.heap[w.heap.size]? = some (.cells (objV C (.pointer none) ((l.length : Int) + 1) S) 111 (0, 0))) := (Kx.grown hgrow).get ((Kx.alloc [] W3 _).get HB3.out (by simp)) (row_apart HR3.out HB3.out (by decide)); have cN4 : w4.cell? ⟨H, 0, none⟩ = some v := cell_at JN4.out 0 rfl; have fN4 : w4.frozen? ⟨H, 0, none⟩ = false := fr_all JN4.out 0))
  go_ret
  have hbh : H ≠ w.heap.size := cells_ne HH3.out HB3.out (by decide)
  have kD : Kx [H] w4 (w4.setCell ⟨H, 0, none⟩ (.slice (some ⟨gg, 0, none⟩) (l.length + 1) cc)) := Kx.setCell _ (by simp) _
  refine ⟨w.heap.size, .slice (some ⟨gg, 0, none⟩) (l.length + 1) cc, rfl, Nat.le_refl _, heap_setCell_ne JB4.out hbh 0 _, heap_set_at JN4.out 0 _ rfl, ?_, ?_, ?_⟩
  · rw [List.map_append]
    exact kD.owns hown1 (fun q hq hm => row_apart hown1 JN4.out (by decide) (by rw [hq, List.mem_singleton.1 hm]; simp))
  · intro q hq
    have e : gg = q := by simpa [Value.ownBlock] using hq
    rcases hat with h | h
    · exact .inl (by have h' : v.ownBlock = some gg := h; rw [h', e])
    · exact .inr (by have := HS3.out; rw [← e, h]; omega)
  · exact (((HK3.out.alc (Obj.cells #[.pointer (some ⟨w.heap.size, 0, none⟩)] 61)).mono (S := H :: v.ownBlock.toList) (fun i hi => .inl (by simp at hi; simp [hi]))).trans (Kx.grown hgrow) (fun i hi => .inl (List.mem_cons_of_mem _ hi))).trans kD (fun i hi => .inl (by simp at hi; simp [hi]))
set_option maxRecDepth 100000 in
set_option maxHeartbeats 2000000 in
theorem make_face (O H : Nat) (C : ByteArray) (l : List Nat) (R : Nat → World → Prop) (w : World) (hC : C.size ≤ 1000) (hO : w.cell? ⟨O, 0, none⟩ = some (.pointer (some ⟨H, 0, none⟩))) (hH : Objs w H l) (n : Int)
    (cM : ∀ W, Kx [] w W → Calls Tryz.prog 36 #[.pointer (some ⟨H, 0, none⟩), .string C, .pointer none] W fun e w' => ∃ b, e = .returned (.pointer (some ⟨b, 0, none⟩)) ∧ w'.cell? ⟨b, 4, none⟩ = some (.int .i64 n) ∧ R b w') :
    Calls Tryz.prog 18 #[.pointer (some ⟨O, 0, none⟩), .string C, .int .i64 0] w fun e w' => e = .returned (.tuple #[.int .i64 n, .nilIface]) ∧ ∃ b, R b w' := by
  have c1 := orNone_any O H l 0 w hO hH
  rw [objP_none (by omega)] at c1
  have c2 := clone_str C hC
  have CM := (show Hid _ from cM)
  clear cM hH
  go_enter Tryz.func18, Tryz.ntmps18
  go_wp2_with (first | (go_at_call 35; refine c1.mono ?_; rintro e w1 ⟨rfl, rfl⟩))
  have k0 : ∀ W, Kx [] w1 W → W.cell? ⟨O, 0, none⟩ = some (.pointer (some ⟨H, 0, none⟩)) := fun W hW => hW.cell hO (by simp)
  have K0 := (show Hid _ from k0)
  clear k0
  go_region_law (first | (go_simp; go_at_call 37; refine (c2 _).mono ?_; rintro e w2 ⟨rfl, hk2⟩; have HK2 : Hid (Kx [] w1 w2) := (show Kx [] w1 w2 from (Kx.drew [] w1).same hk2); have o2 := K0.out w2 HK2.out) | (go_simp; go_at_call 36; refine (CM.out _ HK2.out).mono ?_; rintro e w3 ⟨b, rfl, h4, hR⟩; have c38 := number_any b n w3 h4) | (go_simp; go_at_call 38; refine c38.mono ?_; rintro e w4 ⟨rfl, rfl⟩))
  all_goals
    go_wp2
    go_ret2
    exact ⟨rfl, b, hR⟩
set_option maxRecDepth 100000 in
set_option maxHeartbeats 2000000 in
theorem make_plain (O : Nat) (C : ByteArray) (n : Int) (R : World → Prop) (w : World)
    (cM : Calls Tryz.prog 18 #[.pointer (some ⟨O, 0, none⟩), .string C, .int .i64 0] w fun e w' => e = .returned (.tuple #[.int .i64 n, .nilIface]) ∧ R w') :
    Calls Tryz.prog 6 #[.pointer (some ⟨O, 0, none⟩), .string C, .int .i64 0] w fun e w' => e = .returned (.tuple #[.int .i64 n, .int .i64 0]) ∧ ∃ W, R W ∧ Kx [] W w' := by
  have c2 := number_nil
  go_enter Tryz.func6, Tryz.ntmps6
  go_wp2_with (first | (go_at_call 18; refine cM.mono ?_; rintro e w1 ⟨rfl, hR⟩) | (go_at_call 19; refine (c2 _).mono ?_; rintro e w2 ⟨rfl, hk⟩))
  go_ret2
  exact ⟨rfl, w1, hR, hk⟩
end Go.Proofs.YtdnjgemaenhcfaaGreatDoor
/- descOf of a property with a value; the face's Own. -/
set_option linter.unusedVariables false
namespace Go.Proofs.YtdnjgemaenhcfaaGreatDoor
open Go.RowKit Go.Shelf Go.Maps
attribute [local go_sem] run_store_flt

set_option maxRecDepth 100000 in
set_option maxHeartbeats 2000000 in
theorem plainValue_any (k : Int) (x : Nat) (tx : ByteArray) (w : World) :
    Calls Tryz.prog 53 #[.agg #[.int .i64 k, .float .f64 x, .string tx, .pointer none]] w fun e w' => e = .returned (.agg #[.int .i64 k, .float .f64 x, .string tx, .int .i64 0]) ∧ Kx [] w w' := by
  have c := numberOf_nil
  obtain ⟨W0, hW0⟩ : ∃ W0, W0 = (w.alloc (Obj.cells #[.int .i64 k, .float .f64 x, .string tx, .pointer none] 73)).alloc (Obj.cells #[.int .i64 0, .float .f64 0, .string ⟨#[]⟩, .int .i64 0] 32) := ⟨_, rfl⟩
  have hk0 : Kx [] w W0 := by rw [hW0]; exact (show Kx [] w _ from (Kx.alloc _ _ _).alc _)
  have hV0 : W0.heap[w.heap.size]? = some (Obj.cells #[.int .i64 k, .float .f64 x, .string tx, .pointer none] 73 (0, 0)) := by rw [hW0]; exact heap_old (heap_alloc_new _ _) _
  have hR0 : W0.heap[w.heap.size + 1]? = some (Obj.cells #[.int .i64 0, .float .f64 0, .string ⟨#[]⟩, .int .i64 0] 32 (0, 0)) := by rw [hW0]; exact heap_alloc2_new _ _ _
  have hR1 := heap_set_at (C' := #[.int .i64 k, .float .f64 0, .string ⟨#[]⟩, .int .i64 0]) hR0 0 (.int .i64 k) rfl
  have hV1 := heap_setCell_ne hV0 (show w.heap.size + 1 ≠ w.heap.size by omega) 0 (.int .i64 k)
  have hR2 := heap_set_at (C' := #[.int .i64 k, .float .f64 x, .string ⟨#[]⟩, .int .i64 0]) hR1 1 (.float .f64 x) rfl
  have hV2 := heap_setCell_ne hV1 (show w.heap.size + 1 ≠ w.heap.size by omega) 1 (.float .f64 x)
  have hR3 := heap_set_at (C' := #[.int .i64 k, .float .f64 x, .string tx, .int .i64 0]) hR2 2 (.string tx) rfl
  have hV3 := heap_setCell_ne hV2 (show w.heap.size + 1 ≠ w.heap.size by omega) 2 (.string tx)
  have hR4 := heap_set_at (C' := #[.int .i64 k, .float .f64 x, .string tx, .int .i64 0]) hR3 3 (.int .i64 0) rfl
  have hV4 := heap_setCell_ne hV3 (show w.heap.size + 1 ≠ w.heap.size by omega) 3 (.int .i64 0)
  have a0 := cell_at hV0 0 rfl
  have a1 := cell_at hV0 1 rfl
  have a2 := cell_at hV0 2 rfl
  have a3 := cell_at hV0 3 rfl
  have b0 := cell_at hV4 0 rfl
  have b1 := cell_at hV4 1 rfl
  have b2 := cell_at hV4 2 rfl
  have b3 := cell_at hV4 3 rfl
  have r0 := cell_at hR0 0 rfl
  have f0 := fr_all hR0 0
  have r1 := cell_at hR0 1 rfl
  have f1 := fr_all hR0 1
  have r2 := cell_at hR0 2 rfl
  have f2 := fr_all hR0 2
  have r3 := cell_at hR0 3 rfl
  have f3 := fr_all hR0 3
  have HR4 := (show Hid _ from hR4)
  have HK0 : Hid (Kx [] w W0) := (show Kx [] w W0 from hk0)
  clear hV0 hV1 hV2 hV3 hV4 hR0 hR1 hR2 hR3 hR4 hk0
  go_enter Tryz.func53, Tryz.ntmps53
  go_wp2
  rw [← hW0]
  clear hW0
  go_region_held3 (fun Z : World => Z.cell? ⟨w.heap.size, 0, none⟩ = some (.int .i64 k) ∧ Z.cell? ⟨w.heap.size, 1, none⟩ = some (.float .f64 x) ∧ Z.cell? ⟨w.heap.size, 2, none⟩ = some (.string tx) ∧ Z.cell? ⟨w.heap.size, 3, none⟩ = some (.pointer none)) (first | exact ⟨a0, a1, a2, a3⟩ | exact ⟨b0, b1, b2, b3⟩) (first | (go_simp; go_at_call 52; refine (c _).mono ?_; rintro e w1 ⟨rfl, rfl⟩))
  go_wp2
  refine bodyPost_ret (results_cell_row rfl _ _ (w.heap.size + 1) 32 _ (0, 0) _ rfl HR4.out Tryz.underlying32 rfl (by kernel_rfl)) rfl ?_
  exact ⟨rfl, HK0.out.trans ((((((Kx.refl [w.heap.size + 1] W0).set (by simp) _).set (by simp) _).set (by simp) _).set (by simp) _).drw1) (fun i hi => .inr (by simp at hi; omega))⟩
end Go.Proofs.YtdnjgemaenhcfaaGreatDoor
