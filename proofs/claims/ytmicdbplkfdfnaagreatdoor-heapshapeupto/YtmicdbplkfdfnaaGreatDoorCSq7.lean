/- Object.set at a name that is there, where its traits turn: a property, or a length, that cannot be turned any more. -/
import Derived.Test.YtmicdbplkfdfnaaGreatDoorCSq5x
set_option linter.unusedVariables false
namespace Go.Proofs.YtmicdbplkfdfnaaGreatDoor
open Go.RowKit Go.Shelf Go.Maps
attribute [local go_sem] run_store_flt

set_option maxRecDepth 100000 in
set_option maxHeartbeats 2000000 in
theorem set_shut (b S g i n cap : Nat) (nm : ByteArray) (pl : Int) (x : Nat) (cl pr fx inn num rw st kp : Value) (cur : Array Value) (Q : Nat → World → Prop) (w : World)
    (hB : w.heap[b]? = some (.cells #[cl, pr, fx, inn, num, .pointer (some ⟨S, 0, none⟩), .slice (some ⟨g, 0, none⟩) n cap, rw, st, kp] 111 (0, 0)))
    (hG : w.heap[g]? = some (.cells cur 75 (0, 0))) (hi : i < n) (hn : n ≤ 1000) (hcs : i * 10 + 10 ≤ cur.size)
    (t0 : cur[i * 10]? = some (.bool false)) (t1 : cur[i * 10 + 1]? = some (.bool true)) (t2 : cur[i * 10 + 2]? = some (.bool true)) (t3 : cur[i * 10 + 3]? = some (.bool false))
    (cf : ∀ W, Kx [] w W → Calls Tryz.prog 51 #[.pointer (some ⟨S, 0, none⟩), .string nm] W fun e w' => e = .returned (.tuple #[.int .i64 (i : Int), .bool true]) ∧ ∃ q, w' = W.drewN q)
    (ca : ∀ W, Kx [] w W → Calls Tryz.prog 86 #[.pointer (some ⟨S, 0, none⟩)] W fun e w' => ∃ S', e = .returned (.pointer (some ⟨S', 0, none⟩)) ∧ Kx [] W w' ∧ Q S' w') :
    Calls Tryz.prog 59 #[.pointer (some ⟨b, 0, none⟩), .agg #[.string nm, .int .u32 pl, .bool false], .agg #[.bool false, .bool true, .bool false, .bool false, .int .i64 3, .float .f64 x, .string ⟨#[]⟩, .pointer none, .pointer none, .pointer none]] w fun e w' => (∃ u, e = .returned u) ∧ ∃ S' w3 cur', Kx [] w w3 ∧ Q S' w3 ∧ w'.heap[b]? = some (.cells #[cl, pr, fx, inn, num, .pointer (some ⟨S', 0, none⟩), .slice (some ⟨g, 0, none⟩) n cap, rw, st, kp] 111 (0, 0)) ∧ w'.heap[g]? = some (.cells cur' 75 (0, 0)) ∧ cur'.size = cur.size ∧
      cur'.toList = cur.toList.take (i * 10) ++ [.bool false, .bool true, .bool false, .bool false, .int .i64 3, .float .f64 x, .string ⟨#[]⟩, .pointer none, .pointer none, .pointer none] ++ cur.toList.drop (i * 10 + 10) ∧ Kx [b, g] w3 w' := by
  obtain ⟨W0, hW0⟩ : ∃ W0, W0 = (w.alloc (Obj.cells #[.string nm, .int .u32 pl, .bool false] 67)).alloc (Obj.cells #[.bool false, .bool true, .bool false, .bool false, .int .i64 3, .float .f64 x, .string ⟨#[]⟩, .pointer none, .pointer none, .pointer none] 75) := ⟨_, rfl⟩
  have hk : Kx [] w W0 := by rw [hW0]; exact (Kx.alloc _ _ _).alc _
  have hB0 := hk.get hB (by simp)
  have hG0 := hk.get hG (by simp)
  have hK0 : W0.heap[w.heap.size]? = some (Obj.cells #[.string nm, .int .u32 pl, .bool false] 67 (0, 0)) := by rw [hW0]; exact heap_old (heap_alloc_new _ _) _
  have hP0 : W0.heap[w.heap.size + 1]? = some (Obj.cells #[.bool false, .bool true, .bool false, .bool false, .int .i64 3, .float .f64 x, .string ⟨#[]⟩, .pointer none, .pointer none, .pointer none] 75 (0, 0)) := by rw [hW0]; exact heap_alloc2_new _ _ _
  have b5 := cell_at hB0 5 rfl
  have k0 := cell_at hK0 0 rfl
  have k2 := cell_at hK0 2 rfl
  have hgl := lt_get hG
  have hbl := lt_get hB
  have hbg : b ≠ g := cells_ne hB hG (by decide)
  have HB0 := (show Hid _ from hB0)
  have HG0 := (show Hid _ from hG0)
  have HP0 := (show Hid _ from hP0)
  have HK := (show Hid _ from hk)
  have CF := (show Hid _ from cf)
  have CA := (show Hid _ from ca)
  have HT := (show Hid _ from And.intro t0 (And.intro t1 (And.intro t2 t3)))
  clear hB hB0 hK0 hP0 hk cf ca hG hG0 t0 t1 t2 t3
  go_enter Tryz.func59, Tryz.ntmps59
  go_upto_region 1 with fail
  rw [← hW0]
  clear hW0
  go_wp2
  go_quiet (first | (go_at_call 51; exact Calls.quiet_of (CF.out _ (HK.out.drw _))))
  have HW1 : Hid (Kx [] w (W0.drewN nq)) := (show Kx [] w (W0.drewN nq) from HK.out.drw nq)
  have hB1 : (W0.drewN nq).heap[b]? = some (.cells #[cl, pr, fx, inn, num, .pointer (some ⟨S, 0, none⟩), .slice (some ⟨g, 0, none⟩) n cap, rw, st, kp] 111 (0, 0)) := HB0.out
  have hG1 : (W0.drewN nq).heap[g]? = some (.cells cur 75 (0, 0)) := HG0.out
  have hP1 : (W0.drewN nq).heap[w.heap.size + 1]? = some (Obj.cells #[.bool false, .bool true, .bool false, .bool false, .int .i64 3, .float .f64 x, .string ⟨#[]⟩, .pointer none, .pointer none, .pointer none] 75 (0, 0)) := HP0.out
  clear b5 k0 k2 HB0 HP0 HK CF HG0
  obtain ⟨w1, hw1⟩ : ∃ w1, w1 = W0.drewN nq := ⟨_, rfl⟩
  rw [← hw1] at hB1 hG1 hP1 HW1 ⊢
  clear hw1
  have b6 := cell_at hB1 6 rfl
  have g0 := cell_at hG1 (i * 10) HT.out.1
  have g1 := cell_at hG1 (i * 10 + 1) HT.out.2.1
  have g2 := cell_at hG1 (i * 10 + 2) HT.out.2.2.1
  have g3 := cell_at hG1 (i * 10 + 3) HT.out.2.2.2
  obtain ⟨⟨d0, d1, d2, d3, d4, d5, d6, d7, d8, d9⟩, -⟩ := row10 hP1
  have HG1 := (show Hid (w1.heap[g]? = some (.cells cur 75 (0, 0))) from hG1)
  have HB1 := (show Hid _ from hB1)
  have HP1 := (show Hid _ from hP1)
  clear hG1 hB1 hP1
  go_wp2
  go_quiet (fail)
  obtain ⟨w2, hw2⟩ : ∃ w2, w2 = w1.drewN nq := ⟨_, rfl⟩
  have HW2 := (show Hid (Kx [] w w2) from by rw [hw2]; exact HW1.out.drw nq)
  have HG2 := (show Hid (w2.heap[g]? = some (.cells cur 75 (0, 0))) from by rw [hw2]; exact HG1.out)
  have HB2 := (show Hid (w2.heap[b]? = some (.cells #[cl, pr, fx, inn, num, .pointer (some ⟨S, 0, none⟩), .slice (some ⟨g, 0, none⟩) n cap, rw, st, kp] 111 (0, 0))) from by rw [hw2]; exact HB1.out)
  have HP2 := (show Hid (w2.heap[w.heap.size + 1]? = some (Obj.cells #[.bool false, .bool true, .bool false, .bool false, .int .i64 3, .float .f64 x, .string ⟨#[]⟩, .pointer none, .pointer none, .pointer none] 75 (0, 0))) from by rw [hw2]; exact HP1.out)
  rw [← hw2]
  clear hw2 HG1 HB1 HP1 HW1 b6 g0 g1 g2 g3 d0 d1 d2 d3 d4 d5 d6 d7 d8 d9 HT
  have b5 := cell_at HB2.out 5 rfl
  go_wp2_with (first | (go_at_call 86; fail))
  refine (CA.out _ HW2.out).mono ?_
  rintro e w3 ⟨S', rfl, hk3, hq3⟩
  have HQ3 := (show Hid (Q S' w3 ∧ Kx [] w w3) from ⟨hq3, HW2.out.same hk3⟩)
  have hB3 := hk3.get HB2.out (by simp)
  have hG3 := hk3.get HG2.out (by simp)
  have hP3 := hk3.get HP2.out (by simp)
  have c5 := cell_at hB3 5 rfl
  have f5 := fr_all hB3 5
  obtain ⟨w5, hw5⟩ : ∃ w5, w5 = w3.setCell ⟨b, 5, none⟩ (.pointer (some ⟨S', 0, none⟩)) := ⟨_, rfl⟩
  have hk5 : Kx [b] w3 w5 := by rw [hw5]; exact Kx.setCell _ (by simp) _
  have hB5 : w5.heap[b]? = some (.cells #[cl, pr, fx, inn, num, .pointer (some ⟨S', 0, none⟩), .slice (some ⟨g, 0, none⟩) n cap, rw, st, kp] 111 (0, 0)) := by rw [hw5]; exact heap_set_at hB3 5 _ rfl
  have hG5 := hk5.get hG3 (by simp; exact fun e => hbg e.symm)
  have hP5 := hk5.get hP3 (by simp; omega)
  clear b5 hk3 hq3 hB3 hG3 hP3 HB2 HG2 HP2 CA HW2
  go_upto_region 9 with fail
  rw [← hw5]
  clear hw5 c5 f5
  have hgs : w.heap.size + 1 ≠ g := by omega
  obtain ⟨Z, hZ⟩ : ∃ Z, Z = ((((((((((w5.setCell ⟨g, i * 10, none⟩ (.bool false)).setCell ⟨g, i * 10 + 1, none⟩ (.bool true)).setCell ⟨g, i * 10 + 2, none⟩ (.bool false)).setCell ⟨g, i * 10 + 3, none⟩ (.bool false)).setCell ⟨g, i * 10 + 4, none⟩ (.int .i64 3)).setCell ⟨g, i * 10 + 5, none⟩ (.float .f64 x)).setCell ⟨g, i * 10 + 6, none⟩ (.string ⟨#[]⟩)).setCell ⟨g, i * 10 + 7, none⟩ (.pointer none)).setCell ⟨g, i * 10 + 8, none⟩ (.pointer none)).setCell ⟨g, i * 10 + 9, none⟩ (.pointer none)) := ⟨_, rfl⟩
  have KC := set10_kx_at w5 g (i * 10) (.bool false) (.bool true) (.bool false) (.bool false) (.int .i64 3) (.float .f64 x) (.string ⟨#[]⟩) (.pointer none) (.pointer none) (.pointer none)
  obtain ⟨cur', h1, h2, h3⟩ := set10_at hG5 (i * 10) hcs (.bool false) (.bool true) (.bool false) (.bool false) (.int .i64 3) (.float .f64 x) (.string ⟨#[]⟩) (.pointer none) (.pointer none) (.pointer none)
  rw [← hZ] at KC h1
  have hBZ := KC.get hB5 (by simp; exact hbg)
  have FIN := (show Hid (Z.drew.heap[b]? = some (.cells #[cl, pr, fx, inn, num, .pointer (some ⟨S', 0, none⟩), .slice (some ⟨g, 0, none⟩) n cap, rw, st, kp] 111 (0, 0)) ∧ Z.drew.heap[g]? = some (.cells cur' 75 (0, 0)) ∧ cur'.size = cur.size ∧ cur'.toList = _ ∧ Kx [b, g] w3 Z.drew) from ⟨hBZ, h1, h2, h3, ((hk5.mono (S := [b, g]) (fun i hi => .inl (by simp at hi; simp [hi]))).trans KC (fun i hi => .inl (by simp at hi; simp [hi]))).drw1⟩)
  have b6 := cell_at hB5 6 rfl
  obtain ⟨⟨d0, d1, d2, d3, d4, d5, d6, d7, d8, d9⟩, -⟩ := row10 hP5
  obtain ⟨v0, q0⟩ : ∃ v, w5.cell? ⟨g, i * 10, none⟩ = some v := ⟨_, cell_at hG5 (i * 10) (Array.getElem?_eq_getElem (by omega))⟩
  have r0 := fr_all hG5 (i * 10)
  obtain ⟨v1, q1⟩ : ∃ v, w5.cell? ⟨g, i * 10 + 1, none⟩ = some v := ⟨_, cell_at hG5 (i * 10 + 1) (Array.getElem?_eq_getElem (by omega))⟩
  have r1 := fr_all hG5 (i * 10 + 1)
  obtain ⟨v2, q2⟩ : ∃ v, w5.cell? ⟨g, i * 10 + 2, none⟩ = some v := ⟨_, cell_at hG5 (i * 10 + 2) (Array.getElem?_eq_getElem (by omega))⟩
  have r2 := fr_all hG5 (i * 10 + 2)
  obtain ⟨v3, q3⟩ : ∃ v, w5.cell? ⟨g, i * 10 + 3, none⟩ = some v := ⟨_, cell_at hG5 (i * 10 + 3) (Array.getElem?_eq_getElem (by omega))⟩
  have r3 := fr_all hG5 (i * 10 + 3)
  obtain ⟨v4, q4⟩ : ∃ v, w5.cell? ⟨g, i * 10 + 4, none⟩ = some v := ⟨_, cell_at hG5 (i * 10 + 4) (Array.getElem?_eq_getElem (by omega))⟩
  have r4 := fr_all hG5 (i * 10 + 4)
  obtain ⟨v5, q5⟩ : ∃ v, w5.cell? ⟨g, i * 10 + 5, none⟩ = some v := ⟨_, cell_at hG5 (i * 10 + 5) (Array.getElem?_eq_getElem (by omega))⟩
  have r5 := fr_all hG5 (i * 10 + 5)
  obtain ⟨v6, q6⟩ : ∃ v, w5.cell? ⟨g, i * 10 + 6, none⟩ = some v := ⟨_, cell_at hG5 (i * 10 + 6) (Array.getElem?_eq_getElem (by omega))⟩
  have r6 := fr_all hG5 (i * 10 + 6)
  obtain ⟨v7, q7⟩ : ∃ v, w5.cell? ⟨g, i * 10 + 7, none⟩ = some v := ⟨_, cell_at hG5 (i * 10 + 7) (Array.getElem?_eq_getElem (by omega))⟩
  have r7 := fr_all hG5 (i * 10 + 7)
  obtain ⟨v8, q8⟩ : ∃ v, w5.cell? ⟨g, i * 10 + 8, none⟩ = some v := ⟨_, cell_at hG5 (i * 10 + 8) (Array.getElem?_eq_getElem (by omega))⟩
  have r8 := fr_all hG5 (i * 10 + 8)
  obtain ⟨v9, q9⟩ : ∃ v, w5.cell? ⟨g, i * 10 + 9, none⟩ = some v := ⟨_, cell_at hG5 (i * 10 + 9) (Array.getElem?_eq_getElem (by omega))⟩
  have r9 := fr_all hG5 (i * 10 + 9)
  clear KC h1 h2 h3 hG5 hB5 hP5 hk5 hBZ
  go_wp2
  go_region_law (fail)
  all_goals go_wp2
  all_goals
    refine bodyPost_end (results_none rfl _ _ _) rfl ?_
    rw [← hZ]
    exact ⟨⟨_, rfl⟩, S', w3, cur', HQ3.out.2, HQ3.out.1, FIN.out⟩
set_option maxRecDepth 100000 in
set_option maxHeartbeats 2000000 in
theorem set_len (b S g i n cap : Nat) (nm : ByteArray) (pl : Int) (x : Nat) (cl pr fx inn num rw st kp : Value) (cur : Array Value) (Q : Nat → World → Prop) (w : World)
    (hB : w.heap[b]? = some (.cells #[cl, pr, fx, inn, num, .pointer (some ⟨S, 0, none⟩), .slice (some ⟨g, 0, none⟩) n cap, rw, st, kp] 111 (0, 0)))
    (hG : w.heap[g]? = some (.cells cur 75 (0, 0))) (hi : i < n) (hn : n ≤ 1000) (hcs : i * 10 + 10 ≤ cur.size)
    (t0 : cur[i * 10]? = some (.bool true)) (t1 : cur[i * 10 + 1]? = some (.bool false)) (t2 : cur[i * 10 + 2]? = some (.bool false)) (t3 : cur[i * 10 + 3]? = some (.bool false))
    (cf : ∀ W, Kx [] w W → Calls Tryz.prog 51 #[.pointer (some ⟨S, 0, none⟩), .string nm] W fun e w' => e = .returned (.tuple #[.int .i64 (i : Int), .bool true]) ∧ ∃ q, w' = W.drewN q)
    (ca : ∀ W, Kx [] w W → Calls Tryz.prog 86 #[.pointer (some ⟨S, 0, none⟩)] W fun e w' => ∃ S', e = .returned (.pointer (some ⟨S', 0, none⟩)) ∧ Kx [] W w' ∧ Q S' w') :
    Calls Tryz.prog 59 #[.pointer (some ⟨b, 0, none⟩), .agg #[.string nm, .int .u32 pl, .bool false], .agg #[.bool false, .bool false, .bool false, .bool false, .int .i64 3, .float .f64 x, .string ⟨#[]⟩, .pointer none, .pointer none, .pointer none]] w fun e w' => (∃ u, e = .returned u) ∧ ∃ S' w3 cur', Kx [] w w3 ∧ Q S' w3 ∧ w'.heap[b]? = some (.cells #[cl, pr, fx, inn, num, .pointer (some ⟨S', 0, none⟩), .slice (some ⟨g, 0, none⟩) n cap, rw, st, kp] 111 (0, 0)) ∧ w'.heap[g]? = some (.cells cur' 75 (0, 0)) ∧ cur'.size = cur.size ∧
      cur'.toList = cur.toList.take (i * 10) ++ [.bool false, .bool false, .bool false, .bool false, .int .i64 3, .float .f64 x, .string ⟨#[]⟩, .pointer none, .pointer none, .pointer none] ++ cur.toList.drop (i * 10 + 10) ∧ Kx [b, g] w3 w' := by
  obtain ⟨W0, hW0⟩ : ∃ W0, W0 = (w.alloc (Obj.cells #[.string nm, .int .u32 pl, .bool false] 67)).alloc (Obj.cells #[.bool false, .bool false, .bool false, .bool false, .int .i64 3, .float .f64 x, .string ⟨#[]⟩, .pointer none, .pointer none, .pointer none] 75) := ⟨_, rfl⟩
  have hk : Kx [] w W0 := by rw [hW0]; exact (Kx.alloc _ _ _).alc _
  have hB0 := hk.get hB (by simp)
  have hG0 := hk.get hG (by simp)
  have hK0 : W0.heap[w.heap.size]? = some (Obj.cells #[.string nm, .int .u32 pl, .bool false] 67 (0, 0)) := by rw [hW0]; exact heap_old (heap_alloc_new _ _) _
  have hP0 : W0.heap[w.heap.size + 1]? = some (Obj.cells #[.bool false, .bool false, .bool false, .bool false, .int .i64 3, .float .f64 x, .string ⟨#[]⟩, .pointer none, .pointer none, .pointer none] 75 (0, 0)) := by rw [hW0]; exact heap_alloc2_new _ _ _
  have b5 := cell_at hB0 5 rfl
  have k0 := cell_at hK0 0 rfl
  have k2 := cell_at hK0 2 rfl
  have hgl := lt_get hG
  have hbl := lt_get hB
  have hbg : b ≠ g := cells_ne hB hG (by decide)
  have HB0 := (show Hid _ from hB0)
  have HG0 := (show Hid _ from hG0)
  have HP0 := (show Hid _ from hP0)
  have HK := (show Hid _ from hk)
  have CF := (show Hid _ from cf)
  have CA := (show Hid _ from ca)
  have HT := (show Hid _ from And.intro t0 (And.intro t1 (And.intro t2 t3)))
  clear hB hB0 hK0 hP0 hk cf ca hG hG0 t0 t1 t2 t3
  go_enter Tryz.func59, Tryz.ntmps59
  go_upto_region 1 with fail
  rw [← hW0]
  clear hW0
  go_wp2
  go_quiet (first | (go_at_call 51; exact Calls.quiet_of (CF.out _ (HK.out.drw _))))
  have HW1 : Hid (Kx [] w (W0.drewN nq)) := (show Kx [] w (W0.drewN nq) from HK.out.drw nq)
  have hB1 : (W0.drewN nq).heap[b]? = some (.cells #[cl, pr, fx, inn, num, .pointer (some ⟨S, 0, none⟩), .slice (some ⟨g, 0, none⟩) n cap, rw, st, kp] 111 (0, 0)) := HB0.out
  have hG1 : (W0.drewN nq).heap[g]? = some (.cells cur 75 (0, 0)) := HG0.out
  have hP1 : (W0.drewN nq).heap[w.heap.size + 1]? = some (Obj.cells #[.bool false, .bool false, .bool false, .bool false, .int .i64 3, .float .f64 x, .string ⟨#[]⟩, .pointer none, .pointer none, .pointer none] 75 (0, 0)) := HP0.out
  clear b5 k0 k2 HB0 HP0 HK CF HG0
  obtain ⟨w1, hw1⟩ : ∃ w1, w1 = W0.drewN nq := ⟨_, rfl⟩
  rw [← hw1] at hB1 hG1 hP1 HW1 ⊢
  clear hw1
  have b6 := cell_at hB1 6 rfl
  have g0 := cell_at hG1 (i * 10) HT.out.1
  have g1 := cell_at hG1 (i * 10 + 1) HT.out.2.1
  have g2 := cell_at hG1 (i * 10 + 2) HT.out.2.2.1
  have g3 := cell_at hG1 (i * 10 + 3) HT.out.2.2.2
  obtain ⟨⟨d0, d1, d2, d3, d4, d5, d6, d7, d8, d9⟩, -⟩ := row10 hP1
  have HG1 := (show Hid (w1.heap[g]? = some (.cells cur 75 (0, 0))) from hG1)
  have HB1 := (show Hid _ from hB1)
  have HP1 := (show Hid _ from hP1)
  clear hG1 hB1 hP1
  go_wp2
  go_quiet (fail)
  obtain ⟨w2, hw2⟩ : ∃ w2, w2 = w1.drewN nq := ⟨_, rfl⟩
  have HW2 := (show Hid (Kx [] w w2) from by rw [hw2]; exact HW1.out.drw nq)
  have HG2 := (show Hid (w2.heap[g]? = some (.cells cur 75 (0, 0))) from by rw [hw2]; exact HG1.out)
  have HB2 := (show Hid (w2.heap[b]? = some (.cells #[cl, pr, fx, inn, num, .pointer (some ⟨S, 0, none⟩), .slice (some ⟨g, 0, none⟩) n cap, rw, st, kp] 111 (0, 0))) from by rw [hw2]; exact HB1.out)
  have HP2 := (show Hid (w2.heap[w.heap.size + 1]? = some (Obj.cells #[.bool false, .bool false, .bool false, .bool false, .int .i64 3, .float .f64 x, .string ⟨#[]⟩, .pointer none, .pointer none, .pointer none] 75 (0, 0))) from by rw [hw2]; exact HP1.out)
  rw [← hw2]
  clear hw2 HG1 HB1 HP1 HW1 b6 g0 g1 g2 g3 d0 d1 d2 d3 d4 d5 d6 d7 d8 d9 HT
  have b5 := cell_at HB2.out 5 rfl
  go_wp2_with (first | (go_at_call 86; fail))
  refine (CA.out _ HW2.out).mono ?_
  rintro e w3 ⟨S', rfl, hk3, hq3⟩
  have HQ3 := (show Hid (Q S' w3 ∧ Kx [] w w3) from ⟨hq3, HW2.out.same hk3⟩)
  have hB3 := hk3.get HB2.out (by simp)
  have hG3 := hk3.get HG2.out (by simp)
  have hP3 := hk3.get HP2.out (by simp)
  have c5 := cell_at hB3 5 rfl
  have f5 := fr_all hB3 5
  obtain ⟨w5, hw5⟩ : ∃ w5, w5 = w3.setCell ⟨b, 5, none⟩ (.pointer (some ⟨S', 0, none⟩)) := ⟨_, rfl⟩
  have hk5 : Kx [b] w3 w5 := by rw [hw5]; exact Kx.setCell _ (by simp) _
  have hB5 : w5.heap[b]? = some (.cells #[cl, pr, fx, inn, num, .pointer (some ⟨S', 0, none⟩), .slice (some ⟨g, 0, none⟩) n cap, rw, st, kp] 111 (0, 0)) := by rw [hw5]; exact heap_set_at hB3 5 _ rfl
  have hG5 := hk5.get hG3 (by simp; exact fun e => hbg e.symm)
  have hP5 := hk5.get hP3 (by simp; omega)
  clear b5 hk3 hq3 hB3 hG3 hP3 HB2 HG2 HP2 CA HW2
  go_upto_region 9 with fail
  rw [← hw5]
  clear hw5 c5 f5
  have hgs : w.heap.size + 1 ≠ g := by omega
  obtain ⟨Z, hZ⟩ : ∃ Z, Z = ((((((((((w5.setCell ⟨g, i * 10, none⟩ (.bool false)).setCell ⟨g, i * 10 + 1, none⟩ (.bool false)).setCell ⟨g, i * 10 + 2, none⟩ (.bool false)).setCell ⟨g, i * 10 + 3, none⟩ (.bool false)).setCell ⟨g, i * 10 + 4, none⟩ (.int .i64 3)).setCell ⟨g, i * 10 + 5, none⟩ (.float .f64 x)).setCell ⟨g, i * 10 + 6, none⟩ (.string ⟨#[]⟩)).setCell ⟨g, i * 10 + 7, none⟩ (.pointer none)).setCell ⟨g, i * 10 + 8, none⟩ (.pointer none)).setCell ⟨g, i * 10 + 9, none⟩ (.pointer none)) := ⟨_, rfl⟩
  have KC := set10_kx_at w5 g (i * 10) (.bool false) (.bool false) (.bool false) (.bool false) (.int .i64 3) (.float .f64 x) (.string ⟨#[]⟩) (.pointer none) (.pointer none) (.pointer none)
  obtain ⟨cur', h1, h2, h3⟩ := set10_at hG5 (i * 10) hcs (.bool false) (.bool false) (.bool false) (.bool false) (.int .i64 3) (.float .f64 x) (.string ⟨#[]⟩) (.pointer none) (.pointer none) (.pointer none)
  rw [← hZ] at KC h1
  have hBZ := KC.get hB5 (by simp; exact hbg)
  have FIN := (show Hid (Z.drew.heap[b]? = some (.cells #[cl, pr, fx, inn, num, .pointer (some ⟨S', 0, none⟩), .slice (some ⟨g, 0, none⟩) n cap, rw, st, kp] 111 (0, 0)) ∧ Z.drew.heap[g]? = some (.cells cur' 75 (0, 0)) ∧ cur'.size = cur.size ∧ cur'.toList = _ ∧ Kx [b, g] w3 Z.drew) from ⟨hBZ, h1, h2, h3, ((hk5.mono (S := [b, g]) (fun i hi => .inl (by simp at hi; simp [hi]))).trans KC (fun i hi => .inl (by simp at hi; simp [hi]))).drw1⟩)
  have b6 := cell_at hB5 6 rfl
  obtain ⟨⟨d0, d1, d2, d3, d4, d5, d6, d7, d8, d9⟩, -⟩ := row10 hP5
  obtain ⟨v0, q0⟩ : ∃ v, w5.cell? ⟨g, i * 10, none⟩ = some v := ⟨_, cell_at hG5 (i * 10) (Array.getElem?_eq_getElem (by omega))⟩
  have r0 := fr_all hG5 (i * 10)
  obtain ⟨v1, q1⟩ : ∃ v, w5.cell? ⟨g, i * 10 + 1, none⟩ = some v := ⟨_, cell_at hG5 (i * 10 + 1) (Array.getElem?_eq_getElem (by omega))⟩
  have r1 := fr_all hG5 (i * 10 + 1)
  obtain ⟨v2, q2⟩ : ∃ v, w5.cell? ⟨g, i * 10 + 2, none⟩ = some v := ⟨_, cell_at hG5 (i * 10 + 2) (Array.getElem?_eq_getElem (by omega))⟩
  have r2 := fr_all hG5 (i * 10 + 2)
  obtain ⟨v3, q3⟩ : ∃ v, w5.cell? ⟨g, i * 10 + 3, none⟩ = some v := ⟨_, cell_at hG5 (i * 10 + 3) (Array.getElem?_eq_getElem (by omega))⟩
  have r3 := fr_all hG5 (i * 10 + 3)
  obtain ⟨v4, q4⟩ : ∃ v, w5.cell? ⟨g, i * 10 + 4, none⟩ = some v := ⟨_, cell_at hG5 (i * 10 + 4) (Array.getElem?_eq_getElem (by omega))⟩
  have r4 := fr_all hG5 (i * 10 + 4)
  obtain ⟨v5, q5⟩ : ∃ v, w5.cell? ⟨g, i * 10 + 5, none⟩ = some v := ⟨_, cell_at hG5 (i * 10 + 5) (Array.getElem?_eq_getElem (by omega))⟩
  have r5 := fr_all hG5 (i * 10 + 5)
  obtain ⟨v6, q6⟩ : ∃ v, w5.cell? ⟨g, i * 10 + 6, none⟩ = some v := ⟨_, cell_at hG5 (i * 10 + 6) (Array.getElem?_eq_getElem (by omega))⟩
  have r6 := fr_all hG5 (i * 10 + 6)
  obtain ⟨v7, q7⟩ : ∃ v, w5.cell? ⟨g, i * 10 + 7, none⟩ = some v := ⟨_, cell_at hG5 (i * 10 + 7) (Array.getElem?_eq_getElem (by omega))⟩
  have r7 := fr_all hG5 (i * 10 + 7)
  obtain ⟨v8, q8⟩ : ∃ v, w5.cell? ⟨g, i * 10 + 8, none⟩ = some v := ⟨_, cell_at hG5 (i * 10 + 8) (Array.getElem?_eq_getElem (by omega))⟩
  have r8 := fr_all hG5 (i * 10 + 8)
  obtain ⟨v9, q9⟩ : ∃ v, w5.cell? ⟨g, i * 10 + 9, none⟩ = some v := ⟨_, cell_at hG5 (i * 10 + 9) (Array.getElem?_eq_getElem (by omega))⟩
  have r9 := fr_all hG5 (i * 10 + 9)
  clear KC h1 h2 h3 hG5 hB5 hP5 hk5 hBZ
  go_wp2
  go_region_law (fail)
  all_goals go_wp2
  all_goals
    refine bodyPost_end (results_none rfl _ _ _) rfl ?_
    rw [← hZ]
    exact ⟨⟨_, rfl⟩, S', w3, cur', HQ3.out.2, HQ3.out.1, FIN.out⟩
end Go.Proofs.YtmicdbplkfdfnaaGreatDoor
