/- Object.strew, leaveRow, setPlace, where no row is. -/
import Derived.Test.YtmicdbplkfdfnaaGreatDoorCHo3x
import Derived.Deep.RegionHeld3
import Derived.Deep.RegionLaw
import Derived.Deep.DeepCutAuto
set_option linter.unusedVariables false
namespace Go.Proofs.YtmicdbplkfdfnaaGreatDoor
open Go.RowKit Go.Shelf Go.Maps

theorem map109_no (X : Nat) (w : World) : (binOp .eql 109 (.map (some X)) (.map none)).run Tryz.prog w = .ok (.bool false) w := by kernel_rfl
theorem map109_yes (w : World) : (binOp .eql 109 (.map none) (.map none)).run Tryz.prog w = .ok (.bool true) w := by kernel_rfl
theorem run_makeMap109 (w : World) : (Instr.makeMap 109 none).run Tryz.prog w = .ok (.map (some w.heap.size)) (w.alloc (.map #[] 0)) := by kernel_rfl
/-- The strewn places: none, or a map. -/
def StAt (w : World) (st : Value) (m : Nat) (f : Nat → Option Pr) : Prop := (st = .map none ∧ f = fun _ => none) ∨ ∃ M, st = .map (some M) ∧ SMap w M m f
theorem StAt.looks {w : World} {st : Value} {m : Nat} {f : Nat → Option Pr} (h : StAt w st m f) (k : Nat) (hk : k < 4294967296) : LooksAt w st (k : Int) (f k) := by
  rcases h with ⟨rfl, rfl⟩ | ⟨M, rfl, hm⟩
  · exact looks_none w _
  · exact looks_some hm k hk
def stB : Value → List Nat
  | .map (some M) => [M]
  | _ => []
theorem Kx.stAt {S : List Nat} {w w' : World} (h : Kx S w w') {st : Value} {m : Nat} {f : Nat → Option Pr} (hs : StAt w st m f) (hb : ∀ i ∈ stB st, i ∉ S) : StAt w' st m f := by
  rcases hs with ⟨rfl, rfl⟩ | ⟨M, rfl, hm⟩
  · exact .inl ⟨rfl, rfl⟩
  · exact .inr ⟨M, rfl, h.smap hm (hb M (by simp [stB]))⟩
theorem SMap.more {w : World} {b n n' : Nat} {f : Nat → Option Pr} (h : SMap w b n f) (hn : n ≤ n') : SMap w b n' f := by
  obtain ⟨D, ⟨es, clock, hb, F, hs, hD⟩, rest⟩ := h
  exact ⟨D, ⟨es, clock, hb, F, Nat.le_trans hs hn, hD⟩, rest⟩
set_option maxRecDepth 100000 in
set_option maxHeartbeats 2000000 in
theorem strew_any (b m k : Nat) (hk : k < 4294967296) (p : Pr) (cl pr fx inn num sh nv rw st kp : Value) (f : Nat → Option Pr) (w : World)
    (hB : w.heap[b]? = some (.cells #[cl, pr, fx, inn, num, sh, nv, rw, st, kp] 111 (0, 0))) (hS : StAt w st m f) (hm : m ≤ 100000) :
    Calls Tryz.prog 114 #[.pointer (some ⟨b, 0, none⟩), .int .u32 (k : Int), prV p] w fun e w' => (∃ u, e = .returned u) ∧ ∃ M, w'.heap[b]? = some (.cells #[cl, pr, fx, inn, num, sh, nv, rw, .map (some M), kp] 111 (0, 0)) ∧ SMap w' M (m + 1) (fun t => if t = k then some p else f t) ∧ (st = .map (some M) ∨ w.heap.size ≤ M) ∧ Kx (b :: stB st) w w' := by
  obtain ⟨p0, p1, p2, x⟩ := p
  obtain ⟨W0, hW0⟩ : ∃ W0, W0 = w.alloc (Obj.cells #[.bool p0, .bool p1, .bool p2, .bool false, .int .i64 3, .float .f64 x, .string ⟨#[]⟩, .pointer none, .pointer none, .pointer none] 75) := ⟨_, rfl⟩
  have hk0 : Kx [] w W0 := by rw [hW0]; exact Kx.alloc _ _ _
  have hB0 := hk0.get hB (by simp)
  have hP0 : W0.heap[w.heap.size]? = some (Obj.cells #[.bool p0, .bool p1, .bool p2, .bool false, .int .i64 3, .float .f64 x, .string ⟨#[]⟩, .pointer none, .pointer none, .pointer none] 75 (0, 0)) := by rw [hW0]; exact heap_alloc_new _ _
  rcases hS with ⟨rfl, rfl⟩ | ⟨M, rfl, hM⟩
  · obtain ⟨M, hMd⟩ : ∃ M, M = W0.heap.size := ⟨_, rfl⟩
    obtain ⟨W1, hW1⟩ : ∃ W1, W1 = (W0.alloc (.map #[] 0)).setCell ⟨b, 8, none⟩ (.map (some M)) := ⟨_, rfl⟩
    have hka : Kx [] W0 (W0.alloc (.map #[] 0)) := Kx.alloc _ _ _
    have hks : Kx [b] (W0.alloc (.map #[] 0)) W1 := by rw [hW1]; exact Kx.setCell _ (by simp) _
    have hBa := hka.get hB0 (by simp)
    have hbM : b ≠ M := by have := lt_get hB0; omega
    have hM1 : SMap W1 M 0 (fun _ => none) := hks.smap (by rw [hMd]; exact smap_made W0) (by simp; omega)
    have hB1 : W1.heap[b]? = some (.cells #[cl, pr, fx, inn, num, sh, nv, rw, .map (some M), kp] 111 (0, 0)) := by rw [hW1]; exact heap_set_at hBa 8 _ rfl
    have hbP : b ≠ w.heap.size := cells_ne hB0 hP0 (by decide)
    have hP1 := hks.get (hka.get hP0 (by simp)) (by simp; exact fun e => hbP e.symm)
    have hk01 : Kx [b] w W1 := (hk0.mono (S := [b]) (fun i hi => by simp at hi)).trans ((hka.mono (S := [b]) (fun i hi => by simp at hi)).trans hks (fun i hi => .inl hi)) (fun i hi => .inl hi)
    obtain ⟨w1, hput, hm1, hg1⟩ := smap_put (show SMap W1.drew M 0 _ from hM1) k hk (p0, p1, p2, x) (by unfold maxLen; omega)
    have hput' : (Instr.mapUpdate 109 (.map (some M)) (.int .u32 (k : Int)) (.agg #[.bool p0, .bool p1, .bool p2, .bool false, .int .i64 3, .float .f64 x, .string ⟨#[]⟩, .pointer none, .pointer none, .pointer none])).run Tryz.prog W1.drew = .ok () w1 := hput
    have hk1 : Kx [M] W1 w1 := (Kx.drew [M] W1).trans (Kx.grown hg1) (fun i hi => .inl (by simp at hi; simp [hi]))
    have hB2 := hk1.get hB1 (by simp; exact hbM)
    have a8 := cell_at hB0 8 rfl
    have a8' := cell_at hBa 8 rfl
    have g8 := fr_all hBa 8
    have b8 := cell_at hB1 8 rfl
    have b8' := cell_at hB2 8 rfl
    obtain ⟨⟨d0, d1, d2, d3, d4, d5, d6, d7, d8, d9⟩, -⟩ := row10 hP1
    obtain ⟨⟨e0, e1, e2, e3, e4, e5, e6, e7, e8, e9⟩, -⟩ := row10 (hk1.get hP1 (by simp; exact smap_cells hM1 hP1))
    have hms : w.heap.size ≤ M := by have := hk0.size; omega
    have FIN := (show Hid _ from And.intro hB2 (And.intro hm1 (hk01.trans hk1 (fun i hi => .inr (by simp at hi; omega)))))
    have hyes := map109_yes
    have hmk := run_makeMap109
    unfold prV
    dsimp only
    go_enter Tryz.func114, Tryz.ntmps114
    go_upto_region 1 with fail
    rw [← hW0]
    clear hW0
    go_upto_region 3 with fail
    rw [← hMd, ← hW1]
    clear hMd hW1 a8 a8' g8 hB hB0 hBa hP0 hP1 hB1 hB2 hka hks hk0 hk01 hk1 hg1 hM1 hm1 hput hmk hyes
    go_region_held3 (fun W : World => W.cell? ⟨b, 8, none⟩ = some (.map (some M)) ∧ W.cell? ⟨w.heap.size, 0, none⟩ = some (.bool p0) ∧ W.cell? ⟨w.heap.size, 1, none⟩ = some (.bool p1) ∧ W.cell? ⟨w.heap.size, 2, none⟩ = some (.bool p2) ∧ W.cell? ⟨w.heap.size, 3, none⟩ = some (.bool false) ∧ W.cell? ⟨w.heap.size, 4, none⟩ = some (.int .i64 3) ∧ W.cell? ⟨w.heap.size, 5, none⟩ = some (.float .f64 x) ∧ W.cell? ⟨w.heap.size, 6, none⟩ = some (.string ⟨#[]⟩) ∧ W.cell? ⟨w.heap.size, 7, none⟩ = some (.pointer none) ∧ W.cell? ⟨w.heap.size, 8, none⟩ = some (.pointer none) ∧ W.cell? ⟨w.heap.size, 9, none⟩ = some (.pointer none)) (first | exact ⟨b8, d0, d1, d2, d3, d4, d5, d6, d7, d8, d9⟩ | exact ⟨b8', e0, e1, e2, e3, e4, e5, e6, e7, e8, e9⟩) (fail)
    go_wp2
    refine bodyPost_end (results_none rfl _ _ _) rfl ?_
    exact ⟨⟨_, rfl⟩, M, FIN.out.1, FIN.out.2.1.more (by omega), .inr hms, FIN.out.2.2⟩
  · have hM0 := hk0.smap hM (by simp)
    obtain ⟨w1, hput, hm1, hg1⟩ := smap_put (show SMap W0.drew M m f from hM0) k hk (p0, p1, p2, x) (by unfold maxLen; omega)
    have hput' : (Instr.mapUpdate 109 (.map (some M)) (.int .u32 (k : Int)) (.agg #[.bool p0, .bool p1, .bool p2, .bool false, .int .i64 3, .float .f64 x, .string ⟨#[]⟩, .pointer none, .pointer none, .pointer none])).run Tryz.prog W0.drew = .ok () w1 := hput
    have b8 := cell_at hB0 8 rfl
    obtain ⟨⟨d0, d1, d2, d3, d4, d5, d6, d7, d8, d9⟩, -⟩ := row10 hP0
    have hk1 : Kx [M] W0 w1 := (Kx.drew [M] W0).trans (Kx.grown hg1) (fun i hi => .inl (by simp at hi; simp [hi]))
    have hbM : b ≠ M := smap_cells hM0 hB0
    have hB1 := hk1.get hB0 (by simp; exact hbM)
    have FIN := (show Hid _ from And.intro hB1 (And.intro hm1 ((hk0.mono (S := [b, M]) (fun i hi => by simp at hi)).trans hk1 (fun i hi => .inl (by simp at hi; simp [hi])))))
    have hno := map109_no M
    have b8' := cell_at hB1 8 rfl
    obtain ⟨⟨e0, e1, e2, e3, e4, e5, e6, e7, e8, e9⟩, -⟩ := row10 (hk1.get hP0 (by simp; exact smap_cells hM0 hP0))
    clear hB hB0 hP0 hM hM0 hk0 hk1 hg1 hm1 hput hB1
    unfold prV
    dsimp only
    go_enter Tryz.func114, Tryz.ntmps114
    go_upto_region 1 with fail
    rw [← hW0]
    clear hW0
    go_wp2
    go_region_held3 (fun W : World => W.cell? ⟨b, 8, none⟩ = some (.map (some M)) ∧ W.cell? ⟨w.heap.size, 0, none⟩ = some (.bool p0) ∧ W.cell? ⟨w.heap.size, 1, none⟩ = some (.bool p1) ∧ W.cell? ⟨w.heap.size, 2, none⟩ = some (.bool p2) ∧ W.cell? ⟨w.heap.size, 3, none⟩ = some (.bool false) ∧ W.cell? ⟨w.heap.size, 4, none⟩ = some (.int .i64 3) ∧ W.cell? ⟨w.heap.size, 5, none⟩ = some (.float .f64 x) ∧ W.cell? ⟨w.heap.size, 6, none⟩ = some (.string ⟨#[]⟩) ∧ W.cell? ⟨w.heap.size, 7, none⟩ = some (.pointer none) ∧ W.cell? ⟨w.heap.size, 8, none⟩ = some (.pointer none) ∧ W.cell? ⟨w.heap.size, 9, none⟩ = some (.pointer none)) (first | exact ⟨b8, d0, d1, d2, d3, d4, d5, d6, d7, d8, d9⟩ | exact ⟨b8', e0, e1, e2, e3, e4, e5, e6, e7, e8, e9⟩) (fail)
    go_wp2
    refine bodyPost_end (results_none rfl _ _ _) rfl ?_
    exact ⟨⟨_, rfl⟩, M, FIN.out.1, FIN.out.2.1, .inl rfl, FIN.out.2.2⟩
set_option maxRecDepth 100000 in
theorem leave_none (b : Nat) (a : Option Addr) (c : Nat) (n : Int) (hn : 0 ≤ n) (hn2 : n < 4294967296) (w : World) (h7 : w.cell? ⟨b, 7, none⟩ = some (.slice a 0 c)) :
    Calls Tryz.prog 113 #[.pointer (some ⟨b, 0, none⟩), .int .u32 n] w fun e w' => (∃ u, e = .returned u) ∧ w' = w := by
  have hw : IntKind.i64.wrap n = n := by rw [IntKind.wrap_i64]; omega
  go_enter Tryz.func113, Tryz.ntmps113
  go_wp2
  refine bodyPost_ret (results_none rfl _ _ _) rfl ?_
  exact ⟨⟨_, rfl⟩, rfl⟩
theorem allFlags_any (w : World) : Calls Tryz.prog 78 #[] w fun e w' => e = .returned (.agg #[.bool true, .bool true, .bool true, .bool false]) ∧ Kx [] w w' := by
  go_enter Tryz.func78, Tryz.ntmps78
  go_wp2
  refine bodyPost_ret (results_cell_row rfl _ _ w.heap.size 71 _ (0, 0) _ rfl (heap_alloc_new _ _) Tryz.underlying71 rfl (by kernel_rfl)) rfl ?_
  exact ⟨rfl, Kx.alloc _ _ _⟩
set_option maxRecDepth 100000 in
set_option maxHeartbeats 2000000 in
/-- setPlace of a property that cannot be written. -/
theorem setPlace_any (b m k : Nat) (hk : k < 4294967296) (p1 p2 : Bool) (x : Nat) (a : Option Addr) (c : Nat) (cl pr fx inn num sh nv st kp : Value) (f : Nat → Option Pr) (w : World)
    (hB : w.heap[b]? = some (.cells #[cl, pr, fx, inn, num, sh, nv, .slice a 0 c, st, kp] 111 (0, 0))) (hS : StAt w st m f) (hm : m ≤ 100000) :
    Calls Tryz.prog 84 #[.pointer (some ⟨b, 0, none⟩), .int .u32 (k : Int), prV (false, p1, p2, x)] w fun e w' => (∃ u, e = .returned u) ∧ ∃ M, w'.heap[b]? = some (.cells #[cl, pr, fx, inn, num, sh, nv, .slice a 0 c, .map (some M), kp] 111 (0, 0)) ∧ SMap w' M (m + 1) (fun t => if t = k then some (false, p1, p2, x) else f t) ∧ (st = .map (some M) ∨ w.heap.size ≤ M) ∧ Kx (b :: stB st) w w' := by
  obtain ⟨W0, hW0⟩ : ∃ W0, W0 = w.alloc (Obj.cells #[.bool false, .bool p1, .bool p2, .bool false, .int .i64 3, .float .f64 x, .string ⟨#[]⟩, .pointer none, .pointer none, .pointer none] 75) := ⟨_, rfl⟩
  have hk0 : Kx [] w W0 := by rw [hW0]; exact Kx.alloc _ _ _
  have hP0 : W0.heap[w.heap.size]? = some (Obj.cells #[.bool false, .bool p1, .bool p2, .bool false, .int .i64 3, .float .f64 x, .string ⟨#[]⟩, .pointer none, .pointer none, .pointer none] 75 (0, 0)) := by rw [hW0]; exact heap_alloc_new _ _
  obtain ⟨⟨d0, d1, d2, d3, d4, d5, d6, d7, d8, d9⟩, -⟩ := row10 hP0
  have cl1 := fun W (hW : Kx [] w W) => leave_none b a c (k : Int) (by omega) (by omega) W (cell_at (hW.get hB (by simp)) 7 rfl)
  have cs1 := fun W (hW : Kx [] w W) => strew_any b m k hk (false, p1, p2, x) cl pr fx inn num sh nv (.slice a 0 c) st kp f W (hW.get hB (by simp)) (hW.stAt hS (by simp)) hm
  have ca := allFlags_any
  have HL := (show Hid _ from cl1)
  have HS := (show Hid _ from cs1)
  have HP := (show Hid _ from hP0)
  have HK := (show Hid _ from hk0)
  clear cl1 cs1 hP0 hk0 hB hS
  unfold prV
  dsimp only
  go_enter Tryz.func84, Tryz.ntmps84
  go_upto_region 2 with fail
  rw [← hW0]
  clear hW0
  go_region_law (first | (go_simp; go_at_call 78; refine (ca _).mono ?_; rintro e w1 ⟨rfl, hk1⟩; have JP : Hid (w1.heap[w.heap.size]? = some (Obj.cells #[.bool false, .bool p1, .bool p2, .bool false, .int .i64 3, .float .f64 x, .string ⟨#[]⟩, .pointer none, .pointer none, .pointer none] 75 (0, 0))) := hk1.get HP.out (by simp); have JK : Hid (Kx [] W0 w1) := (Kx.drew [] W0).same hk1; have e0 := cell_at JP.out 0 rfl; have e1 := cell_at JP.out 1 rfl; have e2 := cell_at JP.out 2 rfl; have e3 := cell_at JP.out 3 rfl; have e4 := cell_at JP.out 4 rfl; have e5 := cell_at JP.out 5 rfl; have e6 := cell_at JP.out 6 rfl; have e7 := cell_at JP.out 7 rfl; have e8 := cell_at JP.out 8 rfl; have e9 := cell_at JP.out 9 rfl))
  all_goals
    have hkw : Hid (Kx [] w w1) := (show Kx [] w w1 from HK.out.same JK.out)
    go_wp2_with (first | (go_at_call 113; refine (HL.out _ hkw.out).mono ?_; rintro e w2 ⟨⟨u, rfl⟩, rfl⟩) | (go_at_call 114; refine (HS.out _ hkw.out).mono ?_; rintro e w3 ⟨⟨u, rfl⟩, M, h1, h2, h3, h4⟩))
    refine bodyPost_end (results_none rfl _ _ _) rfl ?_
    exact ⟨⟨_, rfl⟩, M, h1, h2, h3.imp id (fun h => Nat.le_trans hkw.out.size h), (hkw.out.mono (fun i hi => by simp at hi)).trans h4 (fun i hi => .inl hi)⟩
end Go.Proofs.YtmicdbplkfdfnaaGreatDoor
set_option linter.unusedVariables false
namespace Go.Proofs.YtmicdbplkfdfnaaGreatDoor
open Go.RowKit Go.Shelf Go.Maps
attribute [local go_sem] run_store_flt

set_option maxRecDepth 100000 in
set_option maxHeartbeats 2000000 in
theorem set_place (b k : Nat) (nm : ByteArray) (p0 p1 p2 : Bool) (x : Nat) (R : World → Prop) (w : World)
    (cs : ∀ W, Kx [] w W → Calls Tryz.prog 84 #[.pointer (some ⟨b, 0, none⟩), .int .u32 (k : Int), prV (p0, p1, p2, x)] W fun e w' => (∃ u, e = .returned u) ∧ R w') :
    Calls Tryz.prog 59 #[.pointer (some ⟨b, 0, none⟩), .agg #[.string nm, .int .u32 (k : Int), .bool true], prV (p0, p1, p2, x)] w fun e w' => (∃ u, e = .returned u) ∧ R w' := by
  have HS := (show Hid _ from cs)
  clear cs
  unfold prV at *
  dsimp only at *
  go_enter Tryz.func59, Tryz.ntmps59
  go_wp2_with (first | (go_at_call 84; refine (HS.out _ ((Kx.alloc _ _ _).alc _)).mono ?_; rintro e w1 ⟨⟨u, rfl⟩, hr⟩))
  refine bodyPost_ret (results_none rfl _ _ _) rfl ?_
  exact ⟨⟨_, rfl⟩, hr⟩
set_option maxRecDepth 100000 in
set_option maxHeartbeats 2000000 in
theorem set_same (b S g i n cap : Nat) (nm : ByteArray) (pl : Int) (p0 p1 p2 : Bool) (x : Nat) (cl pr fx inn num rw st kp : Value) (cur : Array Value) (w : World)
    (hB : w.heap[b]? = some (.cells #[cl, pr, fx, inn, num, .pointer (some ⟨S, 0, none⟩), .slice (some ⟨g, 0, none⟩) n cap, rw, st, kp] 111 (0, 0)))
    (hG : w.heap[g]? = some (.cells cur 75 (0, 0))) (hi : i < n) (hn : n ≤ 1000) (hcs : i * 10 + 10 ≤ cur.size)
    (t0 : cur[i * 10]? = some (.bool p0)) (t1 : cur[i * 10 + 1]? = some (.bool p1)) (t2 : cur[i * 10 + 2]? = some (.bool p2)) (t3 : cur[i * 10 + 3]? = some (.bool false))
    (cf : ∀ W, Kx [] w W → Calls Tryz.prog 51 #[.pointer (some ⟨S, 0, none⟩), .string nm] W fun e w' => e = .returned (.tuple #[.int .i64 (i : Int), .bool true]) ∧ ∃ q, w' = W.drewN q) :
    Calls Tryz.prog 59 #[.pointer (some ⟨b, 0, none⟩), .agg #[.string nm, .int .u32 pl, .bool false], prV (p0, p1, p2, x)] w fun e w' => (∃ u, e = .returned u) ∧ ∃ cur', w'.heap[g]? = some (.cells cur' 75 (0, 0)) ∧ cur'.size = cur.size ∧
      cur'.toList = cur.toList.take (i * 10) ++ [.bool p0, .bool p1, .bool p2, .bool false, .int .i64 3, .float .f64 x, .string ⟨#[]⟩, .pointer none, .pointer none, .pointer none] ++ cur.toList.drop (i * 10 + 10) ∧ Kx [g] w w' := by
  unfold prV
  dsimp only
  obtain ⟨W0, hW0⟩ : ∃ W0, W0 = (w.alloc (Obj.cells #[.string nm, .int .u32 pl, .bool false] 67)).alloc (Obj.cells #[.bool p0, .bool p1, .bool p2, .bool false, .int .i64 3, .float .f64 x, .string ⟨#[]⟩, .pointer none, .pointer none, .pointer none] 75) := ⟨_, rfl⟩
  have hk : Kx [] w W0 := by rw [hW0]; exact (Kx.alloc _ _ _).alc _
  have hB0 := hk.get hB (by simp)
  have hG0 := hk.get hG (by simp)
  have hK0 : W0.heap[w.heap.size]? = some (Obj.cells #[.string nm, .int .u32 pl, .bool false] 67 (0, 0)) := by rw [hW0]; exact heap_old (heap_alloc_new _ _) _
  have hP0 : W0.heap[w.heap.size + 1]? = some (Obj.cells #[.bool p0, .bool p1, .bool p2, .bool false, .int .i64 3, .float .f64 x, .string ⟨#[]⟩, .pointer none, .pointer none, .pointer none] 75 (0, 0)) := by rw [hW0]; exact heap_alloc2_new _ _ _
  have b5 := cell_at hB0 5 rfl
  have k0 := cell_at hK0 0 rfl
  have k2 := cell_at hK0 2 rfl
  have hgl := lt_get hG
  have HB0 := (show Hid _ from hB0)
  have HG0 := (show Hid _ from hG0)
  have HP0 := (show Hid _ from hP0)
  have HK := (show Hid _ from hk)
  have CF := (show Hid _ from cf)
  have HT := (show Hid _ from And.intro t0 (And.intro t1 (And.intro t2 t3)))
  clear hB hB0 hK0 hP0 hk cf hG hG0 t0 t1 t2 t3
  go_enter Tryz.func59, Tryz.ntmps59
  go_upto_region 1 with fail
  rw [← hW0]
  clear hW0
  go_wp2
  go_quiet (first | (go_at_call 51; exact Calls.quiet_of (CF.out _ (HK.out.drw _))))
  have HW1 : Hid (Kx [] w (W0.drewN nq)) := (show Kx [] w (W0.drewN nq) from HK.out.drw nq)
  have hB1 : (W0.drewN nq).heap[b]? = some (.cells #[cl, pr, fx, inn, num, .pointer (some ⟨S, 0, none⟩), .slice (some ⟨g, 0, none⟩) n cap, rw, st, kp] 111 (0, 0)) := HB0.out
  have hG1 : (W0.drewN nq).heap[g]? = some (.cells cur 75 (0, 0)) := HG0.out
  have hP1 : (W0.drewN nq).heap[w.heap.size + 1]? = some (Obj.cells #[.bool p0, .bool p1, .bool p2, .bool false, .int .i64 3, .float .f64 x, .string ⟨#[]⟩, .pointer none, .pointer none, .pointer none] 75 (0, 0)) := HP0.out
  clear b5 k0 k2 HB0 HP0 HK CF HG0
  obtain ⟨w1, hw1⟩ : ∃ w1, w1 = W0.drewN nq := ⟨_, rfl⟩
  rw [← hw1] at hB1 hG1 hP1 HW1 ⊢
  clear hw1
  have b6 := cell_at hB1 6 rfl
  have g0 := cell_at hG1 (i * 10) HT.out.1
  have g1 := cell_at hG1 (i * 10 + 1) HT.out.2.1
  have g2 := cell_at hG1 (i * 10 + 2) HT.out.2.2.1
  have g3 := cell_at hG1 (i * 10 + 3) HT.out.2.2.2
  obtain ⟨⟨d0, d1, d2, d3, d4, d5, d6, d7, d8, d9⟩, -⟩ := row10 hP1
  have HG1 := (show Hid (w1.heap[g]? = some (.cells cur 75 (0, 0))) from hG1)
  have HB1 := (show Hid _ from hB1)
  have HP1 := (show Hid _ from hP1)
  clear hG1 hB1 hP1
  go_wp2
  go_quiet (fail)
  obtain ⟨w2, hw2⟩ : ∃ w2, w2 = w1.drewN nq := ⟨_, rfl⟩
  have HW2 := (show Hid (Kx [] w w2) from by rw [hw2]; exact HW1.out.drw nq)
  have hG2 : w2.heap[g]? = some (.cells cur 75 (0, 0)) := by rw [hw2]; exact HG1.out
  have hB2 : w2.heap[b]? = some (.cells #[cl, pr, fx, inn, num, .pointer (some ⟨S, 0, none⟩), .slice (some ⟨g, 0, none⟩) n cap, rw, st, kp] 111 (0, 0)) := by rw [hw2]; exact HB1.out
  have hP2 : w2.heap[w.heap.size + 1]? = some (Obj.cells #[.bool p0, .bool p1, .bool p2, .bool false, .int .i64 3, .float .f64 x, .string ⟨#[]⟩, .pointer none, .pointer none, .pointer none] 75 (0, 0)) := by rw [hw2]; exact HP1.out
  rw [← hw2]
  clear hw2 HG1 HB1 HP1 HW1 b6 g0 g1 g2 g3 d0 d1 d2 d3 d4 d5 d6 d7 d8 d9
  have hbg : b ≠ g := cells_ne hB2 hG2 (by decide)
  have hgs : w.heap.size + 1 ≠ g := by omega
  obtain ⟨Z, hZ⟩ : ∃ Z, Z = ((((((((((w2.setCell ⟨g, i * 10, none⟩ (.bool p0)).setCell ⟨g, i * 10 + 1, none⟩ (.bool p1)).setCell ⟨g, i * 10 + 2, none⟩ (.bool p2)).setCell ⟨g, i * 10 + 3, none⟩ (.bool false)).setCell ⟨g, i * 10 + 4, none⟩ (.int .i64 3)).setCell ⟨g, i * 10 + 5, none⟩ (.float .f64 x)).setCell ⟨g, i * 10 + 6, none⟩ (.string ⟨#[]⟩)).setCell ⟨g, i * 10 + 7, none⟩ (.pointer none)).setCell ⟨g, i * 10 + 8, none⟩ (.pointer none)).setCell ⟨g, i * 10 + 9, none⟩ (.pointer none)) := ⟨_, rfl⟩
  have KC := set10_kx_at w2 g (i * 10) (.bool p0) (.bool p1) (.bool p2) (.bool false) (.int .i64 3) (.float .f64 x) (.string ⟨#[]⟩) (.pointer none) (.pointer none) (.pointer none)
  obtain ⟨cur', h1, h2, h3⟩ := set10_at hG2 (i * 10) hcs (.bool p0) (.bool p1) (.bool p2) (.bool false) (.int .i64 3) (.float .f64 x) (.string ⟨#[]⟩) (.pointer none) (.pointer none) (.pointer none)
  rw [← hZ] at KC h1
  have FIN := (show Hid (Z.drew.heap[g]? = some (.cells cur' 75 (0, 0)) ∧ cur'.size = cur.size ∧ cur'.toList = _ ∧ Kx [g] w Z.drew) from ⟨h1, h2, h3, (((HW2.out).mono (S := [g]) (fun i hi => by simp at hi)).trans KC (fun i hi => .inl hi)).drw1⟩)
  have b6 := cell_at hB2 6 rfl
  obtain ⟨⟨d0, d1, d2, d3, d4, d5, d6, d7, d8, d9⟩, -⟩ := row10 hP2
  obtain ⟨v0, q0⟩ : ∃ v, w2.cell? ⟨g, i * 10, none⟩ = some v := ⟨_, cell_at hG2 (i * 10) (Array.getElem?_eq_getElem (by omega))⟩
  have r0 := fr_all hG2 (i * 10)
  obtain ⟨v1, q1⟩ : ∃ v, w2.cell? ⟨g, i * 10 + 1, none⟩ = some v := ⟨_, cell_at hG2 (i * 10 + 1) (Array.getElem?_eq_getElem (by omega))⟩
  have r1 := fr_all hG2 (i * 10 + 1)
  obtain ⟨v2, q2⟩ : ∃ v, w2.cell? ⟨g, i * 10 + 2, none⟩ = some v := ⟨_, cell_at hG2 (i * 10 + 2) (Array.getElem?_eq_getElem (by omega))⟩
  have r2 := fr_all hG2 (i * 10 + 2)
  obtain ⟨v3, q3⟩ : ∃ v, w2.cell? ⟨g, i * 10 + 3, none⟩ = some v := ⟨_, cell_at hG2 (i * 10 + 3) (Array.getElem?_eq_getElem (by omega))⟩
  have r3 := fr_all hG2 (i * 10 + 3)
  obtain ⟨v4, q4⟩ : ∃ v, w2.cell? ⟨g, i * 10 + 4, none⟩ = some v := ⟨_, cell_at hG2 (i * 10 + 4) (Array.getElem?_eq_getElem (by omega))⟩
  have r4 := fr_all hG2 (i * 10 + 4)
  obtain ⟨v5, q5⟩ : ∃ v, w2.cell? ⟨g, i * 10 + 5, none⟩ = some v := ⟨_, cell_at hG2 (i * 10 + 5) (Array.getElem?_eq_getElem (by omega))⟩
  have r5 := fr_all hG2 (i * 10 + 5)
  obtain ⟨v6, q6⟩ : ∃ v, w2.cell? ⟨g, i * 10 + 6, none⟩ = some v := ⟨_, cell_at hG2 (i * 10 + 6) (Array.getElem?_eq_getElem (by omega))⟩
  have r6 := fr_all hG2 (i * 10 + 6)
  obtain ⟨v7, q7⟩ : ∃ v, w2.cell? ⟨g, i * 10 + 7, none⟩ = some v := ⟨_, cell_at hG2 (i * 10 + 7) (Array.getElem?_eq_getElem (by omega))⟩
  have r7 := fr_all hG2 (i * 10 + 7)
  obtain ⟨v8, q8⟩ : ∃ v, w2.cell? ⟨g, i * 10 + 8, none⟩ = some v := ⟨_, cell_at hG2 (i * 10 + 8) (Array.getElem?_eq_getElem (by omega))⟩
  have r8 := fr_all hG2 (i * 10 + 8)
  obtain ⟨v9, q9⟩ : ∃ v, w2.cell? ⟨g, i * 10 + 9, none⟩ = some v := ⟨_, cell_at hG2 (i * 10 + 9) (Array.getElem?_eq_getElem (by omega))⟩
  have r9 := fr_all hG2 (i * 10 + 9)
  clear KC h1 h2 h3 hG2 hB2 hP2
  go_wp2
  go_region_law (fail)
  all_goals go_wp2
  all_goals
    refine bodyPost_end (results_none rfl _ _ _) rfl ?_
    rw [← hZ]
    exact ⟨⟨_, rfl⟩, cur', FIN.out⟩
end Go.Proofs.YtmicdbplkfdfnaaGreatDoor
