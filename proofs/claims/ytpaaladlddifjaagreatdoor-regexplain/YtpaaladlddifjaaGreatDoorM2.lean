/- The machine: an instruction that holds a unit against the text. -/
import Derived.Test.YtpaaladlddifjaaGreatDoorM1
import Derived.Deep.RegionHeld3
set_option linter.unusedVariables false
namespace Go.Proofs.YtpaaladlddifjaaGreatDoor
open Go.RowKit Re

theorem Kx.cell {S : List Nat} {w w' : World} (k : Kx S w w') {q : Addr} {v : Value} (h : w.cell? q = some v) (hn : q.block ∉ S) : w'.cell? q = some v :=
  (World.cell?_of_block (k.block q.block (World.block_lt_of_cell? w q h) hn)).trans h
section
variable {w : World} {M P pc p took steps G H c : Nat} {a : Option Addr} {l : List Nat}
theorem mc_ne {w : World} {M : Nat} {ar : Array Value} {fr : Nat × Nat} (h : w.heap[M]? = some (Obj.cells ar 75 fr)) : ∀ i ∈ [M], ∀ cur fr, w.heap[i]? ≠ some (Obj.cells cur 24 fr) := by
  intro i hi
  rw [List.mem_singleton.1 hi]
  exact not_kind h (by decide)
set_option maxRecDepth 100000 in
set_option maxHeartbeats 1000000 in
theorem holds_yes (x : Nat) (hx : x < 65536) (cv : Value) (regs : Nat) (h : w.heap[M]? = some (Obj.cells (mcA P (.slice a l.length c) pc p took steps G H) 75 (0, 0))) (hP : w.heap[P]? = some (Obj.cells (ptA cv regs) 52 (0, 0))) (hl : Lu w a l) (hp : p < l.length) (hm : l.length ≤ 100000) (hv : l[p]?.getD 0 = x) :
    Calls Tryz.prog 62 #[.pointer (some ⟨M, 0, none⟩), .agg #[.int .i64 0, .int .i64 (x : Int), .int .i64 0]] w fun e w' => e = .returned (.bool true) ∧ w'.heap[M]? = some (Obj.cells (mcA P (.slice a l.length c) pc (p + 1) took steps G H) 75 (0, 0)) ∧ Kx [M] w w' := by
  have ct := fun W (k : Kx [] w W) => takes_any (l[p]?.getD 0) x hx cv regs (k.get h (by simp)) (k.get hP (by simp))
  simp only [decide_eq_true hv] at ct
  obtain ⟨L, rfl, hc⟩ := hl.at hp
  have hL := lt_get h
  obtain ⟨W, hW⟩ : ∃ W, W = w.alloc (Obj.cells #[.int .i64 0, .int .i64 (x : Int), .int .i64 0] 86) := ⟨_, rfl⟩
  have hK : Kx [] w W := by rw [hW]; exact Kx.alloc _ _ _
  have hI : W.heap[w.heap.size]? = some (Obj.cells #[.int .i64 0, .int .i64 (x : Int), .int .i64 0] 86 (0, 0)) := by rw [hW]; exact heap_new w _
  obtain ⟨i0, i1, i2⟩ : W.cell? ⟨w.heap.size, 0, none⟩ = some (.int .i64 0) ∧ W.cell? ⟨w.heap.size, 1, none⟩ = some (.int .i64 (x : Int)) ∧ W.cell? ⟨w.heap.size, 2, none⟩ = some (.int .i64 0) := ⟨cell_at hI 0 rfl, cell_at hI 1 rfl, cell_at hI 2 rfl⟩
  have hM := hK.get h (by simp)
  obtain ⟨c0, c1, c2, c3, c4, c5, c6, c7, c8, c9, c10, c11, hf⟩ := mc_cells hM
  have hcl : W.cell? ⟨L, p, none⟩ = some (.int .u16 ((l[p]?.getD 0 : Nat) : Int)) := by
    obtain ⟨L', e, hc'⟩ := (hl.kept hK (by simp)).at hp
    cases e
    exact hc'
  generalize l[p]?.getD 0 = u at *
  have JM : Hid (W.heap[M]? = some (Obj.cells (mcA P (.slice (some ⟨L, 0, none⟩) l.length c) pc p took steps G H) 75 (0, 0))) := hM
  have JK : Hid (Kx [] w W) := hK
  have JW : Hid (W = w.alloc (Obj.cells #[.int .i64 0, .int .i64 (x : Int), .int .i64 0] 86)) := hW
  have t1 : ((p : Int) == (l.length : Int)) = false := by rw [nat_beq, decide_eq_false (by omega)]
  clear h hP hl hc hM hK hI hW hv
  go_enter Tryz.func62, Tryz.ntmps62
  go_wp2
  rw [← JW.out]
  go_region_held3 (fun w' => w'.cell? ⟨M, 1, none⟩ = some (.slice (some ⟨L, 0, none⟩) l.length c) ∧ w'.cell? ⟨M, 3, none⟩ = some (.int .i64 (p : Int)) ∧ w'.cell? ⟨w.heap.size, 0, none⟩ = some (.int .i64 0) ∧ w'.cell? ⟨w.heap.size, 1, none⟩ = some (.int .i64 (x : Int)) ∧ w'.cell? ⟨w.heap.size, 2, none⟩ = some (.int .i64 0) ∧ w'.cell? ⟨L, p, none⟩ = some (.int .u16 (u : Int)))
    (first | exact ⟨c1, c3, i0, i1, i2, hcl⟩ | exact ⟨hk2.cell c1 (by simp), hk2.cell c3 (by simp), hk2.cell i0 (by simp), hk2.cell i1 (by simp), hk2.cell i2 (by simp), hk2.cell hcl (by simp)⟩)
    (first | (go_at_call 70; refine (ct _ ?_).mono ?_; (exact JK.out.drw1); rintro e w2 ⟨rfl, hk2⟩))
  have hM2 := hk2.get (k := M) JM.out (by simp)
  obtain ⟨d0, d1, d2, d3, d4, d5, d6, d7, d8, d9, d10, d11, df⟩ := mc_cells hM2
  have JM2 : Hid (w2.heap[M]? = some (Obj.cells (mcA P (.slice (some ⟨L, 0, none⟩) l.length c) pc p took steps G H) 75 (0, 0))) := hM2
  have JK2 : Hid (Kx [] w w2) := JK.out.drw1.same hk2
  clear hM2 hk2 ct c0 c1 c2 c3 c4 c5 c6 c7 c8 c9 c10 c11 hf i0 i1 i2 hcl
  go_wp2
  go_ret
  exact ⟨rfl, heap_put JM2.out 3 _, (JK2.out.mono (by simp)).set (by simp) _⟩
set_option maxRecDepth 100000 in
set_option maxHeartbeats 1000000 in
theorem holds_end (x : Nat) (hm : l.length ≤ 100000) (h : w.heap[M]? = some (Obj.cells (mcA P (.slice a l.length c) pc l.length took steps G H) 75 (0, 0))) :
    Calls Tryz.prog 62 #[.pointer (some ⟨M, 0, none⟩), .agg #[.int .i64 0, .int .i64 (x : Int), .int .i64 0]] w fun e w' => e = .returned (.bool false) ∧ Kx [] w w' := by
  have hL := lt_get h
  obtain ⟨W, hW⟩ : ∃ W, W = w.alloc (Obj.cells #[.int .i64 0, .int .i64 (x : Int), .int .i64 0] 86) := ⟨_, rfl⟩
  have hK : Kx [] w W := by rw [hW]; exact Kx.alloc _ _ _
  have hI : W.heap[w.heap.size]? = some (Obj.cells #[.int .i64 0, .int .i64 (x : Int), .int .i64 0] 86 (0, 0)) := by rw [hW]; exact heap_new w _
  obtain ⟨i0, i1, i2⟩ : W.cell? ⟨w.heap.size, 0, none⟩ = some (.int .i64 0) ∧ W.cell? ⟨w.heap.size, 1, none⟩ = some (.int .i64 (x : Int)) ∧ W.cell? ⟨w.heap.size, 2, none⟩ = some (.int .i64 0) := ⟨cell_at hI 0 rfl, cell_at hI 1 rfl, cell_at hI 2 rfl⟩
  have hM := hK.get h (by simp)
  obtain ⟨c0, c1, c2, c3, c4, c5, c6, c7, c8, c9, c10, c11, hf⟩ := mc_cells hM
  have JM : Hid (W.heap[M]? = some (Obj.cells (mcA P (.slice a l.length c) pc l.length took steps G H) 75 (0, 0))) := hM
  have JK : Hid (Kx [] w W) := hK
  have JW : Hid (W = w.alloc (Obj.cells #[.int .i64 0, .int .i64 (x : Int), .int .i64 0] 86)) := hW
  have t1 : ((l.length : Int) == (l.length : Int)) = true := by simp
  clear h hM hK hI hW
  go_enter Tryz.func62, Tryz.ntmps62
  go_wp2
  rw [← JW.out]
  go_quiet (fail)
  go_wp2
  go_ret
  exact ⟨rfl, JK.out.drw _⟩
set_option maxRecDepth 100000 in
set_option maxHeartbeats 1000000 in
theorem holds_no (x : Nat) (hx : x < 65536) (cv : Value) (regs : Nat) (h : w.heap[M]? = some (Obj.cells (mcA P (.slice a l.length c) pc p took steps G H) 75 (0, 0))) (hP : w.heap[P]? = some (Obj.cells (ptA cv regs) 52 (0, 0))) (hl : Lu w a l) (hp : p < l.length) (hm : l.length ≤ 100000) (hv : l[p]?.getD 0 ≠ x) :
    Calls Tryz.prog 62 #[.pointer (some ⟨M, 0, none⟩), .agg #[.int .i64 0, .int .i64 (x : Int), .int .i64 0]] w fun e w' => e = .returned (.bool false) ∧ Kx [] w w' := by
  have ct := fun W (k : Kx [] w W) => takes_any (l[p]?.getD 0) x hx cv regs (k.get h (by simp)) (k.get hP (by simp))
  simp only [decide_eq_false hv] at ct
  obtain ⟨L, rfl, hc⟩ := hl.at hp
  have hL := lt_get h
  obtain ⟨W, hW⟩ : ∃ W, W = w.alloc (Obj.cells #[.int .i64 0, .int .i64 (x : Int), .int .i64 0] 86) := ⟨_, rfl⟩
  have hK : Kx [] w W := by rw [hW]; exact Kx.alloc _ _ _
  have hI : W.heap[w.heap.size]? = some (Obj.cells #[.int .i64 0, .int .i64 (x : Int), .int .i64 0] 86 (0, 0)) := by rw [hW]; exact heap_new w _
  obtain ⟨i0, i1, i2⟩ : W.cell? ⟨w.heap.size, 0, none⟩ = some (.int .i64 0) ∧ W.cell? ⟨w.heap.size, 1, none⟩ = some (.int .i64 (x : Int)) ∧ W.cell? ⟨w.heap.size, 2, none⟩ = some (.int .i64 0) := ⟨cell_at hI 0 rfl, cell_at hI 1 rfl, cell_at hI 2 rfl⟩
  have hM := hK.get h (by simp)
  obtain ⟨c0, c1, c2, c3, c4, c5, c6, c7, c8, c9, c10, c11, hf⟩ := mc_cells hM
  have hcl : W.cell? ⟨L, p, none⟩ = some (.int .u16 ((l[p]?.getD 0 : Nat) : Int)) := by
    obtain ⟨L', e, hc'⟩ := (hl.kept hK (by simp)).at hp
    cases e
    exact hc'
  generalize l[p]?.getD 0 = u at *
  have JM : Hid (W.heap[M]? = some (Obj.cells (mcA P (.slice (some ⟨L, 0, none⟩) l.length c) pc p took steps G H) 75 (0, 0))) := hM
  have JK : Hid (Kx [] w W) := hK
  have JW : Hid (W = w.alloc (Obj.cells #[.int .i64 0, .int .i64 (x : Int), .int .i64 0] 86)) := hW
  have t1 : ((p : Int) == (l.length : Int)) = false := by rw [nat_beq, decide_eq_false (by omega)]
  clear h hP hl hc hM hK hI hW hv
  go_enter Tryz.func62, Tryz.ntmps62
  go_wp2
  rw [← JW.out]
  go_region_held3 (fun w' => w'.cell? ⟨M, 1, none⟩ = some (.slice (some ⟨L, 0, none⟩) l.length c) ∧ w'.cell? ⟨M, 3, none⟩ = some (.int .i64 (p : Int)) ∧ w'.cell? ⟨w.heap.size, 0, none⟩ = some (.int .i64 0) ∧ w'.cell? ⟨w.heap.size, 1, none⟩ = some (.int .i64 (x : Int)) ∧ w'.cell? ⟨w.heap.size, 2, none⟩ = some (.int .i64 0) ∧ w'.cell? ⟨L, p, none⟩ = some (.int .u16 (u : Int)))
    (first | exact ⟨c1, c3, i0, i1, i2, hcl⟩ | exact ⟨hk2.cell c1 (by simp), hk2.cell c3 (by simp), hk2.cell i0 (by simp), hk2.cell i1 (by simp), hk2.cell i2 (by simp), hk2.cell hcl (by simp)⟩)
    (first | (go_at_call 70; refine (ct _ ?_).mono ?_; (exact JK.out.drw1); rintro e w2 ⟨rfl, hk2⟩))
  have JK2 : Hid (Kx [] w w2) := JK.out.drw1.same hk2
  clear hk2 ct c0 c1 c2 c3 c4 c5 c6 c7 c8 c9 c10 c11 hf i0 i1 i2 hcl
  go_wp2
  go_ret
  exact ⟨rfl, JK2.out⟩
end
end Go.Proofs.YtpaaladlddifjaaGreatDoor
