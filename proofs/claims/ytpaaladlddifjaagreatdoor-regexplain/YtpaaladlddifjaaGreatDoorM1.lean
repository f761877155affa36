/- The machine's small steps. -/
import Derived.Test.YtpaaladlddifjaaGreatDoorE2
set_option linter.unusedVariables false
namespace Go.Proofs.YtpaaladlddifjaaGreatDoor
open Go.RowKit Re

/-- The cells of a machine. -/
def mcA (P : Nat) (lv : Value) (pc p took steps : Nat) (G H : Nat) : Array Value := #[.pointer (some ⟨P, 0, none⟩), lv, .int .i64 (pc : Int), .int .i64 (p : Int), .int .i64 (took : Int), .int .i64 (steps : Int), .slice (some ⟨G, 0, none⟩) 2 2, .slice (some ⟨H, 0, none⟩) 2 2, .slice none 0 0, .slice none 0 0, .int .i64 0, .int .i64 0]
theorem mc_cells {w : World} {M P pc p took steps G H : Nat} {lv : Value} (h : w.heap[M]? = some (Obj.cells (mcA P lv pc p took steps G H) 75 (0, 0))) :
    w.cell? ⟨M, 0, none⟩ = some (.pointer (some ⟨P, 0, none⟩)) ∧ w.cell? ⟨M, 1, none⟩ = some lv ∧ w.cell? ⟨M, 2, none⟩ = some (.int .i64 (pc : Int)) ∧ w.cell? ⟨M, 3, none⟩ = some (.int .i64 (p : Int)) ∧
    w.cell? ⟨M, 4, none⟩ = some (.int .i64 (took : Int)) ∧ w.cell? ⟨M, 5, none⟩ = some (.int .i64 (steps : Int)) ∧ w.cell? ⟨M, 6, none⟩ = some (.slice (some ⟨G, 0, none⟩) 2 2) ∧ w.cell? ⟨M, 7, none⟩ = some (.slice (some ⟨H, 0, none⟩) 2 2) ∧
    w.cell? ⟨M, 8, none⟩ = some (.slice none 0 0) ∧ w.cell? ⟨M, 9, none⟩ = some (.slice none 0 0) ∧ w.cell? ⟨M, 10, none⟩ = some (.int .i64 0) ∧ w.cell? ⟨M, 11, none⟩ = some (.int .i64 0) ∧ ∀ j, w.frozen? ⟨M, j, none⟩ = false :=
  ⟨cell_at h 0 rfl, cell_at h 1 rfl, cell_at h 2 rfl, cell_at h 3 rfl, cell_at h 4 rfl, cell_at h 5 rfl, cell_at h 6 rfl, cell_at h 7 rfl, cell_at h 8 rfl, cell_at h 9 rfl, cell_at h 10 rfl, cell_at h 11 rfl, fr_all h⟩
section
variable {w : World} {M P pc p took steps G H : Nat} {lv : Value}
theorem step_any (h : w.heap[M]? = some (Obj.cells (mcA P lv pc p took steps G H) 75 (0, 0))) (ht : took < steps) (hs : steps ≤ 1073741824) :
    Calls Tryz.prog 46 #[.pointer (some ⟨M, 0, none⟩)] w fun e w' => (∃ v, e = .returned v) ∧ w'.heap[M]? = some (Obj.cells (mcA P lv pc p (took + 1) steps G H) 75 (0, 0)) ∧ Kx [M] w w' := by
  obtain ⟨c0, c1, c2, c3, c4, c5, c6, c7, c8, c9, c10, c11, hf⟩ := mc_cells h
  have HH : Hid (w.heap[M]? = some (Obj.cells (mcA P lv pc p took steps G H) 75 (0, 0))) := h
  have t1 : (took : Int) < (steps : Int) := by omega
  clear h
  go_enter Tryz.func46, Tryz.ntmps46
  go_wp2
  go_quiet (fail)
  go_wp2
  exact bodyPost_end (results_none rfl _ _ _) rfl ⟨⟨_, rfl⟩, heap_put HH.out 4 _, ((Kx.refl [M] w).drw _).set (by simp) _⟩
set_option maxRecDepth 100000 in
theorem cut_zero (h : w.heap[M]? = some (Obj.cells (mcA P lv pc p took steps G H) 75 (0, 0))) :
    Calls Tryz.prog 47 #[.pointer (some ⟨M, 0, none⟩), .int .i64 0] w fun e w' => (∃ v, e = .returned v) ∧ w'.heap[M]? = some (Obj.cells (mcA P lv pc p took steps G H) 75 (0, 0)) ∧ Kx [M] w w' := by
  obtain ⟨c0, c1, c2, c3, c4, c5, c6, c7, c8, c9, c10, c11, hf⟩ := mc_cells h
  have HH : Hid (w.heap[M]? = some (Obj.cells (mcA P lv pc p took steps G H) 75 (0, 0))) := h
  clear h
  go_enter Tryz.func47, Tryz.ntmps47
  go_wp2
  exact bodyPost_end (results_none rfl _ _ _) rfl ⟨⟨_, rfl⟩, heap_put (heap_put (heap_put HH.out 9 _) 10 _) 8 _, (((Kx.refl [M] w).set (by simp) _).set (by simp) _).set (by simp) _⟩
set_option maxRecDepth 100000 in
theorem set_any (h : w.heap[M]? = some (Obj.cells (mcA P lv pc p took steps G H) 75 (0, 0))) (r0 r1 : Int) (hG : w.heap[G]? = some (Obj.cells #[.int .i64 r0, .int .i64 r1] 3 (0, 0))) (j : Nat) (hj : j < 2) (v : Int) :
    Calls Tryz.prog 49 #[.pointer (some ⟨M, 0, none⟩), .int .i64 (j : Int), .int .i64 v] w fun e w' => (∃ v, e = .returned v) ∧ w'.heap[G]? = some (Obj.cells (#[.int .i64 r0, .int .i64 r1].setIfInBounds j (.int .i64 v)) 3 (0, 0)) ∧ Kx [G] w w' := by
  obtain ⟨c0, c1, c2, c3, c4, c5, c6, c7, c8, c9, c10, c11, hf⟩ := mc_cells h
  have HG : Hid (w.heap[G]? = some (Obj.cells #[.int .i64 r0, .int .i64 r1] 3 (0, 0))) := hG
  have gf := fr_all hG
  obtain ⟨z, gj⟩ : ∃ z, w.cell? ⟨G, j, none⟩ = some (.int .i64 z) := by
    obtain rfl | rfl : j = 0 ∨ j = 1 := by omega
    · exact ⟨r0, cell_at hG 0 rfl⟩
    · exact ⟨r1, cell_at hG 1 rfl⟩
  have t1 : (j : Int) < 2 := by omega
  clear h hG
  go_enter Tryz.func49, Tryz.ntmps49
  go_wp2
  go_quiet (fail)
  go_wp2
  exact bodyPost_end (results_none rfl _ _ _) rfl ⟨⟨_, rfl⟩, heap_put HG.out j _, ((Kx.refl [G] w).drw _).set (by simp) _⟩
theorem counts_any (u : Int) (cv : Value) (regs : Nat) (h : w.heap[M]? = some (Obj.cells (mcA P lv pc p took steps G H) 75 (0, 0))) (hP : w.heap[P]? = some (Obj.cells (ptA cv regs) 52 (0, 0))) :
    Calls Tryz.prog 78 #[.pointer (some ⟨M, 0, none⟩), .int .u16 u] w fun e w' => e = .returned (.int .u16 u) ∧ w' = w := by
  have c0 := (mc_cells h).1
  have p5 := (pt_cells hP).2.2.2.2.2.1
  clear h hP
  go_enter Tryz.func78, Tryz.ntmps78
  go_wp2
  go_ret
  exact ⟨rfl, rfl⟩
set_option maxRecDepth 100000 in
theorem takes_any (u x : Nat) (hx : x < 65536) (cv : Value) (regs : Nat) (h : w.heap[M]? = some (Obj.cells (mcA P lv pc p took steps G H) 75 (0, 0))) (hP : w.heap[P]? = some (Obj.cells (ptA cv regs) 52 (0, 0))) :
    Calls Tryz.prog 70 #[.pointer (some ⟨M, 0, none⟩), .agg #[.int .i64 0, .int .i64 (x : Int), .int .i64 0], .int .u16 (u : Int)] w fun e w' => e = .returned (.bool (decide (u = x))) ∧ Kx [] w w' := by
  have cc := fun W (k : Kx [] w W) => counts_any (u : Int) cv regs (k.get h (by simp)) (k.get hP (by simp))
  have hx1 : (x : Int) < 65536 := by omega
  clear h hP
  go_enter Tryz.func70, Tryz.ntmps70
  go_wp2
  obtain ⟨W, hW⟩ : ∃ W, W = w.alloc (Obj.cells #[.int .i64 0, .int .i64 (x : Int), .int .i64 0] 86) := ⟨_, rfl⟩
  rw [← hW]
  have hK : Kx [] w W := by rw [hW]; exact Kx.alloc _ _ _
  have hI : W.heap[w.heap.size]? = some (Obj.cells #[.int .i64 0, .int .i64 (x : Int), .int .i64 0] 86 (0, 0)) := by rw [hW]; exact heap_new w _
  have i1 : W.cell? ⟨w.heap.size, 1, none⟩ = some (.int .i64 (x : Int)) := cell_at hI 1 rfl
  have c2 := fun m => cc (W.drewN m) (hK.drw m)
  have JK : Hid (Kx [] w W) := hK
  clear hW hI hK cc
  go_quiet (first | (go_at_call 78; exact Calls.quiet_of_same (c2 _)))
  go_wp2
  go_ret
  exact ⟨by rw [nat_beq]; rfl, JK.out.drw _⟩
set_option maxRecDepth 100000 in
theorem back_none (h : w.heap[M]? = some (Obj.cells (mcA P lv pc p took steps G H) 75 (0, 0))) :
    Calls Tryz.prog 51 #[.pointer (some ⟨M, 0, none⟩)] w fun e w' => e = .returned (.bool false) ∧ Kx [] w w' := by
  have c9 := (mc_cells h).2.2.2.2.2.2.2.2.2.1
  clear h
  go_enter Tryz.func51, Tryz.ntmps51
  go_wp2
  go_ret
  exact ⟨rfl, Kx.refl _ _⟩
end
end Go.Proofs.YtpaaladlddifjaaGreatDoor
