/- The machine: made; what it has found. -/
import Derived.Test.YtpaaladlddifjaaGreatDoorM4
import Derived.Deep.AppendLies
import Derived.Laws.MakeOwn
set_option linter.unusedVariables false
namespace Go.Proofs.YtpaaladlddifjaaGreatDoor
open Go.RowKit Re

theorem info3 : (Tryz.prog.info? 3).map (fun i => (i.zero, i.size, i.bytes)) = some (some (.int .i64 0), 1, 8) := by kernel_rfl
theorem mk2 (W : World) : (Instr.makeSlice 30 (.int .i64 2) (.int .i64 2)).run Tryz.prog W = .ok (.slice (some ⟨W.heap.size, 0, none⟩) 2 2) (W.alloc (.cells #[.int .i64 0, .int .i64 0] 3)) := by
  obtain ⟨i0, hi, hz0, hz1, hz2⟩ := info_parts info3
  have h := run_makeSlice (P := Tryz.prog) W 30 3 i0 (.int .i64 0) Tryz.underlying30 hi hz0 .i64 .i64 2 2 (by decide) (by decide) (by rw [hz1]; decide) (by rw [hz2]; decide) (by decide)
  have e : madeCells (Value.int .i64 0).cells (Int.toNat 2 * 1) = #[.int .i64 0, .int .i64 0] := by kernel_rfl
  rw [h, hz1, e]
  rfl
set_option maxRecDepth 100000 in
set_option maxHeartbeats 1000000 in
theorem found_any {w : World} {M P pc p took steps G H : Nat} {lv cv : Value} (h : w.heap[M]? = some (Obj.cells (mcA P lv pc p took steps G H) 75 (0, 0))) (hP : w.heap[P]? = some (Obj.cells (ptA cv 2) 52 (0, 0))) (r0 r1 : Int) (hG : w.heap[G]? = some (Obj.cells #[.int .i64 r0, .int .i64 r1] 3 (0, 0))) :
    Calls Tryz.prog 29 #[.pointer (some ⟨M, 0, none⟩)] w fun e w' => ∃ v, e = .returned v ∧ w'.ownsRow w.heap.size 3 1 v 2 [.int .i64 r0, .int .i64 r1] ∧ Kx [] w w' := by
  obtain ⟨i0, hi, hz0, hz1, hz2⟩ := info_parts info3
  have q3 : 0 + 2 ≤ maxLen := by unfold maxLen; omega
  obtain ⟨c0, c1, c2, c3, c4, c5, c6, c7, c8, c9, c10, c11, hf⟩ := mc_cells h
  have p3 := (pt_cells hP).2.2.2.1
  have HG : Hid (w.heap[G]? = some (Obj.cells #[.int .i64 r0, .int .i64 r1] 3 (0, 0))) := hG
  clear h hP hG
  have gn : ∀ j u, [Value.int .i64 r0, Value.int .i64 r1][j]? = some u → w.drew.cell? ((⟨G, 0, none⟩ : Addr).add j) = some u := by
    intro j u hj
    have e : ((⟨G, 0, none⟩ : Addr).add j) = ⟨G, j, none⟩ := by
      unfold Addr.add
      split <;> simp_all
    rw [e]
    exact cell_at (w := w.drew) HG.out j (by simpa using hj)
  have wk1 : IntKind.i64.wrap 1 = 1 := by rw [IntKind.wrap_i64]; omega
  have wk2 : IntKind.i64.wrap 2 = 2 := by rw [IntKind.wrap_i64]; omega
  have wk3 : IntKind.i64.wrap (2 * 1) = 2 := by rw [IntKind.wrap_i64]; omega
  go_enter Tryz.func29, Tryz.ntmps29
  go_wp2
  go_region_held3 (fun w' => w'.cell? ⟨M, 6, none⟩ = some (.slice (some ⟨G, 0, none⟩) 2 2) ∧ w'.cell? ⟨M, 0, none⟩ = some (.pointer (some ⟨P, 0, none⟩)) ∧ w'.cell? ⟨P, 3, none⟩ = some (.int .i64 0)) (first | exact ⟨c6, c0, p3⟩ | exact ⟨(Kx.grown hgrow).cell c6 (by simp [Value.ownBlock]), (Kx.grown hgrow).cell c0 (by simp [Value.ownBlock]), (Kx.grown hgrow).cell p3 (by simp [Value.ownBlock])⟩)
    (first | (refine step_append_lies _ (by rfl) _ _ _ (by rfl) w.heap.size 3 i0 _ 1 8 Tryz.underlying30 hi hz0 hz1 hz2 rfl (by omega) (.slice none 0 0) 0 [] (by rfl) (World.ownsRow_nil _ _ _ _) ⟨G, 0, none⟩ 2 2 [.int .i64 r0, .int .i64 r1] (by rfl) (by rfl) gn (by intro u hu; simp at hu; rcases hu with rfl | rfl <;> rfl) (by omega) q3 (by omega) (Nat.le_refl _) w.heap.size rfl ?_; intro gg cap w1 hown1 hgrow hat hlt1))
  go_wp2
  go_ret
  exact ⟨_, rfl, hown1, (Kx.refl [] w).drw1.same (Kx.grown hgrow)⟩
theorem three_c (w : World) (a b c : Obj) : (((w.alloc a).alloc b).alloc c).drew.heap[w.heap.size + 1 + 1]? = some c := by
  have h := heap_new ((w.alloc a).alloc b) c
  rw [show ((w.alloc a).alloc b).heap.size = w.heap.size + 1 + 1 by simp] at h
  exact h
set_option maxRecDepth 100000 in
set_option maxHeartbeats 1000000 in
theorem newMachine_any {w : World} {P : Nat} {cv : Value} (a : Option Addr) (n c : Nat) (hP : w.heap[P]? = some (Obj.cells (ptA cv 2) 52 (0, 0))) :
    Calls Tryz.prog 26 #[.pointer (some ⟨P, 0, none⟩), .slice a n c, .int .i64 1073741824] w fun e w' => ∃ M G H, e = .returned (.pointer (some ⟨M, 0, none⟩)) ∧ w.heap.size ≤ M ∧ w.heap.size ≤ G ∧ w'.heap[M]? = some (Obj.cells (mcA P (.slice a n c) 0 0 0 1073741824 G H) 75 (0, 0)) ∧ w'.heap[G]? = some (Obj.cells #[.int .i64 0, .int .i64 0] 3 (0, 0)) ∧ Kx [] w w' := by
  have p4 : w.cell? ⟨P, 4, none⟩ = some (.int .i64 2) := (pt_cells hP).2.2.2.2.1
  have n1 := World.new_ne w _ p4
  have hmk := mk2
  clear hP
  go_enter Tryz.func26, Tryz.ntmps26
  go_wp2
  go_region_held3 (fun w' => w'.cell? ⟨P, 4, none⟩ = some (.int .i64 2)) (first | exact p4 | exact ((Kx.alloc [] w _).drw1).cell p4 (by simp) | exact (((Kx.alloc [] w _).alc _).drw1).cell p4 (by simp) | exact ((((Kx.alloc [] w _).alc _).alc _).drw1).cell p4 (by simp)) (fail)
  all_goals
    go_wp2
    go_ret
  · refine ⟨_, w.heap.size, w.heap.size + 1, rfl, by omega, Nat.le_refl _, three_c w _ _ _, ?_, (((Kx.alloc [] w _).alc _).alc _).drw1⟩
    exact ((Kx.alloc [] _ _).drw1).get ((Kx.alloc [] _ _).get (heap_new w _) (by simp)) (by simp)
  · refine ⟨_, w.heap.size + 1, w.heap.size, rfl, by omega, by omega, three_c w _ _ _, ?_, (((Kx.alloc [] w _).alc _).alc _).drw1⟩
    have h := heap_new (w.alloc (Obj.cells #[.int .i64 0, .int .i64 0] 3)) (Obj.cells #[.int .i64 0, .int .i64 0] 3)
    rw [show (w.alloc (Obj.cells #[.int .i64 0, .int .i64 0] 3)).heap.size = w.heap.size + 1 by simp] at h
    exact ((Kx.alloc [] _ _).drw1).get h (by simp)
end Go.Proofs.YtpaaladlddifjaaGreatDoor
