/- The walks of addLeaf and add: the code of a row of leaves. -/
import Derived.Test.YtpaaladlddifjaaGreatDoorR5
import Derived.Test.YtpaaladlddifjaaGreatDoorU1
set_option linter.unusedVariables false
namespace Go.Proofs.YtpaaladlddifjaaGreatDoor
open Go.RowKit Re

/-- The cells of a pattern. -/
def ptA (cv : Value) (regs : Nat) : Array Value := #[cv, .slice none 0 0, .slice none 0 0, .int .i64 0, .int .i64 (regs : Int), .bool false, .bool false]
theorem pt_cells {w : World} {P regs : Nat} {cv : Value} (h : w.heap[P]? = some (Obj.cells (ptA cv regs) 52 (0, 0))) :
    w.cell? ⟨P, 0, none⟩ = some cv ∧ w.cell? ⟨P, 1, none⟩ = some (.slice none 0 0) ∧ w.cell? ⟨P, 2, none⟩ = some (.slice none 0 0) ∧ w.cell? ⟨P, 3, none⟩ = some (.int .i64 0) ∧
    w.cell? ⟨P, 4, none⟩ = some (.int .i64 (regs : Int)) ∧ w.cell? ⟨P, 5, none⟩ = some (.bool false) ∧ w.cell? ⟨P, 6, none⟩ = some (.bool false) ∧ ∀ j, w.frozen? ⟨P, j, none⟩ = false :=
  ⟨cell_at h 0 rfl, cell_at h 1 rfl, cell_at h 2 rfl, cell_at h 3 rfl, cell_at h 4 rfl, cell_at h 5 rfl, cell_at h 6 rfl, fr_all h⟩
theorem info86 : (Tryz.prog.info? 86).map (fun i => (i.zero, i.size, i.bytes)) = some (some (.agg #[.int .i64 0, .int .i64 0, .int .i64 0]), 3, 24) := by kernel_rfl
/-- The cells of code. -/
def codeOf (us : List Nat) : List Value := us.flatMap (fun (u : Nat) => [.int .i64 0, .int .i64 (u : Int), .int .i64 0])
theorem codeOf_snoc (us : List Nat) (u : Nat) : codeOf (us ++ [u]) = codeOf us ++ [.int .i64 0, .int .i64 (u : Int), .int .i64 0] := by simp [codeOf]
set_option maxHeartbeats 1000000 in
set_option maxRecDepth 100000 in
theorem addLeaf_u {w : World} {P regs B n : Nat} {cv : Value} {us : List Nat} (u : Nat) (h : w.heap[P]? = some (Obj.cells (ptA cv regs) 52 (0, 0))) (hown : w.ownsRow B 86 3 cv n (codeOf us)) (hn : n ≤ 1000) (hB : B ≤ w.heap.size) :
    Calls Tryz.prog 35 #[.pointer (some ⟨P, 0, none⟩), .agg #[.int .i64 0, .int .i64 (u : Int), .int .i64 0]] w fun e w' => ∃ cv', (∃ v, e = .returned v) ∧ w'.heap[P]? = some (Obj.cells (ptA cv' regs) 52 (0, 0)) ∧ w'.ownsRow B 86 3 cv' (n + 1) (codeOf (us ++ [u])) ∧ Kx (P :: cv.ownBlock.toList) w w' := by
  obtain ⟨i0, hi, hz0, hz1, hz2⟩ := info_parts info86
  have q3 : n + 1 ≤ maxLen := by unfold maxLen; omega
  have A := fun o => pt_cells ((Kx.alloc [] w o).get h (by simp))
  have a0 := fun o => (A o).1
  have a5 := fun o => (A o).2.2.2.2.2.1
  have af := fun o => (A o).2.2.2.2.2.2.2
  clear A
  have HH : Hid (w.heap[P]? = some (Obj.cells (ptA cv regs) 52 (0, 0))) := h
  clear h
  go_enter Tryz.func35, Tryz.ntmps35
  go_wp2
  obtain ⟨W, hW⟩ : ∃ W, W = w.alloc (Obj.cells #[.int .i64 0, .int .i64 (u : Int), .int .i64 0] 86) := ⟨_, rfl⟩
  rw [← hW]
  have hP : W.heap[P]? = some (Obj.cells (ptA cv regs) 52 (0, 0)) := by rw [hW]; exact (Kx.alloc [] w _).get HH.out (by simp)
  have hI : W.heap[w.heap.size]? = some (Obj.cells #[.int .i64 0, .int .i64 (u : Int), .int .i64 0] 86 (0, 0)) := by rw [hW]; exact heap_new w _
  have hK : Kx [] w W := by rw [hW]; exact Kx.alloc _ _ _
  have ho : W.ownsRow B 86 3 cv n (codeOf us) := hK.owns hown (by simp)
  have hBW : B ≤ W.heap.size := Nat.le_trans hB hK.size
  obtain ⟨I, hIe⟩ : ∃ I, I = w.heap.size := ⟨_, rfl⟩
  rw [← hIe] at hI ⊢
  have hsW : W.heap.size = I + 1 := by rw [hW, hIe]; simp
  have HC : Hid (codeOf (us ++ [u]) = codeOf us ++ [.int .i64 0, .int .i64 (u : Int), .int .i64 0]) := codeOf_snoc us u
  clear hW a0 a5 af hown hIe hsW
  have c0 : W.cell? ⟨P, 0, none⟩ = some cv := cell_at hP 0 rfl
  have i0' : W.cell? ⟨I, 0, none⟩ = some (.int .i64 0) := cell_at hI 0 rfl
  have i1' : W.cell? ⟨I, 1, none⟩ = some (.int .i64 (u : Int)) := cell_at hI 1 rfl
  have i2' : W.cell? ⟨I, 2, none⟩ = some (.int .i64 0) := cell_at hI 2 rfl
  have d0 : ∀ o, (W.alloc o).cell? ⟨P, 0, none⟩ = some cv := fun o => cell_at ((Kx.alloc [] W o).get hP (by simp)) 0 rfl
  have d0' : ∀ o, (W.drew.alloc o).cell? ⟨P, 0, none⟩ = some cv := fun o => d0 o
  have JP : Hid (W.heap[P]? = some (Obj.cells (ptA cv regs) 52 (0, 0))) := hP
  have JO : Hid (W.ownsRow B 86 3 cv n (codeOf us)) := ho
  have JK : Hid (Kx [] w W) := hK
  have hne : P ∉ cv.ownBlock.toList := fun hm => owns_ne ho hP (by decide) P (by simpa using hm) rfl
  clear hP hI ho hK
  go_region_law (first | (refine step_append_lies _ (by rfl) _ _ _ (by rfl) B 86 i0 _ 3 24 Tryz.underlying48 hi hz0 hz1 hz2 rfl (by omega) cv n (codeOf us) (by rfl) (JO.out.drew.alloc _) ⟨W.heap.size, 0, none⟩ 1 1 [.int .i64 0, .int .i64 (u : Int), .int .i64 0] (by rfl) (by rfl) (cells_new W.drew [.int .i64 0, .int .i64 (u : Int), .int .i64 0] 86) (by intro u hu; simp at hu; rcases hu with rfl | rfl | rfl <;> rfl) (by omega) q3 (by omega) (by simp; omega) (W.heap.size + 1) (by simp) ?_; intro gg cap w1 hown1 hgrow hat hlt1; have JN4 : Hid (w1.heap[P]? = some (Obj.cells (ptA cv regs) 52 (0, 0))) := (Kx.grown hgrow).get ((Kx.alloc [] W.drew _).get JP.out (by simp)) hne; have cN4 : w1.cell? ⟨P, 0, none⟩ = some cv := cell_at JN4.out 0 rfl; have fN4 : w1.frozen? ⟨P, 0, none⟩ = false := fr_all JN4.out 0))
  all_goals
    refine bodyPost_end (results_none rfl _ _ _) rfl ?_
    have kD : Kx [P] w1 (w1.setCell ⟨P, 0, none⟩ (.slice (some ⟨gg, 0, none⟩) (n + 1) cap)) := Kx.setCell _ (by simp) _
    have kA := ((JK.out.trans (Kx.alloc [] W (Obj.cells #[.int .i64 0, .int .i64 (u : Int), .int .i64 0] 86)) (by simp)).drw1).mono (S := P :: cv.ownBlock.toList) (by simp)
    refine ⟨.slice (some ⟨gg, 0, none⟩) (n + 1) cap, ⟨_, rfl⟩, heap_put JN4.out 0 _, ?_, (kA.trans (Kx.grown hgrow) (fun q hq => .inl (by simp; exact .inr (by simpa using hq)))).trans kD (fun q hq => .inl (by simp [List.mem_singleton.1 hq]))⟩
    rw [HC.out]
    exact kD.owns hown1 (fun q hq hm => owns_ne hown1 JN4.out (by decide) q hq (List.mem_singleton.1 hm))
theorem nl_cells {w : World} {g : Nat} {op x : Int} (h : w.heap[g]? = some (Obj.cells (nodeL op x) 90 (0, 0))) :
    w.cell? ⟨g, 0, none⟩ = some (.int .i64 0) ∧ w.cell? ⟨g, 1, none⟩ = some (.int .i64 op) ∧ w.cell? ⟨g, 2, none⟩ = some (.int .i64 x) ∧ w.cell? ⟨g, 3, none⟩ = some (.int .i64 0) :=
  ⟨cell_at h 0 rfl, cell_at h 1 rfl, cell_at h 2 rfl, cell_at h 3 rfl⟩
set_option maxHeartbeats 1000000 in
set_option maxRecDepth 100000 in
theorem add_leaf {w : World} {P regs B n g : Nat} {cv : Value} {us : List Nat} (u : Nat) (h : w.heap[P]? = some (Obj.cells (ptA cv regs) 52 (0, 0))) (hg : w.heap[g]? = some (Obj.cells (nodeL 0 (u : Nat)) 90 (0, 0))) (hown : w.ownsRow B 86 3 cv n (codeOf us)) (hn : n ≤ 1000) (hB : B ≤ w.heap.size) :
    Calls Tryz.prog 23 #[.pointer (some ⟨P, 0, none⟩), .pointer (some ⟨g, 0, none⟩)] w fun e w' => ∃ cv', (∃ v, e = .returned v) ∧ w'.heap[P]? = some (Obj.cells (ptA cv' regs) 52 (0, 0)) ∧ w'.ownsRow B 86 3 cv' (n + 1) (codeOf (us ++ [u])) ∧ Kx (P :: cv.ownBlock.toList) w w' := by
  have ca := addLeaf_u u h hown hn hB
  obtain ⟨n0, n1, n2, n3⟩ := nl_cells hg
  clear h hg hown
  go_enter Tryz.func23, Tryz.ntmps23
  go_wp2_with (first | (go_at_call 35; refine ca.mono ?_; rintro e w1 ⟨cv', ⟨v, rfl⟩, h1, h2, h3⟩))
  exact bodyPost_end (results_none rfl _ _ _) rfl ⟨cv', ⟨_, rfl⟩, h1, h2, h3⟩
end Go.Proofs.YtpaaladlddifjaaGreatDoor
