/- The walks of Compile: regex's and plain's. -/
import Derived.Test.YtpaaladlddifjaaGreatDoorE1
set_option linter.unusedVariables false
namespace Go.Proofs.YtpaaladlddifjaaGreatDoor
open Go.RowKit Re

/-- A compiled pattern of units. -/
def PatIs (w : World) (M P : Nat) (us : List Nat) : Prop := ∃ cv, w.heap[P]? = some (Obj.cells (ptA cv 2) 52 (0, 0)) ∧ w.ownsRow M 86 3 cv us.length (codeOf us)
theorem PatIs.kept {w w' : World} {M P : Nat} {us : List Nat} {S : List Nat} (h : PatIs w M P us) (k : Kx S w w') (hS : ∀ i ∈ S, (∀ cur fr, w.heap[i]? ≠ some (Obj.cells cur 52 fr)) ∧ (∀ cur fr, w.heap[i]? ≠ some (Obj.cells cur 86 fr))) : PatIs w' M P us := by
  obtain ⟨cv, h1, h2⟩ := h
  refine ⟨cv, k.get h1 (fun hm => (hS P hm).1 _ _ h1), k.owns h2 (fun q hq hm => ?_)⟩
  rcases h2.2 with ⟨rfl, _⟩ | ⟨g', cap, cur', rfl, _, hgg, _⟩
  · simp [Value.ownBlock] at hq
  · simp [Value.ownBlock] at hq
    subst hq
    exact (hS _ hm).2 _ _ hgg
theorem not_kind {w : World} {i : Nat} {c : Array Value} {t : TypeId} {fr : Nat × Nat} (h : w.heap[i]? = some (Obj.cells c t fr)) {t' : TypeId} (ht : t ≠ t') : ∀ cur fr, w.heap[i]? ≠ some (Obj.cells cur t' fr) := by
  intro cur fr' e
  rw [h] at e
  simp at e
  exact ht e.2.1
set_option maxRecDepth 100000 in
theorem compile1_u (us : List Nat) (hu : ∀ u ∈ us, u < 65536) (hn : us.length ≤ 300) (w : World) (A B C : Nat) (hA : w.heap[A]? = some (Obj.cells #[.string (txt (pat us))] 9 (0, 0))) (hB : w.heap[B]? = some (Obj.cells #[.string ⟨#[]⟩] 9 (0, 0))) (hC : w.heap[C]? = some (Obj.cells #[.pointer none] 25 (0, 0))) :
    Calls Tryz.prog 13 #[.pointer (some ⟨A, 0, none⟩), .pointer (some ⟨B, 0, none⟩), .pointer (some ⟨C, 0, none⟩)] w fun e w' => (∃ v, e = .returned v) ∧ ∃ P, w.heap.size ≤ P ∧ w'.heap[C]? = some (Obj.cells #[.pointer (some ⟨P, 0, none⟩)] 25 (0, 0)) ∧ PatIs w' w.heap.size P us ∧ Kx [C] w w' := by
  have cc := compiled_u us hu hn w
  have a0 := cell_at hA 0 rfl
  have b0 := cell_at hB 0 rfl
  have HC : Hid (w.heap[C]? = some (Obj.cells #[.pointer none] 25 (0, 0))) := hC
  clear hA hB hC
  go_enter Tryz.func13, Tryz.ntmps13
  go_wp2_with (first | (go_at_call 14; refine cc.mono ?_; rintro e w1 ⟨P, cv, rfl, r1, r2, r3, r4⟩; have hC1 := r4.get HC.out (by simp); have c1 := cell_at hC1 0 rfl; have f1 := fr_all hC1 0; have H1 : Hid (w1.heap[C]? = some (Obj.cells #[.pointer none] 25 (0, 0))) := hC1; clear hC1))
  refine bodyPost_end (results_none rfl _ _ _) rfl ⟨⟨_, rfl⟩, P, r1, heap_put H1.out 0 _, ?_, (r4.mono (by simp)).set (by simp) _⟩
  refine PatIs.kept ⟨cv, r2, r3⟩ (Kx.setCell (S := [C]) w1 (p := ⟨C, 0, none⟩) (by simp) _) (fun i hi => ?_)
  rw [List.mem_singleton.1 hi]
  exact ⟨not_kind H1.out (by decide), not_kind H1.out (by decide)⟩
set_option maxRecDepth 100000 in
theorem compile_u (us : List Nat) (hu : ∀ u ∈ us, u < 65536) (hn : us.length ≤ 300) (w : World) :
    Calls Tryz.prog 8 #[.string (txt (pat us)), .string ⟨#[]⟩] w fun e w' => ∃ P, e = .returned (.tuple #[.pointer (some ⟨P, 0, none⟩), .nilIface]) ∧ w.heap.size ≤ P ∧ PatIs w' w.heap.size P us ∧ Kx [] w w' := by
  have hmf : ∀ (fn : Fn) (first cap : Array Value) (w : World), (Instr.makeFunc fn first cap).run Tryz.prog w = .ok (.func fn first cap) w := fun _ _ _ _ => rfl
  go_enter Tryz.func8, Tryz.ntmps8
  go_wp2_with (first | (go_at_call 12; fail))
  obtain ⟨W, hW⟩ : ∃ W, W = ((w.alloc (Obj.cells #[.string (txt (pat us))] 9)).alloc (Obj.cells #[.string ⟨#[]⟩] 9)).alloc (Obj.cells #[.pointer none] 25) := ⟨_, rfl⟩
  rw [← hW]
  have k0 := Kx.alloc [] w (Obj.cells #[.string (txt (pat us))] 9)
  have k1 := Kx.alloc [] (w.alloc (Obj.cells #[.string (txt (pat us))] 9)) (Obj.cells #[.string ⟨#[]⟩] 9)
  have k2 := Kx.alloc [] ((w.alloc (Obj.cells #[.string (txt (pat us))] 9)).alloc (Obj.cells #[.string ⟨#[]⟩] 9)) (Obj.cells #[.pointer none] 25)
  rw [← hW] at k2
  have hA : W.heap[w.heap.size]? = some (Obj.cells #[.string (txt (pat us))] 9 (0, 0)) := k2.get (k1.get (heap_new w _) (by simp)) (by simp)
  have hB : W.heap[w.heap.size + 1]? = some (Obj.cells #[.string ⟨#[]⟩] 9 (0, 0)) := k2.get (by have := heap_new (w.alloc (Obj.cells #[.string (txt (pat us))] 9)) (Obj.cells #[.string ⟨#[]⟩] 9); simpa using this) (by simp)
  have hC : W.heap[w.heap.size + 1 + 1]? = some (Obj.cells #[.pointer none] 25 (0, 0)) := by
    have := heap_new ((w.alloc (Obj.cells #[.string (txt (pat us))] 9)).alloc (Obj.cells #[.string ⟨#[]⟩] 9)) (Obj.cells #[.pointer none] 25)
    rw [← hW] at this
    simpa using this
  have hK : Kx [] w W := (k0.same k1).same k2
  clear hW k0 k1 k2
  obtain ⟨A, hAe⟩ : ∃ A, A = w.heap.size := ⟨_, rfl⟩
  rw [← hAe] at hA hB hC ⊢
  have kE := Kx.alloc [] W (Obj.cells #[.nilIface] 35)
  have hE := heap_new W (Obj.cells #[.nilIface] 35)
  have c1 := compile1_u us hu hn (W.alloc (Obj.cells #[.nilIface] 35)) A (A + 1) (A + 1 + 1) (kE.get hA (by simp)) (kE.get hB (by simp)) (kE.get hC (by simp))
  have hCl := lt_get hC
  have cc := caught_13 _ W (fun w1 => ∃ P, (W.alloc (Obj.cells #[.nilIface] 35)).heap.size ≤ P ∧ w1.heap[A + 1 + 1]? = some (Obj.cells #[.pointer (some ⟨P, 0, none⟩)] 25 (0, 0)) ∧ PatIs w1 (W.alloc (Obj.cells #[.nilIface] 35)).heap.size P us ∧ Kx [A + 1 + 1] (W.alloc (Obj.cells #[.nilIface] 35)) w1 ∧ w1.heap[W.heap.size]? = some (Obj.cells #[.nilIface] 35 (0, 0))) (c1.mono (fun e w1 ⟨he, P, r1, r2, r3, r4⟩ => by
    have hE1 := r4.get hE (by simp; omega)
    exact ⟨he, ⟨P, r1, r2, r3, r4, hE1⟩, hE1⟩))
  refine cc.mono ?_
  rintro e w2 ⟨rfl, w1, ⟨P, r1, r2, r3, r4, r5⟩, r6⟩
  have hC2 := r6.get r2 (by simp; omega)
  have x0 := cell_at hC2 0 rfl
  have hsz : (W.alloc (Obj.cells #[.nilIface] 35)).heap.size = W.heap.size + 1 := by simp
  have hsW := hK.size
  have HF : Hid (w.heap.size ≤ P ∧ PatIs w2 w.heap.size P us ∧ Kx [] w w2) := by
    refine ⟨by omega, ?_, ?_⟩
    · obtain ⟨cv, q1, q2⟩ := r3.kept r6 (fun i hi => by rw [List.mem_singleton.1 hi]; exact ⟨not_kind r5 (by decide), not_kind r5 (by decide)⟩)
      exact ⟨cv, q1, owns_le q2 (by omega)⟩
    · exact (((hK.trans kE (by simp)).trans r4 (fun i hi => .inr (by rw [List.mem_singleton.1 hi]; omega))).trans r6 (fun i hi => .inr (by rw [List.mem_singleton.1 hi]; omega)))
  clear r1 r2 r3 r4 r5 r6 hC2 cc c1 hE kE hA hB hC hK hCl hsz hsW hAe
  go_wp2
  go_ret2
  exact ⟨P, rfl, HF.out.1, HF.out.2.1, HF.out.2.2⟩
end Go.Proofs.YtpaaladlddifjaaGreatDoor
