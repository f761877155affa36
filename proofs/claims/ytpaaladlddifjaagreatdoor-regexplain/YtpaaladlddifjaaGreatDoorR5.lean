/- The walk of pattern. -/
import Derived.Test.YtpaaladlddifjaaGreatDoorR4
set_option linter.unusedVariables false
namespace Go.Proofs.YtpaaladlddifjaaGreatDoor
open Go.RowKit Re

/-- A node that is a row of leaves. -/
def RowOf (w : World) (M g : Nat) (us : List Nat) : Prop := ∃ kv gs, w.heap[g]? = some (Obj.cells (nodeR kv) 90 (0, 0)) ∧ w.ownsRow M 57 1 kv us.length (gs.map pv) ∧ Leafs w M gs us
theorem RowOf.kept {w w' : World} {M g : Nat} {us : List Nat} {S : List Nat} (h : RowOf w M g us) (k : Kx S w w') (hS : ∀ i ∈ S, (∀ cur fr, w.heap[i]? ≠ some (Obj.cells cur 90 fr)) ∧ (∀ cur fr, w.heap[i]? ≠ some (Obj.cells cur 57 fr))) : RowOf w' M g us := by
  obtain ⟨kv, gs, h1, h2, h3⟩ := h
  refine ⟨kv, gs, k.get h1 (fun hm => (hS g hm).1 _ _ h1), k.owns h2 (fun q hq hm => ?_), h3.kept k (fun i hi => .inr (hS i hi).1)⟩
  rcases h2.2 with ⟨rfl, _⟩ | ⟨g', cap, cur', rfl, _, hgg, _⟩
  · simp [Value.ownBlock] at hq
  · simp [Value.ownBlock] at hq
    subst hq
    exact (hS _ hm).2 _ _ hgg
set_option maxRecDepth 100000 in
set_option maxHeartbeats 1000000 in
theorem pattern_any {w : World} {R c : Nat} {a : Option Addr} (us : List Nat) (hu : ∀ u ∈ us, u < 65536) (hn : us.length ≤ 300) (h : w.heap[R]? = some (Obj.cells (rdA a (pat us).length c 0 0) 56 (0, 0))) (hl : Lu w a (pat us)) :
    Calls Tryz.prog 21 #[.pointer (some ⟨R, 0, none⟩)] w fun e w' => ∃ g, w.heap.size ≤ g ∧ e = .returned (.pointer (some ⟨g, 0, none⟩)) ∧ RowOf w' w.heap.size g us ∧ w'.heap[R]? = some (Obj.cells (rdA a (pat us).length c (pat us).length us.length) 56 (0, 0)) ∧ Kx [R] w w' := by
  have hlen := pat_len us
  have cr := row_any us hu hn h hl
  have ce := fun W (hW : W.heap[R]? = some (Obj.cells (rdA a (pat us).length c (pat us).length us.length) 56 (0, 0))) (hK : Kx [R] w W) => eat_no hW (hl.kept hK (rd_ne h)) (Nat.le_refl _) (by omega) 124 (fun hh => by omega)
  clear h hl
  go_enter Tryz.func21, Tryz.ntmps21
  go_wp2_with (first | (go_at_call 33; refine cr.mono ?_; rintro e w1 ⟨g, kv, gs, hg, rfl, h1, h2, h3, h4, h5⟩; have HF : Hid (RowOf w1 w.heap.size g us ∧ w1.heap[R]? = some (Obj.cells (rdA a (pat us).length c (pat us).length us.length) 56 (0, 0)) ∧ Kx [R] w w1) := ⟨⟨kv, gs, h1, h2, h3⟩, h4, h5⟩; clear h1 h2 h3 h4 h5))
  refine wp_loop_once ?_
  go_wp2_with (first | (go_at_call 34; refine (ce _ ((Kx.alloc [] _ _).get HF.out.2.1 (by simp)) (HF.out.2.2.trans (Kx.alloc [] _ _) (by simp))).mono ?_; rintro e w2 ⟨rfl, n2, rfl⟩))
  go_ret
  have kA : Kx [] w1 ((w1.alloc (Obj.cells #[Value.pointer (some ⟨g, 0, none⟩)] 57)).drewN n2) := (Kx.alloc _ _ _).drw _
  exact ⟨g, hg, rfl, HF.out.1.kept kA (by simp), kA.get HF.out.2.1 (by simp), HF.out.2.2.trans kA (by simp)⟩
end Go.Proofs.YtpaaladlddifjaaGreatDoor
