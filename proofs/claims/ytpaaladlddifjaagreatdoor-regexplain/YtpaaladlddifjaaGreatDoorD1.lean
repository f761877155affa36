/- The walks of readFlags and compiled. -/
import Derived.Test.YtpaaladlddifjaaGreatDoorC2
import Derived.Laws.RangeString
set_option linter.unusedVariables false
namespace Go.Proofs.YtpaaladlddifjaaGreatDoor
open Go.RowKit Re

set_option maxHeartbeats 1000000 in
set_option maxRecDepth 100000 in
theorem readFlags_none (P : Nat) (w : World) : Calls Tryz.prog 19 #[.pointer (some ⟨P, 0, none⟩), .string ⟨#[]⟩] w fun e w' => (∃ v, e = .returned v) ∧ Kx [] w w' := by
  go_enter Tryz.func19, Tryz.ntmps19
  go_wp2
  refine wp_loop_once ?_
  have hn := run_next_end (P := Tryz.prog) (w.alloc (Obj.cells #[.bool false] 4)) ⟨#[]⟩ 0 0 (by simp [ByteArray.size])
  rw [show (w.alloc (Obj.cells #[.bool false] 4)).heap.size = w.heap.size + 1 by simp] at hn
  go_wp2
  exact bodyPost_end (results_none rfl _ _ _) rfl ⟨⟨_, rfl⟩, (Kx.alloc _ _ _).alc _⟩
theorem owns_le {w : World} {B B' : Nat} {e : TypeId} {sz : Nat} {v : Value} {n : Nat} {xs : List Value} (h : w.ownsRow B e sz v n xs) (hb : B' ≤ B) : w.ownsRow B' e sz v n xs := by
  obtain ⟨h1, h2⟩ := h
  refine ⟨h1, ?_⟩
  rcases h2 with h2 | ⟨g, cap, cur, e1, e2, rest⟩
  · exact .inl h2
  · exact .inr ⟨g, cap, cur, e1, by omega, rest⟩
set_option maxHeartbeats 1000000 in
set_option maxRecDepth 100000 in
theorem compiled_u (us : List Nat) (hu : ∀ u ∈ us, u < 65536) (hn : us.length ≤ 300) (w : World) :
    Calls Tryz.prog 14 #[.string (txt (pat us)), .string ⟨#[]⟩] w fun e w' => ∃ P cv, e = .returned (.pointer (some ⟨P, 0, none⟩)) ∧ w.heap.size ≤ P ∧ w'.heap[P]? = some (Obj.cells (ptA cv 2) 52 (0, 0)) ∧ w'.ownsRow w.heap.size 86 3 cv us.length (codeOf us) ∧ Kx [] w w' := by
  have cf := fun P W => readFlags_none P W
  have cu : ∀ W, Calls Tryz.prog 20 #[.string (txt (pat us))] W fun e w' => ∃ a c, e = .returned (.slice a (pat us).length c) ∧ Lu w' a (pat us) ∧ Kx [] W w' := fun W =>
    (units_ascii (pat us) (pat_lt hu) (by rw [pat_len]; omega) W).mono (fun e w' ⟨v, he, ho, hk⟩ => by
      obtain ⟨a, c, rfl, hl⟩ := lu_of_owns ho
      exact ⟨a, c, he, hl, hk⟩)
  go_enter Tryz.func14, Tryz.ntmps14
  go_wp2_with (first | (go_at_call 19; refine (cf _ _).mono ?_; rintro e w1 ⟨⟨v1, rfl⟩, hk1⟩) | (go_at_call 20; refine (cu _).mono ?_; rintro e w2 ⟨a, c, rfl, hl2, hk2⟩) | (go_at_call 21; refine (pattern_any us hu hn (heap_new w2 _) (hl2.kept (Kx.alloc [] w2 _) (by simp))).mono ?_; rintro e w3 ⟨g, hg, rfl, hrow, hR3, hk3⟩; have hP1 := hk1.get (heap_new w _) (by simp); have hP2 := hk2.get hP1 (by simp); have hPs := lt_get hP2; have hP3 := hk3.get ((Kx.alloc [] w2 _).get hP2 (by simp)) (by simp; omega); have HF : Hid (RowOf w3 _ g us ∧ _ ∧ _ ∧ _ ∧ _ ∧ _ ∧ _ ∧ _) := ⟨hrow, hR3, hP3, hk1, hk2, hk3, hl2, hPs⟩; clear hrow hR3 hP3 hk1 hk2 hk3 hl2 hP1 hP2 hPs))
  have ce := ended_any HF.out.2.1
  rw [decide_eq_true rfl] at ce
  refine ce.mono ?_
  rintro e W ⟨rfl, n1, hW⟩
  have hR : W.heap[w2.heap.size]? = some (Obj.cells (rdA a (pat us).length c (pat us).length us.length) 56 (0, 0)) := by rw [hW]; exact HF.out.2.1
  have hP : W.heap[w.heap.size]? = some (Obj.cells (ptA (.slice none 0 0) 0) 52 (0, 0)) := by rw [hW]; exact HF.out.2.2.1
  have hRow : RowOf W (w2.alloc (Obj.cells (rdA a (pat us).length c 0 0) 56)).heap.size g us := by rw [hW]; exact HF.out.1.kept (Kx.drewN [] _ _) (by simp)
  have hK : Kx [] w W := by
    rw [hW]
    exact ((((Kx.alloc [] w _).trans HF.out.2.2.2.1 (by simp)).trans HF.out.2.2.2.2.1 (by simp)).trans (Kx.alloc [] w2 _) (by simp)).trans (HF.out.2.2.2.2.2.1.drw _) (fun q hq => .inr (by rw [List.mem_singleton.1 hq]; have := HF.out.2.2.2.2.2.2.2; omega))
  have hPR : w.heap.size ≠ w2.heap.size := by have := HF.out.2.2.2.2.2.2.2; omega
  clear hW HF ce hg cf cu
  generalize hPe : w.heap.size = P at *
  generalize hRe : w2.heap.size = R at *
  generalize (w2.alloc (Obj.cells (rdA a (pat us).length c 0 0) 56)).heap.size = M at *
  obtain ⟨c0, c1, c2, c3, c4, c5, c6, hf⟩ := rd_cells hR
  obtain ⟨d0, d1, d2, d3, d4, d5, d6, df⟩ := pt_cells hP
  have JR : Hid (W.heap[R]? = some (Obj.cells (rdA a (pat us).length c (pat us).length us.length) 56 (0, 0))) := hR
  have JP : Hid (W.heap[P]? = some (Obj.cells (ptA (.slice none 0 0) 0) 52 (0, 0))) := hP
  have JW : Hid (RowOf W M g us) := hRow
  have JK : Hid (Kx [] w W) := hK
  have JE : Hid (w.heap.size = P) := hPe
  clear hR hP hRow hK hPe hRe
  have k4 : Kx [P] W (((W.setCell ⟨P, 1, none⟩ (.slice none 0 0)).setCell ⟨P, 3, none⟩ (.int .i64 0)).setCell ⟨P, 4, none⟩ (.int .i64 2)) := (((Kx.refl [P] W).set (by simp) _).set (by simp) _).set (by simp) _
  have hP4 : (((W.setCell ⟨P, 1, none⟩ (.slice none 0 0)).setCell ⟨P, 3, none⟩ (.int .i64 0)).setCell ⟨P, 4, none⟩ (.int .i64 2)).heap[P]? = some (Obj.cells (ptA (.slice none 0 0) 2) 52 (0, 0)) := heap_put (heap_put (heap_put JP.out 1 _) 3 _) 4 _
  have ca := add_row hn hP4 (JW.out.kept k4 (fun q hq => by rw [List.mem_singleton.1 hq, JP.out]; exact ⟨fun _ _ e => by simp at e, fun _ _ e => by simp at e⟩))
  have J4 : Hid (Kx [] w (((W.setCell ⟨P, 1, none⟩ (.slice none 0 0)).setCell ⟨P, 3, none⟩ (.int .i64 0)).setCell ⟨P, 4, none⟩ (.int .i64 2))) := JK.out.trans k4 (fun q hq => .inr (by rw [List.mem_singleton.1 hq, JE.out]; exact Nat.le_refl _))
  clear k4 hP4
  go_wp2_with (first | (go_at_call 23; refine ca.mono ?_; rintro e w5 ⟨cv, ⟨v, rfl⟩, r1, r2, r3⟩))
  go_ret
  exact ⟨P, cv, rfl, by rw [JE.out]; exact Nat.le_refl _, r1, owns_le r2 J4.out.size, J4.out.trans r3 (fun q hq => .inr (by rw [List.mem_singleton.1 hq, JE.out]; exact Nat.le_refl _))⟩
end Go.Proofs.YtpaaladlddifjaaGreatDoor
