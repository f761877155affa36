/- The walk of add at a row of leaves. -/
import Derived.Test.YtpaaladlddifjaaGreatDoorC1
set_option linter.unusedVariables false
namespace Go.Proofs.YtpaaladlddifjaaGreatDoor
open Go.RowKit Re

theorem owns_at {w : World} {B : Nat} {e : TypeId} {v : Value} {n : Nat} {xs : List Value} (h : w.ownsRow B e 1 v n xs) {j : Nat} (hj : j < n) : ∃ g cap, v = .slice (some ⟨g, 0, none⟩) n cap ∧ w.cell? ⟨g, j, none⟩ = xs[j]? := by
  rcases h.2 with ⟨_, h0⟩ | ⟨g, cap, cur, rfl, _, hg, _, _, _, ht⟩
  · omega
  · refine ⟨g, cap, rfl, ?_⟩
    rw [cell_of_row w g j cur e (0, 0) hg, ← ht, List.getElem?_take_of_lt (by omega)]
    simp
theorem owns_slice {w : World} {B : Nat} {e : TypeId} {v : Value} {n : Nat} {xs : List Value} (h : w.ownsRow B e 1 v n xs) : ∃ a cap, v = .slice a n cap := by
  rcases h.2 with ⟨rfl, rfl⟩ | ⟨g, cap, cur, rfl, _⟩
  · exact ⟨_, _, rfl⟩
  · exact ⟨_, _, rfl⟩
theorem nr_cells {w : World} {g : Nat} {kv : Value} (h : w.heap[g]? = some (Obj.cells (nodeR kv) 90 (0, 0))) : w.cell? ⟨g, 0, none⟩ = some (.int .i64 1) ∧ w.cell? ⟨g, 13, none⟩ = some kv := ⟨cell_at h 0 rfl, cell_at h 13 rfl⟩
set_option maxHeartbeats 1000000 in
set_option maxRecDepth 100000 in
theorem add_row {w : World} {P regs M g : Nat} {us : List Nat} (hn : us.length ≤ 300) (h : w.heap[P]? = some (Obj.cells (ptA (.slice none 0 0) regs) 52 (0, 0))) (hr : RowOf w M g us) :
    Calls Tryz.prog 23 #[.pointer (some ⟨P, 0, none⟩), .pointer (some ⟨g, 0, none⟩)] w fun e w' => ∃ cv, (∃ v, e = .returned v) ∧ w'.heap[P]? = some (Obj.cells (ptA cv regs) 52 (0, 0)) ∧ w'.ownsRow w.heap.size 86 3 cv us.length (codeOf us) ∧ Kx [P] w w' := by
  obtain ⟨kv, gs, h1, h2, h3⟩ := hr
  obtain ⟨n0, n13⟩ := nr_cells h1
  obtain ⟨ka, kc, rfl⟩ := owns_slice h2
  have HP : Hid (w.heap[P]? = some (Obj.cells (ptA (.slice none 0 0) regs) 52 (0, 0))) := h
  have H2 : Hid (w.ownsRow M 57 1 (.slice ka us.length kc) us.length (gs.map pv)) := h2
  have H3 : Hid (Leafs w M gs us) := h3
  clear h h1 h2 h3
  go_enter Tryz.func23, Tryz.ntmps23
  go_wp2
  go_loopw [28] (fun i wr => ∃ (k : Nat) (cv : Value), k ≤ us.length ∧ i = .int .i64 (k : Int) ∧ wr.heap[P]? = some (Obj.cells (ptA cv regs) 52 (0, 0)) ∧ wr.ownsRow w.heap.size 86 3 cv k (codeOf (us.take k)) ∧ Kx [P] w wr) (fun i _ => us.length - (intOf i).toNat)
  case atStart => exact ⟨0, _, Nat.zero_le _, rfl, HP.out, World.ownsRow_nil _ _ _ _, Kx.refl _ _⟩
  case round =>
    obtain ⟨k, cv, hk, rfl, hPr, hown, hK⟩ := hrel
    by_cases hlt : k < us.length
    · have hl := H3.out.kept hK (fun q hq => .inr (fun cur fr e => by rw [List.mem_singleton.1 hq, HP.out] at e; simp at e))
      have hk2 := hK.owns H2.out (fun q hq hm => owns_ne H2.out HP.out (by decide) q hq (List.mem_singleton.1 hm))
      obtain ⟨kg, kc', e, hcell⟩ := owns_at hk2 hlt
      cases e
      have hgl : k < gs.length := by rw [hl.1]; exact hlt
      have hcell' : wr.cell? ⟨kg, k, none⟩ = some (.pointer (some ⟨gs[k]?.getD 0, 0, none⟩)) := by
        rw [hcell, List.getElem?_map, List.getElem?_eq_getElem hgl]
        rfl
      have ca := add_leaf (us[k]?.getD 0) hPr (hl.2 k hlt).2 hown (by omega) hK.size
      rw [← take_snoc us k hlt] at ca
      have HO : Hid (wr.ownsRow w.heap.size 86 3 cv k (codeOf (us.take k))) := hown
      generalize gs[k]?.getD 0 = q at *
      have HK : Hid (Kx [P] w wr) := hK
      clear hcell hl hk2 hPr hown hK
      go_wp2_with (first | (go_at_call 23; refine ca.mono ?_; rintro e w1 ⟨cv', ⟨v, rfl⟩, r1, r2, r3⟩))
      go_roundw
      case rel => exact ⟨k + 1, cv', by omega, by go_num, r1, r2, HK.out.trans r3 (fun q hq => by
        rcases List.mem_cons.1 hq with e | e
        · exact .inl (by simp [e])
        · exact .inr (HO.out.lt q (by simpa using e)).1)⟩
      case measure => simp [intOf]; omega
    · obtain rfl : k = us.length := by omega
      rw [List.take_length] at hown
      go_wp2
      exact bodyPost_end (results_none rfl _ _ _) rfl ⟨cv, ⟨_, rfl⟩, hPr, hown, hK⟩
end Go.Proofs.YtpaaladlddifjaaGreatDoor
