/- The machine: does, at an instruction that holds a unit against the text. -/
import Derived.Test.YtpaaladlddifjaaGreatDoorM2
set_option linter.unusedVariables false
namespace Go.Proofs.YtpaaladlddifjaaGreatDoor
open Go.RowKit Re

section
variable {w : World} {M P pc p took steps G H c : Nat} {a : Option Addr} {l : List Nat}
set_option maxRecDepth 100000 in
set_option maxHeartbeats 1000000 in
theorem does_any (x : Nat) (b : Bool) (Q : World → World → Prop) (h : w.heap[M]? = some (Obj.cells (mcA P (.slice a l.length c) pc p took steps G H) 75 (0, 0))) (ht : took < steps) (hs : steps ≤ 1073741824)
    (hh : ∀ W, W.heap[M]? = some (Obj.cells (mcA P (.slice a l.length c) pc p (took + 1) steps G H) 75 (0, 0)) → Kx [M] w W → Calls Tryz.prog 62 #[.pointer (some ⟨M, 0, none⟩), .agg #[.int .i64 0, .int .i64 (x : Int), .int .i64 0]] W fun e w' => e = .returned (.bool b) ∧ Q W w') :
    Calls Tryz.prog 50 #[.pointer (some ⟨M, 0, none⟩), .agg #[.int .i64 0, .int .i64 (x : Int), .int .i64 0]] w fun e w' => e = .returned (.bool b) ∧ ∃ W, W.heap[M]? = some (Obj.cells (mcA P (.slice a l.length c) pc p (took + 1) steps G H) 75 (0, 0)) ∧ Kx [M] w W ∧ Q W w' := by
  obtain ⟨W, hW⟩ : ∃ W, W = w.alloc (Obj.cells #[.int .i64 0, .int .i64 (x : Int), .int .i64 0] 86) := ⟨_, rfl⟩
  have hK : Kx [] w W := by rw [hW]; exact Kx.alloc _ _ _
  have hI : W.heap[w.heap.size]? = some (Obj.cells #[.int .i64 0, .int .i64 (x : Int), .int .i64 0] 86 (0, 0)) := by rw [hW]; exact heap_new w _
  have hML := lt_get h
  have hM := hK.get h (by simp)
  have cs := step_any hM ht hs
  have JI : Hid (W.heap[w.heap.size]? = some (Obj.cells #[.int .i64 0, .int .i64 (x : Int), .int .i64 0] 86 (0, 0))) := hI
  have JK : Hid (Kx [] w W) := hK
  have JW : Hid (W = w.alloc (Obj.cells #[.int .i64 0, .int .i64 (x : Int), .int .i64 0] 86)) := hW
  rw [hW] at cs
  clear h hM hK hI hW
  go_enter Tryz.func50, Tryz.ntmps50
  go_wp2_with (first | (go_at_call 46; refine cs.mono ?_; rintro e w1 ⟨⟨v, rfl⟩, r1, r2⟩; rw [← JW.out] at r2; have hI1 := r2.get JI.out (by simp; omega); have i0 := cell_at hI1 0 rfl; have i1 := cell_at hI1 1 rfl; have i2 := cell_at hI1 2 rfl; have JR : Hid (w1.heap[M]? = some (Obj.cells (mcA P (.slice a l.length c) pc p (took + 1) steps G H) 75 (0, 0)) ∧ Kx [M] w w1) := ⟨r1, (JK.out.mono (by simp)).same r2⟩; clear r1 r2 hI1) | (go_at_call 62; refine (hh _ JR.out.1 JR.out.2).mono ?_; rintro e w2 ⟨rfl, q⟩))
  go_ret
  exact ⟨rfl, _, JR.out.1, JR.out.2, q⟩
theorem kx_kind {w w' : World} {M : Nat} {ar : Array Value} (hM : w.heap[M]? = some (Obj.cells ar 75 (0, 0))) (k : Kx [M] w w') {q : Nat} {cur : Array Value} {t : TypeId} {fr : Nat × Nat} (hq : w.heap[q]? = some (Obj.cells cur t fr)) (ht : t ≠ 75) : w'.heap[q]? = some (Obj.cells cur t fr) := by
  refine k.get hq (fun hm => ?_)
  rw [List.mem_singleton.1 hm, hM] at hq
  simp at hq
  exact ht hq.2.1.symm
theorem does_yes (x : Nat) (hx : x < 65536) (cv : Value) (regs : Nat) (h : w.heap[M]? = some (Obj.cells (mcA P (.slice a l.length c) pc p took steps G H) 75 (0, 0))) (hP : w.heap[P]? = some (Obj.cells (ptA cv regs) 52 (0, 0))) (hl : Lu w a l) (hp : p < l.length) (hm : l.length ≤ 100000) (hv : l[p]?.getD 0 = x) (ht : took < steps) (hs : steps ≤ 1073741824) :
    Calls Tryz.prog 50 #[.pointer (some ⟨M, 0, none⟩), .agg #[.int .i64 0, .int .i64 (x : Int), .int .i64 0]] w fun e w' => e = .returned (.bool true) ∧ w'.heap[M]? = some (Obj.cells (mcA P (.slice a l.length c) pc (p + 1) (took + 1) steps G H) 75 (0, 0)) ∧ Kx [M] w w' := by
  have := does_any x true (fun W w' => w'.heap[M]? = some (Obj.cells (mcA P (.slice a l.length c) pc (p + 1) (took + 1) steps G H) 75 (0, 0)) ∧ Kx [M] W w') h ht hs (fun W hW hK => holds_yes x hx cv regs hW (kx_kind h hK hP (by decide)) (hl.kept hK (mc_ne h)) hp hm hv)
  exact this.mono (fun e w' ⟨he, W, h1, h2, h3, h4⟩ => ⟨he, h3, h2.same h4⟩)
theorem does_no (x : Nat) (hx : x < 65536) (cv : Value) (regs : Nat) (h : w.heap[M]? = some (Obj.cells (mcA P (.slice a l.length c) pc p took steps G H) 75 (0, 0))) (hP : w.heap[P]? = some (Obj.cells (ptA cv regs) 52 (0, 0))) (hl : Lu w a l) (hp : p ≤ l.length) (hm : l.length ≤ 100000) (hv : p < l.length → l[p]?.getD 0 ≠ x) (ht : took < steps) (hs : steps ≤ 1073741824) :
    Calls Tryz.prog 50 #[.pointer (some ⟨M, 0, none⟩), .agg #[.int .i64 0, .int .i64 (x : Int), .int .i64 0]] w fun e w' => e = .returned (.bool false) ∧ w'.heap[M]? = some (Obj.cells (mcA P (.slice a l.length c) pc p (took + 1) steps G H) 75 (0, 0)) ∧ Kx [M] w w' := by
  have := does_any x false (fun W w' => Kx [] W w') h ht hs (fun W hW hK => by
    by_cases hlt : p < l.length
    · exact holds_no x hx cv regs hW (kx_kind h hK hP (by decide)) (hl.kept hK (mc_ne h)) hlt hm (hv hlt)
    · obtain rfl : p = l.length := by omega
      exact holds_end x hm hW)
  exact this.mono (fun e w' ⟨he, W, h1, h2, h3⟩ => ⟨he, h3.get h1 (by simp), h2.trans h3 (by simp)⟩)
set_option maxRecDepth 100000 in
set_option maxHeartbeats 1000000 in
theorem forget_any {lv : Value} (h : w.heap[M]? = some (Obj.cells (mcA P lv pc p took steps G H) 75 (0, 0))) (r0 r1 : Int) (hr0 : -1 ≤ r0) (hr1 : -1 ≤ r1) (hG : w.heap[G]? = some (Obj.cells #[.int .i64 r0, .int .i64 r1] 3 (0, 0))) :
    Calls Tryz.prog 48 #[.pointer (some ⟨M, 0, none⟩), .int .i64 0, .int .i64 1] w fun e w' => (∃ v, e = .returned v) ∧ w'.heap[G]? = some (Obj.cells #[.int .i64 (-1), .int .i64 (-1)] 3 (0, 0)) ∧ Kx [G] w w' := by
  have hMG : M ∉ [G] := by
    intro hm
    rw [List.mem_singleton.1 hm, hG] at h
    simp at h
  have HH : Hid (w.heap[M]? = some (Obj.cells (mcA P lv pc p took steps G H) 75 (0, 0))) := h
  have HG : Hid (w.heap[G]? = some (Obj.cells #[.int .i64 r0, .int .i64 r1] 3 (0, 0))) := hG
  clear h hG
  go_enter Tryz.func48, Tryz.ntmps48
  go_wp2
  go_loopw [6] (fun v wr => ∃ (k : Nat) (x0 x1 : Int), k ≤ 2 ∧ v = .int .i64 (k : Int) ∧ -1 ≤ x0 ∧ -1 ≤ x1 ∧ (1 ≤ k → x0 = -1) ∧ (2 ≤ k → x1 = -1) ∧ wr.heap[G]? = some (Obj.cells #[.int .i64 x0, .int .i64 x1] 3 (0, 0)) ∧ Kx [G] w wr) (fun v _ => 2 - (intOf v).toNat)
  case atStart => exact ⟨0, r0, r1, by omega, rfl, hr0, hr1, fun h => absurd h (by omega), fun h => absurd h (by omega), HG.out, Kx.refl _ _⟩
  case round =>
    obtain ⟨k, x0, x1, hk, rfl, hx0, hx1, e0, e1, hGr, hK⟩ := hrel
    have hMr := hK.get HH.out hMG
    have cs := fun m j (hj : j < 2) => set_any (w := wr.drewN m) hMr x0 x1 hGr j hj (-1)
    obtain ⟨c0, c1, c2, c3, c4, c5, c6, c7, c8, c9, c10, c11, hf⟩ := mc_cells hMr
    have g0 : wr.cell? ⟨G, 0, none⟩ = some (.int .i64 x0) := cell_at hGr 0 rfl
    have g1 : wr.cell? ⟨G, 1, none⟩ = some (.int .i64 x1) := cell_at hGr 1 rfl
    have JG : Hid (wr.heap[G]? = some (Obj.cells #[.int .i64 x0, .int .i64 x1] 3 (0, 0))) := hGr
    have JK : Hid (Kx [G] w wr) := hK
    have E0 : Hid (1 ≤ k → x0 = -1) := e0
    have E1 : Hid (2 ≤ k → x1 = -1) := e1
    clear hMr hGr hK e0 e1
    obtain rfl | rfl | rfl : k = 0 ∨ k = 1 ∨ k = 2 := by omega
    · have cs0 := cs 0 0 (by omega)
      clear cs
      by_cases hx : (0 : Int) ≤ x0
      · go_wp2_with (first | (go_at_call 49; refine cs0.mono ?_; rintro e w1 ⟨⟨v, rfl⟩, s1, s2⟩))
        go_roundw
        case rel => exact ⟨1, -1, x1, by omega, by go_num, by omega, hx1, fun _ => rfl, fun h => absurd h (by omega), s1, JK.out.same s2⟩
        case measure => simp [intOf]
      · clear cs0
        go_wp2
        go_roundw
        case rel => exact ⟨1, x0, x1, by omega, by go_num, hx0, hx1, fun _ => by omega, fun h => absurd h (by omega), JG.out, JK.out⟩
        case measure => simp [intOf]
    · have cs0 := cs 0 1 (by omega)
      clear cs
      have ex0 : x0 = -1 := E0.out (by omega)
      by_cases hx : (0 : Int) ≤ x1
      · go_wp2_with (first | (go_at_call 49; refine cs0.mono ?_; rintro e w1 ⟨⟨v, rfl⟩, s1, s2⟩))
        go_roundw
        case rel => exact ⟨2, x0, -1, by omega, by go_num, hx0, by omega, fun _ => ex0, fun _ => rfl, s1, JK.out.same s2⟩
        case measure => simp [intOf]
      · clear cs0
        go_wp2
        go_roundw
        case rel => exact ⟨2, x0, x1, by omega, by go_num, hx0, hx1, fun _ => ex0, fun _ => by omega, JG.out, JK.out⟩
        case measure => simp [intOf]
    · have ex0 : x0 = -1 := E0.out (by omega)
      have ex1 : x1 = -1 := E1.out (by omega)
      subst ex0
      subst ex1
      clear cs
      go_wp2
      exact bodyPost_end (results_none rfl _ _ _) rfl ⟨⟨_, rfl⟩, JG.out, JK.out⟩
end
end Go.Proofs.YtpaaladlddifjaaGreatDoor
