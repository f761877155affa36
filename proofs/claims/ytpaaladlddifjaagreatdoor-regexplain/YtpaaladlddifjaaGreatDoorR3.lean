/- The walks of escape, stroke, part, times and term, at an escape of a unit. -/
import Derived.Test.YtpaaladlddifjaaGreatDoorR2
set_option linter.unusedVariables false
namespace Go.Proofs.YtpaaladlddifjaaGreatDoor
open Go.RowKit Re

section
variable {w : World} {R c p ts : Nat} {a : Option Addr} {l : List Nat}
set_option maxRecDepth 100000 in
set_option maxHeartbeats 1000000 in
theorem escape_u (d : Nat → Nat) (hd16 : ∀ k, d k < 16) (h : w.heap[R]? = some (Obj.cells (rdA a l.length c p ts) 56 (0, 0))) (hl : Lu w a l) (hp : p + 5 ≤ l.length) (hm : l.length ≤ 100000) (h0 : l[p]?.getD 0 = 117) (hx : ∀ k, k < 4 → l[p + 1 + k]?.getD 0 = hd (d k)) :
    Calls Tryz.prog 84 #[.pointer (some ⟨R, 0, none⟩)] w fun e w' => e = .returned (.tuple #[.int .u16 ((hv d 4 : Nat) : Int), .slice none 0 0]) ∧ w'.heap[R]? = some (Obj.cells (rdA a l.length c (p + 5) ts) 56 (0, 0)) ∧ Kx [R] w w' := by
  have cn := next_any h hl (by omega) hm
  rw [h0, show ((117 : Nat) : Int) = 117 from rfl] at cn
  have ch := fun w1 (h1 : w1.heap[R]? = some (Obj.cells (rdA a l.length c (p + 1) ts) 56 (0, 0))) (k1 : Kx [R] w w1) => hex_four d hd16 h1 (hl.kept k1 (rd_ne h)) (by omega) hm hx
  have HV : hv d 4 < 65536 := by have := hv_lt d hd16 4; omega
  generalize hv d 4 = v at *
  clear h hl hx hd16 h0
  go_enter Tryz.func84, Tryz.ntmps84
  go_wp2_with (first | (go_at_call 71; refine cn.mono ?_; rintro e w1 ⟨rfl, hh1, hk1⟩) | (go_at_call 93; refine (ch _ hh1 hk1).mono ?_; rintro e w2 ⟨rfl, hh2, hk2⟩))
  go_ret2
  exact ⟨rfl, hh2, hk1.same hk2⟩
theorem eat_no' (h : w.heap[R]? = some (Obj.cells (rdA a l.length c p ts) 56 (0, 0))) (hl : Lu w a l) (hp : p ≤ l.length) (hm : l.length ≤ 100000) (x u : Nat) (hx : p < l.length → l[p]?.getD 0 = x) (hu : x ≠ u) :
    Calls Tryz.prog 34 #[.pointer (some ⟨R, 0, none⟩), .int .u16 (u : Int)] w fun e w' => e = .returned (.bool false) ∧ ∃ n, w' = w.drewN n := eat_no h hl hp hm u (fun hlt => by rw [hx hlt]; exact hu)
set_option maxRecDepth 100000 in
set_option maxHeartbeats 1000000 in
theorem stroke_u (d : Nat → Nat) (hd16 : ∀ k, d k < 16) (h : w.heap[R]? = some (Obj.cells (rdA a l.length c p ts) 56 (0, 0))) (hl : Lu w a l) (hp : p + 5 ≤ l.length) (hm : l.length ≤ 100000) (h0 : l[p]?.getD 0 = 117) (hx : ∀ k, k < 4 → l[p + 1 + k]?.getD 0 = hd (d k)) :
    Calls Tryz.prog 74 #[.pointer (some ⟨R, 0, none⟩)] w fun e w' => ∃ g, w.heap.size ≤ g ∧ e = .returned (.tuple #[.pointer (some ⟨g, 0, none⟩), .bool false]) ∧ w'.heap[g]? = some (Obj.cells (nodeL 0 (hv d 4 : Nat)) 90 (0, 0)) ∧ w'.heap[R]? = some (Obj.cells (rdA a l.length c (p + 5) ts) 56 (0, 0)) ∧ Kx [R] w w' := by
  have ce := fun m u (hu : 117 ≠ u) => eat_no' (w := w.drewN m) h hl (by omega) hm 117 u (fun _ => h0) hu
  have cb := fun m => ce m 98 (by decide)
  have cB := fun m => ce m 66 (by decide)
  have cE := fun m => escape_u (w := w.drewN m) d hd16 h hl hp hm h0 hx
  obtain ⟨L, ha, hc⟩ := hl.at (show p < l.length by omega)
  subst ha
  rw [h0, show ((117 : Nat) : Int) = 117 from rfl] at hc
  have HV : hv d 4 < 65536 := by have := hv_lt d hd16 4; omega
  generalize hv d 4 = v at *
  have hpl : (p : Int) < (l.length : Int) := by omega
  have HH : Hid (w.heap[R]? = some (Obj.cells (rdA (some ⟨L, 0, none⟩) l.length c p ts) 56 (0, 0))) := h
  have HC : Hid (w.cell? ⟨L, p, none⟩ = some (.int .u16 117)) := hc
  clear h hl hx hd16 h0 ce hc
  go_enter Tryz.func74, Tryz.ntmps74
  go_wp2_with (first | (go_at_call 34; refine (cb 0).mono ?_; rintro e w1 ⟨rfl, n1, rfl⟩; clear cb) | (go_at_call 34; refine (cB _).mono ?_; rintro e W ⟨rfl, n2, hW⟩; have HW : Hid (W = (w.drewN n1).drewN n2) := hW; clear hW))
  have hW := HW.out
  have hK : Kx [R] w W := by rw [hW]; exact ((Kx.refl _ _).drw _).drw _
  have h : W.heap[R]? = some (Obj.cells (rdA (some ⟨L, 0, none⟩) l.length c p ts) 56 (0, 0)) := by rw [hW]; exact HH.out
  have hc : W.cell? ⟨L, p, none⟩ = some (.int .u16 117) := by rw [hW]; exact HC.out
  replace cE := fun m => cE (n1 + n2 + m)
  have hWm : ∀ m, w.drewN (n1 + n2 + m) = W.drewN m := fun m => by rw [hW]; simp [Nat.add_assoc]
  simp only [hWm] at cE
  have cd := fun m => ended_any (w := W.drewN m) h
  simp only [decide_eq_false (show ¬ p = l.length by omega)] at cd
  obtain ⟨c0, c1, c2, c3, c4, c5, c6, hf⟩ := rd_cells h
  clear hW hWm h cB
  go_quiet (first | (go_at_call 22; exact Calls.quiet_of (cd _)))
  go_wp2_with (first | (go_at_call 84; refine (cE _).mono ?_; rintro e w3 ⟨rfl, hh3, hk3⟩) | (go_at_call 72; refine (leaf_any _ _ _).mono ?_; rintro e w4 ⟨rfl, hh4, hk4⟩))
  go_ret2
  have hk5 := (hK.drw _).same hk3
  have hR3 := lt_get hh3
  exact ⟨_, hk5.size, rfl, hh4, hk4.get hh3 (by simp), hk5.trans hk4 (by simp)⟩
set_option maxRecDepth 100000 in
set_option maxHeartbeats 1000000 in
theorem part_u (d : Nat → Nat) (hd16 : ∀ k, d k < 16) (h : w.heap[R]? = some (Obj.cells (rdA a l.length c p ts) 56 (0, 0))) (hl : Lu w a l) (hp : p + 6 ≤ l.length) (hm : l.length ≤ 100000) (hs : l[p]?.getD 0 = 92) (h0 : l[p + 1]?.getD 0 = 117) (hx : ∀ k, k < 4 → l[p + 1 + 1 + k]?.getD 0 = hd (d k)) :
    Calls Tryz.prog 64 #[.pointer (some ⟨R, 0, none⟩)] w fun e w' => ∃ g, w.heap.size ≤ g ∧ e = .returned (.tuple #[.pointer (some ⟨g, 0, none⟩), .bool false]) ∧ w'.heap[g]? = some (Obj.cells (nodeL 0 (hv d 4 : Nat)) 90 (0, 0)) ∧ w'.heap[R]? = some (Obj.cells (rdA a l.length c (p + 6) ts) 56 (0, 0)) ∧ Kx [R] w w' := by
  have cn := next_any h hl (by omega) hm
  rw [hs, show ((92 : Nat) : Int) = 92 from rfl] at cn
  have ch := fun w1 (h1 : w1.heap[R]? = some (Obj.cells (rdA a l.length c (p + 1) ts) 56 (0, 0))) (k1 : Kx [R] w w1) => stroke_u d hd16 h1 (hl.kept k1 (rd_ne h)) (by omega) hm h0 hx
  generalize hv d 4 = v at *
  clear h hl hx hd16 h0 hs
  go_enter Tryz.func64, Tryz.ntmps64
  go_wp2_with (first | (go_at_call 71; refine cn.mono ?_; rintro e w1 ⟨rfl, hh1, hk1⟩) | (go_at_call 74; refine (ch _ hh1 hk1).mono ?_; rintro e w2 ⟨g, hg, rfl, hn2, hh2, hk2⟩))
  go_ret2
  exact ⟨g, Nat.le_trans hk1.size hg, rfl, hn2, hh2, hk1.same hk2⟩
set_option maxRecDepth 100000 in
set_option maxHeartbeats 1000000 in
theorem times_no (h : w.heap[R]? = some (Obj.cells (rdA a l.length c p ts) 56 (0, 0))) (hl : Lu w a l) (hp : p ≤ l.length) (hm : l.length ≤ 100000) (hs : p < l.length → l[p]?.getD 0 = 92) (g : Nat) :
    Calls Tryz.prog 65 #[.pointer (some ⟨R, 0, none⟩), .pointer (some ⟨g, 0, none⟩), .int .i64 0] w fun e w' => e = .returned (.pointer (some ⟨g, 0, none⟩)) ∧ Kx [] w w' := by
  have ce := fun W (hK : Kx [] w W) u (hu : 92 ≠ u) => eat_no' (hK.get h (by simp)) (hl.kept hK (by simp)) (by omega) hm 92 u hs hu
  have e1 := fun W hK => ce W hK 42 (by decide)
  have e2 := fun W hK => ce W hK 43 (by decide)
  have e3 := fun W hK => ce W hK 63 (by decide)
  have e4 := fun W hK => ce W hK 123 (by decide)
  obtain ⟨c0, c1, c2, c3, c4, c5, c6, hf⟩ := rd_cells h
  clear h hl hs ce
  go_enter Tryz.func65, Tryz.ntmps65
  go_wp2_with (first | (go_at_call 34; refine (e1 _ (Kx.alloc _ _ _)).mono ?_; rintro e w1 ⟨rfl, n1, rfl⟩; clear e1) | (go_at_call 34; refine (e2 _ ((Kx.alloc _ _ _).drw _)).mono ?_; rintro e w1 ⟨rfl, n2, rfl⟩; clear e2) | (go_at_call 34; refine (e3 _ ((Kx.alloc _ _ _).drw _)).mono ?_; rintro e w1 ⟨rfl, n3, rfl⟩; clear e3) | (go_at_call 34; refine (e4 _ ((Kx.alloc _ _ _).drw _)).mono ?_; rintro e w1 ⟨rfl, n4, rfl⟩; clear e4))
  go_ret
  exact ⟨rfl, (Kx.alloc _ _ _).drw _⟩
end
end Go.Proofs.YtpaaladlddifjaaGreatDoor
