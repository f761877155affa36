/- The reader's small steps. -/
import Derived.Test.YtpaaladlddifjaaGreatDoorKx
import Derived.Test.YtpaaladlddifjaaGreatDoorPx
import Derived.Test.YtpaaladlddifjaaGreatDoorChecked
import Derived.WalkKit
import Derived.WalkSpells
import Derived.WalkLawsBesides
import Derived.Maps.AppendAt
import Derived.Laws.AppendOwn
import Derived.Laws.BitsLemmas
import Derived.Laws.BitsAllLaws
import Derived.Laws.Shifts
import Derived.Deep.DeepMust
import Derived.Deep.DeepFit
import Derived.Deep.QuietTactic
import Derived.BigQuiet
set_option linter.unusedVariables false
namespace Go.Proofs.YtpaaladlddifjaaGreatDoor
open Go.RowKit Re

/-- The cells of a reader. -/
def rdA (a : Option Addr) (n c p ts : Nat) : Array Value := #[.slice a n c, .int .i64 (p : Int), .int .i64 1, .int .i64 (ts : Int), .int .i64 0, .int .i64 0, .slice none 0 0]
theorem rd_cells {w : World} {R : Nat} {a : Option Addr} {n c p ts : Nat} (h : w.heap[R]? = some (Obj.cells (rdA a n c p ts) 56 (0, 0))) :
    w.cell? ⟨R, 0, none⟩ = some (.slice a n c) ∧ w.cell? ⟨R, 1, none⟩ = some (.int .i64 (p : Int)) ∧ w.cell? ⟨R, 2, none⟩ = some (.int .i64 1) ∧ w.cell? ⟨R, 3, none⟩ = some (.int .i64 (ts : Int)) ∧
    w.cell? ⟨R, 4, none⟩ = some (.int .i64 0) ∧ w.cell? ⟨R, 5, none⟩ = some (.int .i64 0) ∧ w.cell? ⟨R, 6, none⟩ = some (.slice none 0 0) ∧ ∀ j, w.frozen? ⟨R, j, none⟩ = false :=
  ⟨cell_at h 0 rfl, cell_at h 1 rfl, cell_at h 2 rfl, cell_at h 3 rfl, cell_at h 4 rfl, cell_at h 5 rfl, cell_at h 6 rfl, fr_all h⟩
/-- The units that a slice of the program's holds. -/
def Lu (w : World) (a : Option Addr) (l : List Nat) : Prop :=
  l ≠ [] → ∃ L cur fr, a = some ⟨L, 0, none⟩ ∧ w.heap[L]? = some (Obj.cells cur 24 fr) ∧ ∀ j, j < l.length → cur[j]? = some (.int .u16 ((l[j]?.getD 0 : Nat) : Int))
theorem Lu.kept {w w' : World} {S : List Nat} {a : Option Addr} {l : List Nat} (h : Lu w a l) (k : Kx S w w') (hS : ∀ i ∈ S, ∀ cur fr, w.heap[i]? ≠ some (Obj.cells cur 24 fr)) : Lu w' a l := by
  intro hl
  obtain ⟨L, cur, fr, e, hL, hc⟩ := h hl
  exact ⟨L, cur, fr, e, k.get hL (fun hm => hS L hm cur fr hL), hc⟩
theorem Lu.at {w : World} {a : Option Addr} {l : List Nat} (h : Lu w a l) {p : Nat} (hp : p < l.length) : ∃ L, a = some ⟨L, 0, none⟩ ∧ w.cell? ⟨L, p, none⟩ = some (.int .u16 ((l[p]?.getD 0 : Nat) : Int)) := by
  obtain ⟨L, cur, fr, e, hL, hc⟩ := h (fun e => by rw [e] at hp; simp at hp)
  exact ⟨L, e, cell_at hL p (hc p hp)⟩

theorem nat_beq (p n : Nat) : ((p : Int) == (n : Int)) = decide (p = n) := by rw [Bool.eq_iff_iff]; simp; omega

section
variable {w : World} {R c p ts : Nat} {a : Option Addr} {l : List Nat}
theorem ended_any (h : w.heap[R]? = some (Obj.cells (rdA a l.length c p ts) 56 (0, 0))) :
    Calls Tryz.prog 22 #[.pointer (some ⟨R, 0, none⟩)] w fun e w' => e = .returned (.bool (decide (p = l.length))) ∧ ∃ n, w' = w.drewN n := by
  obtain ⟨c0, c1, c2, c3, c4, c5, c6, hf⟩ := rd_cells h
  clear h
  go_enter Tryz.func22, Tryz.ntmps22
  go_wp2
  go_quiet (fail)
  go_wp2
  go_ret
  exact ⟨by rw [nat_beq]; rfl, _, rfl⟩
theorem is_no (h : w.heap[R]? = some (Obj.cells (rdA a l.length c p ts) 56 (0, 0))) (hl : Lu w a l) (hp : p ≤ l.length) (hm : l.length ≤ 100000) (u : Nat) (hu : p < l.length → l[p]?.getD 0 ≠ u) :
    Calls Tryz.prog 53 #[.pointer (some ⟨R, 0, none⟩), .int .u16 (u : Int)] w fun e w' => e = .returned (.bool false) ∧ ∃ n, w' = w.drewN n := by
  have ce := fun m => ended_any (w := w.drewN m) h
  obtain ⟨c0, c1, c2, c3, c4, c5, c6, hf⟩ := rd_cells h
  clear h
  by_cases hlt : p < l.length
  · obtain ⟨L, rfl, hc⟩ := hl.at hlt
    replace hu := hu hlt
    generalize l[p]?.getD 0 = x at *
    have t : ((x : Int) == (u : Int)) = false := by rw [beq_eq_false_iff_ne]; omega
    simp only [decide_eq_false (show ¬ p = l.length by omega)] at ce
    clear hl hu hm hp
    go_enter Tryz.func53, Tryz.ntmps53
    go_wp2
    go_quiet (first | (go_at_call 22; exact Calls.quiet_of (ce _)))
    go_wp2
    go_ret
    exact ⟨rfl, _, rfl⟩
  · simp only [decide_eq_true (show p = l.length by omega)] at ce
    clear hl hu hm hp
    go_enter Tryz.func53, Tryz.ntmps53
    go_wp2
    go_quiet (first | (go_at_call 22; exact Calls.quiet_of (ce _)))
    go_wp2
    go_ret
    exact ⟨rfl, _, rfl⟩
theorem eat_no (h : w.heap[R]? = some (Obj.cells (rdA a l.length c p ts) 56 (0, 0))) (hl : Lu w a l) (hp : p ≤ l.length) (hm : l.length ≤ 100000) (u : Nat) (hu : p < l.length → l[p]?.getD 0 ≠ u) :
    Calls Tryz.prog 34 #[.pointer (some ⟨R, 0, none⟩), .int .u16 (u : Int)] w fun e w' => e = .returned (.bool false) ∧ ∃ n, w' = w.drewN n := by
  have ce := fun m => is_no (w := w.drewN m) h hl hp hm u hu
  clear h hl hu
  go_enter Tryz.func34, Tryz.ntmps34
  go_wp2_with (go_at_call 53; refine (ce 0).mono ?_; rintro e w' ⟨rfl, n1, rfl⟩)
  go_ret
  exact ⟨rfl, _, rfl⟩
theorem next_any (h : w.heap[R]? = some (Obj.cells (rdA a l.length c p ts) 56 (0, 0))) (hl : Lu w a l) (hp : p < l.length) (hm : l.length ≤ 100000) :
    Calls Tryz.prog 71 #[.pointer (some ⟨R, 0, none⟩)] w fun e w' => e = .returned (.int .u16 ((l[p]?.getD 0 : Nat) : Int)) ∧ w'.heap[R]? = some (Obj.cells (rdA a l.length c (p + 1) ts) 56 (0, 0)) ∧ Kx [R] w w' := by
  have ce := fun m => ended_any (w := w.drewN m) h
  have HH : Hid (w.heap[R]? = some (Obj.cells (rdA a l.length c p ts) 56 (0, 0))) := h
  obtain ⟨c0, c1, c2, c3, c4, c5, c6, hf⟩ := rd_cells h
  clear h
  obtain ⟨L, rfl, hc⟩ := hl.at hp
  have hLR : L ≠ R := by
    intro e
    subst e
    obtain ⟨L, cur, fr, e, hL, hc⟩ := hl (fun e => by rw [e] at hp; simp at hp)
    cases e
    rw [HH.out] at hL
    simp at hL
  simp only [decide_eq_false (show ¬ p = l.length by omega)] at ce
  clear hl
  generalize l[p]?.getD 0 = x at *
  have e1 : ((p : Int) + 1 - 1) = p := by omega
  go_enter Tryz.func71, Tryz.ntmps71
  go_wp2_with (go_at_call 22; refine (ce 0).mono ?_; rintro e w' ⟨rfl, n1, rfl⟩)
  go_quiet (fail)
  go_wp2
  go_ret
  exact ⟨rfl, heap_put HH.out 1 _, (((Kx.refl [R] w).drw _).set (by simp) _).drw _⟩
end
end Go.Proofs.YtpaaladlddifjaaGreatDoor
