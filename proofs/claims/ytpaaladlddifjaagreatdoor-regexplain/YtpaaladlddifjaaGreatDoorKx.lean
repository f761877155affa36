/- What a call keeps: every block that was there, but for a few. Blocks of some cells. -/
import Derived.WalkKit
import Derived.Below
import Derived.OwnWalk
import Derived.Deep.Draws
set_option linter.unusedVariables false
namespace Go.Proofs.YtpaaladlddifjaaGreatDoor
open Go.RowKit

structure Kx (S : List Nat) (w w' : World) : Prop where
  os : w'.os = w.os
  tape : w'.tape = w.tape
  output : w'.output = w.output
  size : w.heap.size ≤ w'.heap.size
  block : ∀ k, k < w.heap.size → k ∉ S → w'.heap[k]? = w.heap[k]?
theorem Kx.refl (S : List Nat) (w : World) : Kx S w w := ⟨rfl, rfl, rfl, Nat.le_refl _, fun _ _ _ => rfl⟩
theorem Kx.trans {S T : List Nat} {a b c : World} (h : Kx S a b) (k : Kx T b c) (hT : ∀ i ∈ T, i ∈ S ∨ a.heap.size ≤ i) : Kx S a c :=
  ⟨k.os.trans h.os, k.tape.trans h.tape, k.output.trans h.output, Nat.le_trans h.size k.size, fun i hi hn =>
    (k.block i (Nat.lt_of_lt_of_le hi h.size) (fun hm => by rcases hT i hm with h1 | h1; (· exact hn h1); (· omega))).trans (h.block i hi hn)⟩
theorem Kx.same {S : List Nat} {a b c : World} (h : Kx S a b) (k : Kx S b c) : Kx S a c := h.trans k (fun i hi => .inl hi)
theorem Kx.mono {S T : List Nat} {a b : World} (h : Kx T a b) (hT : ∀ i ∈ T, i ∈ S ∨ a.heap.size ≤ i) : Kx S a b := (Kx.refl S a).trans h hT
theorem Kx.alloc (S : List Nat) (w : World) (o : Obj) : Kx S w (w.alloc o) := ⟨rfl, rfl, rfl, by simp, fun k hk _ => Below.heap_alloc _ _ _ hk⟩
theorem Kx.setCell {S : List Nat} (w : World) {p : Addr} (hp : p.block ∈ S) (u : Value) : Kx S w (w.setCell p u) :=
  ⟨rfl, rfl, rfl, by simp [World.setCell], fun k hk hn => Below.heap_setCell _ _ _ _ (fun e => hn (e ▸ hp))⟩
theorem Kx.drew (S : List Nat) (w : World) : Kx S w w.drew := ⟨rfl, rfl, rfl, Nat.le_refl _, fun _ _ _ => rfl⟩
theorem Kx.drewN (S : List Nat) (w : World) (n : Nat) : Kx S w (w.drewN n) := ⟨rfl, rfl, rfl, Nat.le_refl _, fun _ _ _ => rfl⟩
theorem Kx.drw {S : List Nat} {a w : World} (h : Kx S a w) (n : Nat) : Kx S a (w.drewN n) := h.same (Kx.drewN _ _ _)
theorem Kx.drw1 {S : List Nat} {a w : World} (h : Kx S a w) : Kx S a w.drew := h.same (Kx.drew _ _)
theorem Kx.alc {S : List Nat} {a w : World} (h : Kx S a w) (o : Obj) : Kx S a (w.alloc o) := h.same (Kx.alloc _ _ _)
theorem Kx.set {S : List Nat} {a w : World} (h : Kx S a w) {p : Addr} (hp : p.block ∈ S) (u : Value) : Kx S a (w.setCell p u) := h.same (Kx.setCell _ hp u)
theorem Kx.grown {w w' : World} {row : Option Nat} (hg : w.grownBy w' row) : Kx row.toList w w' :=
  ⟨hg.os, hg.tape, hg.output, hg.size, fun k hk hn => hg.block k hk (fun e => hn (by rw [← e]; simp))⟩
theorem Kx.below {S : List Nat} {B : Nat} {w w' : World} (h : Kx S w w') (hB : B ≤ w.heap.size) (hS : ∀ i ∈ S, B ≤ i) : Below B w w' :=
  ⟨h.os, h.tape, h.output, h.size, fun k hk => h.block k (by omega) (fun hm => by have := hS k hm; omega)⟩
theorem Kx.ofBelow {w w' : World} (h : Below w.heap.size w w') (S : List Nat) : Kx S w w' := ⟨h.os, h.tape, h.output, h.size, fun k hk _ => h.block k hk⟩
theorem Kx.get {S : List Nat} {w w' : World} (h : Kx S w w') {k : Nat} {o : Obj} (hk : w.heap[k]? = some o) (hn : k ∉ S) : w'.heap[k]? = some o :=
  (h.block k (Array.getElem?_eq_some_iff.1 hk).1 hn).trans hk
theorem lt_get {w : World} {k : Nat} {o : Obj} (hk : w.heap[k]? = some o) : k < w.heap.size := (Array.getElem?_eq_some_iff.1 hk).1
theorem Kx.owns {S : List Nat} {w w' : World} (h : Kx S w w') {B : Nat} {e : TypeId} {sz : Nat} {v : Value} {n : Nat} {xs : List Value} (ho : w.ownsRow B e sz v n xs) (hn : ∀ g, v.ownBlock = some g → g ∉ S) : w'.ownsRow B e sz v n xs := by
  obtain ⟨h1, h2⟩ := ho
  refine ⟨h1, ?_⟩
  rcases h2 with h2 | ⟨g, cap, cur, rfl, hb, hg, rest⟩
  · exact .inl h2
  · exact .inr ⟨g, cap, cur, rfl, hb, h.get hg (hn g rfl), rest⟩
theorem heap_put {w : World} {g : Nat} {cur : Array Value} {t : TypeId} {fr : Nat × Nat} (h : w.heap[g]? = some (Obj.cells cur t fr)) (j : Nat) (v : Value) : (w.setCell ⟨g, j, none⟩ v).heap[g]? = some (Obj.cells (cur.setIfInBounds j v) t fr) := by
  simp only [World.setCell, Array.getElem?_modify, if_true, h, Option.map_some]
  rfl
theorem heap_new (w : World) (o : Obj) : (w.alloc o).heap[w.heap.size]? = some o := heap_alloc_new w o
theorem fr_all {w : World} {g : Nat} {cur : Array Value} {t : TypeId} (h : w.heap[g]? = some (Obj.cells cur t (0, 0))) : ∀ j, w.frozen? ⟨g, j, none⟩ = false := by
  intro j
  simp [World.frozen?, h]
theorem cell_at {w : World} {g : Nat} {cur : Array Value} {t : TypeId} {fr : Nat × Nat} (h : w.heap[g]? = some (Obj.cells cur t fr)) (j : Nat) {v : Value} (hv : cur[j]? = some v) : w.cell? ⟨g, j, none⟩ = some v := by
  rw [cell_of_row w g j cur t fr h]
  exact hv
/-- A row that is owned lies in a block of its elements' kind. -/
theorem owns_ne {w : World} {B : Nat} {e : TypeId} {sz : Nat} {v : Value} {n : Nat} {xs : List Value} (ho : w.ownsRow B e sz v n xs) {k : Nat} {cur : Array Value} {t : TypeId} {fr : Nat × Nat} (hk : w.heap[k]? = some (Obj.cells cur t fr)) (ht : t ≠ e) : ∀ g, v.ownBlock = some g → g ≠ k := by
  intro g hg he
  subst he
  rcases ho.2 with ⟨rfl, _⟩ | ⟨g', cap, cur', rfl, _, hgg, _⟩
  · simp [Value.ownBlock] at hg
  · simp [Value.ownBlock] at hg
    subst hg
    rw [hk] at hgg
    simp at hgg
    exact ht hgg.2.1
/-- New cells, as a list. -/
theorem cells_new (w : World) (l : List Value) (t : TypeId) : ∀ j u, l[j]? = some u → (w.alloc (.cells l.toArray t)).cell? ((⟨w.heap.size, 0, none⟩ : Addr).add j) = some u := by
  intro j u hj
  have e : ((⟨w.heap.size, 0, none⟩ : Addr).add j) = ⟨w.heap.size, j, none⟩ := by
    unfold Addr.add
    split <;> simp_all
  rw [e]
  exact cell_at (heap_new w _) j (by simpa using hj)
end Go.Proofs.YtpaaladlddifjaaGreatDoor
