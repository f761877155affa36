/- Bytes go in behind the bytes that a row owns: the steps, with what they keep. -/
import Derived.Test.YtellndmbllmjgaaGreatDoorWkA
import Derived.Maps.AppendAt
import Derived.Laws.AppendOwn
import Derived.Below
set_option linter.unusedVariables false
namespace Go.Proofs.YtellndmbllmjgaaGreatDoor
open Go.RowKit Go.Shelf Fs

theorem info5 : (Tryz.prog.info? 5).map (fun i => (i.zero, i.size, i.bytes)) = some (some (.int .u8 0), 1, 1) := by kernel_rfl
/-- New cells, as a list. -/
theorem cells_new (w : World) (l : List Value) (t : TypeId) : ∀ j u, l[j]? = some u → (w.alloc (.cells l.toArray t)).cell? ((⟨w.heap.size, 0, none⟩ : Addr).add j) = some u := by
  intro j u hj
  have e : ((⟨w.heap.size, 0, none⟩ : Addr).add j) = ⟨w.heap.size, j, none⟩ := by
    unfold Addr.add
    split <;> simp_all
  rw [e]
  have h := heap_alloc_new w (Obj.cells l.toArray t)
  simp only [World.cell?, h]
  simpa using hj
theorem one_ints (k : IntKind) (l : List Int) : ∀ u ∈ l.map (Value.int k), u.oneCell' = true := by
  intro u hu
  obtain ⟨x, _, rfl⟩ := List.mem_map.1 hu
  rfl
theorem max_small {n : Nat} (h : n ≤ 1000000) : n ≤ maxLen := by unfold maxLen; omega
/-- Blocks of another kind are kept. -/
def Kept5 (w w' : World) : Prop := ∀ (k : Nat) (C : Array Value) (t : TypeId) (fr : Nat × Nat), w.heap[k]? = some (Obj.cells C t fr) → t ≠ 5 → w'.heap[k]? = some (Obj.cells C t fr)
theorem Kept5.refl (w : World) : Kept5 w w := fun _ _ _ _ h _ => h
theorem Kept5.trans {a b c : World} (h : Kept5 a b) (k : Kept5 b c) : Kept5 a c := fun i C t fr h1 h2 => k i C t fr (h i C t fr h1 h2) h2
theorem Kept5.cell {w w' : World} (h : Kept5 w w') {b : Nat} {C : Array Value} {t : TypeId} {fr : Nat × Nat} (hb : w.heap[b]? = some (.cells C t fr)) (ht : t ≠ 5) (j : Nat) : w'.cell? ⟨b, j, none⟩ = C[j]? := by
  simp [World.cell?, h b C t fr hb ht]
theorem lt_of_get {w : World} {k : Nat} {o : Obj} (h : w.heap[k]? = some o) : k < w.heap.size := by
  rcases Nat.lt_or_ge k w.heap.size with h1 | h1
  · exact h1
  · rw [Array.getElem?_eq_none h1] at h
    cases h
theorem kept5_alloc (w : World) (o : Obj) : Kept5 w (w.alloc o) := fun k C t fr h _ => by
  rw [Below.heap_alloc w o k (lt_of_get h)]
  exact h
theorem kept5_grown {w w' : World} {base n : Nat} {v : Value} {xs : List Value} (h : w.grownBy w' v.ownBlock) (hown : w.ownsRow base 5 1 v n xs) : Kept5 w w' := fun k C t fr hk ht => by
  rw [h.block k (lt_of_get hk) ?_]
  · exact hk
  · intro e
    rcases hown.2 with ⟨rfl, _⟩ | ⟨g, cap, cur, rfl, _, hg, _⟩
    · cases e
    · have : k = g := by simpa [Value.ownBlock] using e
      subst this
      rw [hk] at hg
      cases hg
      exact ht rfl
section
variable {ops : Array Oper} {rest : List Oper} {o : Oper} {a : Act} {Q : Exit → Act → World → Prop}
/-- Cells that lie anywhere go in. -/
theorem app_any (hgd : o.guard = none) (s x : Operand) (ho : o.op = .call { callee := .builtin .append, args := #[s, x], argTypes := #[92, 92] })
    (base n : Nat) (v : Value) (xs l : List Value) (w0 w w1 : World) (ad : Addr) (c : Nat) (hs : a.eval s = v) (hx : a.eval x = .slice (some ad) l.length c)
    (hown : w1.ownsRow base 5 1 v n xs) (hnews : ∀ j u, l[j]? = some u → w1.cell? (ad.add j) = some u) (h1 : ∀ u ∈ l, u.oneCell' = true)
    (hn : n + l.length ≤ 1000000) (hb : base ≤ w0.heap.size) (hbw : Below base w0 w1) (hk : Kept5 w w1)
    (h : ∀ v' w', w'.ownsRow base 5 1 v' (n + l.length) (xs ++ l) → Below base w0 w' → Kept5 w w' → wpList Tryz.prog ops Q rest (a.put o.dst v') w') :
    wpList Tryz.prog ops Q (o :: rest) a w1 := by
  obtain ⟨i0, hi, hz0, hz1, hz2⟩ := info_parts info5
  have hsz := hbw.size
  refine wpList_append_own _ hgd s x 92 ho base 5 i0 (.int .u8 0) 1 1 Tryz.underlying92 hi hz0 hz1 hz2 rfl (by decide) v n xs hs hown ad l.length c l hx (by omega) hnews h1 (max_small hn) (by omega) (by omega) ?_
  intro v' w' hown' hgrow _
  exact h v' w' hown' (hbw.grown hgrow (by omega) (fun j e => (hown.lt j e).1)) (hk.trans (kept5_grown hgrow hown))
/-- A piece of a row of another kind goes in. -/
theorem app_sl (hgd : o.guard = none) (s x : Operand) (ho : o.op = .call { callee := .builtin .append, args := #[s, x], argTypes := #[92, 92] })
    (base n m : Nat) (v : Value) (xs l : List Value) (w0 w1 : World) (ad : Addr) (c : Nat) (hown : w1.ownsRow base 5 1 v n xs) (hs : a.eval s = v) (hx : a.eval x = .slice (some ad) m c) (hm : l.length = m)
    (hnews : ∀ j u, l[j]? = some u → w1.cell? (ad.add j) = some u) (h1 : ∀ u ∈ l, u.oneCell' = true)
    (hn : n + m ≤ 1000000) (hb : base ≤ w0.heap.size) (hbw : Below base w0 w1)
    (h : ∀ v' w', w'.ownsRow base 5 1 v' (n + m) (xs ++ l) → Below base w0 w' → Kept5 w1 w' → wpList Tryz.prog ops Q rest (a.put o.dst v') w') :
    wpList Tryz.prog ops Q (o :: rest) a w1 := by
  subst hm
  exact app_any hgd s x ho base n v xs l w0 w1 w1 ad c hs hx hown hnews h1 hn hb hbw (Kept5.refl _) h
/-- One byte, two, three. -/
theorem app1 (hgd : o.guard = none) (s x : Operand) (ho : o.op = .call { callee := .builtin .append, args := #[s, x], argTypes := #[92, 92] })
    (base n : Nat) (v : Value) (xs : List Value) (w0 w : World) (z : Int) (hown : w.ownsRow base 5 1 v n xs) (hs : a.eval s = v) (hx : a.eval x = .slice (some ⟨w.heap.size, 0, none⟩) 1 1)
    (hn : n + 1 ≤ 1000000) (hb : base ≤ w0.heap.size) (hbw : Below base w0 w)
    (h : ∀ v' w', w'.ownsRow base 5 1 v' (n + 1) (xs ++ [.int .u8 z]) → Below base w0 w' → Kept5 w w' → wpList Tryz.prog ops Q rest (a.put o.dst v') w') :
    wpList Tryz.prog ops Q (o :: rest) a (w.alloc (.cells #[.int .u8 z] 5)) :=
  app_any hgd s x ho base n v xs [.int .u8 z] w0 w _ ⟨w.heap.size, 0, none⟩ 1 hs hx (hown.alloc _) (cells_new w [.int .u8 z] 5) (one_ints .u8 [z]) hn hb (hbw.alloc (Nat.le_trans hb hbw.size) _) (kept5_alloc w _) h
theorem app2 (hgd : o.guard = none) (s x : Operand) (ho : o.op = .call { callee := .builtin .append, args := #[s, x], argTypes := #[92, 92] })
    (base n : Nat) (v : Value) (xs : List Value) (w0 w : World) (z1 z2 : Int) (hown : w.ownsRow base 5 1 v n xs) (hs : a.eval s = v) (hx : a.eval x = .slice (some ⟨w.heap.size, 0, none⟩) 2 2)
    (hn : n + 2 ≤ 1000000) (hb : base ≤ w0.heap.size) (hbw : Below base w0 w)
    (h : ∀ v' w', w'.ownsRow base 5 1 v' (n + 2) (xs ++ [.int .u8 z1, .int .u8 z2]) → Below base w0 w' → Kept5 w w' → wpList Tryz.prog ops Q rest (a.put o.dst v') w') :
    wpList Tryz.prog ops Q (o :: rest) a (w.alloc (.cells #[.int .u8 z1, .int .u8 z2] 5)) :=
  app_any hgd s x ho base n v xs [.int .u8 z1, .int .u8 z2] w0 w _ ⟨w.heap.size, 0, none⟩ 2 hs hx (hown.alloc _) (cells_new w [.int .u8 z1, .int .u8 z2] 5) (one_ints .u8 [z1, z2]) hn hb (hbw.alloc (Nat.le_trans hb hbw.size) _) (kept5_alloc w _) h
theorem app3 (hgd : o.guard = none) (s x : Operand) (ho : o.op = .call { callee := .builtin .append, args := #[s, x], argTypes := #[92, 92] })
    (base n : Nat) (v : Value) (xs : List Value) (w0 w : World) (z1 z2 z3 : Int) (hown : w.ownsRow base 5 1 v n xs) (hs : a.eval s = v) (hx : a.eval x = .slice (some ⟨w.heap.size, 0, none⟩) 3 3)
    (hn : n + 3 ≤ 1000000) (hb : base ≤ w0.heap.size) (hbw : Below base w0 w)
    (h : ∀ v' w', w'.ownsRow base 5 1 v' (n + 3) (xs ++ [.int .u8 z1, .int .u8 z2, .int .u8 z3]) → Below base w0 w' → Kept5 w w' → wpList Tryz.prog ops Q rest (a.put o.dst v') w') :
    wpList Tryz.prog ops Q (o :: rest) a (w.alloc (.cells #[.int .u8 z1, .int .u8 z2, .int .u8 z3] 5)) :=
  app_any hgd s x ho base n v xs [.int .u8 z1, .int .u8 z2, .int .u8 z3] w0 w _ ⟨w.heap.size, 0, none⟩ 3 hs hx (hown.alloc _) (cells_new w [.int .u8 z1, .int .u8 z2, .int .u8 z3] 5) (one_ints .u8 [z1, z2, z3]) hn hb (hbw.alloc (Nat.le_trans hb hbw.size) _) (kept5_alloc w _) h
end
end Go.Proofs.YtellndmbllmjgaaGreatDoor
