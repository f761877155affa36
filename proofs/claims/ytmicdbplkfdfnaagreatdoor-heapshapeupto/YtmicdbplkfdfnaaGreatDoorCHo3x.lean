/- Object.place of an object without places; Own. -/
import Derived.Test.YtmicdbplkfdfnaaGreatDoorCHn6x
import Derived.Laws.ResultCell
import Derived.Maps.Range
import Derived.Maps.RangeWalk
import Derived.Test.YtmicdbplkfdfnaaGreatDoorCHb1x
import Derived.WalkLawsBesides
import Derived.Laws.Externs
set_option linter.unusedVariables false
namespace Go.Proofs.YtmicdbplkfdfnaaGreatDoor
open Go.RowKit Go.Shelf Go.Maps

theorem results_row_tmp {P : Program} {fn : Func} {p u : Tmp} {ty : TypeId} (h : fn.results = #[.cell p ty, .tmp u]) (tmps : Array Value) (w : World) (g : Nat) (t : TypeId) (cs : Array Value) (fr : Nat × Nat) (d : TypeDesc)
    (hp : tmps.getD p undef = .pointer (some ⟨g, 0, none⟩)) (hg : w.heap[g]? = some (.cells cs t fr))
    (hu : P.underlying ty = some d) (hd : (match d with | .struct _ | .array _ _ => true | _ => false) = true) (hi : (P.info? ty).map (·.size) = some cs.size) (b : Value) (hb : tmps.getD u undef = b) :
    (results fn tmps).run P w = .ok (.tuple #[.agg cs, b]) w := by
  rw [results_cell_tmp h, hp, hb]
  simp [asAddr, run_loadVar_row w g t ty cs fr d hg hu hd hi]
/-- No property. -/
def noP : Value := .agg #[.bool false, .bool false, .bool false, .bool false, .int .i64 0, .float .f64 0, .string ⟨#[]⟩, .pointer none, .pointer none, .pointer none]
attribute [local go_sem] run_store_flt
theorem strewn_none (n : Int) (w : World) : (Instr.lookup 109 (.map none) (.int .u32 n) true).run Tryz.prog w = .ok (.tuple #[noP, .bool false]) w := by kernel_rfl
set_option maxRecDepth 100000 in
set_option maxHeartbeats 2000000 in
theorem place_none (b : Nat) (a : Option Addr) (c : Nat) (n : Int) (hn : 0 ≤ n) (hn2 : n < 4294967296) (w : World) (h7 : w.cell? ⟨b, 7, none⟩ = some (.slice a 0 c)) (h8 : w.cell? ⟨b, 8, none⟩ = some (.map none)) :
    Calls Tryz.prog 50 #[.pointer (some ⟨b, 0, none⟩), .int .u32 n] w fun e w' => e = .returned (.tuple #[noP, .bool false]) ∧ Kx [] w w' := by
  have hw : IntKind.i64.wrap n = n := by rw [IntKind.wrap_i64]; omega
  have hl : ¬ n < 0 := by omega
  have hlk := strewn_none n
  have h7' : (w.alloc (Obj.cells #[.bool false, .bool false, .bool false, .bool false, .int .i64 0, .float .f64 0, .string ⟨#[]⟩, .pointer none, .pointer none, .pointer none] 75)).cell? ⟨b, 7, none⟩ = some (.slice a 0 c) := by rw [World.cell?_alloc_some _ _ _ (by rw [h7]; rfl)]; exact h7
  have h8' : (w.alloc (Obj.cells #[.bool false, .bool false, .bool false, .bool false, .int .i64 0, .float .f64 0, .string ⟨#[]⟩, .pointer none, .pointer none, .pointer none] 75)).cell? ⟨b, 8, none⟩ = some (.map none) := by rw [World.cell?_alloc_some _ _ _ (by rw [h8]; rfl)]; exact h8
  unfold noP at *
  clear h7 h8
  go_enter Tryz.func50, Tryz.ntmps50
  go_wp2
  refine bodyPost_ret (results_row_tmp rfl _ _ w.heap.size 75 _ (0, 0) _ rfl (heap_old (heap_alloc_new _ _) _) Tryz.underlying75 rfl (by kernel_rfl) _ rfl) rfl ?_
  exact ⟨rfl, (Kx.alloc _ _ _).alc _⟩
end Go.Proofs.YtmicdbplkfdfnaaGreatDoor
set_option linter.unusedVariables false
namespace Go.Proofs.YtmicdbplkfdfnaaGreatDoor
open Go.RowKit Go.Shelf Go.Maps

/-- A property that is a number: writable, enumerable, configurable, the number's bits. -/
abbrev Pr : Type := Bool × Bool × Bool × Nat
def prV (p : Pr) : Value := .agg #[.bool p.1, .bool p.2.1, .bool p.2.2.1, .bool false, .int .i64 3, .float .f64 p.2.2.2, .string ⟨#[]⟩, .pointer none, .pointer none, .pointer none]
def prN (p : Pr) : Nat := p.2.2.2 * 8 + (if p.1 then 4 else 0) + (if p.2.1 then 2 else 0) + (if p.2.2.1 then 1 else 0)
theorem prN_inj {p q : Pr} (h : prN p = prN q) : p = q := by
  obtain ⟨a, b, c, x⟩ := p
  obtain ⟨a', b', c', x'⟩ := q
  unfold prN at h
  cases a <;> cases b <;> cases c <;> cases a' <;> cases b' <;> cases c' <;> simp at h ⊢ <;> omega
/-- How such a property reads. -/
def prElem (v : Value) : Option (DataW Unit × List MemPlace) :=
  match v with
  | .agg ⟨[.bool a, .bool b, .bool c, .bool false, .int .i64 3, .float .f64 x, .string ⟨⟨[]⟩⟩, .pointer none, .pointer none, .pointer none]⟩ => some (.lit (.int .u64 ((prN (a, b, c, x) : Nat) : Int)), [])
  | _ => none
theorem prElem_v (p : Pr) : prElem (prV p) = some (.lit (.int .u64 ((prN p : Nat) : Int)), []) := rfl
theorem prElem_inv {v : Value} {y : DataW Unit × List MemPlace} (h : prElem v = some y) : ∃ p, v = prV p ∧ y = (.lit (.int .u64 ((prN p : Nat) : Int)), []) := by
  unfold prElem at h
  split at h
  · rename_i a b c x
    exact ⟨(a, b, c, x), rfl, (Option.some.inj h).symm⟩
  · cases h
theorem zero75 (w : World) : (zeroValue 75).run Tryz.prog w = .ok noP w := by kernel_rfl
theorem keyed65 : Keyed Tryz.prog 65 := int_keyed Tryz.underlying65
theorem wf32 {k : Nat} (h : k < 4294967296) : (Lit.int .u32 (k : Int)).wf = true := by
  simp [Lit.wf, IntKind.min, IntKind.max, IntKind.bits, IntKind.signed]
  omega
theorem key65 {k : Nat} (h : k < 4294967296) : keyOf Tryz.prog 65 (.int .u32 (k : Int)) = some (.int .u32 (k : Int)) := keyOf_int_mk Tryz.underlying65 (wf32 h)
/-- Block b is a map of at most n entries, which reads as f. -/
def SMap (w : World) (b n : Nat) (f : Nat → Option Pr) : Prop :=
  ∃ D : DataW Unit, w.ownsMap Tryz.prog 65 prElem b n D ∧ IsMap D ∧
    ∀ k : Nat, k < 4294967296 → (f k = none → ∀ z, D.atKey (.int .u32 (k : Int)) z = z) ∧ (∀ p, f k = some p → ∀ z, D.atKey (.int .u32 (k : Int)) z = .lit (.int .u64 ((prN p : Nat) : Int)))
theorem smap_made (w : World) : SMap (w.alloc (.map #[] 0)) w.heap.size 0 (fun _ => none) :=
  ⟨.map [], World.ownsMap_made w _ _ _, isMap_empty, fun s _ => ⟨fun _ z => rfl, fun i h => by cases h⟩⟩
def prO : Option Pr → Value
  | none => noP
  | some p => prV p
theorem smap_look {w : World} {b n : Nat} {f : Nat → Option Pr} (h : SMap w b n f) (k : Nat) (hk : k < 4294967296) :
    (Instr.lookup 109 (.map (some b)) (.int .u32 (k : Int)) true).run Tryz.prog w = .ok (.tuple #[prO (f k), .bool (f k).isSome]) w := by
  obtain ⟨D, ⟨es, clock, hb, F, hn, rfl⟩, hD, hf⟩ := h
  have hkey := key65 hk
  rcases fit_look true keyed65 Tryz.underlying109 (zero75 w) hb F hkey with ⟨hr, _, hz⟩ | ⟨e0, y, _, _, hr, hy, hz, _⟩
  · cases h : f k with
    | none => rw [hr]; rfl
    | some i =>
      exfalso
      have h1 := (hf k hk).2 i h .nil
      rw [hz .nil] at h1
      cases h1
  · obtain ⟨c, hc, hy1⟩ := prElem_inv hy
    cases h : f k with
    | none =>
      exfalso
      have h1 := (hf k hk).1 h .nil
      rw [hz .nil, hy1] at h1
      cases h1
    | some i =>
      have h1 := (hf k hk).2 i h .nil
      rw [hz .nil, hy1] at h1
      have e : c = i := prN_inj (by
        have h2 : ((prN c : Nat) : Int) = ((prN i : Nat) : Int) := by simpa using h1
        omega)
      rw [hr, hc, e]
      rfl
theorem smap_put {w : World} {b n : Nat} {f : Nat → Option Pr} (h : SMap w b n f) (k : Nat) (hk : k < 4294967296) (p : Pr) (hn : n < maxLen) :
    ∃ w', (Instr.mapUpdate 109 (.map (some b)) (.int .u32 (k : Int)) (prV p)).run Tryz.prog w = .ok () w' ∧ SMap w' b (n + 1) (fun t => if t = k then some p else f t) ∧ w.grownBy w' (some b) := by
  obtain ⟨D, hO, hD, hf⟩ := h
  have hkey := key65 hk
  obtain ⟨w', hr, hO', hg⟩ := hO.update keyed65 Tryz.underlying109 hn hkey (prElem_v p)
  refine ⟨w', hr, ⟨_, hO', hD.put _ _, ?_⟩, hg⟩
  intro t ht
  dsimp only
  by_cases htk : t = k
  · subst htk
    rw [if_pos rfl]
    refine ⟨(fun h => by cases h), fun j hj => ?_⟩
    cases hj
    exact fun z => atKey_put_same hD (keyed65.key hkey) _ z
  · rw [if_neg htk]
    have hne : (Lit.int .u32 (t : Int)) ≠ Lit.int .u32 (k : Int) := by
      intro e
      have : (t : Int) = (k : Int) := by simpa using e
      omega
    refine ⟨fun h z => ?_, fun j hj z => ?_⟩
    · rw [atKey_put_other hne]; exact (hf t ht).1 h z
    · rw [atKey_put_other hne]; exact (hf t ht).2 j hj z
theorem SMap.kept {w w' : World} {b n : Nat} {f : Nat → Option Pr} {row : Option Nat} (h : SMap w b n f) (hg : w.grownBy w' row) (hne : some b ≠ row) : SMap w' b n f := by
  obtain ⟨D, hO, hD, hf⟩ := h
  exact ⟨D, hO.kept hg hne, hD, hf⟩
theorem SMap.lt {w : World} {b n : Nat} {f : Nat → Option Pr} (h : SMap w b n f) : b < w.heap.size := by
  obtain ⟨D, hO, _⟩ := h
  exact hO.lt
theorem Kx.smap {S : List Nat} {w w' : World} (h : Kx S w w') {b n : Nat} {f : Nat → Option Pr} (hm : SMap w b n f) (hb : b ∉ S) : SMap w' b n f := by
  obtain ⟨D, ⟨es, clock, hh, rest⟩, hD⟩ := hm
  exact ⟨D, ⟨es, clock, h.get hh hb, rest⟩, hD⟩
theorem smap_cells {w : World} {M n : Nat} {f : Nat → Option Pr} (hm : SMap w M n f) {b : Nat} {C : Array Value} {t : TypeId} {g : Nat × Nat} (h : w.heap[b]? = some (.cells C t g)) : b ≠ M := by
  rintro rfl
  obtain ⟨D, ⟨es, clock, hb, _⟩, _⟩ := hm
  rw [h] at hb
  cases hb
/-- Which numbers a map has. -/
theorem smap_has {w : World} {b n : Nat} {f : Nat → Option Pr} {D : DataW Unit} (hO : w.ownsMap Tryz.prog 65 prElem b n D) (hf : ∀ k : Nat, k < 4294967296 → (f k = none → ∀ z, D.atKey (.int .u32 (k : Int)) z = z) ∧ (∀ p, f k = some p → ∀ z, D.atKey (.int .u32 (k : Int)) z = .lit (.int .u64 ((prN p : Nat) : Int)))) (k : Nat) (hk : k < 4294967296) :
    has D (.int .u32 (k : Int)) = (f k).isSome := by
  cases h : f k with
  | some p => exact has_true_of_atKey ((hf k hk).2 p h)
  | none => exact has_false_of_atKey ((hf k hk).1 h)
end Go.Proofs.YtmicdbplkfdfnaaGreatDoor
set_option linter.unusedVariables false
namespace Go.Proofs.YtmicdbplkfdfnaaGreatDoor
open Go.RowKit

theorem cons_of_le {α : Type} {n : Nat} {l : List α} (h : n + 1 ≤ l.length) : ∃ x t, l = x :: t ∧ n ≤ t.length := by
  cases l with
  | nil => simp at h
  | cons x t => exact ⟨x, t, rfl, by simpa using h⟩
theorem row10 {w : World} {g : Nat} {c0 c1 c2 c3 c4 c5 c6 c7 c8 c9 : Value} {t : TypeId} (h : w.heap[g]? = some (.cells #[c0, c1, c2, c3, c4, c5, c6, c7, c8, c9] t (0, 0))) :
    (w.cell? ⟨g, 0, none⟩ = some c0 ∧ w.cell? ⟨g, 1, none⟩ = some c1 ∧ w.cell? ⟨g, 2, none⟩ = some c2 ∧ w.cell? ⟨g, 3, none⟩ = some c3 ∧ w.cell? ⟨g, 4, none⟩ = some c4 ∧ w.cell? ⟨g, 5, none⟩ = some c5 ∧ w.cell? ⟨g, 6, none⟩ = some c6 ∧ w.cell? ⟨g, 7, none⟩ = some c7 ∧ w.cell? ⟨g, 8, none⟩ = some c8 ∧ w.cell? ⟨g, 9, none⟩ = some c9) ∧ (w.frozen? ⟨g, 0, none⟩ = false ∧ w.frozen? ⟨g, 1, none⟩ = false ∧ w.frozen? ⟨g, 2, none⟩ = false ∧ w.frozen? ⟨g, 3, none⟩ = false ∧ w.frozen? ⟨g, 4, none⟩ = false ∧ w.frozen? ⟨g, 5, none⟩ = false ∧ w.frozen? ⟨g, 6, none⟩ = false ∧ w.frozen? ⟨g, 7, none⟩ = false ∧ w.frozen? ⟨g, 8, none⟩ = false ∧ w.frozen? ⟨g, 9, none⟩ = false) := by
  refine ⟨⟨cell_at h 0 rfl, cell_at h 1 rfl, cell_at h 2 rfl, cell_at h 3 rfl, cell_at h 4 rfl, cell_at h 5 rfl, cell_at h 6 rfl, cell_at h 7 rfl, cell_at h 8 rfl, cell_at h 9 rfl⟩, ⟨fr_all h 0, fr_all h 1, fr_all h 2, fr_all h 3, fr_all h 4, fr_all h 5, fr_all h 6, fr_all h 7, fr_all h 8, fr_all h 9⟩⟩
theorem set10_heap {w : World} {g : Nat} {c0 c1 c2 c3 c4 c5 c6 c7 c8 c9 : Value} {t : TypeId} (h : w.heap[g]? = some (.cells #[c0, c1, c2, c3, c4, c5, c6, c7, c8, c9] t (0, 0))) (v0 v1 v2 v3 v4 v5 v6 v7 v8 v9 : Value) :
    ((((((((((w.setCell ⟨g, 0, none⟩ v0).setCell ⟨g, 1, none⟩ v1).setCell ⟨g, 2, none⟩ v2).setCell ⟨g, 3, none⟩ v3).setCell ⟨g, 4, none⟩ v4).setCell ⟨g, 5, none⟩ v5).setCell ⟨g, 6, none⟩ v6).setCell ⟨g, 7, none⟩ v7).setCell ⟨g, 8, none⟩ v8).setCell ⟨g, 9, none⟩ v9).heap[g]? = some (.cells #[v0, v1, v2, v3, v4, v5, v6, v7, v8, v9] t (0, 0)) := by
  have r0 := heap_set_at (C' := #[v0, c1, c2, c3, c4, c5, c6, c7, c8, c9]) h 0 v0 rfl
  have r1 := heap_set_at (C' := #[v0, v1, c2, c3, c4, c5, c6, c7, c8, c9]) r0 1 v1 rfl
  have r2 := heap_set_at (C' := #[v0, v1, v2, c3, c4, c5, c6, c7, c8, c9]) r1 2 v2 rfl
  have r3 := heap_set_at (C' := #[v0, v1, v2, v3, c4, c5, c6, c7, c8, c9]) r2 3 v3 rfl
  have r4 := heap_set_at (C' := #[v0, v1, v2, v3, v4, c5, c6, c7, c8, c9]) r3 4 v4 rfl
  have r5 := heap_set_at (C' := #[v0, v1, v2, v3, v4, v5, c6, c7, c8, c9]) r4 5 v5 rfl
  have r6 := heap_set_at (C' := #[v0, v1, v2, v3, v4, v5, v6, c7, c8, c9]) r5 6 v6 rfl
  have r7 := heap_set_at (C' := #[v0, v1, v2, v3, v4, v5, v6, v7, c8, c9]) r6 7 v7 rfl
  have r8 := heap_set_at (C' := #[v0, v1, v2, v3, v4, v5, v6, v7, v8, c9]) r7 8 v8 rfl
  have r9 := heap_set_at (C' := #[v0, v1, v2, v3, v4, v5, v6, v7, v8, v9]) r8 9 v9 rfl
  exact r9
theorem set10_kx (w : World) (g : Nat) (v0 v1 v2 v3 v4 v5 v6 v7 v8 v9 : Value) : Kx [g] w ((((((((((w.setCell ⟨g, 0, none⟩ v0).setCell ⟨g, 1, none⟩ v1).setCell ⟨g, 2, none⟩ v2).setCell ⟨g, 3, none⟩ v3).setCell ⟨g, 4, none⟩ v4).setCell ⟨g, 5, none⟩ v5).setCell ⟨g, 6, none⟩ v6).setCell ⟨g, 7, none⟩ v7).setCell ⟨g, 8, none⟩ v8).setCell ⟨g, 9, none⟩ v9) :=
  (((((((((((Kx.refl [g] w).set (by simp) _).set (by simp) _).set (by simp) _).set (by simp) _).set (by simp) _).set (by simp) _).set (by simp) _).set (by simp) _).set (by simp) _).set (by simp) _)
theorem set10_kx_at (w : World) (g k : Nat) (v0 v1 v2 v3 v4 v5 v6 v7 v8 v9 : Value) : Kx [g] w ((((((((((w.setCell ⟨g, k, none⟩ v0).setCell ⟨g, k + 1, none⟩ v1).setCell ⟨g, k + 2, none⟩ v2).setCell ⟨g, k + 3, none⟩ v3).setCell ⟨g, k + 4, none⟩ v4).setCell ⟨g, k + 5, none⟩ v5).setCell ⟨g, k + 6, none⟩ v6).setCell ⟨g, k + 7, none⟩ v7).setCell ⟨g, k + 8, none⟩ v8).setCell ⟨g, k + 9, none⟩ v9) :=
  (((((((((((Kx.refl [g] w).set (by simp) _).set (by simp) _).set (by simp) _).set (by simp) _).set (by simp) _).set (by simp) _).set (by simp) _).set (by simp) _).set (by simp) _).set (by simp) _)
theorem set10_at {w : World} {g : Nat} {cur : Array Value} {t : TypeId} (h : w.heap[g]? = some (.cells cur t (0, 0))) (k : Nat) (hk : k + 10 ≤ cur.size) (v0 v1 v2 v3 v4 v5 v6 v7 v8 v9 : Value) : ∃ cur', ((((((((((w.setCell ⟨g, k, none⟩ v0).setCell ⟨g, k + 1, none⟩ v1).setCell ⟨g, k + 2, none⟩ v2).setCell ⟨g, k + 3, none⟩ v3).setCell ⟨g, k + 4, none⟩ v4).setCell ⟨g, k + 5, none⟩ v5).setCell ⟨g, k + 6, none⟩ v6).setCell ⟨g, k + 7, none⟩ v7).setCell ⟨g, k + 8, none⟩ v8).setCell ⟨g, k + 9, none⟩ v9).heap[g]? = some (.cells cur' t (0, 0)) ∧ cur'.size = cur.size ∧ cur'.toList = cur.toList.take k ++ [v0, v1, v2, v3, v4, v5, v6, v7, v8, v9] ++ cur.toList.drop (k + 10) := by
  have r0 := heap_setCell h (k) v0
  have r1 := heap_setCell r0 (k + 1) v1
  have r2 := heap_setCell r1 (k + 2) v2
  have r3 := heap_setCell r2 (k + 3) v3
  have r4 := heap_setCell r3 (k + 4) v4
  have r5 := heap_setCell r4 (k + 5) v5
  have r6 := heap_setCell r5 (k + 6) v6
  have r7 := heap_setCell r6 (k + 7) v7
  have r8 := heap_setCell r7 (k + 8) v8
  have r9 := heap_setCell r8 (k + 9) v9
  refine ⟨_, r9, by simp, ?_⟩
  obtain ⟨a, rest, rfl, ha⟩ : ∃ a rest : List Value, cur = (a ++ rest).toArray ∧ a.length = k := ⟨cur.toList.take k, cur.toList.drop k, by simp, by simp; omega⟩
  simp at hk
  obtain ⟨x0, rest0, rfl, hk0⟩ := cons_of_le (n := 9) (l := rest) (by simp at hk ⊢; omega)
  obtain ⟨x1, rest1, rfl, hk1⟩ := cons_of_le hk0
  obtain ⟨x2, rest2, rfl, hk2⟩ := cons_of_le hk1
  obtain ⟨x3, rest3, rfl, hk3⟩ := cons_of_le hk2
  obtain ⟨x4, rest4, rfl, hk4⟩ := cons_of_le hk3
  obtain ⟨x5, rest5, rfl, hk5⟩ := cons_of_le hk4
  obtain ⟨x6, rest6, rfl, hk6⟩ := cons_of_le hk5
  obtain ⟨x7, rest7, rfl, hk7⟩ := cons_of_le hk6
  obtain ⟨x8, rest8, rfl, hk8⟩ := cons_of_le hk7
  obtain ⟨x9, rest9, rfl, hk9⟩ := cons_of_le hk8
  subst ha
  simp
end Go.Proofs.YtmicdbplkfdfnaaGreatDoor
set_option linter.unusedVariables false
namespace Go.Proofs.YtmicdbplkfdfnaaGreatDoor
open Go.RowKit Go.Shelf

theorem Kx.cell {T : List Nat} {w w' : World} (h : Kx T w w') {b i : Nat} {v : Value} (hc : w.cell? ⟨b, i, none⟩ = some v) (hb : b ∉ T) : w'.cell? ⟨b, i, none⟩ = some v := by
  have hlt : b < w.heap.size := by
    rcases Nat.lt_or_ge b w.heap.size with h1 | h1
    · exact h1
    · simp [World.cell?, Array.getElem?_eq_none h1] at hc
  have e := h.block b hlt hb
  simp only [World.cell?] at hc ⊢
  rw [e]
  exact hc
theorem Objs.kept {w w' : World} {H : Nat} {l : List Nat} (h : Objs w H l) (hk : Kx [] w w') : Objs w' H l := by
  obtain ⟨hl, ⟨h1, h2⟩ | ⟨h1, g, cap, h2, h3⟩⟩ := h
  · exact ⟨hl, .inl ⟨h1, hk.cell h2 (by simp)⟩⟩
  · exact ⟨hl, .inr ⟨h1, g, cap, hk.cell h2 (by simp), fun i b hb => ⟨hk.cell (h3 i b hb).1 (by simp), hk.cell (h3 i b hb).2 (by simp)⟩⟩⟩
set_option maxRecDepth 100000 in
set_option maxHeartbeats 2000000 in
theorem told_nil (w : World) : Calls Tryz.prog 39 #[.nilIface] w fun e w' => e = .returned (.tuple #[.int .i64 0, .int .i64 (-1)]) ∧ Kx [] w w' := by
  go_enter Tryz.func39, Tryz.ntmps39
  go_wp2
  go_ret2
  exact ⟨rfl, by first | exact (Kx.alloc _ _ _).alc _ | exact Kx.refl _ _⟩
set_option maxRecDepth 100000 in
set_option maxHeartbeats 2000000 in
theorem number_nil (w : World) : Calls Tryz.prog 19 #[.nilIface] w fun e w' => e = .returned (.int .i64 0) ∧ Kx [] w w' := by
  have c := told_nil w
  go_enter Tryz.func19, Tryz.ntmps19
  go_wp2_with (first | (go_at_call 39; refine c.mono ?_; rintro e w1 ⟨rfl, hk⟩))
  go_ret
  exact ⟨rfl, hk⟩
set_option maxRecDepth 100000 in
set_option maxHeartbeats 2000000 in
theorem numberOf_nil (w : World) : Calls Tryz.prog 54 #[.pointer none] w fun e w' => e = .returned (.int .i64 0) ∧ w' = w := by
  go_enter Tryz.func54, Tryz.ntmps54
  go_wp2
  go_ret
  exact ⟨rfl, rfl⟩
set_option maxRecDepth 100000 in
set_option maxHeartbeats 2000000 in
theorem alone_any (N n c : Nat) (a : Option Addr) (m k : Value) (w : World) (hN : w.heap[N]? = some (.cells #[.slice a n c, m, k] 121 (0, 0))) :
    Calls Tryz.prog 117 #[.pointer (some ⟨N, 0, none⟩)] w fun e w' => e = .returned (.pointer (some ⟨w.heap.size, 0, none⟩)) ∧ w' = w.alloc (.cells #[.pointer (some ⟨N, 0, none⟩), .int .i64 (n : Int), .pointer none, .map none, .bool true, .bool false] 118) := by
  have c0 := cell_at hN 0 rfl
  clear hN
  go_enter Tryz.func117, Tryz.ntmps117
  go_wp2
  go_ret
  exact ⟨rfl, rfl⟩
set_option maxRecDepth 100000 in
set_option maxHeartbeats 2000000 in
/-- pick, of two: some number. -/
theorem pick_any (c : Int) (w : World) (h1 : -9223372036854775808 ≤ c) (h2 : c ≤ 9223372036854775807) : Calls Tryz.prog 11 #[.int .i64 c, .int .i64 2] w fun e w' => (∃ z : Int, e = .returned (.int .i64 z)) ∧ w' = w := by
  by_cases h : c < 0
  · have v1 : IntKind.i64.wrap (c + 1) = c + 1 := by rw [IntKind.wrap_i64]; omega
    have v2 : IntKind.i64.wrap (-(c + 1)) = -(c + 1) := by rw [IntKind.wrap_i64]; omega
    go_enter Tryz.func11, Tryz.ntmps11
    go_wp2
    go_ret
    exact ⟨⟨_, rfl⟩, rfl⟩
  · go_enter Tryz.func11, Tryz.ntmps11
    go_wp2
    go_ret
    exact ⟨⟨_, rfl⟩, rfl⟩
end Go.Proofs.YtmicdbplkfdfnaaGreatDoor
set_option linter.unusedVariables false
namespace Go.Proofs.YtmicdbplkfdfnaaGreatDoor
open Go.RowKit Go.Shelf Go.Maps
attribute [local go_sem] run_store_flt

theorem boxed_no (w : World) : (Instr.typeAssert .nilIface 106 152 true).run Tryz.prog w = .ok (.tuple #[.pointer none, .bool false]) w := by kernel_rfl
set_option maxRecDepth 100000 in
theorem units_zero (b : Nat) (w : World) (h3 : w.cell? ⟨b, 3, none⟩ = some .nilIface) : Calls Tryz.prog 45 #[.pointer (some ⟨b, 0, none⟩)] w fun e w' => e = .returned (.int .i64 0) ∧ w' = w := by
  have ha := boxed_no
  go_enter Tryz.func45, Tryz.ntmps45
  go_wp2
  go_ret
  exact ⟨rfl, rfl⟩
set_option maxRecDepth 100000 in
set_option maxHeartbeats 2000000 in
theorem unit_none (b : Nat) (n : Int) (w : World) (h3 : w.cell? ⟨b, 3, none⟩ = some .nilIface) :
    Calls Tryz.prog 49 #[.pointer (some ⟨b, 0, none⟩), .int .u32 n] w fun e w' => e = .returned (.tuple #[noP, .bool false]) ∧ Kx [] w w' := by
  have h3' : (w.alloc (Obj.cells #[.bool false, .bool false, .bool false, .bool false, .int .i64 0, .float .f64 0, .string ⟨#[]⟩, .pointer none, .pointer none, .pointer none] 75)).cell? ⟨b, 3, none⟩ = some .nilIface := by rw [World.cell?_alloc_some _ _ _ (by rw [h3]; rfl)]; exact h3
  unfold noP
  clear h3
  have ha := boxed_no
  go_enter Tryz.func49, Tryz.ntmps49
  go_wp2
  refine bodyPost_ret (results_row_tmp rfl _ _ w.heap.size 75 _ (0, 0) _ rfl (heap_alloc_new _ _) Tryz.underlying75 rfl (by kernel_rfl) _ rfl) rfl ?_
  exact ⟨rfl, Kx.alloc _ _ _⟩
/-- What a map, or none, has at a number. -/
def LooksAt (w : World) (st : Value) (n : Int) (o : Option Pr) : Prop := ∀ W, Kx [] w W → (Instr.lookup 109 st (.int .u32 n) true).run Tryz.prog W = .ok (.tuple #[prO o, .bool o.isSome]) W
theorem LooksAt.mono {w w' : World} {st : Value} {n : Int} {o : Option Pr} (h : LooksAt w st n o) (hk : Kx [] w w') : LooksAt w' st n o := fun W hW => h W (hk.same hW)
theorem looks_none (w : World) (n : Int) : LooksAt w (.map none) n none := fun W _ => strewn_none n W
theorem looks_some {w : World} {b m : Nat} {f : Nat → Option Pr} (h : SMap w b m f) (k : Nat) (hk : k < 4294967296) : LooksAt w (.map (some b)) (k : Int) (f k) := fun W hW => smap_look (hW.smap h (by simp)) k hk
set_option maxRecDepth 100000 in
set_option maxHeartbeats 2000000 in
theorem place_at (b : Nat) (a : Option Addr) (c : Nat) (n : Int) (hn : 0 ≤ n) (hn2 : n < 4294967296) (st : Value) (o : Option Pr) (w : World) (h7 : w.cell? ⟨b, 7, none⟩ = some (.slice a 0 c)) (h8 : w.cell? ⟨b, 8, none⟩ = some st) (hL : LooksAt w st n o) :
    Calls Tryz.prog 50 #[.pointer (some ⟨b, 0, none⟩), .int .u32 n] w fun e w' => e = .returned (.tuple #[prO o, .bool o.isSome]) ∧ Kx [] w w' := by
  have hw : IntKind.i64.wrap n = n := by rw [IntKind.wrap_i64]; omega
  have hl : ¬ n < 0 := by omega
  have hlk := hL _ (Kx.alloc [] w (Obj.cells #[.bool false, .bool false, .bool false, .bool false, .int .i64 0, .float .f64 0, .string ⟨#[]⟩, .pointer none, .pointer none, .pointer none] 75))
  have h7' : (w.alloc (Obj.cells #[.bool false, .bool false, .bool false, .bool false, .int .i64 0, .float .f64 0, .string ⟨#[]⟩, .pointer none, .pointer none, .pointer none] 75)).cell? ⟨b, 7, none⟩ = some (.slice a 0 c) := by rw [World.cell?_alloc_some _ _ _ (by rw [h7]; rfl)]; exact h7
  have h8' : (w.alloc (Obj.cells #[.bool false, .bool false, .bool false, .bool false, .int .i64 0, .float .f64 0, .string ⟨#[]⟩, .pointer none, .pointer none, .pointer none] 75)).cell? ⟨b, 8, none⟩ = some st := by rw [World.cell?_alloc_some _ _ _ (by rw [h8]; rfl)]; exact h8
  cases o with
  | none =>
    have hlk2 : (Instr.lookup 109 st (.int .u32 n) true).run Tryz.prog (w.alloc (Obj.cells #[.bool false, .bool false, .bool false, .bool false, .int .i64 0, .float .f64 0, .string ⟨#[]⟩, .pointer none, .pointer none, .pointer none] 75)) = .ok (.tuple #[.agg #[.bool false, .bool false, .bool false, .bool false, .int .i64 0, .float .f64 0, .string ⟨#[]⟩, .pointer none, .pointer none, .pointer none], .bool false]) (w.alloc (Obj.cells #[.bool false, .bool false, .bool false, .bool false, .int .i64 0, .float .f64 0, .string ⟨#[]⟩, .pointer none, .pointer none, .pointer none] 75)) := hlk
    show Calls Tryz.prog 50 _ w fun e w' => e = .returned (.tuple #[.agg #[.bool false, .bool false, .bool false, .bool false, .int .i64 0, .float .f64 0, .string ⟨#[]⟩, .pointer none, .pointer none, .pointer none], .bool false]) ∧ Kx [] w w'
    clear h7 h8 hlk hL
    go_enter Tryz.func50, Tryz.ntmps50
    go_wp2
    refine bodyPost_ret (results_row_tmp rfl _ _ w.heap.size 75 _ (0, 0) _ rfl (heap_old (heap_alloc_new _ _) _) Tryz.underlying75 rfl (by kernel_rfl) _ rfl) rfl ?_
    exact ⟨rfl, (Kx.alloc _ _ _).alc _⟩
  | some p =>
    obtain ⟨p0, p1, p2, x⟩ := p
    have hlk2 : (Instr.lookup 109 st (.int .u32 n) true).run Tryz.prog (w.alloc (Obj.cells #[.bool false, .bool false, .bool false, .bool false, .int .i64 0, .float .f64 0, .string ⟨#[]⟩, .pointer none, .pointer none, .pointer none] 75)) = .ok (.tuple #[.agg #[.bool p0, .bool p1, .bool p2, .bool false, .int .i64 3, .float .f64 x, .string ⟨#[]⟩, .pointer none, .pointer none, .pointer none], .bool true]) (w.alloc (Obj.cells #[.bool false, .bool false, .bool false, .bool false, .int .i64 0, .float .f64 0, .string ⟨#[]⟩, .pointer none, .pointer none, .pointer none] 75)) := hlk
    show Calls Tryz.prog 50 _ w fun e w' => e = .returned (.tuple #[.agg #[.bool p0, .bool p1, .bool p2, .bool false, .int .i64 3, .float .f64 x, .string ⟨#[]⟩, .pointer none, .pointer none, .pointer none], .bool true]) ∧ Kx [] w w'
    clear h7 h8 hlk hL
    go_enter Tryz.func50, Tryz.ntmps50
    go_wp2
    refine bodyPost_ret (results_row_tmp rfl _ _ w.heap.size 75 _ (0, 0) _ rfl (heap_old (heap_alloc_new _ _) _) Tryz.underlying75 rfl (by kernel_rfl) _ rfl) rfl ?_
    exact ⟨rfl, (Kx.alloc _ _ _).alc _⟩
/-- The ten cells of a property, or of none. -/
theorem prO_cells (o : Option Pr) : ∃ c0 c1 c2 c3 c4 c5 c6 c7 c8 c9, prO o = .agg #[.bool c0, .bool c1, .bool c2, .bool c3, .int .i64 c4, .float .f64 c5, .string c6, .pointer c7, .pointer c8, .pointer c9] := by
  cases o with
  | none => exact ⟨_, _, _, _, _, _, _, _, _, _, rfl⟩
  | some p => exact ⟨_, _, _, _, _, _, _, _, _, _, rfl⟩
set_option maxRecDepth 100000 in
set_option maxHeartbeats 2000000 in
theorem own_at (b : Nat) (a : Option Addr) (c : Nat) (nm : ByteArray) (n : Int) (hn : 0 ≤ n) (hn2 : n < 4294967296) (st : Value) (o : Option Pr) (w : World) (h3 : w.cell? ⟨b, 3, none⟩ = some .nilIface) (h7 : w.cell? ⟨b, 7, none⟩ = some (.slice a 0 c)) (h8 : w.cell? ⟨b, 8, none⟩ = some st) (hL : LooksAt w st n o) :
    Calls Tryz.prog 25 #[.pointer (some ⟨b, 0, none⟩), .agg #[.string nm, .int .u32 n, .bool true]] w fun e w' => e = .returned (.tuple #[prO o, .bool o.isSome]) ∧ Kx [] w w' := by
  obtain ⟨W0, hW0⟩ : ∃ W0, W0 = (w.alloc (Obj.cells #[.string nm, .int .u32 n, .bool true] 67)).alloc (Obj.cells #[.bool false, .bool false, .bool false, .bool false, .int .i64 0, .float .f64 0, .string ⟨#[]⟩, .pointer none, .pointer none, .pointer none] 75) := ⟨_, rfl⟩
  have hk : Kx [] w W0 := by rw [hW0]; exact (Kx.alloc _ _ _).alc _
  have hR : W0.heap[w.heap.size + 1]? = some (Obj.cells #[.bool false, .bool false, .bool false, .bool false, .int .i64 0, .float .f64 0, .string ⟨#[]⟩, .pointer none, .pointer none, .pointer none] 75 (0, 0)) := by rw [hW0]; exact heap_alloc2_new _ _ _
  have hK0 : W0.heap[w.heap.size]? = some (Obj.cells #[.string nm, .int .u32 n, .bool true] 67 (0, 0)) := by rw [hW0]; exact heap_old (heap_alloc_new _ _) _
  have cu := unit_none b n W0 (hk.cell h3 (by simp))
  have cp := fun W (hW : Kx [] W0 W) => place_at b a c n hn hn2 st o W (hW.cell (hk.cell h7 (by simp)) (by simp)) (hW.cell (hk.cell h8 (by simp)) (by simp)) (hL.mono (hk.same hW))
  obtain ⟨c0, c1, c2, c3, c4, c5, c6, c7, c8, c9, hcs⟩ := prO_cells o
  rw [hcs] at cp ⊢
  have HK := (show Hid (Kx [] w W0) from hk)
  have HR := (show Hid (W0.heap[w.heap.size + 1]? = some (Obj.cells #[.bool false, .bool false, .bool false, .bool false, .int .i64 0, .float .f64 0, .string ⟨#[]⟩, .pointer none, .pointer none, .pointer none] 75 (0, 0))) from hR)
  have HK0 := (show Hid (W0.heap[w.heap.size]? = some (Obj.cells #[.string nm, .int .u32 n, .bool true] 67 (0, 0))) from hK0)
  have HCP := (show Hid _ from cp)
  have HCU := (show Hid (Unit → Calls Tryz.prog 49 _ _ _) from fun _ => cu)
  generalize o.isSome = B at *
  unfold noP at HCU
  clear cp cu hk hR hK0 h3 h7 h8 hL hcs
  go_enter Tryz.func25, Tryz.ntmps25
  go_wp2_with (first | (go_at_call 49; fail))
  rw [← hW0]
  clear hW0
  refine (HCU.out ()).mono ?_
  rintro e w1 ⟨rfl, hk1⟩
  have HK1 := (show Hid (Kx [] W0 w1) from hk1)
  have k1 := cell_at (hk1.get HK0.out (by simp)) 1 rfl
  have k1' : (w1.alloc (Obj.cells #[.bool false, .bool false, .bool false, .bool false, .int .i64 0, .float .f64 0, .string ⟨#[]⟩, .pointer none, .pointer none, .pointer none] 75)).cell? ⟨w.heap.size, 1, none⟩ = some (.int .u32 n) := by rw [World.cell?_alloc_some _ _ _ (by rw [k1]; rfl)]; exact k1
  clear hk1 k1 HCU
  go_wp2_with (first | (go_at_call 50; fail))
  refine (HCP.out _ (HK1.out.alc _)).mono ?_
  rintro e w2 ⟨rfl, hk2⟩
  have hk02 : Kx [] W0 w2 := (HK1.out.alc _).same hk2
  have hR2 := hk02.get HR.out (by simp)
  obtain ⟨⟨d0, d1, d2, d3, d4, d5, d6, d7, d8, d9⟩, ⟨f0, f1, f2, f3, f4, f5, f6, f7, f8, f9⟩⟩ := row10 hR2
  have HR2 := (show Hid (w2.heap[w.heap.size + 1]? = some (Obj.cells #[.bool false, .bool false, .bool false, .bool false, .int .i64 0, .float .f64 0, .string ⟨#[]⟩, .pointer none, .pointer none, .pointer none] 75 (0, 0))) from hR2)
  have HK2 := (show Hid (Kx [] w w2) from HK.out.same hk02)
  clear hR2 hk02 hk2 HCP HK1 HK HK0 HR k1'
  go_wp2
  refine bodyPost_ret (results_row_tmp rfl _ _ (w.heap.size + 1) 75 _ (0, 0) _ rfl (set10_heap HR2.out _ _ _ _ _ _ _ _ _ _) Tryz.underlying75 rfl (by kernel_rfl) _ rfl) rfl ?_
  exact ⟨rfl, HK2.out.trans (set10_kx _ _ _ _ _ _ _ _ _ _ _ _) (fun i hi => .inr (by simp at hi; omega))⟩
end Go.Proofs.YtmicdbplkfdfnaaGreatDoor
set_option linter.unusedVariables false
namespace Go.Proofs.YtmicdbplkfdfnaaGreatDoor
open Go.RowKit Go.Shelf Go.Maps

theorem bits57 (b : Nat) (w : World) : (callFunc 57 #[.float .f64 b]).run Tryz.prog w = .ok (.value (.int .u64 b)) w := by
  rw [run_callFunc_extern (P := Tryz.prog) (f := 57) (e := Extern.MathFloatBits.float64bits) Tryz.func57 (by kernel_rfl) (by kernel_rfl) (by kernel_rfl) (by kernel_rfl)]
  rfl
theorem isNaN_flt (x : Nat) (w : World) : Calls Tryz.prog 126 #[.float .f64 x] w fun e w' => e = .returned (.bool (FloatKind.f64.format.order x x != some .eq)) ∧ w' = w := by
  go_enter Tryz.func126, Tryz.ntmps126
  go_wp2
  go_ret
  exact ⟨rfl, rfl⟩
set_option maxRecDepth 100000 in
set_option maxHeartbeats 2000000 in
theorem same_num (k : Int) (x y : Nat) (s : ByteArray) (r : Option Addr) (hy : (FloatKind.f64.format.order y y == some .eq) = true) (w : World) :
    Calls Tryz.prog 95 #[.agg #[.int .i64 k, .float .f64 x, .string s, .pointer r], .agg #[.int .i64 3, .float .f64 y, .string ⟨#[]⟩, .pointer none]] w fun e w' => e = .returned (.bool (decide (k = 3 ∧ x = y))) ∧ Kx [] w w' := by
  have hb := bits57
  have cn := isNaN_flt
  by_cases hk : k = 3
  · subst hk
    by_cases hx : FloatKind.f64.format.order x x = some .eq
    · have hxx : (FloatKind.f64.format.order x x != some .eq) = false := by rw [hx]; rfl
      have c1 := fun W => cn x W
      rw [hxx] at c1
      have he : (((x : Int) == (y : Int)) : Bool) = decide (True ∧ x = y) := by
        by_cases h : x = y
        · subst h; simp
        · simp [h]; omega
      have HE := (show Hid _ from he)
      clear hxx hx hy cn he
      go_enter Tryz.func95, Tryz.ntmps95
      go_wp2_with (first | (go_at_call 126; refine (c1 _).mono ?_; rintro e w1 ⟨rfl, rfl⟩))
      go_quiet (fail)
      go_wp2
      go_ret
      refine ⟨?_, (((Kx.alloc _ _ _).alc _).drw _)⟩
      have := HE.out
      simpa using this
    · have hxx : (FloatKind.f64.format.order x x != some .eq) = true := by simpa using hx
      have hyy : (FloatKind.f64.format.order y y != some .eq) = false := by
        have : FloatKind.f64.format.order y y = some .eq := by simpa using hy
        rw [this]; rfl
      have hne : x ≠ y := by
        rintro rfl
        rw [hyy] at hxx
        cases hxx
      have c1 := fun W => cn x W
      have c2 := fun W => cn y W
      rw [hxx] at c1
      rw [hyy] at c2
      clear hxx hx hy cn hyy
      go_enter Tryz.func95, Tryz.ntmps95
      go_wp2_with (first | (go_at_call 126; refine (c1 _).mono ?_; rintro e w1 ⟨rfl, rfl⟩; clear c1) | (go_at_call 126; refine (c2 _).mono ?_; rintro e w1 ⟨rfl, rfl⟩))
      go_ret
      exact ⟨by simp [hne], (Kx.alloc _ _ _).alc _⟩
  · have hk3 : (k == 3) = false := by simpa using hk
    have hk3' : (k != 3) = true := by simp [bne, hk3]
    go_enter Tryz.func95, Tryz.ntmps95
    go_wp2
    go_ret
    exact ⟨by simp [hk], (Kx.alloc _ _ _).alc _⟩
end Go.Proofs.YtmicdbplkfdfnaaGreatDoor
