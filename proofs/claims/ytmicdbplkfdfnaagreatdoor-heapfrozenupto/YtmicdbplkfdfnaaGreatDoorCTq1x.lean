/- What holds between the law's steps. -/
import Derived.Test.YtmicdbplkfdfnaaGreatDoorCTg3x
import Derived.Test.YtmicdbplkfdfnaaGreatDoorCTb1x
import Derived.Laws.Tables
import Derived.Deep.Slices
set_option linter.unusedVariables false
namespace Go.Proofs.YtmicdbplkfdfnaaGreatDoor
open Go.RowKit Go.Shelf Go.Maps

/-- A row beside the object, that nobody writes. -/
def RowX (w : World) (O H b : Nat) (F : Fp) (a : Option Addr) (xs : List Value) : Prop := xs = [] ∨ ∃ g o, a = some ⟨g, 0, none⟩ ∧ w.heap[g]? = some o ∧ g ∉ F.blocks O H b ∧ ∀ W : World, W.heap[g]? = some o → ∀ (j : Nat) (x : Value), xs[j]? = some x → W.cell? ⟨g, j, none⟩ = some x
theorem RowX.next {w w' : World} {O H b : Nat} {F F' : Fp} {a : Option Addr} {xs : List Value} (h : RowX w O H b F a xs) (hn : Nxt w O H b F w' F') : RowX w' O H b F' a xs := by
  rcases h with h | ⟨g, o, h1, h2, h3, h4⟩
  · exact .inl h
  · refine .inr ⟨g, o, h1, hn.1.get h2 h3, fun hm => ?_, h4⟩
    have := lt_get h2
    rcases hn.2.1 g hm with h5 | h5
    · exact h3 h5
    · omega
theorem RowX.kx {w w' : World} {O H b : Nat} {F : Fp} {a : Option Addr} {xs : List Value} (h : RowX w O H b F a xs) (hk : Kx [] w w') : RowX w' O H b F a xs := h.next (Nxt.same (hk.mono (fun i hi => by cases hi)))
theorem RowX.cell {w : World} {O H b : Nat} {F : Fp} {a : Option Addr} {xs : List Value} (h : RowX w O H b F a xs) {j : Nat} {x : Value} (hj : xs[j]? = some x) : ∃ g, a = some ⟨g, 0, none⟩ ∧ ∀ W, Kx [] w W → ∀ (t : Nat) (y : Value), xs[t]? = some y → W.cell? ⟨g, t, none⟩ = some y := by
  rcases h with h | ⟨g, o, h1, h2, h3, h4⟩
  · rw [h] at hj; cases hj
  · exact ⟨g, h1, fun W hW t y hy => h4 W (hW.get h2 (by simp)) t y hy⟩
theorem RowX.owns {w : World} {B : Nat} {O H b : Nat} {F : Fp} {e : TypeId} {sz : Nat} {v : Value} {n : Nat} {xs : List Value} (h : w.ownsRow B e sz v n xs) (hF : ∀ i ∈ F.blocks O H b, i < B) : ∃ a c, v = .slice a n c ∧ RowX w O H b F a xs := by
  rcases h.2 with ⟨h2, rfl⟩ | ⟨g, cap, cur, h3, h4, h5, h6, h7, h8, h9⟩
  · refine ⟨none, 0, h2, .inl ?_⟩
    have := h.1
    exact List.eq_nil_of_length_eq_zero (by omega)
  · refine ⟨_, cap, h3, .inr ⟨g, _, rfl, h5, fun hm => ?_, ?_⟩⟩
    · have := hF g hm
      omega
    · intro W hW j x hx
      have hr : W.ownsRow 0 e sz (.slice (some ⟨g, 0, none⟩) n cap) n xs := ⟨h.1, .inr ⟨g, cap, cur, rfl, Nat.zero_le _, hW, h6, h7, h8, h9⟩⟩
      have := hr.cells (g := g) rfl j x hx
      rw [Addr.add_lit, Nat.zero_add] at this
      exact this
theorem FSt.blt {w : World} {n0 O H b : Nat} {arr fx : Bool} {L : List ByteArray} {P : List Pr} {f : Nat → Option Pr} {F : Fp} (h : FSt w n0 O H b arr fx L P f F) : ∀ i ∈ F.blocks O H b, i < w.heap.size := fun i hi => (h.lt i hi).2
/-- While keys are defined. -/
def LawA (w : World) (O H b : Nat) (arr : Bool) (q : Nat) (wr : World) : Prop :=
  ∃ L P f F, FSt wr w.heap.size O H b arr false L P f F ∧ F.al = false ∧ F.q ≤ q + 1 ∧ F.m ≤ q ∧ L.length ≤ q + 1 ∧ Inv1 arr L P f q ∧ Below w.heap.size w wr
theorem LawA.below {w : World} {O H b : Nat} {arr : Bool} {q : Nat} {wr : World} (h : LawA w O H b arr q wr) : Below w.heap.size w wr := by
  obtain ⟨L, P, f, F, _, _, _, _, _, _, h⟩ := h
  exact h
theorem LawA.kx {w : World} {O H b : Nat} {arr : Bool} {q : Nat} {wr W : World} (h : LawA w O H b arr q wr) (hk : Kx [] wr W) : LawA w O H b arr q W := by
  obtain ⟨L, P, f, F, h1, h2, h3, h4, h5, h6, h7⟩ := h
  exact ⟨L, P, f, F, h1.kept0 hk, h2, h3, h4, h5, h6, h7.trans (h1.blo0 hk)⟩
theorem LawA.skip {w : World} {O H b : Nat} {arr : Bool} {q : Nat} {wr : World} (h : LawA w O H b arr q wr) : LawA w O H b arr (q + 1) wr := by
  obtain ⟨L, P, f, F, h1, h2, h3, h4, h5, h6, h7⟩ := h
  exact ⟨L, P, f, F, h1, h2, by omega, by omega, by omega, h6.mono (by omega), h7⟩
theorem LawA.defines {w : World} {O H b : Nat} {arr : Bool} {q : Nat} {wr : World} (h : LawA w O H b arr q wr) (hE : Env w) (hq : q < 30) (s : ByteArray) (hs : s.size ≤ 200) (hlen : arr = true → s ≠ lenS) (hw : Bool) :
    ∀ W, Kx [] wr W → Calls Tryz.prog 7 #[.pointer (some ⟨O, 0, none⟩), .int .i64 1, .string s, .agg #[.bool true, .bool false, .bool false, .bool hw, .bool true, .bool true, .int .i64 3, .float .f64 (wN q), .string ⟨#[]⟩, .int .i64 0, .int .i64 0, .int .i64 0, .bool false, .bool true, .bool true]] W fun e w' => e = .returned (.int .i64 0) ∧ LawA w O H b arr (q + 1) w' := by
  intro W hW
  obtain ⟨L, P, f, F, h1, h2, h3, h4, h5, h6, h7⟩ := h.kx hW
  refine (h1.plain1 (hE.below h7) h2 h6 s (by omega) hlen hw q hq (by omega) (by omega) (by omega)).mono fun e w' h8 => ⟨h8.1, ?_⟩
  obtain ⟨L', P', f', F', g1, g2, g3, g4, g5⟩ := h8.2
  have h9 := g2.2.2.1
  have h10 := g2.2.2.2
  exact ⟨L', P', f', F', g1, g3, by omega, by omega, by omega, g4, h7.trans (h1.blo g2.1)⟩
/-- While keys are shut. -/
def LawB (w : World) (O H b : Nat) (arr : Bool) (ks : List Nat) (L : List ByteArray) (ga : Option Addr) (i : Nat) (wr : World) : Prop :=
  ∃ P f F, FSt wr w.heap.size O H b arr false L P f F ∧ F.m ≤ 30 + i ∧ Inv2 arr L P f ks i ∧ RowX wr O H b F ga ((allK ks L).map Value.string) ∧ Below w.heap.size w wr ∧ L.length ≤ 31
theorem LawA.keys {w : World} {O H b : Nat} {arr : Bool} {q : Nat} {wr : World} (h : LawA w O H b arr q wr) (hE : Env w) (hq : q ≤ 30) :
    Calls Tryz.prog 8 #[.pointer (some ⟨O, 0, none⟩), .int .i64 1] wr fun e w' => ∃ ks L ga n c, e = .returned (.slice ga n c) ∧ n = (allK ks L).length ∧ n ≤ 61 ∧ LawB w O H b arr ks L ga 0 w' := by
  obtain ⟨L, P, f, F, h1, h2, h3, h4, h5, h6, h7⟩ := h
  obtain ⟨ks, I⟩ := h6.inv2 hq
  refine (h1.keys (hE.below h7) ks I.ris I.dom (fun k hk => by
    obtain ⟨p, hp⟩ := Option.isSome_iff_exists.1 ((I.dom k).1 hk)
    exact I.pls k p hp) (by have := I.few; omega)).mono fun e w' h8 => ?_
  obtain ⟨v, g1, g2, g3⟩ := h8
  obtain ⟨a, c, rfl, hr⟩ := RowX.owns g2 h1.blt
  exact ⟨ks, L, a, _, c, g1, rfl, by rw [allK_len]; have := I.few; omega, P, f, F, h1.kept0 g3, by omega, I, hr, h7.trans (h1.blo0 g3), by omega⟩
theorem LawB.below {w : World} {O H b : Nat} {arr : Bool} {ks : List Nat} {L : List ByteArray} {ga : Option Addr} {i : Nat} {wr : World} (h : LawB w O H b arr ks L ga i wr) : Below w.heap.size w wr := by
  obtain ⟨P, f, F, _, _, _, _, h, _⟩ := h
  exact h
theorem LawB.at {w : World} {O H b : Nat} {arr : Bool} {ks : List Nat} {L : List ByteArray} {ga : Option Addr} {i : Nat} {wr : World} (h : LawB w O H b arr ks L ga i wr) (hi : i < (allK ks L).length) : ∃ s g, (allK ks L)[i]? = some s ∧ ga = some ⟨g, 0, none⟩ ∧ wr.cell? ⟨g, i, none⟩ = some (.string s) := by
  obtain ⟨P, f, F, h1, h2, h3, h4, h5, h6⟩ := h
  obtain ⟨s, hs⟩ : ∃ s, (allK ks L)[i]? = some s := ⟨_, List.getElem?_eq_getElem hi⟩
  have hm : ((allK ks L).map Value.string)[i]? = some (.string s) := by rw [List.getElem?_map, hs]; rfl
  obtain ⟨g, g1, g2⟩ := h4.cell hm
  exact ⟨s, g, hs, g1, g2 wr (Kx.refl _ _) i _ hm⟩
theorem allK_size {w : World} {n0 O H b : Nat} {arr fx : Bool} {L : List ByteArray} {P : List Pr} {f : Nat → Option Pr} {F : Fp} (h : FSt w n0 O H b arr fx L P f F) {ks : List Nat} (hk : ∀ k ∈ ks, k ≤ 4294967294) {i : Nat} {s : ByteArray} (hs : (allK ks L)[i]? = some s) : s.size ≤ 2000000 := by
  have hm := List.mem_of_getElem? hs
  unfold allK at hm
  rcases List.mem_append.1 hm with h1 | h1
  · obtain ⟨k, h2, rfl⟩ := List.mem_map.1 h1
    have := decS_size (hk k h2)
    omega
  · exact (h.ok s h1).2
theorem Inv2.kb {arr : Bool} {L : List ByteArray} {P : List Pr} {f : Nat → Option Pr} {ks : List Nat} {i : Nat} (I : Inv2 arr L P f ks i) : ∀ k ∈ ks, k ≤ 4294967294 := fun k hk => by
  obtain ⟨p, hp⟩ := Option.isSome_iff_exists.1 ((I.dom k).1 hk)
  exact I.pls k p hp
theorem LawB.shuts {w : World} {O H b : Nat} {arr : Bool} {ks : List Nat} {L : List ByteArray} {ga : Option Addr} {i : Nat} {wr : World} (h : LawB w O H b arr ks L ga i wr) (hE : Env w) (hi : i < 61) (s : ByteArray) (hs : (allK ks L)[i]? = some s) :
    ∀ W, Kx [] wr W → Calls Tryz.prog 7 #[.pointer (some ⟨O, 0, none⟩), .int .i64 1, .string s, .agg #[.bool false, .bool false, .bool false, .bool true, .bool false, .bool true, .int .i64 0, .float .f64 0, .string ⟨#[]⟩, .int .i64 0, .int .i64 0, .int .i64 0, .bool false, .bool false, .bool false]] W fun e w' => e = .returned (.int .i64 0) ∧ LawB w O H b arr ks L ga (i + 1) w' := by
  intro W hW
  obtain ⟨P, f, F, h1, h2, h3, h4, h5, h6⟩ := h
  have h1' := h1.kept0 hW
  have h5' := h5.trans (h1.blo0 hW)
  refine (h1'.shut1 (hE.below h5') h3 s hs (allK_size h1 h3.kb hs) (by omega)).mono fun e w' h8 => ⟨h8.1, ?_⟩
  obtain ⟨P', f', F', g1, g2, g3⟩ := h8.2
  have h9 := g2.2.2.1
  exact ⟨P', f', F', g1, by omega, g3, (h4.kx hW).next g2, h5'.trans (h1'.blo g2.1), h6⟩
/-- What is fixed for good. -/
structure Fin4 (arr : Bool) (ks : List Nat) (L : List ByteArray) (P : List Pr) (f : Nat → Option Pr) : Prop where
  inv : Inv4 arr L P f
  ris : Rises ks
  dom : ∀ k, k ∈ ks ↔ (f k).isSome = true
  few : ks.length ≤ 30
  fewL : L.length ≤ 31
  len : P.length = L.length
  nd : L.Nodup
  ok : ∀ x ∈ L, NameOK x
/-- When the object is fixed. -/
def LawC (w : World) (O H b : Nat) (arr : Bool) (ks : List Nat) (L : List ByteArray) (P : List Pr) (f : Nat → Option Pr) (rs : List (Option Addr × List Value)) (m : Nat) (wr : World) : Prop :=
  ∃ F, FSt wr w.heap.size O H b arr true L P f F ∧ F.m ≤ m ∧ (∀ r ∈ rs, RowX wr O H b F r.1 r.2) ∧ Below w.heap.size w wr
theorem LawC.below {w : World} {O H b : Nat} {arr : Bool} {ks : List Nat} {L : List ByteArray} {P : List Pr} {f : Nat → Option Pr} {rs : List (Option Addr × List Value)} {m : Nat} {wr : World} (h : LawC w O H b arr ks L P f rs m wr) : Below w.heap.size w wr := by
  obtain ⟨F, _, _, _, h⟩ := h
  exact h
theorem LawC.kx {w : World} {O H b : Nat} {arr : Bool} {ks : List Nat} {L : List ByteArray} {P : List Pr} {f : Nat → Option Pr} {rs : List (Option Addr × List Value)} {m : Nat} {wr W : World} (h : LawC w O H b arr ks L P f rs m wr) (hk : Kx [] wr W) : LawC w O H b arr ks L P f rs m W := by
  obtain ⟨F, h1, h2, h3, h4⟩ := h
  exact ⟨F, h1.kept0 hk, h2, fun r hr => (h3 r hr).kx hk, h4.trans (h1.blo0 hk)⟩
theorem LawC.step {w : World} {O H b : Nat} {arr : Bool} {ks : List Nat} {L : List ByteArray} {P : List Pr} {f : Nat → Option Pr} {rs : List (Option Addr × List Value)} {m : Nat} {F : Fp} {wr w' : World} (h1 : FSt wr w.heap.size O H b arr true L P f F) (h2 : F.m ≤ m) (h3 : ∀ r ∈ rs, RowX wr O H b F r.1 r.2) (h4 : Below w.heap.size w wr) (hk : Keep4 wr w.heap.size O H b arr L P f F w') : LawC w O H b arr ks L P f rs (m + 1) w' := by
  obtain ⟨F', g1, g2⟩ := hk
  have := g2.2.2.1
  exact ⟨F', g1, by omega, fun r hr => (h3 r hr).next g2, h4.trans (h1.blo g2.1)⟩
theorem LawC.mono {w : World} {O H b : Nat} {arr : Bool} {ks : List Nat} {L : List ByteArray} {P : List Pr} {f : Nat → Option Pr} {rs : List (Option Addr × List Value)} {m m' : Nat} {wr : World} (h : LawC w O H b arr ks L P f rs m wr) (hm : m ≤ m') : LawC w O H b arr ks L P f rs m' wr := by
  obtain ⟨F, h1, h2, h3, h4⟩ := h
  exact ⟨F, h1, by omega, h3, h4⟩
theorem LawB.fixes {w : World} {O H b : Nat} {arr : Bool} {ks : List Nat} {L : List ByteArray} {ga : Option Addr} {i : Nat} {wr : World} (h : LawB w O H b arr ks L ga i wr) (hi : i = (allK ks L).length) (hi2 : i ≤ 61) :
    ∀ W, Kx [] wr W → Calls Tryz.prog 9 #[.pointer (some ⟨O, 0, none⟩), .int .i64 1] W fun e w' => e = .returned (.int .i64 0) ∧ ∃ P f, Fin4 arr ks L P f ∧ LawC w O H b arr ks L P f [(ga, (allK ks L).map Value.string)] 100 w' := by
  intro W hW
  obtain ⟨P, f, F, h1, h2, h3, h4, h5, h6⟩ := h
  have h1' := h1.kept0 hW
  refine h1'.fix.mono fun e w' h8 => ⟨h8.1, P, f, ?_, ?_⟩
  · rw [hi] at h3
    exact ⟨h3.inv4 h1.len, h3.ris, h3.dom, h3.few, h6, h1.len, h1.nd, fun x hx => (h1.ok x hx).1⟩
  · obtain ⟨F', g1, g2⟩ := h8.2
    have h9 := g2.2.2.1
    refine ⟨F', g1, by omega, ?_, (h5.trans (h1.blo0 hW)).trans (h1'.blo g2.1)⟩
    intro r hr
    simp only [List.mem_singleton] at hr
    subst hr
    exact (h4.kx hW).next g2
theorem LawC.at {w : World} {O H b : Nat} {arr : Bool} {ks : List Nat} {L : List ByteArray} {P : List Pr} {f : Nat → Option Pr} {rs : List (Option Addr × List Value)} {m : Nat} {wr : World} (h : LawC w O H b arr ks L P f rs m wr) {a : Option Addr} {xs : List Value} (hr : (a, xs) ∈ rs) {j : Nat} {x : Value} (hj : xs[j]? = some x) : ∃ g, a = some ⟨g, 0, none⟩ ∧ ∀ W, Kx [] wr W → ∀ (t : Nat) (y : Value), xs[t]? = some y → W.cell? ⟨g, t, none⟩ = some y := by
  obtain ⟨F, h1, h2, h3, h4⟩ := h
  exact (h3 _ hr).cell hj
/-- What Own tells of a property, cell by cell. -/
def dL (p : Pr) : List Value := [.bool true, .bool false, .bool false, .bool true, .bool true, .bool true, .int .i64 3, .float .f64 p.2.2.2, .string ⟨#[]⟩, .int .i64 0, .int .i64 0, .int .i64 0, .bool p.1, .bool p.2.1, .bool p.2.2.1]
/-- The properties of all keys. -/
def ofAll (ks : List Nat) (L : List ByteArray) (P : List Pr) (f : Nat → Option Pr) : List Pr := (allK ks L).map fun s => (look L P f (unitsS s)).getD (false, false, false, 0)
theorem Fin4.at {arr : Bool} {ks : List Nat} {L : List ByteArray} {P : List Pr} {f : Nat → Option Pr} (h : Fin4 arr ks L P f) {i : Nat} {s : ByteArray} (hs : (allK ks L)[i]? = some s) :
    ∃ e n, n ≤ 4294967295 ∧ look L P f (unitsS s) = some (false, e, false, wN n) ∧ (ofAll ks L P f)[i]? = some (false, e, false, wN n) := by
  obtain ⟨e, n, hn, hl⟩ := h.inv.look h.len h.nd h.ok h.dom hs
  refine ⟨e, n, hn, hl, ?_⟩
  unfold ofAll
  rw [List.getElem?_map, hs]
  simp [hl]
theorem Fin4.kb {arr : Bool} {ks : List Nat} {L : List ByteArray} {P : List Pr} {f : Nat → Option Pr} (h : Fin4 arr ks L P f) : ∀ k ∈ ks, k ≤ 4294967294 := fun k hk => by
  obtain ⟨p, hp⟩ := Option.isSome_iff_exists.1 ((h.dom k).1 hk)
  exact (h.inv.pls k p hp).1
theorem LawC.owns {w : World} {O H b : Nat} {arr : Bool} {ks : List Nat} {L : List ByteArray} {P : List Pr} {f : Nat → Option Pr} {rs : List (Option Addr × List Value)} {m : Nat} {wr : World} (h : LawC w O H b arr ks L P f rs m wr) (hE : Env w) (h4 : Fin4 arr ks L P f) {i : Nat} {s : ByteArray} (hs : (allK ks L)[i]? = some s) {e : Bool} {x : Nat} (hl : look L P f (unitsS s) = some (false, e, false, x)) :
    ∀ W, Kx [] wr W → Calls Tryz.prog 10 #[.pointer (some ⟨O, 0, none⟩), .int .i64 1, .string s] W fun en w' => en = .returned (.tuple #[.agg #[.bool true, .bool false, .bool false, .bool true, .bool true, .bool true, .int .i64 3, .float .f64 x, .string ⟨#[]⟩, .int .i64 0, .int .i64 0, .int .i64 0, .bool false, .bool e, .bool false], .bool true]) ∧ Kx [] W w' := by
  intro W hW
  obtain ⟨F, h1, h2, h3, h5⟩ := h.kx hW
  exact h1.ownF (hE.below h5) s (allK_size h1 h4.kb hs) false e false x hl
theorem LawC.defines {w : World} {O H b : Nat} {arr : Bool} {ks : List Nat} {L : List ByteArray} {P : List Pr} {f : Nat → Option Pr} {rs : List (Option Addr × List Value)} {m : Nat} {wr : World} (h : LawC w O H b arr ks L P f rs m wr) (hE : Env w) (h4 : Fin4 arr ks L P f) (hm : m ≤ 9000) (s : ByteArray) (hs : s.size ≤ 2000000)
    (hv hg ht hw he hc wt en cf : Bool) (k g st : Int) (x : Nat) (hx : x < 18446744073709551616) (tx : ByteArray) (htx : tx.size ≤ 2000000) :
    ∀ W, Kx [] wr W → Calls Tryz.prog 7 #[.pointer (some ⟨O, 0, none⟩), .int .i64 1, .string s, .agg #[.bool hv, .bool hg, .bool ht, .bool hw, .bool he, .bool hc, .int .i64 k, .float .f64 x, .string tx, .int .i64 1, .int .i64 g, .int .i64 st, .bool wt, .bool en, .bool cf]] W fun e w' => (∃ z : Int, e = .returned (.int .i64 z)) ∧ LawC w O H b arr ks L P f rs (m + 1) w' := by
  intro W hW
  obtain ⟨F, h1, h2, h3, h5⟩ := h.kx hW
  exact (h1.plain4 (fun W2 hB => hE.below (h5.trans hB)) h4.inv s hs hv hg ht hw he hc wt en cf k g st x hx tx htx (by omega)).mono fun e w' h6 => ⟨h6.1, LawC.step h1 h2 h3 h5 h6.2⟩
theorem LawC.deletes {w : World} {O H b : Nat} {arr : Bool} {ks : List Nat} {L : List ByteArray} {P : List Pr} {f : Nat → Option Pr} {rs : List (Option Addr × List Value)} {m : Nat} {wr : World} (h : LawC w O H b arr ks L P f rs m wr) (hE : Env w) (h4 : Fin4 arr ks L P f) (s : ByteArray) (hs : s.size ≤ 2000000) :
    ∀ W, Kx [] wr W → Calls Tryz.prog 12 #[.pointer (some ⟨O, 0, none⟩), .int .i64 1, .string s] W fun e w' => (∃ z : Int, e = .returned (.int .i64 z)) ∧ LawC w O H b arr ks L P f rs (m + 1) w' := by
  intro W hW
  obtain ⟨F, h1, h2, h3, h5⟩ := h.kx hW
  exact (h1.del4 (fun W2 hB => hE.below (h5.trans hB)) h4.inv s hs).mono fun e w' h6 => ⟨h6.1, LawC.step h1 h2 h3 h5 h6.2⟩
theorem LawC.row {w : World} {O H b : Nat} {arr : Bool} {ks : List Nat} {L : List ByteArray} {P : List Pr} {f : Nat → Option Pr} {rs : List (Option Addr × List Value)} {m : Nat} {w0 wr : World} (h : LawC w O H b arr ks L P f rs m w0) (hk : Kx [] w0 wr) {e : TypeId} {sz : Nat} {v : Value} {n : Nat} {xs : List Value} (ho : wr.ownsRow w0.heap.size e sz v n xs) : ∃ a c, v = .slice a n c ∧ LawC w O H b arr ks L P f ((a, xs) :: rs) m wr := by
  obtain ⟨F, h1, h2, h3, h5⟩ := h
  obtain ⟨a, c, hv, hr⟩ := RowX.owns ho h1.blt
  refine ⟨a, c, hv, F, h1.kept0 hk, h2, ?_, h5.trans (h1.blo0 hk)⟩
  intro r hr2
  rcases List.mem_cons.1 hr2 with rfl | h6
  · exact hr
  · exact (h3 r h6).kx hk
theorem LawC.keys {w : World} {O H b : Nat} {arr : Bool} {ks : List Nat} {L : List ByteArray} {P : List Pr} {f : Nat → Option Pr} {rs : List (Option Addr × List Value)} {m : Nat} {wr : World} (h : LawC w O H b arr ks L P f rs m wr) (hE : Env w) (h4 : Fin4 arr ks L P f) :
    ∀ W, Kx [] wr W → Calls Tryz.prog 8 #[.pointer (some ⟨O, 0, none⟩), .int .i64 1] W fun e w' => ∃ na n c, e = .returned (.slice na n c) ∧ n = (allK ks L).length ∧ LawC w O H b arr ks L P f ((na, (allK ks L).map Value.string) :: rs) m w' := by
  intro W hW
  have hC := h.kx hW
  obtain ⟨F, h1, h2, h3, h5⟩ := hC
  refine (h1.keys (hE.below h5) ks h4.ris h4.dom h4.kb (by have := h4.few; omega)).mono fun e w' h6 => ?_
  obtain ⟨v, g1, g2, g3⟩ := h6
  obtain ⟨a, c, rfl, hr⟩ := LawC.row (ks := ks) (m := m) ⟨F, h1, h2, h3, h5⟩ g3 g2
  exact ⟨a, _, c, g1, rfl, hr⟩
end Go.Proofs.YtmicdbplkfdfnaaGreatDoor
set_option linter.unusedVariables false
namespace Go.Proofs.YtmicdbplkfdfnaaGreatDoor
open Go.RowKit Go.Shelf Go.Maps
attribute [local go_sem] run_store_flt

/-- A step of the script. -/
structure StepD where
  kind : Int
  A : Int
  B : Int
  C : Int
  key : ByteArray
  hv : Bool
  hg : Bool
  hs : Bool
  hw : Bool
  he : Bool
  hc : Bool
  k : Int
  x : Nat
  tx : ByteArray
  rf : Int
  g : Int
  st : Int
  wt : Bool
  en : Bool
  cf : Bool
  la : Option Addr
  ln : Nat
  lc : Nat
def StepD.cells (s : StepD) : List Value := [.int .i64 s.kind, .int .i64 s.A, .int .i64 s.B, .int .i64 s.C, .string s.key, .bool s.hv, .bool s.hg, .bool s.hs, .bool s.hw, .bool s.he, .bool s.hc, .int .i64 s.k, .float .f64 s.x, .string s.tx, .int .i64 s.rf, .int .i64 s.g, .int .i64 s.st, .bool s.wt, .bool s.en, .bool s.cf, .slice s.la s.ln s.lc]
structure StepD.OK (s : StepD) : Prop where
  key : s.key.size ≤ 1048576
  tx : s.tx.size ≤ 1048576
  x : s.x < 18446744073709551616
  A : -9223372036854775808 ≤ s.A ∧ s.A ≤ 9223372036854775807
theorem build32 (x : Nat) (w : World) : (Instr.build 32 #[(0, .int .i64 3), (1, .float .f64 x)]).run Tryz.prog w = .ok (.agg #[.int .i64 3, .float .f64 x, .string ⟨#[]⟩, .int .i64 0]) w := run_build w 32 _ _ (by kernel_rfl)
theorem build34 (x : Nat) (hw : Bool) (w : World) : (Instr.build 34 #[(0, .bool true), (6, .agg #[.int .i64 3, .float .f64 x, .string ⟨#[]⟩, .int .i64 0]), (4, .bool true), (10, .bool true), (3, .bool hw), (5, .bool true), (11, .bool true)]).run Tryz.prog w = .ok (.agg #[.bool true, .bool false, .bool false, .bool hw, .bool true, .bool true, .int .i64 3, .float .f64 x, .string ⟨#[]⟩, .int .i64 0, .int .i64 0, .int .i64 0, .bool false, .bool true, .bool true]) w := run_build w 34 _ _ (by kernel_rfl)
theorem build34s (w : World) : (Instr.build 34 #[(3, .bool true), (5, .bool true)]).run Tryz.prog w = .ok (.agg #[.bool false, .bool false, .bool false, .bool true, .bool false, .bool true, .int .i64 0, .float .f64 0, .string ⟨#[]⟩, .int .i64 0, .int .i64 0, .int .i64 0, .bool false, .bool false, .bool false]) w := run_build w 34 _ _ (by kernel_rfl)
attribute [local go_sem] build32 build34 build34s
theorem info34 : (Tryz.prog.info? 34).map (fun i => (i.zero, i.size, i.bytes)) = some (some (.agg #[.bool false, .bool false, .bool false, .bool false, .bool false, .bool false, .int .i64 0, .float .f64 0, .string ⟨#[]⟩, .int .i64 0, .int .i64 0, .int .i64 0, .bool false, .bool false, .bool false]), 15, 72) := by kernel_rfl
theorem addr_block (a : Addr) (n : Nat) : (a.add n).block = a.block := by
  unfold Addr.add
  split <;> rfl
set_option maxRecDepth 100000 in
theorem pick_n (c : Int) (n : Nat) (hn : 0 < n) (hn2 : n ≤ 1000) (w : World) (h1 : -9223372036854775808 ≤ c) (h2 : c ≤ 9223372036854775807) : Calls Tryz.prog 11 #[.int .i64 c, .int .i64 (n : Int)] w fun e w' => (∃ z : Nat, z < n ∧ e = .returned (.int .i64 (z : Int))) ∧ w' = w := by
  have hne : ((n : Int) == 0) = false := by
    rw [beq_eq_false_iff_ne]
    omega
  have key : ∀ d : Int, 0 ≤ d → ∃ z : Nat, z < n ∧ Int.tmod d n = (z : Int) := by
    intro d hd
    have e : Int.tmod d n = d % n := Int.tmod_eq_emod_of_nonneg hd
    have a1 := Int.emod_nonneg d (show (n : Int) ≠ 0 by omega)
    have a2 := Int.emod_lt_of_pos d (show (0 : Int) < n by omega)
    refine ⟨(d % n).toNat, by omega, ?_⟩
    rw [e]
    omega
  by_cases h : c < 0
  · have v1 : IntKind.i64.wrap (c + 1) = c + 1 := by rw [IntKind.wrap_i64]; omega
    have v2 : IntKind.i64.wrap (-(c + 1)) = -(c + 1) := by rw [IntKind.wrap_i64]; omega
    obtain ⟨z, hz, ez⟩ := key (-(c + 1)) (by omega)
    go_enter Tryz.func11, Tryz.ntmps11
    go_wp2
    go_ret
    exact ⟨⟨z, hz, rfl⟩, rfl⟩
  · obtain ⟨z, hz, ez⟩ := key c (by omega)
    go_enter Tryz.func11, Tryz.ntmps11
    go_wp2
    go_ret
    exact ⟨⟨z, hz, rfl⟩, rfl⟩
theorem step_cells {w : World} {a : Addr} {m : Nat} {cs : List Value} (h : ∀ t v, cs[t]? = some v → w.cell? (a.add (m * 21 + t)) = some v) : ∀ t v, t ≠ 0 → cs[t]? = some v → w.cell? ⟨(a.add (m * 21)).block, (a.add (m * 21)).off + t, none⟩ = some v := by
  intro t v ht hv
  have h1 := h t v hv
  rw [← Go.Deep.add_add] at h1
  have e : (a.add (m * 21)).add t = ⟨(a.add (m * 21)).block, (a.add (m * 21)).off + t, none⟩ := by
    generalize a.add (m * 21) = z
    unfold Addr.add
    rw [if_neg ht]
  rw [e] at h1
  exact h1
section
variable {P : Program}
theorem wpList_load_to {ops : Array Oper} {rest : List Oper} {o : Oper} {a : Act} {w : World} {Q : Exit → Act → World → Prop} (hgd : o.guard = none) (ty : TypeId) (x : Operand) (ho : o.op = .load ty x)
    (ad : Addr) (hx : a.eval x = .pointer (some ad)) (v : Value) (hl : (loadVar ty ad).run P w = .ok v w) (h : wpList P ops Q rest (a.put o.dst v) w) : wpList P ops Q (o :: rest) a w :=
  wpList_plain hgd fun _ hK => by
    unfold Oper.wp execOp
    simp only [ho, hx, Instr.loadAt, Instr.sureAddr, Sem.run_bind, Sem.run_pure, Result.andThen_ok, hl]
    exact hK _ _ h
theorem alloc_setRow (w : World) (old cells : Array Value) (t : TypeId) : (w.alloc (Obj.cells old t)).setRow w.heap.size cells = w.alloc (Obj.cells cells t) := by
  unfold World.setRow
  have e : ∀ o : Obj, (w.alloc o) = { w with heap := w.heap.push o } := fun o => rfl
  rw [e, e]
  simp only [World.mk.injEq, and_true]
  apply Array.ext'
  rw [Array.toList_modify, Array.toList_push, Array.toList_push]
  have hm : ∀ (l : List Obj) (x : Obj) (g : Obj → Obj), (l ++ [x]).modify l.length g = l ++ [g x] := by
    intro l x g
    induction l with
    | nil => rfl
    | cons a l ih => simpa using ih
  have hl : w.heap.size = w.heap.toList.length := Array.length_toList.symm
  rw [hl, hm]
theorem wpList_store_new {ops : Array Oper} {rest : List Oper} {o : Oper} {a : Act} {Q : Exit → Act → World → Prop} (hgd : o.guard = none) (ty : TypeId) (x y : Operand) (ho : o.op = .store ty x y)
    (w : World) (old cells : Array Value) (t : TypeId) (hx : a.eval x = .pointer (some ⟨w.heap.size, 0, none⟩)) (hy : a.eval y = .agg cells) (hi : (P.info? ty).map (·.size) = some cells.size)
    (hold : old.size = cells.size) (h1 : cells.all (·.oneCell') = true)
    (h : wpList P ops Q rest (a.put o.dst undef) (w.alloc (Obj.cells cells t))) : wpList P ops Q (o :: rest) a (w.alloc (Obj.cells old t)) := by
  refine wpList_store_row hgd ty x y ho w.heap.size cells hx hy t old (heap_alloc_new _ _) hi hold h1 ?_
  rw [alloc_setRow]
  exact h
end
theorem load42 {w : World} {a : Addr} {m : Nat} {cs : List Value} (hl : cs.length = 21) (h : ∀ t v, cs[t]? = some v → w.cell? (a.add (m * 21 + t)) = some v) : (loadVar 42 (a.add (m * 21))).run Tryz.prog w = .ok (.agg cs.toArray) w := by
  have h1 := run_loadCells_list (P := Tryz.prog) w (a.add (m * 21)) cs (fun j v hv => by rw [Go.Deep.add_add]; exact h j v hv)
  rw [hl] at h1
  have h2 : (isAgg 42).run Tryz.prog w = .ok true w := by
    unfold isAgg
    rw [Sem.run_bind, run_underlying Tryz.underlying42]
    rfl
  simp [loadVar, Sem.run_bind, h2, h1]
theorem MadeA {w : World} {O H : Nat} {arr : Bool} {W w' : World} (hB : Below w.heap.size w W) (h : Made w.heap.size O H arr W w') : ∃ b, LawA w O H b arr 0 w' := by
  obtain ⟨b, L, P, F, g1, g2, g3, g4, g5, g6, g7⟩ := h
  exact ⟨b, L, P, _, F, g1, g2, by omega, by omega, by omega, g6, hB.trans g7⟩
theorem new_makes (w : World) : ∃ W0 O H, (Calls Tryz.prog 5 #[] w fun e w' => e = .returned (.pointer (some ⟨O, 0, none⟩)) ∧ w' = W0) ∧ Below w.heap.size w W0 ∧
    (Calls Tryz.prog 6 #[.pointer (some ⟨O, 0, none⟩), .string ⟨#[79, 98, 106, 101, 99, 116]⟩, .int .i64 0] W0 fun e w' => e = .returned (.tuple #[.int .i64 1, .int .i64 0]) ∧ ∃ b, LawA w O H b false 0 w') ∧
    (Calls Tryz.prog 6 #[.pointer (some ⟨O, 0, none⟩), .string ⟨#[65, 114, 114, 97, 121]⟩, .int .i64 0] W0 fun e w' => e = .returned (.tuple #[.int .i64 1, .int .i64 0]) ∧ ∃ b, LawA w O H b true 0 w') := by
  obtain ⟨h1, h2⟩ := new_first w
  have hB : Below w.heap.size w (wNew w) := h2.below (Nat.le_refl _) (by simp)
  exact ⟨wNew w, _, _, new_any w, hB, h1.makeO.mono fun e w' h => ⟨h.1, MadeA hB h.2⟩, h1.makeA.mono fun e w' h => ⟨h.1, MadeA hB h.2⟩⟩
end Go.Proofs.YtmicdbplkfdfnaaGreatDoor
