/- The state of a heap whose objects have names alone. -/
import Derived.Test.YtdnjgemaenhcfaaGreatDoorCHt2x
import Derived.Test.YtdnjgemaenhcfaaGreatDoorCHq4x
import Derived.Test.YtdnjgemaenhcfaaGreatDoorCHq9x
import Derived.Test.YtdnjgemaenhcfaaGreatDoorCHs2x
import Derived.Test.YtdnjgemaenhcfaaGreatDoorCHq2x
import Derived.Test.YtdnjgemaenhcfaaGreatDoorCHo1x
set_option linter.unusedVariables false
namespace Go.Proofs.YtdnjgemaenhcfaaGreatDoor
open Go.RowKit Go.Shelf Go.Maps

theorem flat_get {α : Type} (f : α → List Value) (n : Nat) (hf : ∀ a, (f a).length = n) : ∀ (vs : List α) (j : Nat) (a : α) (t : Nat), vs[j]? = some a → t < n → (vs.flatMap f)[j * n + t]? = (f a)[t]?
  | [], j, a, t, h, _ => by simp at h
  | b :: vs, 0, a, t, h, ht => by
    simp at h
    subst h
    rw [List.flatMap_cons, Nat.zero_mul, Nat.zero_add, List.getElem?_append_left (by rw [hf]; exact ht)]
  | b :: vs, j + 1, a, t, h, ht => by
    have ih := flat_get f n hf vs j a t (by simpa using h) ht
    rw [List.flatMap_cons, List.getElem?_append_right (by rw [hf, Nat.add_mul]; omega), hf, show (j + 1) * n + t - n = j * n + t by rw [Nat.add_mul]; omega]
    exact ih
/-- A value: its kind, number, text. -/
abbrev Vl : Type := Int × Nat × ByteArray
def propL (v : Vl) : List Value := [.bool true, .bool true, .bool true, .bool false, .int .i64 v.1, .float .f64 v.2.1, .string v.2.2, .pointer none, .pointer none, .pointer none]
def propsL (vs : List Vl) : List Value := vs.flatMap propL
theorem propsL_snoc (vs : List Vl) (v : Vl) : propsL (vs ++ [v]) = propsL vs ++ propL v := by simp [propsL]
/-- An object: its block, its shape, the steps that led to it, its properties' list and values. -/
structure Og where
  b : Nat
  S : Nat
  path : List Stp
  nv : Value
  vs : List Vl
def objC : ByteArray := ⟨#[79, 98, 106, 101, 99, 116]⟩
def obV (num : Int) (S : Nat) (nv : Value) : Array Value := #[.string objC, .pointer none, .bool false, .nilIface, .int .i64 num, .pointer (some ⟨S, 0, none⟩), nv, .slice none 0 0, .map none, .bool false]
structure HSt (w : World) (n0 O H : Nat) (hv : Value) (S0 B : Nat) (F : List Nat) (ps : List (Nat × List Stp)) (os : List Og) : Prop where
  face : w.heap[O]? = some (.cells #[.pointer (some ⟨H, 0, none⟩)] 54 (0, 0))
  heap : w.heap[H]? = some (.cells #[hv, .int .i64 (os.length : Int), .pointer (some ⟨S0, 0, none⟩)] 91 (0, 0))
  row : w.ownsRow n0 61 1 hv os.length ((os.map Og.b).map ptrV)
  obj : ∀ (i : Nat) (o : Og), os[i]? = some o → w.heap[o.b]? = some (.cells (obV ((i : Int) + 1) o.S o.nv) 111 (0, 0)) ∧ (o.S, o.path) ∈ ps ∧ w.ownsRow n0 75 10 o.nv o.path.length (propsL o.vs) ∧ o.vs.length = o.path.length ∧ n0 ≤ o.b
  tree : Tree w B F ps
  root : (S0, []) ∈ ps
  dB : ∀ (i j : Nat) (o o' : Og), os[i]? = some o → os[j]? = some o' → o.b = o'.b → i = j
  dR : ∀ (i j : Nat) (o o' : Og) (g : Nat), os[i]? = some o → os[j]? = some o' → o.nv.ownBlock = some g → o'.nv.ownBlock = some g → i = j
  fO : O ∉ F
  fH : H ∉ F
  fV : ∀ g, hv.ownBlock = some g → g ∉ F
  fB : ∀ (i : Nat) (o : Og), os[i]? = some o → o.b ∉ F
  fR : ∀ (i : Nat) (o : Og), os[i]? = some o → ∀ g, o.nv.ownBlock = some g → g ∉ F
  hi : ∀ i ∈ F, n0 ≤ i
  hH : n0 ≤ H
  len : os.length ≤ 100
  n0w : n0 ≤ w.heap.size
theorem HSt.kept0 {w w' : World} {n0 O H : Nat} {hv : Value} {S0 B : Nat} {F : List Nat} {ps : List (Nat × List Stp)} {os : List Og} (h : HSt w n0 O H hv S0 B F ps os) (hk : Kx [] w w') : HSt w' n0 O H hv S0 B F ps os where
  face := hk.get h.face (by simp)
  heap := hk.get h.heap (by simp)
  row := hk.owns h.row (fun g hg => by simp)
  obj := fun i o ho => by
    obtain ⟨h1, h2, h3, h4⟩ := h.obj i o ho
    exact ⟨hk.get h1 (by simp), h2, hk.owns h3 (fun g hg => by simp), h4⟩
  tree := h.tree.kept0 hk
  root := h.root
  dB := h.dB
  dR := h.dR
  fO := h.fO
  fH := h.fH
  fV := h.fV
  fB := h.fB
  fR := h.fR
  hi := h.hi
  hH := h.hH
  len := h.len
  n0w := Nat.le_trans h.n0w hk.size
theorem HSt.objs {w : World} {n0 O H : Nat} {hv : Value} {S0 B : Nat} {F : List Nat} {ps : List (Nat × List Stp)} {os : List Og} (h : HSt w n0 O H hv S0 B F ps os) (hne : os ≠ []) : Objs w H (os.map Og.b) := by
  have hpos : 0 < os.length := List.length_pos_iff.2 hne
  obtain ⟨g, cap, e⟩ := ownsRow_pos hpos h.row
  refine ⟨by have := h.len; rw [List.length_map]; omega, .inr ⟨by simpa using hne, g, cap, ?_, ?_⟩⟩
  · rw [cell_at h.heap 0 rfl, e, List.length_map]
    rfl
  · intro i b hb
    rw [List.getElem?_map] at hb
    cases ho : os[i]? with
    | none => rw [ho] at hb; cases hb
    | some o =>
      rw [ho] at hb
      simp at hb
      subst hb
      refine ⟨?_, cell_at (h.obj i o ho).1 4 rfl⟩
      have := h.row.cells (g := g) (by rw [e]; rfl) i (ptrV o.b) (by rw [List.getElem?_map, List.getElem?_map, ho]; rfl)
      rw [Addr.add_lit, Nat.zero_add] at this
      exact this
theorem HSt.O0 {w : World} {n0 O H : Nat} {hv : Value} {S0 B : Nat} {F : List Nat} {ps : List (Nat × List Stp)} {os : List Og} (h : HSt w n0 O H hv S0 B F ps os) : w.cell? ⟨O, 0, none⟩ = some (.pointer (some ⟨H, 0, none⟩)) := cell_at h.face 0 rfl
/-- Two that are told apart by their kinds. -/
theorem HSt.bO {w : World} {n0 O H : Nat} {hv : Value} {S0 B : Nat} {F : List Nat} {ps : List (Nat × List Stp)} {os : List Og} (h : HSt w n0 O H hv S0 B F ps os) {i : Nat} {o : Og} (ho : os[i]? = some o) : O ≠ o.b ∧ H ≠ o.b ∧ (∀ g, hv.ownBlock = some g → g ≠ o.b) ∧ (∀ g, o.nv.ownBlock = some g → O ≠ g ∧ H ≠ g ∧ o.b ≠ g) ∧ (∀ g g', o.nv.ownBlock = some g → hv.ownBlock = some g' → g' ≠ g) := by
  obtain ⟨h1, h2, h3, h4⟩ := h.obj i o ho
  refine ⟨cells_ne h.face h1 (by decide), cells_ne h.heap h1 (by decide), fun g hg => owns_ne h.row h1 (by decide) g hg, fun g hg => ⟨fun e => owns_ne h3 h.face (by decide) g hg e.symm, fun e => owns_ne h3 h.heap (by decide) g hg e.symm, fun e => owns_ne h3 h1 (by decide) g hg e.symm⟩, fun g g' hg hg' e => ?_⟩
  rcases h3.2 with ⟨e1, _⟩ | ⟨q, cap, cur, e1, _, hq, _⟩
  · rw [e1] at hg; cases hg
  · rw [e1] at hg
    have : q = g := by simpa [Value.ownBlock] using hg
    rw [this] at hq
    exact owns_ne h.row hq (by decide) g' hg' e
end Go.Proofs.YtdnjgemaenhcfaaGreatDoor
/- Define, of a name that the object has not. -/
set_option linter.unusedVariables false
namespace Go.Proofs.YtdnjgemaenhcfaaGreatDoor
open Go.RowKit Go.Shelf Go.Maps

theorem tabs_kx {w W : World} (hT : Lib.Utf8Tabs 2 3 w) (hk : Kx [] w W) : Lib.Utf8Tabs 2 3 W := tabs_below hT (hk.below (Nat.le_refl _) (by simp))
theorem key_name (s : ByteArray) (hs : s.size ≤ 2000000) (hx : ixOf (unitsS s) < 0) (w : World) (hT : Lib.Utf8Tabs 2 3 w) :
    ∀ W, Kx [] w W → Calls Tryz.prog 26 #[.string s] W fun e w' => e = .returned (.agg #[.string (txt (unitsS s)), .int .u32 0, .bool false]) ∧ Kx [] W w' := by
  intro W hW
  have c := keyOf_any s hs W (tabs_kx hT hW)
  unfold keyN keyP keyI at c
  rw [if_pos hx, if_pos hx, decide_eq_true hx] at c
  exact c.mono fun e w' ⟨h1, h2⟩ => ⟨h1, Kx.ofBelow h2 []⟩
theorem key_place (s : ByteArray) (hs : s.size ≤ 2000000) (hx : ¬ ixOf (unitsS s) < 0) (w : World) (hT : Lib.Utf8Tabs 2 3 w) :
    ∀ W, Kx [] w W → Calls Tryz.prog 26 #[.string s] W fun e w' => e = .returned (.agg #[.string ⟨#[]⟩, .int .u32 (ixOf (unitsS s)), .bool true]) ∧ Kx [] W w' := by
  intro W hW
  have c := keyOf_any s hs W (tabs_kx hT hW)
  unfold keyN keyP keyI at c
  rw [if_neg hx, if_neg hx, decide_eq_false hx] at c
  exact c.mono fun e w' ⟨h1, h2⟩ => ⟨h1, Kx.ofBelow h2 []⟩
theorem objC_no : (objC.toList == [65, 114, 114, 97, 121]) = false := by decide +kernel
def allS (nm : ByteArray) : Stp := (nm, true, true, true, false)
/-- A block that is none of the heap's. -/
def Free (w : World) (F : List Nat) (H : Nat) (hv : Value) (os : List Og) (x : Nat) : Prop := x < w.heap.size ∧ x ∉ F ∧ x ≠ H ∧ (∀ g, hv.ownBlock = some g → x ≠ g) ∧ ∀ (i : Nat) (o : Og), os[i]? = some o → x ≠ o.b ∧ ∀ g, o.nv.ownBlock = some g → x ≠ g
theorem Free.kept0 {w w' : World} {F : List Nat} {H : Nat} {hv : Value} {os : List Og} {x : Nat} (h : Free w F H hv os x) (hk : w.heap.size ≤ w'.heap.size) : Free w' F H hv os x := ⟨Nat.lt_of_lt_of_le h.1 hk, h.2⟩
/-- What stands behind Define. -/
def DefP (w : World) (n0 O H : Nat) (hv : Value) (S0 B : Nat) (F : List Nat) (ps : List (Nat × List Stp)) (os : List Og) (i : Nat) (o : Og) (nm : ByteArray) (v : Vl) (w' : World) : Prop :=
  ∃ S' nv' F' ps', HSt w' n0 O H hv S0 (B + 1) F' ps' (os.set i ⟨o.b, S', o.path ++ [allS nm], nv', o.vs ++ [v]⟩) ∧ (∀ q ∈ ps, q ∈ ps') ∧ Below n0 w w' ∧ ∀ x, Free w F H hv os x → Free w' F' H hv (os.set i ⟨o.b, S', o.path ++ [allS nm], nv', o.vs ++ [v]⟩) x ∧ w'.heap[x]? = w.heap[x]?
theorem HSt.grown {w w' : World} {n0 O H : Nat} {hv : Value} {S0 B : Nat} {F : List Nat} {ps : List (Nat × List Stp)} {os : List Og} (h : HSt w n0 O H hv S0 B F ps os) {i : Nat} {o : Og} (ho : os[i]? = some o) {nm : ByteArray} {v : Vl}
    {S' : Nat} {nv' : Value} {F' : List Nat} {ps' : List (Nat × List Stp)} {w2 : World} (k1 : Kx F w w2) (k2 : Kx (o.b :: o.nv.ownBlock.toList) w2 w')
    (hF : ∀ j ∈ F', j ∈ F ∨ w.heap.size ≤ j) (ht : Tree w2 (B + 1) F' ps') (hm : (S', o.path ++ [allS nm]) ∈ ps') (hps : ∀ q ∈ ps, q ∈ ps')
    (hb : w'.heap[o.b]? = some (.cells (obV ((i : Int) + 1) S' nv') 111 (0, 0))) (hr : w'.ownsRow n0 75 10 nv' (o.path.length + 1) (propsL o.vs ++ propL v)) (hfr : ∀ g, nv'.ownBlock = some g → o.nv.ownBlock = some g ∨ w2.heap.size ≤ g) :
    DefP w n0 O H hv S0 B F ps os i o nm v w' := by
  obtain ⟨b1, b2, b3, b4, b5⟩ := h.obj i o ho
  obtain ⟨a1, a2, a3, a4, a5⟩ := h.bO ho
  have hlb := lt_get b1
  have hT : ∀ j ∈ F', j ∉ o.b :: o.nv.ownBlock.toList := by
    intro j hj hm2
    simp only [List.mem_cons] at hm2
    rcases hF j hj with e | e
    · rcases hm2 with rfl | hm2
      · exact h.fB i o ho e
      · exact h.fR i o ho j (by simpa using hm2) e
    · rcases hm2 with rfl | hm2
      · omega
      · have := (b3.lt j (by simpa using hm2)).2
        omega
  have K : Kx (F ++ o.b :: o.nv.ownBlock.toList) w w' := (k1.mono (fun j hj => .inl (by simp [hj]))).trans k2 (fun j hj => .inl (List.mem_append_right _ hj))
  have nK : ∀ j, j ∉ F → j ≠ o.b → (∀ g, o.nv.ownBlock = some g → j ≠ g) → j ∉ F ++ o.b :: o.nv.ownBlock.toList := by
    intro j e1 e2 e3 hm2
    simp only [List.mem_append, List.mem_cons] at hm2
    rcases hm2 with hm2 | hm2 | hm2
    · exact e1 hm2
    · exact e2 hm2
    · exact e3 j (by simpa using hm2) rfl
  have low : ∀ j ∈ F', j < w.heap.size → j ∈ F := fun j hj hl => by
    rcases hF j hj with e | e
    · exact e
    · omega
  have getS : ∀ (j : Nat) (o2 : Og), (os.set i ⟨o.b, S', o.path ++ [allS nm], nv', o.vs ++ [v]⟩)[j]? = some o2 → (j = i ∧ o2 = ⟨o.b, S', o.path ++ [allS nm], nv', o.vs ++ [v]⟩) ∨ (j ≠ i ∧ os[j]? = some o2) := by
    intro j o2 h2
    rw [List.getElem?_set] at h2
    by_cases e : i = j
    · rw [if_pos e] at h2
      split at h2
      · exact .inl ⟨e.symm, (Option.some.inj h2).symm⟩
      · cases h2
    · rw [if_neg e] at h2
      exact .inr ⟨fun e2 => e e2.symm, h2⟩
  have obR : ∀ (j : Nat) (o2 : Og), os[j]? = some o2 → j ≠ i → o2.b ≠ o.b ∧ (∀ g, o.nv.ownBlock = some g → o2.b ≠ g) ∧ ∀ g, o2.nv.ownBlock = some g → g ≠ o.b ∧ ∀ g', o.nv.ownBlock = some g' → g ≠ g' := by
    intro j o2 h2 hne
    obtain ⟨c1, c2, c3, c4⟩ := h.obj j o2 h2
    refine ⟨fun e => hne (h.dB j i o2 o h2 ho e), fun g hg e => owns_ne b3 c1 (by decide) g hg e.symm, fun g hg => ⟨fun e => owns_ne c3 b1 (by decide) g hg e, fun g' hg' e => hne (h.dR j i o2 o g h2 ho hg (by rw [e]; exact hg'))⟩⟩
  refine ⟨S', nv', F', ps', ?_, hps, K.below h.n0w ?_, ?_⟩
  · refine { face := ?_, heap := ?_, row := ?_, obj := ?_, tree := ht.kept k2 hT, root := hps _ h.root, dB := ?_, dR := ?_, fO := ?_, fH := ?_, fV := ?_, fB := ?_, fR := ?_, hi := ?_, hH := h.hH, len := by rw [List.length_set]; exact h.len, n0w := Nat.le_trans h.n0w K.size }
    · exact K.get h.face (nK O h.fO a1 (fun g hg => (a4 g hg).1))
    · rw [List.length_set]
      exact K.get h.heap (nK H h.fH a2 (fun g hg => (a4 g hg).2.1))
    · rw [List.length_set]
      have e : (os.set i ⟨o.b, S', o.path ++ [allS nm], nv', o.vs ++ [v]⟩).map Og.b = os.map Og.b := by
        rw [List.map_set]
        apply List.ext_getElem?
        intro j
        rw [List.getElem?_set]
        by_cases e : i = j
        · subst e
          rw [if_pos rfl, List.getElem?_map, ho]
          have := (List.getElem?_eq_some_iff.1 ho).1
          simp [this]
        · rw [if_neg e]
      rw [e]
      exact K.owns h.row (fun g hg => nK g (h.fV g hg) (a3 g hg) (fun g' hg' => a5 g' g hg' hg))
    · intro j o2 h2
      rcases getS j o2 h2 with ⟨rfl, rfl⟩ | ⟨hne, h3⟩
      · refine ⟨hb, hm, ?_, by simp [b4], b5⟩
        rw [propsL_snoc]
        simpa using hr
      · obtain ⟨c1, c2, c3, c4, c5⟩ := h.obj j o2 h3
        obtain ⟨d1, d2, d3⟩ := obR j o2 h3 hne
        exact ⟨K.get c1 (nK _ (h.fB j o2 h3) d1 d2), hps _ c2, K.owns c3 (fun g hg => nK g (h.fR j o2 h3 g hg) (d3 g hg).1 (d3 g hg).2), c4, c5⟩
    · intro j j' o2 o3 h2 h3 e
      rcases getS j o2 h2 with ⟨rfl, rfl⟩ | ⟨hne, h2'⟩ <;> rcases getS j' o3 h3 with ⟨rfl, rfl⟩ | ⟨hne', h3'⟩
      · rfl
      · exact absurd e.symm (obR j' o3 h3' hne').1
      · exact absurd e (obR j o2 h2' hne).1
      · exact h.dB j j' o2 o3 h2' h3' e
    · intro j j' o2 o3 g h2 h3 e e'
      have fresh : ∀ (q : Nat) (o4 : Og), os[q]? = some o4 → q ≠ i → o4.nv.ownBlock = some g → nv'.ownBlock ≠ some g := by
        intro q o4 h4 hq hg hc
        rcases hfr g hc with h5 | h5
        · exact hq (h.dR q i o4 o g h4 ho hg h5)
        · have := ((h.obj q o4 h4).2.2.1.lt g hg).2
          have := k1.size
          omega
      rcases getS j o2 h2 with ⟨rfl, rfl⟩ | ⟨hne, h2'⟩ <;> rcases getS j' o3 h3 with ⟨rfl, rfl⟩ | ⟨hne', h3'⟩
      · rfl
      · exact absurd e (fresh j' o3 h3' hne' e')
      · exact absurd e' (fresh j o2 h2' hne e)
      · exact h.dR j j' o2 o3 g h2' h3' e e'
    · exact fun hc => h.fO (low O hc (lt_get h.face))
    · exact fun hc => h.fH (low H hc (lt_get h.heap))
    · exact fun g hg hc => h.fV g hg (low g hc (h.row.lt g hg).2)
    · intro j o2 h2 hc
      rcases getS j o2 h2 with ⟨rfl, rfl⟩ | ⟨hne, h3⟩
      · exact h.fB j o ho (low _ hc hlb)
      · exact h.fB j o2 h3 (low _ hc (lt_get (h.obj j o2 h3).1))
    · intro j o2 h2 g hg hc
      rcases getS j o2 h2 with ⟨rfl, rfl⟩ | ⟨hne, h3⟩
      · rcases hfr g hg with h5 | h5
        · exact hT g hc (by simp [h5])
        · have := ht.low g hc
          omega
      · exact h.fR j o2 h3 g hg (low g hc ((h.obj j o2 h3).2.2.1.lt g hg).2)
    · intro j hj
      rcases hF j hj with e | e
      · exact h.hi j e
      · exact Nat.le_trans h.n0w e
  · intro j hj
    simp only [List.mem_append, List.mem_cons] at hj
    rcases hj with hj | rfl | hj
    · exact h.hi j hj
    · exact b5
    · exact (b3.lt j (by simpa using hj)).1
  · rintro x ⟨f1, f2, f3, f4, f5⟩
    refine ⟨⟨Nat.lt_of_lt_of_le f1 K.size, fun hc => f2 (low x hc f1), f3, f4, ?_⟩, K.block x f1 (nK x f2 (f5 i o ho).1 (f5 i o ho).2)⟩
    intro j o2 h2
    rcases getS j o2 h2 with ⟨rfl, rfl⟩ | ⟨hne, h3⟩
    · refine ⟨(f5 j o ho).1, fun g hg => ?_⟩
      rcases hfr g hg with e | e
      · exact (f5 j o ho).2 g e
      · have := k1.size
        omega
    · exact f5 j o2 h3
end Go.Proofs.YtdnjgemaenhcfaaGreatDoor
/- plain.Define, plain.Make, Own, Same, Keys, plain.Delete at the state. -/
set_option linter.unusedVariables false
namespace Go.Proofs.YtdnjgemaenhcfaaGreatDoor
open Go.RowKit Go.Shelf Go.Maps

theorem ix_lt (us : List Nat) : ixOf us < 4294967296 := by
  unfold ixOf
  split
  · omega
  · split
    · split <;> omega
    · omega
theorem toNat_succ (i : Nat) : (((i : Int) + 1) - 1).toNat = i := by omega
theorem HSt.cellK {w W : World} {n0 O H : Nat} {hv : Value} {S0 B : Nat} {F : List Nat} {ps : List (Nat × List Stp)} {os : List Og} (h : HSt w n0 O H hv S0 B F ps os) {i : Nat} {o : Og} (ho : os[i]? = some o) (hk : Kx [] w W) (j : Nat) {u : Value} (hu : (obV ((i : Int) + 1) o.S o.nv)[j]? = some u) : W.cell? ⟨o.b, j, none⟩ = some u :=
  cell_at (hk.get (h.obj i o ho).1 (by simp)) j hu
theorem HSt.ownNo {w : World} {n0 O H : Nat} {hv : Value} {S0 B : Nat} {F : List Nat} {ps : List (Nat × List Stp)} {os : List Og} (h : HSt w n0 O H hv S0 B F ps os) {i : Nat} {o : Og} (ho : os[i]? = some o) (nm : ByteArray) (hn : nm ∉ nms o.path) (hsz : nm.size ≤ maxLen) :
    ∀ W, Kx [] w W → Calls Tryz.prog 25 #[.pointer (some ⟨o.b, 0, none⟩), .agg #[.string nm, .int .u32 0, .bool false]] W fun e w' => e = .returned (.tuple #[noP, .bool false]) ∧ Kx [] W w' := by
  intro W hW
  obtain ⟨z, hz⟩ := h.tree.find_no (h.obj i o ho).2.1 hsz hn
  exact own_no o.b o.S nm 0 z W (h.cellK ho hW 5 rfl) (fun W2 h2 => hz W2 (hW.same h2))
theorem HSt.defObj {w : World} {n0 O H : Nat} {hv : Value} {S0 B : Nat} {F : List Nat} {ps : List (Nat × List Stp)} {os : List Og} (h : HSt w n0 O H hv S0 B F ps os) {i : Nat} {o : Og} (ho : os[i]? = some o) (nm : ByteArray) (hn : nm ∉ nms o.path) (hsz : nm.size ≤ maxLen) (hB : B ≤ 900) (hp : o.path.length ≤ 900) (v : Vl) :
    ∀ W, Kx [] w W → Calls Tryz.prog 41 #[.pointer (some ⟨o.b, 0, none⟩), .agg #[.string nm, .int .u32 0, .bool false], .agg #[.bool true, .bool true, .bool true, .bool false, .int .i64 v.1, .float .f64 v.2.1, .string v.2.2, .pointer none, .pointer none, .pointer none, .bool true, .bool false, .bool false, .bool true, .bool true, .bool true]] W fun e w' => e = .returned .nilIface ∧ DefP w n0 O H hv S0 B F ps os i o nm v w' := by
  intro W hW
  obtain ⟨b1, b2, b3, b4, b5⟩ := h.obj i o ho
  obtain ⟨z, hz⟩ := h.tree.find_no b2 hsz hn
  refine (define_new o.b nm objC 0 true true true v.1 v.2.1 v.2.2 none none none (DefP w n0 O H hv S0 B F ps os i o nm v) W (fun W2 h2 => h.cellK ho (hW.same h2) 0 rfl) objC_no (fun W2 h2 => h.ownNo ho nm hn hsz W2 (hW.same h2)) ?_ ?_).mono ?_
  · intro W2 h2
    have hk := hW.same h2
    exact takes_no o.b objC false nm 0 false W2 (h.cellK ho hk 0 rfl) objC_no (h.cellK ho hk 2 rfl) (lt_get (hk.get b1 (by simp)))
  · intro W2 h2
    have hk : Kx [] w W2 := hW.same h2
    have h' := h.kept0 hk
    obtain ⟨c1, c2, c3, c4, c5⟩ := h'.obj i o ho
    refine (set_new o.b o.S n0 o.path.length nm 0 z true true true false v.1 v.2.1 v.2.2 none none none _ _ _ _ _ o.nv _ _ _ (propsL o.vs) F
      (fun S' w2 => ∃ F' ps', (∀ j ∈ F', j ∈ F ∨ w.heap.size ≤ j) ∧ Tree w2 (B + 1) F' ps' ∧ (S', o.path ++ [allS nm]) ∈ ps' ∧ ∀ q ∈ ps, q ∈ ps') W2 c1 c3 (by omega) (Nat.le_trans h.n0w hk.size) h'.tree.low (h.fB i o ho) (fun g hg => h.fR i o ho g hg) (fun W3 h3 => hz W3 (hk.same h3)) ?_).mono ?_
    · intro W3 h3
      refine ((h'.tree.kept0 h3).after c2 (allS nm) hsz hn hB).mono ?_
      rintro e w' ⟨S', rfl, k1, F', ps', k2, k3, k4, k5⟩
      refine ⟨S', rfl, k1, F', ps', fun j hj => ?_, k3, k4, k5⟩
      rcases k2 j hj with e | e
      · exact .inl e
      · exact .inr (Nat.le_trans (Nat.le_trans hk.size h3.size) e)
    · rintro e w' ⟨hu, S', w2, v', k1, ⟨F', ps', k2, k3, k4, k5⟩, k6, k7, k8, k9⟩
      refine ⟨hu, cell_at k6 0 rfl, ?_⟩
      exact h.grown ho ((hk.mono (fun j hj => by cases hj)).same k1) k9 k2 k3 k4 k5 k6 k7 k8
  · rintro e w' ⟨rfl, W2, q, ⟨S', nv', F', ps', k1, k2, k3, k4⟩, rfl⟩
    exact ⟨rfl, S', nv', F', ps', k1.kept0 (Kx.drewN _ _ _), k2, ⟨k3.os, k3.tape, k3.output, k3.size, k3.block⟩, fun x hx => ⟨(k4 x hx).1.kept0 (Nat.le_refl _), (k4 x hx).2⟩⟩
theorem HSt.define {w : World} {n0 O H : Nat} {hv : Value} {S0 B : Nat} {F : List Nat} {ps : List (Nat × List Stp)} {os : List Og} (h : HSt w n0 O H hv S0 B F ps os) {i : Nat} {o : Og} (ho : os[i]? = some o) (s : ByteArray) (hs : s.size ≤ 2000000) (hx : ixOf (unitsS s) < 0) (hn : txt (unitsS s) ∉ nms o.path) (hsz : (txt (unitsS s)).size ≤ maxLen) (hB : B ≤ 900) (hp : o.path.length ≤ 900) (hT : Lib.Utf8Tabs 2 3 w) (k rf g st : Int) (x : Nat) (tx : ByteArray) (v : Vl)
    (cV : ∀ W, Kx [] w W → Calls Tryz.prog 61 #[.pointer (some ⟨O, 0, none⟩), .agg #[.int .i64 k, .float .f64 x, .string tx, .int .i64 rf]] W fun e w' => e = .returned (.tuple #[.agg #[.int .i64 v.1, .float .f64 v.2.1, .string v.2.2, .pointer none], .bool true]) ∧ Kx [] W w') :
    Calls Tryz.prog 7 #[.pointer (some ⟨O, 0, none⟩), .int .i64 ((i : Int) + 1), .string s, .agg #[.bool true, .bool false, .bool false, .bool true, .bool true, .bool true, .int .i64 k, .float .f64 x, .string tx, .int .i64 rf, .int .i64 g, .int .i64 st, .bool true, .bool true, .bool true]] w fun e w' => e = .returned (.int .i64 0) ∧ DefP w n0 O H hv S0 B F ps os i o (txt (unitsS s)) v w' := by
  have hne : os ≠ [] := by rintro rfl; simp at ho
  refine (define_plain O ((i : Int) + 1) s true false false true true true true true true k rf g st x tx (DefP w n0 O H hv S0 B F ps os i o (txt (unitsS s)) v) w ?_).mono ?_
  · intro W hW
    have h' := h.kept0 hW
    refine define_face O H o.b (os.map Og.b) ((i : Int) + 1) s (txt (unitsS s)) 0 false true false false true true true true true true k rf g st x tx true true true false v.1 v.2.1 v.2.2 none none none true false false true true true _ W h'.O0 (h'.objs hne) (by omega) (by rw [toNat_succ, List.getElem?_map, ho]; rfl) ?_ ?_ ?_
    · intro W2 h2
      exact told_val O true true true true true true k v.1 rf g st x v.2.1 tx v.2.2 none W2 (fun W3 h3 => cV W3 ((hW.same h2).same h3))
    · intro W2 h2
      exact key_name s hs hx w hT W2 (hW.same h2)
    · intro W2 h2
      exact h.defObj ho (txt (unitsS s)) hn hsz hB hp v W2 (hW.same h2)
  · rintro e w' ⟨rfl, W, ⟨S', nv', F', ps', k1, k2, k3, k4⟩, hk⟩
    exact ⟨rfl, S', nv', F', ps', k1.kept0 hk, k2, k3.trans (hk.below k1.n0w (by simp)), fun x hx => ⟨(k4 x hx).1.kept0 hk.size, (hk.block x (k4 x hx).1.1 (by simp)).trans (k4 x hx).2⟩⟩
/-- What is told of a property or of none. -/
def DescIs (e : Ending) (has : Bool) : Prop := ∃ h3 h4 h5 p0 p1 p2 : Bool, ∃ (k : Int) (x : Nat) (tx : ByteArray), e = .returned (.tuple #[.agg #[.bool has, .bool false, .bool false, .bool h3, .bool h4, .bool h5, .int .i64 k, .float .f64 x, .string tx, .int .i64 0, .int .i64 0, .int .i64 0, .bool p0, .bool p1, .bool p2], .bool has])
theorem HSt.ownYes {w : World} {n0 O H : Nat} {hv : Value} {S0 B : Nat} {F : List Nat} {ps : List (Nat × List Stp)} {os : List Og} (h : HSt w n0 O H hv S0 B F ps os) {i : Nat} {o : Og} (ho : os[i]? = some o) (nm : ByteArray) {j : Nat} (hj : (nms o.path)[j]? = some nm) (hp : o.path.length ≤ 900) :
    ∃ v : Vl, ∀ W, Kx [] w W → Calls Tryz.prog 25 #[.pointer (some ⟨o.b, 0, none⟩), .agg #[.string nm, .int .u32 0, .bool false]] W fun e w' => e = .returned (.tuple #[.agg #[.bool true, .bool true, .bool true, .bool false, .int .i64 v.1, .float .f64 v.2.1, .string v.2.2, .pointer none, .pointer none, .pointer none], .bool true]) ∧ Kx [] W w' := by
  obtain ⟨b1, b2, b3, b4, b5⟩ := h.obj i o ho
  have hjl : j < o.path.length := by
    have := (List.getElem?_eq_some_iff.1 hj).1
    rwa [nms_len] at this
  obtain ⟨v, hv1⟩ : ∃ v, o.vs[j]? = some v := ⟨_, List.getElem?_eq_getElem (by omega)⟩
  refine ⟨v, fun W hW => ?_⟩
  have h' := h.kept0 hW
  obtain ⟨c1, c2, c3, c4, c5⟩ := h'.obj i o ho
  obtain ⟨g, cap, e⟩ := ownsRow_pos (by omega) c3
  have cc : ∀ (t : Nat) (u : Value), t < 10 → (propL v)[t]? = some u → W.cell? ⟨g, j * 10 + t, none⟩ = some u := by
    intro t u ht hu
    have := c3.cells (g := g) (by rw [e]; rfl) (j * 10 + t) u (by rw [show propsL o.vs = o.vs.flatMap propL from rfl, flat_get propL 10 (fun _ => rfl) o.vs j v t hv1 ht]; exact hu)
    rw [Addr.add_lit, Nat.zero_add] at this
    exact this
  exact own_yes o.b o.S j o.path.length cap g hjl (by omega) true true true false v.1 v.2.1 v.2.2 none none none nm 0 W (by rw [h.cellK ho hW 6 rfl, e]; rfl) (cc 0 _ (by decide) rfl) (cc 1 _ (by decide) rfl) (cc 2 _ (by decide) rfl) (cc 3 _ (by decide) rfl) (cc 4 _ (by decide) rfl) (cc 5 _ (by decide) rfl) (cc 6 _ (by decide) rfl) (cc 7 _ (by decide) rfl) (cc 8 _ (by decide) rfl) (cc 9 _ (by decide) rfl) (h.cellK ho hW 5 rfl) (fun W2 h2 => (h'.tree.kept0 h2).find_yes c2 hj)
theorem HSt.own {w : World} {n0 O H : Nat} {hv : Value} {S0 B : Nat} {F : List Nat} {ps : List (Nat × List Stp)} {os : List Og} (h : HSt w n0 O H hv S0 B F ps os) {i : Nat} {o : Og} (ho : os[i]? = some o) (s : ByteArray) (hs : s.size ≤ 2000000) (hsz : (txt (unitsS s)).size ≤ maxLen) (hp : o.path.length ≤ 900) (hT : Lib.Utf8Tabs 2 3 w) (has : Bool) (hh : has = true ↔ (ixOf (unitsS s) < 0 ∧ txt (unitsS s) ∈ nms o.path)) :
    Calls Tryz.prog 10 #[.pointer (some ⟨O, 0, none⟩), .int .i64 ((i : Int) + 1), .string s] w fun e w' => DescIs e has ∧ Kx [] w w' := by
  have hne : os ≠ [] := by rintro rfl; simp at ho
  have hb : (os.map Og.b)[(((i : Int) + 1) - 1).toNat]? = some o.b := by rw [toNat_succ, List.getElem?_map, ho]; rfl
  by_cases hx : ixOf (unitsS s) < 0
  · by_cases hm : txt (unitsS s) ∈ nms o.path
    · have e0 : has = true := hh.2 ⟨hx, hm⟩
      subst e0
      obtain ⟨j, hj⟩ := List.getElem?_of_mem hm
      obtain ⟨v, cO⟩ := h.ownYes ho (txt (unitsS s)) hj hp
      refine (ownF_yes O H o.b (os.map Og.b) ((i : Int) + 1) s (txt (unitsS s)) 0 false true true true v.1 v.2.1 v.2.2 none none w h.O0 (h.objs hne) (by omega) hb (key_name s hs hx w hT) cO).mono ?_
      rintro e w' ⟨rfl, hk⟩
      exact ⟨⟨_, _, _, _, _, _, _, _, _, rfl⟩, hk⟩
    · have e0 : has = false := by
        cases has with
        | false => rfl
        | true => exact absurd (hh.1 rfl).2 hm
      subst e0
      refine (ownF_no O H o.b (os.map Og.b) ((i : Int) + 1) s (txt (unitsS s)) 0 false w h.O0 (h.objs hne) (by omega) hb (key_name s hs hx w hT) (h.ownNo ho _ hm hsz)).mono ?_
      rintro e w' ⟨rfl, hk⟩
      exact ⟨⟨_, _, _, _, _, _, _, _, _, rfl⟩, hk⟩
  · have e0 : has = false := by
      cases has with
      | false => rfl
      | true => exact absurd (hh.1 rfl).1 hx
    subst e0
    refine (ownF_no O H o.b (os.map Og.b) ((i : Int) + 1) s ⟨#[]⟩ (ixOf (unitsS s)) true w h.O0 (h.objs hne) (by omega) hb (key_place s hs hx w hT) (fun W hW => own_place o.b none 0 ⟨#[]⟩ (ixOf (unitsS s)) (by omega) (ix_lt _) W (h.cellK ho hW 7 rfl) (h.cellK ho hW 8 rfl))).mono ?_
    rintro e w' ⟨rfl, hk⟩
    exact ⟨⟨_, _, _, _, _, _, _, _, _, rfl⟩, hk⟩
end Go.Proofs.YtdnjgemaenhcfaaGreatDoor
