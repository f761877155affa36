/- Define, of a name that the object has not. -/
import Derived.Test.YtmicdbplkfdfnaaGreatDoorDHq8x
import Derived.Test.YtmicdbplkfdfnaaGreatDoorCHo3x
set_option linter.unusedVariables false
namespace Go.Proofs.YtmicdbplkfdfnaaGreatDoor
open Go.RowKit Go.Shelf Go.Maps

theorem tabs_kx {w W : World} (hT : Lib.Utf8Tabs 2 3 w) (hk : Kx [] w W) : Lib.Utf8Tabs 2 3 W := tabs_below hT (hk.below (Nat.le_refl _) (by simp))
theorem key_name (s : ByteArray) (hs : s.size ≤ 2000000) (hx : ixOf (unitsS s) < 0) (w : World) (hT : Lib.Utf8Tabs 2 3 w) :
    ∀ W, Kx [] w W → Calls Tryz.prog 26 #[.string s] W fun e w' => e = .returned (.agg #[.string (txt (unitsS s)), .int .u32 0, .bool false]) ∧ Kx [] W w' := by
  intro W hW
  have c := keyOf_any s hs W (tabs_kx hT hW)
  unfold keyN keyP keyI at c
  rw [if_pos hx, if_pos hx, decide_eq_true hx] at c
  exact c.mono fun e w' ⟨h1, h2⟩ => ⟨h1, Kx.ofBelow h2 []⟩
theorem key_place (s : ByteArray) (hs : s.size ≤ 2000000) (hx : ¬ ixOf (unitsS s) < 0) (w : World) (hT : Lib.Utf8Tabs 2 3 w) :
    ∀ W, Kx [] w W → Calls Tryz.prog 26 #[.string s] W fun e w' => e = .returned (.agg #[.string ⟨#[]⟩, .int .u32 (ixOf (unitsS s)), .bool true]) ∧ Kx [] W w' := by
  intro W hW
  have c := keyOf_any s hs W (tabs_kx hT hW)
  unfold keyN keyP keyI at c
  rw [if_neg hx, if_neg hx, decide_eq_false hx] at c
  exact c.mono fun e w' ⟨h1, h2⟩ => ⟨h1, Kx.ofBelow h2 []⟩
theorem objC_no : (objC.toList == [65, 114, 114, 97, 121]) = false := by decide +kernel
def allS (nm : ByteArray) : Stp := (nm, true, true, true, false)
/-- A block that is none of the heap's. -/
def Free (w : World) (F : List Nat) (H : Nat) (hv : Value) (os : List Og) (x : Nat) : Prop := x < w.heap.size ∧ x ∉ F ∧ x ≠ H ∧ (∀ g, hv.ownBlock = some g → x ≠ g) ∧ ∀ (i : Nat) (o : Og), os[i]? = some o → x ≠ o.b ∧ ∀ g, o.nv.ownBlock = some g → x ≠ g
theorem Free.kept0 {w w' : World} {F : List Nat} {H : Nat} {hv : Value} {os : List Og} {x : Nat} (h : Free w F H hv os x) (hk : w.heap.size ≤ w'.heap.size) : Free w' F H hv os x := ⟨Nat.lt_of_lt_of_le h.1 hk, h.2⟩
/-- What stands behind Define. -/
def DefP (w : World) (n0 O H : Nat) (hv : Value) (S0 B : Nat) (F : List Nat) (ps : List (Nat × List Stp)) (os : List Og) (i : Nat) (o : Og) (nm : ByteArray) (v : Vl) (w' : World) : Prop :=
  ∃ S' nv' F' ps', HSt w' n0 O H hv S0 (B + 1) F' ps' (os.set i ⟨o.b, S', o.path ++ [allS nm], nv', o.vs ++ [v]⟩) ∧ (∀ q ∈ ps, q ∈ ps') ∧ Below n0 w w' ∧ ∀ x, Free w F H hv os x → Free w' F' H hv (os.set i ⟨o.b, S', o.path ++ [allS nm], nv', o.vs ++ [v]⟩) x ∧ w'.heap[x]? = w.heap[x]?
theorem HSt.grown {w w' : World} {n0 O H : Nat} {hv : Value} {S0 B : Nat} {F : List Nat} {ps : List (Nat × List Stp)} {os : List Og} (h : HSt w n0 O H hv S0 B F ps os) {i : Nat} {o : Og} (ho : os[i]? = some o) {nm : ByteArray} {v : Vl}
    {S' : Nat} {nv' : Value} {F' : List Nat} {ps' : List (Nat × List Stp)} {w2 : World} (k1 : Kx F w w2) (k2 : Kx (o.b :: o.nv.ownBlock.toList) w2 w')
    (hF : ∀ j ∈ F', j ∈ F ∨ w.heap.size ≤ j) (ht : Tree w2 (B + 1) F' ps') (hm : (S', o.path ++ [allS nm]) ∈ ps') (hps : ∀ q ∈ ps, q ∈ ps')
    (hb : w'.heap[o.b]? = some (.cells (obV ((i : Int) + 1) S' nv') 111 (0, 0))) (hr : w'.ownsRow n0 75 10 nv' (o.path.length + 1) (propsL o.vs ++ propL v)) (hfr : ∀ g, nv'.ownBlock = some g → o.nv.ownBlock = some g ∨ w2.heap.size ≤ g) :
    DefP w n0 O H hv S0 B F ps os i o nm v w' := by
  obtain ⟨b1, b2, b3, b4, b5⟩ := h.obj i o ho
  obtain ⟨a1, a2, a3, a4, a5⟩ := h.bO ho
  have hlb := lt_get b1
  have hT : ∀ j ∈ F', j ∉ o.b :: o.nv.ownBlock.toList := by
    intro j hj hm2
    simp only [List.mem_cons] at hm2
    rcases hF j hj with e | e
    · rcases hm2 with rfl | hm2
      · exact h.fB i o ho e
      · exact h.fR i o ho j (by simpa using hm2) e
    · rcases hm2 with rfl | hm2
      · omega
      · have := (b3.lt j (by simpa using hm2)).2
        omega
  have K : Kx (F ++ o.b :: o.nv.ownBlock.toList) w w' := (k1.mono (fun j hj => .inl (by simp [hj]))).trans k2 (fun j hj => .inl (List.mem_append_right _ hj))
  have nK : ∀ j, j ∉ F → j ≠ o.b → (∀ g, o.nv.ownBlock = some g → j ≠ g) → j ∉ F ++ o.b :: o.nv.ownBlock.toList := by
    intro j e1 e2 e3 hm2
    simp only [List.mem_append, List.mem_cons] at hm2
    rcases hm2 with hm2 | hm2 | hm2
    · exact e1 hm2
    · exact e2 hm2
    · exact e3 j (by simpa using hm2) rfl
  have low : ∀ j ∈ F', j < w.heap.size → j ∈ F := fun j hj hl => by
    rcases hF j hj with e | e
    · exact e
    · omega
  have getS : ∀ (j : Nat) (o2 : Og), (os.set i ⟨o.b, S', o.path ++ [allS nm], nv', o.vs ++ [v]⟩)[j]? = some o2 → (j = i ∧ o2 = ⟨o.b, S', o.path ++ [allS nm], nv', o.vs ++ [v]⟩) ∨ (j ≠ i ∧ os[j]? = some o2) := by
    intro j o2 h2
    rw [List.getElem?_set] at h2
    by_cases e : i = j
    · rw [if_pos e] at h2
      split at h2
      · exact .inl ⟨e.symm, (Option.some.inj h2).symm⟩
      · cases h2
    · rw [if_neg e] at h2
      exact .inr ⟨fun e2 => e e2.symm, h2⟩
  have obR : ∀ (j : Nat) (o2 : Og), os[j]? = some o2 → j ≠ i → o2.b ≠ o.b ∧ (∀ g, o.nv.ownBlock = some g → o2.b ≠ g) ∧ ∀ g, o2.nv.ownBlock = some g → g ≠ o.b ∧ ∀ g', o.nv.ownBlock = some g' → g ≠ g' := by
    intro j o2 h2 hne
    obtain ⟨c1, c2, c3, c4⟩ := h.obj j o2 h2
    refine ⟨fun e => hne (h.dB j i o2 o h2 ho e), fun g hg e => owns_ne b3 c1 (by decide) g hg e.symm, fun g hg => ⟨fun e => owns_ne c3 b1 (by decide) g hg e, fun g' hg' e => hne (h.dR j i o2 o g h2 ho hg (by rw [e]; exact hg'))⟩⟩
  refine ⟨S', nv', F', ps', ?_, hps, K.below h.n0w ?_, ?_⟩
  · refine { face := ?_, heap := ?_, row := ?_, obj := ?_, tree := ht.kept k2 hT, root := hps _ h.root, dB := ?_, dR := ?_, fO := ?_, fH := ?_, fV := ?_, fB := ?_, fR := ?_, hi := ?_, hH := h.hH, len := by rw [List.length_set]; exact h.len, n0w := Nat.le_trans h.n0w K.size }
    · exact K.get h.face (nK O h.fO a1 (fun g hg => (a4 g hg).1))
    · rw [List.length_set]
      exact K.get h.heap (nK H h.fH a2 (fun g hg => (a4 g hg).2.1))
    · rw [List.length_set]
      have e : (os.set i ⟨o.b, S', o.path ++ [allS nm], nv', o.vs ++ [v]⟩).map Og.b = os.map Og.b := by
        rw [List.map_set]
        apply List.ext_getElem?
        intro j
        rw [List.getElem?_set]
        by_cases e : i = j
        · subst e
          rw [if_pos rfl, List.getElem?_map, ho]
          have := (List.getElem?_eq_some_iff.1 ho).1
          simp [this]
        · rw [if_neg e]
      rw [e]
      exact K.owns h.row (fun g hg => nK g (h.fV g hg) (a3 g hg) (fun g' hg' => a5 g' g hg' hg))
    · intro j o2 h2
      rcases getS j o2 h2 with ⟨rfl, rfl⟩ | ⟨hne, h3⟩
      · refine ⟨hb, hm, ?_, by simp [b4], b5⟩
        rw [propsL_snoc]
        simpa using hr
      · obtain ⟨c1, c2, c3, c4, c5⟩ := h.obj j o2 h3
        obtain ⟨d1, d2, d3⟩ := obR j o2 h3 hne
        exact ⟨K.get c1 (nK _ (h.fB j o2 h3) d1 d2), hps _ c2, K.owns c3 (fun g hg => nK g (h.fR j o2 h3 g hg) (d3 g hg).1 (d3 g hg).2), c4, c5⟩
    · intro j j' o2 o3 h2 h3 e
      rcases getS j o2 h2 with ⟨rfl, rfl⟩ | ⟨hne, h2'⟩ <;> rcases getS j' o3 h3 with ⟨rfl, rfl⟩ | ⟨hne', h3'⟩
      · rfl
      · exact absurd e.symm (obR j' o3 h3' hne').1
      · exact absurd e (obR j o2 h2' hne).1
      · exact h.dB j j' o2 o3 h2' h3' e
    · intro j j' o2 o3 g h2 h3 e e'
      have fresh : ∀ (q : Nat) (o4 : Og), os[q]? = some o4 → q ≠ i → o4.nv.ownBlock = some g → nv'.ownBlock ≠ some g := by
        intro q o4 h4 hq hg hc
        rcases hfr g hc with h5 | h5
        · exact hq (h.dR q i o4 o g h4 ho hg h5)
        · have := ((h.obj q o4 h4).2.2.1.lt g hg).2
          have := k1.size
          omega
      rcases getS j o2 h2 with ⟨rfl, rfl⟩ | ⟨hne, h2'⟩ <;> rcases getS j' o3 h3 with ⟨rfl, rfl⟩ | ⟨hne', h3'⟩
      · rfl
      · exact absurd e (fresh j' o3 h3' hne' e')
      · exact absurd e' (fresh j o2 h2' hne e)
      · exact h.dR j j' o2 o3 g h2' h3' e e'
    · exact fun hc => h.fO (low O hc (lt_get h.face))
    · exact fun hc => h.fH (low H hc (lt_get h.heap))
    · exact fun g hg hc => h.fV g hg (low g hc (h.row.lt g hg).2)
    · intro j o2 h2 hc
      rcases getS j o2 h2 with ⟨rfl, rfl⟩ | ⟨hne, h3⟩
      · exact h.fB j o ho (low _ hc hlb)
      · exact h.fB j o2 h3 (low _ hc (lt_get (h.obj j o2 h3).1))
    · intro j o2 h2 g hg hc
      rcases getS j o2 h2 with ⟨rfl, rfl⟩ | ⟨hne, h3⟩
      · rcases hfr g hg with h5 | h5
        · exact hT g hc (by simp [h5])
        · have := ht.low g hc
          omega
      · exact h.fR j o2 h3 g hg (low g hc ((h.obj j o2 h3).2.2.1.lt g hg).2)
    · intro j hj
      rcases hF j hj with e | e
      · exact h.hi j e
      · exact Nat.le_trans h.n0w e
  · intro j hj
    simp only [List.mem_append, List.mem_cons] at hj
    rcases hj with hj | rfl | hj
    · exact h.hi j hj
    · exact b5
    · exact (b3.lt j (by simpa using hj)).1
  · rintro x ⟨f1, f2, f3, f4, f5⟩
    refine ⟨⟨Nat.lt_of_lt_of_le f1 K.size, fun hc => f2 (low x hc f1), f3, f4, ?_⟩, K.block x f1 (nK x f2 (f5 i o ho).1 (f5 i o ho).2)⟩
    intro j o2 h2
    rcases getS j o2 h2 with ⟨rfl, rfl⟩ | ⟨hne, h3⟩
    · refine ⟨(f5 j o ho).1, fun g hg => ?_⟩
      rcases hfr g hg with e | e
      · exact (f5 j o ho).2 g e
      · have := k1.size
        omega
    · exact f5 j o2 h3
end Go.Proofs.YtmicdbplkfdfnaaGreatDoor
/- plain.Define, plain.Make, Own, Same, Keys, plain.Delete at the state. -/
set_option linter.unusedVariables false
namespace Go.Proofs.YtmicdbplkfdfnaaGreatDoor
open Go.RowKit Go.Shelf Go.Maps

theorem ix_lt (us : List Nat) : ixOf us < 4294967296 := by
  unfold ixOf
  split
  · omega
  · split
    · split <;> omega
    · omega
theorem toNat_succ (i : Nat) : (((i : Int) + 1) - 1).toNat = i := by omega
theorem HSt.cellK {w W : World} {n0 O H : Nat} {hv : Value} {S0 B : Nat} {F : List Nat} {ps : List (Nat × List Stp)} {os : List Og} (h : HSt w n0 O H hv S0 B F ps os) {i : Nat} {o : Og} (ho : os[i]? = some o) (hk : Kx [] w W) (j : Nat) {u : Value} (hu : (obV ((i : Int) + 1) o.S o.nv)[j]? = some u) : W.cell? ⟨o.b, j, none⟩ = some u :=
  cell_at (hk.get (h.obj i o ho).1 (by simp)) j hu
theorem HSt.ownNo {w : World} {n0 O H : Nat} {hv : Value} {S0 B : Nat} {F : List Nat} {ps : List (Nat × List Stp)} {os : List Og} (h : HSt w n0 O H hv S0 B F ps os) {i : Nat} {o : Og} (ho : os[i]? = some o) (nm : ByteArray) (hn : nm ∉ nms o.path) (hsz : nm.size ≤ maxLen) :
    ∀ W, Kx [] w W → Calls Tryz.prog 25 #[.pointer (some ⟨o.b, 0, none⟩), .agg #[.string nm, .int .u32 0, .bool false]] W fun e w' => e = .returned (.tuple #[noP, .bool false]) ∧ Kx [] W w' := by
  intro W hW
  obtain ⟨z, hz⟩ := h.tree.find_no (h.obj i o ho).2.1 hsz hn
  exact own_no o.b o.S nm 0 z W (h.cellK ho hW 5 rfl) (fun W2 h2 => hz W2 (hW.same h2))
theorem HSt.defObj {w : World} {n0 O H : Nat} {hv : Value} {S0 B : Nat} {F : List Nat} {ps : List (Nat × List Stp)} {os : List Og} (h : HSt w n0 O H hv S0 B F ps os) {i : Nat} {o : Og} (ho : os[i]? = some o) (nm : ByteArray) (hn : nm ∉ nms o.path) (hsz : nm.size ≤ maxLen) (hB : B ≤ 900) (hp : o.path.length ≤ 900) (v : Vl) :
    ∀ W, Kx [] w W → Calls Tryz.prog 41 #[.pointer (some ⟨o.b, 0, none⟩), .agg #[.string nm, .int .u32 0, .bool false], .agg #[.bool true, .bool true, .bool true, .bool false, .int .i64 v.1, .float .f64 v.2.1, .string v.2.2, .pointer none, .pointer none, .pointer none, .bool true, .bool false, .bool false, .bool true, .bool true, .bool true]] W fun e w' => e = .returned .nilIface ∧ DefP w n0 O H hv S0 B F ps os i o nm v w' := by
  intro W hW
  obtain ⟨b1, b2, b3, b4, b5⟩ := h.obj i o ho
  obtain ⟨z, hz⟩ := h.tree.find_no b2 hsz hn
  have hTT : ∀ j ∈ o.b :: (F ++ o.nv.ownBlock.toList), j < W.heap.size := by
    intro j hj
    refine Nat.lt_of_lt_of_le ?_ hW.size
    rcases List.mem_cons.1 hj with rfl | hj
    · exact lt_get b1
    · rcases List.mem_append.1 hj with hj | hj
      · exact h.tree.low j hj
      · exact (b3.lt j (by simpa using hj)).2
  refine (define_new o.b nm objC 0 true true true v.1 v.2.1 v.2.2 none (o.b :: (F ++ o.nv.ownBlock.toList)) (DefP w n0 O H hv S0 B F ps os i o nm v) W hTT (fun W2 h2 => h.cellK ho (hW.same h2) 0 rfl) objC_no (fun W2 h2 => h.ownNo ho nm hn hsz W2 (hW.same h2)) ?_ ?_).mono ?_
  · intro W2 h2
    have hk := hW.same h2
    exact takes_no o.b objC false nm 0 false W2 (h.cellK ho hk 0 rfl) objC_no (h.cellK ho hk 2 rfl) (lt_get (hk.get b1 (by simp)))
  · intro W2 h2
    have hk : Kx [] w W2 := hW.same h2
    have h' := h.kept0 hk
    obtain ⟨c1, c2, c3, c4, c5⟩ := h'.obj i o ho
    refine (set_new o.b o.S n0 o.path.length nm 0 z true true true false v.1 v.2.1 v.2.2 none none none _ _ _ _ _ o.nv _ _ _ (propsL o.vs) F
      (fun S' w2 => ∃ F' ps', (∀ j ∈ F', j ∈ F ∨ w.heap.size ≤ j) ∧ Tree w2 (B + 1) F' ps' ∧ (S', o.path ++ [allS nm]) ∈ ps' ∧ ∀ q ∈ ps, q ∈ ps') W2 c1 c3 (by omega) (Nat.le_trans h.n0w hk.size) h'.tree.low (h.fB i o ho) (fun g hg => h.fR i o ho g hg) (fun W3 h3 => hz W3 (hk.same h3)) ?_).mono ?_
    · intro W3 h3
      refine ((h'.tree.kept0 h3).after c2 (allS nm) hsz hn hB).mono ?_
      rintro e w' ⟨S', rfl, k1, F', ps', k2, k3, k4, k5⟩
      refine ⟨S', rfl, k1, F', ps', fun j hj => ?_, k3, k4, k5⟩
      rcases k2 j hj with e | e
      · exact .inl e
      · exact .inr (Nat.le_trans (Nat.le_trans hk.size h3.size) e)
    · rintro e w' ⟨hu, S', w2, v', k1, ⟨F', ps', k2, k3, k4, k5⟩, k6, k7, k8, k9⟩
      refine ⟨hu, (k1.mono (fun j hj => .inl (List.mem_cons_of_mem _ (List.mem_append_left _ hj)))).trans k9 (fun j hj => .inl (by
        rcases List.mem_cons.1 hj with rfl | hj
        · exact List.mem_cons_self ..
        · exact List.mem_cons_of_mem _ (List.mem_append_right _ hj))), cell_at k6 0 rfl, ?_⟩
      exact h.grown ho ((hk.mono (fun j hj => by cases hj)).same k1) k9 k2 k3 k4 k5 k6 k7 k8
  · rintro e w' ⟨rfl, W2, q, ⟨S', nv', F', ps', k1, k2, k3, k4⟩, rfl⟩
    exact ⟨rfl, S', nv', F', ps', k1.kept0 (Kx.drewN _ _ _), k2, ⟨k3.os, k3.tape, k3.output, k3.size, k3.block⟩, fun x hx => ⟨(k4 x hx).1.kept0 (Nat.le_refl _), (k4 x hx).2⟩⟩
theorem HSt.define {w : World} {n0 O H : Nat} {hv : Value} {S0 B : Nat} {F : List Nat} {ps : List (Nat × List Stp)} {os : List Og} (h : HSt w n0 O H hv S0 B F ps os) {i : Nat} {o : Og} (ho : os[i]? = some o) (s : ByteArray) (hs : s.size ≤ 2000000) (hx : ixOf (unitsS s) < 0) (hn : txt (unitsS s) ∉ nms o.path) (hsz : (txt (unitsS s)).size ≤ maxLen) (hB : B ≤ 900) (hp : o.path.length ≤ 900) (hT : Lib.Utf8Tabs 2 3 w) (k rf g st : Int) (x : Nat) (tx : ByteArray) (v : Vl)
    (cV : ∀ W, Kx [] w W → Calls Tryz.prog 63 #[.pointer (some ⟨O, 0, none⟩), .agg #[.int .i64 k, .float .f64 x, .string tx, .int .i64 rf]] W fun e w' => e = .returned (.tuple #[.agg #[.int .i64 v.1, .float .f64 v.2.1, .string v.2.2, .pointer none], .bool true]) ∧ Kx [] W w') :
    Calls Tryz.prog 7 #[.pointer (some ⟨O, 0, none⟩), .int .i64 ((i : Int) + 1), .string s, .agg #[.bool true, .bool false, .bool false, .bool true, .bool true, .bool true, .int .i64 k, .float .f64 x, .string tx, .int .i64 rf, .int .i64 g, .int .i64 st, .bool true, .bool true, .bool true]] w fun e w' => e = .returned (.int .i64 0) ∧ DefP w n0 O H hv S0 B F ps os i o (txt (unitsS s)) v w' := by
  have hne : os ≠ [] := by rintro rfl; simp at ho
  refine (define_plain O ((i : Int) + 1) s true false false true true true true true true k rf g st x tx (DefP w n0 O H hv S0 B F ps os i o (txt (unitsS s)) v) w ?_).mono ?_
  · intro W hW
    have h' := h.kept0 hW
    refine define_face O H o.b (os.map Og.b) ((i : Int) + 1) s (txt (unitsS s)) 0 false true false false true true true true true true k rf g st x tx true true true false v.1 v.2.1 v.2.2 none none none true false false true true true _ W h'.O0 (h'.objs hne) (by omega) (by rw [toNat_succ, List.getElem?_map, ho]; rfl) ?_ ?_ ?_
    · intro W2 h2
      exact told_val O true true true true true true k v.1 rf g st x v.2.1 tx v.2.2 none W2 (fun W3 h3 => cV W3 ((hW.same h2).same h3))
    · intro W2 h2
      exact key_name s hs hx w hT W2 (hW.same h2)
    · intro W2 h2
      exact h.defObj ho (txt (unitsS s)) hn hsz hB hp v W2 (hW.same h2)
  · rintro e w' ⟨rfl, W, ⟨S', nv', F', ps', k1, k2, k3, k4⟩, hk⟩
    exact ⟨rfl, S', nv', F', ps', k1.kept0 hk, k2, k3.trans (hk.below k1.n0w (by simp)), fun x hx => ⟨(k4 x hx).1.kept0 hk.size, (hk.block x (k4 x hx).1.1 (by simp)).trans (k4 x hx).2⟩⟩
/-- What is told of a property or of none. -/
def DescIs (e : Ending) (has : Bool) : Prop := ∃ h3 h4 h5 p0 p1 p2 : Bool, ∃ (k : Int) (x : Nat) (tx : ByteArray), e = .returned (.tuple #[.agg #[.bool has, .bool false, .bool false, .bool h3, .bool h4, .bool h5, .int .i64 k, .float .f64 x, .string tx, .int .i64 0, .int .i64 0, .int .i64 0, .bool p0, .bool p1, .bool p2], .bool has])
theorem HSt.ownYes {w : World} {n0 O H : Nat} {hv : Value} {S0 B : Nat} {F : List Nat} {ps : List (Nat × List Stp)} {os : List Og} (h : HSt w n0 O H hv S0 B F ps os) {i : Nat} {o : Og} (ho : os[i]? = some o) (nm : ByteArray) {j : Nat} (hj : (nms o.path)[j]? = some nm) (hp : o.path.length ≤ 900) :
    ∃ v : Vl, ∀ W, Kx [] w W → Calls Tryz.prog 25 #[.pointer (some ⟨o.b, 0, none⟩), .agg #[.string nm, .int .u32 0, .bool false]] W fun e w' => e = .returned (.tuple #[.agg #[.bool true, .bool true, .bool true, .bool false, .int .i64 v.1, .float .f64 v.2.1, .string v.2.2, .pointer none, .pointer none, .pointer none], .bool true]) ∧ Kx [] W w' := by
  obtain ⟨b1, b2, b3, b4, b5⟩ := h.obj i o ho
  have hjl : j < o.path.length := by
    have := (List.getElem?_eq_some_iff.1 hj).1
    rwa [nms_len] at this
  obtain ⟨v, hv1⟩ : ∃ v, o.vs[j]? = some v := ⟨_, List.getElem?_eq_getElem (by omega)⟩
  refine ⟨v, fun W hW => ?_⟩
  have h' := h.kept0 hW
  obtain ⟨c1, c2, c3, c4, c5⟩ := h'.obj i o ho
  obtain ⟨g, cap, e⟩ := ownsRow_pos (by omega) c3
  have cc : ∀ (t : Nat) (u : Value), t < 10 → (propL v)[t]? = some u → W.cell? ⟨g, j * 10 + t, none⟩ = some u := by
    intro t u ht hu
    have := c3.cells (g := g) (by rw [e]; rfl) (j * 10 + t) u (by rw [show propsL o.vs = o.vs.flatMap propL from rfl, flatS_get propL 10 (fun _ => rfl) o.vs j v t hv1 ht]; exact hu)
    rw [Addr.add_lit, Nat.zero_add] at this
    exact this
  exact own_yes o.b o.S j o.path.length cap g hjl (by omega) true true true false v.1 v.2.1 v.2.2 none none none nm 0 W (by rw [h.cellK ho hW 6 rfl, e]; rfl) (cc 0 _ (by decide) rfl) (cc 1 _ (by decide) rfl) (cc 2 _ (by decide) rfl) (cc 3 _ (by decide) rfl) (cc 4 _ (by decide) rfl) (cc 5 _ (by decide) rfl) (cc 6 _ (by decide) rfl) (cc 7 _ (by decide) rfl) (cc 8 _ (by decide) rfl) (cc 9 _ (by decide) rfl) (h.cellK ho hW 5 rfl) (fun W2 h2 => (h'.tree.kept0 h2).find_yes c2 hj)
theorem HSt.own {w : World} {n0 O H : Nat} {hv : Value} {S0 B : Nat} {F : List Nat} {ps : List (Nat × List Stp)} {os : List Og} (h : HSt w n0 O H hv S0 B F ps os) {i : Nat} {o : Og} (ho : os[i]? = some o) (s : ByteArray) (hs : s.size ≤ 2000000) (hsz : (txt (unitsS s)).size ≤ maxLen) (hp : o.path.length ≤ 900) (hT : Lib.Utf8Tabs 2 3 w) (has : Bool) (hh : has = true ↔ (ixOf (unitsS s) < 0 ∧ txt (unitsS s) ∈ nms o.path)) :
    Calls Tryz.prog 10 #[.pointer (some ⟨O, 0, none⟩), .int .i64 ((i : Int) + 1), .string s] w fun e w' => DescIs e has ∧ Kx [] w w' := by
  have hne : os ≠ [] := by rintro rfl; simp at ho
  have hb : (os.map Og.b)[(((i : Int) + 1) - 1).toNat]? = some o.b := by rw [toNat_succ, List.getElem?_map, ho]; rfl
  by_cases hx : ixOf (unitsS s) < 0
  · by_cases hm : txt (unitsS s) ∈ nms o.path
    · have e0 : has = true := hh.2 ⟨hx, hm⟩
      subst e0
      obtain ⟨j, hj⟩ := List.getElem?_of_mem hm
      obtain ⟨v, cO⟩ := h.ownYes ho (txt (unitsS s)) hj hp
      refine (ownF_yes O H o.b (os.map Og.b) ((i : Int) + 1) s (txt (unitsS s)) 0 false true true true v.1 v.2.1 v.2.2 none none w h.O0 (h.objs hne) (by omega) hb (key_name s hs hx w hT) cO).mono ?_
      rintro e w' ⟨rfl, hk⟩
      exact ⟨⟨_, _, _, _, _, _, _, _, _, rfl⟩, hk⟩
    · have e0 : has = false := by
        cases has with
        | false => rfl
        | true => exact absurd (hh.1 rfl).2 hm
      subst e0
      refine (ownF_no O H o.b (os.map Og.b) ((i : Int) + 1) s (txt (unitsS s)) 0 false w h.O0 (h.objs hne) (by omega) hb (key_name s hs hx w hT) (h.ownNo ho _ hm hsz)).mono ?_
      rintro e w' ⟨rfl, hk⟩
      exact ⟨⟨_, _, _, _, _, _, _, _, _, rfl⟩, hk⟩
  · have e0 : has = false := by
      cases has with
      | false => rfl
      | true => exact absurd (hh.1 rfl).1 hx
    subst e0
    refine (ownF_no O H o.b (os.map Og.b) ((i : Int) + 1) s ⟨#[]⟩ (ixOf (unitsS s)) true w h.O0 (h.objs hne) (by omega) hb (key_place s hs hx w hT) (fun W hW => own_at o.b none 0 ⟨#[]⟩ (ixOf (unitsS s)) (by omega) (ix_lt _) (.map none) none W (h.cellK ho hW 3 rfl) (h.cellK ho hW 7 rfl) (h.cellK ho hW 8 rfl) (looks_none _ _))).mono ?_
    rintro e w' ⟨rfl, hk⟩
    exact ⟨⟨_, _, _, _, _, _, _, _, _, rfl⟩, hk⟩
end Go.Proofs.YtmicdbplkfdfnaaGreatDoor
/- New, plain.Make, Same, Keys at the state. -/
set_option linter.unusedVariables false
namespace Go.Proofs.YtmicdbplkfdfnaaGreatDoor
open Go.RowKit Go.Shelf Go.Maps

theorem wNew_facts (w : World) : (wNew w).heap[w.heap.size]? = some (.map #[] 0) ∧ (wNew w).heap[w.heap.size + 1]? = some (.cells #[.slice none 0 0, .map (some w.heap.size), .int .i64 0] 121 (0, 0)) ∧ (wNew w).heap[w.heap.size + 1 + 1]? = some (.cells #[.pointer (some ⟨w.heap.size + 1, 0, none⟩), .int .i64 0, .pointer none, .map none, .bool false, .bool false] 118 (0, 0)) ∧
    (wNew w).heap[w.heap.size + 1 + 1 + 1]? = some (.cells #[.slice none 0 0, .int .i64 0, .int .i64 0, .int .i64 0, .pointer (some ⟨w.heap.size + 1 + 1, 0, none⟩), .int .i64 0, .int .i64 0] 91 (0, 0)) ∧ (wNew w).heap[w.heap.size + 1 + 1 + 1 + 1]? = some (.cells #[.pointer (some ⟨w.heap.size + 1 + 1 + 1, 0, none⟩)] 54 (0, 0)) ∧ Kx [] w (wNew w) ∧ (wNew w).heap.size = w.heap.size + 5 := by
  have e1 : (w.alloc (Obj.map #[] 0)).heap.size = w.heap.size + 1 := by simp
  have e2 : ((w.alloc (Obj.map #[] 0)).alloc (Obj.cells #[.slice none 0 0, .map (some w.heap.size), .int .i64 0] 121)).heap.size = w.heap.size + 1 + 1 := by simp
  have e3 := wShape_size w
  have e4 := wHeap_size w
  refine ⟨?_, ?_, ?_, ?_, ?_, ?_, ?_⟩
  · exact heap_old (heap_old (heap_old (heap_old (heap_alloc_new _ _) _) _) _) _
  · refine heap_old (heap_old (heap_old ?_ _) _) _
    rw [← e1]
    exact heap_alloc_new _ _
  · refine heap_old (heap_old ?_ _) _
    rw [← e2]
    exact heap_alloc_new _ _
  · refine heap_old ?_ _
    rw [← e3]
    exact heap_alloc_new _ _
  · rw [← e4]
    exact heap_alloc_new _ _
  · exact ((((Kx.alloc _ _ _).alc _).alc _).alc _).alc _
  · simp [wNew, e4]
theorem new_state (w : World) : HSt (wNew w) w.heap.size (w.heap.size + 1 + 1 + 1 + 1) (w.heap.size + 1 + 1 + 1) (.slice none 0 0) (w.heap.size + 1 + 1) 0 [w.heap.size + 1 + 1, w.heap.size + 1, w.heap.size] [(w.heap.size + 1 + 1, [])] [] ∧ Objs (wNew w) (w.heap.size + 1 + 1 + 1) [] := by
  obtain ⟨f1, f2, f3, f4, f5, f6, f7⟩ := wNew_facts w
  have hm : IMap (wNew w) w.heap.size 0 (pf []) := by
    have h0 := imap_made w
    obtain ⟨D, ⟨es, clock, hb, rest⟩, hD⟩ := h0
    rw [heap_alloc_new] at hb
    cases hb
    exact ⟨D, ⟨#[], 0, f1, rest⟩, hD⟩
  refine ⟨?_, by simp, .inl ⟨rfl, cell_at f4 0 rfl⟩⟩
  refine { face := f5, heap := f4, row := World.ownsRow_nil _ _ _ _, obj := fun i o ho => by simp at ho, tree := ?_, root := by simp, dB := fun i j o o' ho => by simp at ho, dR := fun i j o o' g ho => by simp at ho, fO := by simp; omega, fH := by simp; omega, fV := fun g hg => by simp [Value.ownBlock] at hg, fB := fun i o ho => by simp at ho, fR := fun i o ho => by simp at ho, hi := ?_, hH := by omega, len := by simp, n0w := by omega }
  · refine ⟨[⟨w.heap.size + 1 + 1, w.heap.size + 1, [], none⟩], [⟨w.heap.size + 1, w.heap.size, 0, .slice none 0 0, .int .i64 0, []⟩], ?_, by simp⟩
    refine { shape := ?_, next := ?_, last := ?_, par := ?_, has := ?_, names := ?_, dS := ?_, dP := ?_, dX := ?_, dN := ?_, dM := ?_, dXM := ?_, dR := ?_, fS := ?_, fX := ?_, fN := ?_, fM := ?_, fR := ?_, low := ?_ }
    · intro s hs
      simp at hs
      subst hs
      exact ⟨_, _, f3⟩
    · intro s hs x hx
      simp at hs
      subst hs
      cases hx
    · intro s hs hx t ht p hp
      simp at ht
      subst ht
      have := congrArg List.length hp
      simp at this
    · intro t ht q p hq
      simp at ht
      subst ht
      have := congrArg List.length hq
      simp at this
    · intro s hs
      simp at hs
      subst hs
      exact ⟨⟨w.heap.size + 1, w.heap.size, 0, .slice none 0 0, .int .i64 0, []⟩, by simp, rfl, by simp [nms]⟩
    · intro m hm2
      simp at hm2
      subst hm2
      exact ⟨⟨f2, World.ownsRow_nil _ _ _ _, hm⟩, Nat.le_refl _, by simp, by simp, by simp⟩
    · intro s hs t ht _
      simp at hs ht
      rw [hs, ht]
    · intro s hs t ht _
      simp at hs ht
      rw [hs, ht]
    · intro s hs t ht _ _ _
      simp at hs ht
      rw [hs, ht]
    · intro s hs t ht _
      simp at hs ht
      rw [hs, ht]
    · intro s hs t ht _
      simp at hs ht
      rw [hs, ht]
    · intro s hs x hx
      simp at hs
      subst hs
      cases hx
    · intro s hs t ht _ _ _
      simp at hs ht
      rw [hs, ht]
    · intro s hs
      simp at hs
      subst hs
      simp
    · intro s hs x hx
      simp at hs
      subst hs
      cases hx
    · intro s hs
      simp at hs
      subst hs
      simp
    · intro s hs
      simp at hs
      subst hs
      simp
    · intro s hs g hg
      simp at hs
      subst hs
      simp [Value.ownBlock] at hg
    · intro i hi
      simp at hi
      omega
  · intro i hi
    simp at hi
    omega
theorem HSt.make {w : World} {n0 O H : Nat} {hv : Value} {S0 B : Nat} {F : List Nat} {ps : List (Nat × List Stp)} {os : List Og} (h : HSt w n0 O H hv S0 B F ps os) (hO : Objs w H (os.map Og.b)) (hl : os.length < 100) :
    Calls Tryz.prog 6 #[.pointer (some ⟨O, 0, none⟩), .string objC, .int .i64 0] w fun e w' => e = .returned (.tuple #[.int .i64 ((os.length : Int) + 1), .int .i64 0]) ∧ ∃ b hv', HSt w' n0 O H hv' S0 B F ps (os ++ [⟨b, S0, [], .slice none 0 0, []⟩]) ∧ Below n0 w w' := by
  refine (make_plain O objC ((os.length : Int) + 1) (fun w' => ∃ b hv', HSt w' n0 O H hv' S0 B F ps (os ++ [⟨b, S0, [], .slice none 0 0, []⟩]) ∧ Below n0 w w') w ?_).mono ?_
  · refine (make_face O H objC (os.map Og.b) (fun b w' => ∃ hv', HSt w' n0 O H hv' S0 B F ps (os ++ [⟨b, S0, [], .slice none 0 0, []⟩]) ∧ Below n0 w w') w (by decide) h.O0 hO ((os.length : Int) + 1) ?_).mono ?_
    · intro W hW
      have h' := h.kept0 hW
      refine (make_heap H S0 n0 (os.map Og.b) hv objC W (by rw [List.length_map]; exact h'.heap) (by rw [List.length_map]; exact h'.row) (by rw [List.length_map]; omega) (Nat.le_trans h.n0w hW.size) objC_no).mono ?_
      rintro e w' ⟨b, v', rfl, k1, k2, k3, k4, k5, k6⟩
      rw [List.length_map] at k2 k3 k4
      have hbl := lt_get k2
      have nV : ∀ g, hv.ownBlock = some g → g < W.heap.size := fun g hg => (h'.row.lt g hg).2
      have nK : ∀ j, j ≠ H → (∀ g, hv.ownBlock = some g → j ≠ g) → j ∉ H :: hv.ownBlock.toList := by
        intro j e1 e2 hm
        simp only [List.mem_cons] at hm
        rcases hm with hm | hm
        · exact e1 hm
        · exact e2 j (by simpa using hm) rfl
      have getS : ∀ (j : Nat) (o2 : Og), (os ++ [⟨b, S0, [], .slice none 0 0, []⟩])[j]? = some o2 → os[j]? = some o2 ∨ (j = os.length ∧ o2 = ⟨b, S0, [], .slice none 0 0, []⟩) := by
        intro j o2 h2
        by_cases hj : j < os.length
        · rw [List.getElem?_append_left hj] at h2
          exact .inl h2
        · rw [List.getElem?_append_right (by omega)] at h2
          by_cases e : j = os.length
          · subst e
            simp at h2
            exact .inr ⟨rfl, h2.symm⟩
          · rw [List.getElem?_eq_none (by simp; omega)] at h2
            cases h2
      have hFl := h'.tree.low
      refine ⟨b, rfl, cell_at k2 4 rfl, v', ?_, ?_⟩
      · refine { face := ?_, heap := ?_, row := ?_, obj := ?_, tree := ?_, root := h.root, dB := ?_, dR := ?_, fO := h.fO, fH := h.fH, fV := ?_, fB := ?_, fR := ?_, hi := h.hi, hH := h.hH, len := by simp; omega, n0w := Nat.le_trans h'.n0w k6.size }
        · exact k6.get h'.face (nK O (cells_ne h'.face h'.heap (by decide)) (fun g hg e => owns_ne h'.row h'.face (by decide) g hg e.symm))
        · simpa using k3
        · rw [List.map_append, List.length_append]
          exact k4
        · intro j o2 h2
          rcases getS j o2 h2 with h3 | ⟨rfl, rfl⟩
          · obtain ⟨c1, c2, c3, c4, c5⟩ := h'.obj j o2 h3
            obtain ⟨a1, a2, a3, a4, a5⟩ := h'.bO h3
            exact ⟨k6.get c1 (nK _ (fun e => a2 e.symm) (fun g hg e => a3 g hg e.symm)), c2, k6.owns c3 (fun g hg => nK g (fun e => (a4 g hg).2.1 e.symm) (fun g' hg' e => a5 g g' hg hg' e.symm)), c4, c5⟩
          · exact ⟨k2, h.root, World.ownsRow_nil _ _ _ _, rfl, Nat.le_trans h'.n0w k1⟩
        · exact h'.tree.kept k6 (fun j hj => nK j (fun e => h.fH (e ▸ hj)) (fun g hg e => h.fV g hg (e ▸ hj)))
        · intro i j o o' ho ho' e
          rcases getS i o ho with h3 | ⟨rfl, rfl⟩ <;> rcases getS j o' ho' with h4 | ⟨rfl, rfl⟩
          · exact h.dB i j o o' h3 h4 e
          · have := lt_get (h'.obj i o h3).1
            simp at e
            omega
          · have := lt_get (h'.obj j o' h4).1
            simp at e
            omega
          · rfl
        · intro i j o o' g ho ho' e e'
          rcases getS i o ho with h3 | ⟨rfl, rfl⟩ <;> rcases getS j o' ho' with h4 | ⟨rfl, rfl⟩
          · exact h.dR i j o o' g h3 h4 e e'
          · simp [Value.ownBlock] at e'
          · simp [Value.ownBlock] at e
          · rfl
        · intro g hg hc
          rcases k5 g hg with e | e
          · exact h.fV g e hc
          · have := hFl g hc
            omega
        · intro i o ho hc
          rcases getS i o ho with h3 | ⟨rfl, rfl⟩
          · exact h.fB i o h3 hc
          · have := hFl _ hc
            simp at this
            omega
        · intro i o ho g hg hc
          rcases getS i o ho with h3 | ⟨rfl, rfl⟩
          · exact h.fR i o h3 g hg hc
          · simp [Value.ownBlock] at hg
      · refine (hW.below h.n0w (by simp)).trans (k6.below h'.n0w ?_)
        intro j hj
        simp only [List.mem_cons] at hj
        rcases hj with rfl | hj
        · exact h.hH
        · exact (h.row.lt j (by simpa using hj)).1
    · rintro e w' ⟨rfl, b, hv', k1, k2⟩
      exact ⟨rfl, b, hv', k1, k2⟩
  · rintro e w' ⟨rfl, W, ⟨b, hv', k1, k2⟩, hk⟩
    exact ⟨rfl, b, hv', k1.kept0 hk, k2.trans (hk.below k1.n0w (by simp))⟩
theorem HSt.same {w : World} {n0 O H : Nat} {hv : Value} {S0 B : Nat} {F : List Nat} {ps : List (Nat × List Stp)} {os : List Og} (h : HSt w n0 O H hv S0 B F ps os) {i j : Nat} {o o' : Og} (ho : os[i]? = some o) (ho' : os[j]? = some o') (sm : Bool) (hsm : sm = true ↔ o.path = o'.path) :
    Calls Tryz.prog 14 #[.pointer (some ⟨O, 0, none⟩), .int .i64 ((i : Int) + 1), .int .i64 ((j : Int) + 1)] w fun e w' => e = .returned (.bool sm) ∧ ∃ q, w' = w.drewN q := by
  have hne : os ≠ [] := by rintro rfl; simp at ho
  obtain ⟨b1, b2, _⟩ := h.obj i o ho
  obtain ⟨c1, c2, _⟩ := h.obj j o' ho'
  obtain ⟨C, hC, hC4⟩ := h.tree.shape b2
  obtain ⟨D, hD, _⟩ := h.tree.shape c2
  have c := same_any O H (os.map Og.b) ((i : Int) + 1) ((j : Int) + 1) o.b o'.b o.S o'.S false w h.O0 (h.objs hne) (by omega) (by rw [toNat_succ, List.getElem?_map, ho]; rfl) (by omega) (by rw [toNat_succ, List.getElem?_map, ho']; rfl) (cell_at b1 5 rfl) (cell_at c1 5 rfl) (cell_at hC 4 hC4) C D hC hD
  have e : (decide (o.S = o'.S) && !false) = sm := by
    rw [Bool.not_false, Bool.and_true]
    cases sm with
    | true => exact decide_eq_true ((h.tree.inj b2 c2).2 (hsm.1 rfl))
    | false => exact decide_eq_false (fun e => by cases hsm.2 ((h.tree.inj b2 c2).1 e))
  rw [e] at c
  exact c
theorem HSt.keys {w : World} {n0 O H : Nat} {hv : Value} {S0 B : Nat} {F : List Nat} {ps : List (Nat × List Stp)} {os : List Og} (h : HSt w n0 O H hv S0 B F ps os) {i : Nat} {o : Og} (ho : os[i]? = some o) (hB : B ≤ 900) :
    Calls Tryz.prog 8 #[.pointer (some ⟨O, 0, none⟩), .int .i64 ((i : Int) + 1)] w fun e w' => ∃ v, e = .returned v ∧ w'.ownsRow w.heap.size 9 1 v (nms o.path).length ((nms o.path).map Value.string) ∧ Kx [] w w' := by
  have hne : os ≠ [] := by rintro rfl; simp at ho
  obtain ⟨b1, b2, _⟩ := h.obj i o ho
  obtain ⟨N, M, n, v, k, L, fr, nx, kp, a1, a2, a3, a4, a5, a6, a7⟩ := h.tree.names b2
  obtain ⟨va, vc, rfl⟩ := owns_slice a2.2.1
  have hl := a3.length_le
  have htk : L.take o.path.length = nms o.path := by
    have := List.prefix_iff_eq_take.1 a3
    rw [nms_len] at this
    exact this.symm
  have c := keys_obj o.b o.S N M n 0 vc va k fr nx (.bool false) (.bool kp) none _ _ _ _ o.nv (.bool false) _ L o.path.length w b1 a1 a2.1 a2.2.1 a2.2.2 a4 a7 (by omega) (by rw [nms_len] at hl; exact hl)
  rw [htk] at c
  refine keys_face O H o.b (os.map Og.b) ((i : Int) + 1) (nms o.path) w h.O0 (h.objs hne) (by omega) (by rw [toNat_succ, List.getElem?_map, ho]; rfl) (by omega) ?_
  rw [nms_len]
  exact c
end Go.Proofs.YtmicdbplkfdfnaaGreatDoor
/- plain.Delete at the state, and Same behind it. -/
set_option linter.unusedVariables false
namespace Go.Proofs.YtmicdbplkfdfnaaGreatDoor
open Go.RowKit Go.Shelf Go.Maps

theorem HSt.delSame {w : World} {n0 O H : Nat} {hv : Value} {S0 B : Nat} {F : List Nat} {ps : List (Nat × List Stp)} {os : List Og} (h : HSt w n0 O H hv S0 B F ps os) {i j : Nat} {o o' : Og} (ho : os[i]? = some o) (ho' : os[j]? = some o') (hij : j ≠ i) (s : ByteArray) (hs : s.size ≤ 2000000) (hx : ixOf (unitsS s) < 0) (hm : txt (unitsS s) ∈ nms o.path) (hB : B ≤ 900) (hp : o.path.length ≤ 900) (hT : Lib.Utf8Tabs 2 3 w) :
    Calls Tryz.prog 12 #[.pointer (some ⟨O, 0, none⟩), .int .i64 ((i : Int) + 1), .string s] w fun e w' => e = .returned (.int .i64 0) ∧ Below n0 w w' ∧ Calls Tryz.prog 14 #[.pointer (some ⟨O, 0, none⟩), .int .i64 ((i : Int) + 1), .int .i64 ((j : Int) + 1)] w' fun e w'' => e = .returned (.bool false) ∧ ∃ q, w'' = w'.drewN q := by
  have hne : os ≠ [] := by rintro rfl; simp at ho
  have hb : (os.map Og.b)[(((i : Int) + 1) - 1).toNat]? = some o.b := by rw [toNat_succ, List.getElem?_map, ho]; rfl
  obtain ⟨b1, b2, b3, b4, b5⟩ := h.obj i o ho
  obtain ⟨q, hq⟩ := List.getElem?_of_mem hm
  have hql : q < o.path.length := by
    have := (List.getElem?_eq_some_iff.1 hq).1
    rwa [nms_len] at this
  obtain ⟨v, cO⟩ := h.ownYes ho (txt (unitsS s)) hq hp
  obtain ⟨g, cap, eg⟩ := ownsRow_pos (by omega) b3
  have hgb : o.nv.ownBlock = some g := by rw [eg]; rfl
  obtain ⟨N, M, n, vL, k, L, fr, nx, kp, a1, a2, a3, a4, a5, a6, a7⟩ := h.tree.names b2
  have hl := a3.length_le
  rw [nms_len] at hl
  have htk : L.take o.path.length = nms o.path := by
    have := List.prefix_iff_eq_take.1 a3
    rw [nms_len] at this
    exact this.symm
  have hsz : (txt (unitsS s)).size ≤ maxLen := a7 _ (a3.subset hm)
  refine (delete_plain O ((i : Int) + 1) s (fun w' => ∃ S' C', w.heap.size ≤ S' ∧ w'.heap[o.b]? = some (.cells (obV ((i : Int) + 1) S' o.nv) 111 (0, 0)) ∧ w'.heap[S']? = some (.cells C' 118 (0, 0)) ∧ C'[4]? = some (.bool true) ∧ Kx [o.b, g] w w') w ?_).mono ?_
  · refine delete_face O H o.b (os.map Og.b) ((i : Int) + 1) s (txt (unitsS s)) 0 false _ w h.O0 (h.objs hne) (by omega) hb (key_name s hs hx w hT) ?_
    intro W hW
    refine delete_obj o.b (txt (unitsS s)) 0 true true v.1 v.2.1 v.2.2 none none none _ W (fun W2 h2 => cO W2 (hW.same h2)) ?_
    intro W2 h2
    have hk : Kx [] w W2 := hW.same h2
    have h' := h.kept0 hk
    obtain ⟨c1, c2, c3, c4, c5⟩ := h'.obj i o ho
    have c1' := c1
    unfold obV at c1'
    rw [eg] at c1' c3
    have hs2 := hk.size
    refine (remove_name o.b o.S q o.path.length g cap o.path.length (txt (unitsS s)) 0 _ _ _ _ _ _ _ _ (propsL o.vs) (nms o.path) W2 c1' (owns_low c3 (Nat.zero_le _)) hql (by omega) hsz ?_ ?_ (nms_len _) (by omega) ?_ ?_).mono ?_
    · rw [← htk]
      exact (List.take_sublist _ _).nodup a4
    · intro x hx
      exact a7 x (a3.subset hx)
    · intro W3 h3
      exact (h'.tree.kept0 h3).find_yes c2 hq
    · intro W3 h3
      have hk3 := hk.same h3
      have c := apartS_any o.S N vL (.map (some M)) k fr nx (.bool kp) L o.path.length W3 (hk3.get a1 (by simp)) (hk3.get a2.1 (by simp)) (hk3.owns a2.2.1 (fun g hg => by simp)) hl (by omega) a7
      rw [htk] at c
      exact c
    · rintro e w' ⟨hu, S', C', k1, k2, k3, k4, k5⟩
      refine ⟨hu, S', C', by omega, ?_, k3, k4, (hk.mono (fun j hj => by cases hj)).same k5⟩
      unfold obV
      rw [eg]
      exact k2
  · rintro e w' ⟨rfl, W, ⟨S', C', k1, k2, k3, k4, k5⟩, hk⟩
    obtain ⟨d1, d2, d3, d4, d5⟩ := h.bO ho
    obtain ⟨c1, c2, c3, c4, c5⟩ := h.obj j o' ho'
    have K : Kx [o.b, g] w w' := k5.same (hk.mono (fun j hj => by cases hj))
    have nK : ∀ x, x ≠ o.b → x ≠ g → x ∉ [o.b, g] := fun x e1 e2 hm => by
      simp at hm
      rcases hm with hm | hm
      · exact e1 hm
      · exact e2 hm
    have hO : w'.cell? ⟨O, 0, none⟩ = some (.pointer (some ⟨H, 0, none⟩)) := K.cell h.O0 (nK O d1 (d4 g hgb).1)
    have hobj : Objs w' H (os.map Og.b) := by
      obtain ⟨hl2, ⟨e1, _⟩ | ⟨e1, gg, cc, e2, e3⟩⟩ := h.objs hne
      · exact absurd (by simpa using e1) hne
      · have hgv : hv.ownBlock = some gg := by
          have := cell_at h.heap 0 rfl
          rw [e2] at this
          have e4 : Value.slice (some ⟨gg, 0, none⟩) (os.map Og.b).length cc = hv := Option.some.inj this
          rw [← e4]
          rfl
        refine ⟨hl2, .inr ⟨e1, gg, cc, K.cell e2 (nK H d2 (d4 g hgb).2.1), fun x bb hbb => ⟨K.cell (e3 x bb hbb).1 (nK gg (d3 gg hgv) (d5 g gg hgb hgv)), ?_⟩⟩⟩
        by_cases eb : bb = o.b
        · subst eb
          rw [List.getElem?_map] at hbb
          cases hox : os[x]? with
          | none => rw [hox] at hbb; cases hbb
          | some o2 =>
            rw [hox] at hbb
            simp at hbb
            have := h.dB x i o2 o hox ho hbb
            subst this
            exact cell_at (hk.get k2 (by simp)) 4 rfl
        · refine K.cell (e3 x bb hbb).2 (nK bb eb ?_)
          rintro rfl
          rw [List.getElem?_map] at hbb
          cases hox : os[x]? with
          | none => rw [hox] at hbb; cases hbb
          | some o2 =>
            rw [hox] at hbb
            simp at hbb
            exact owns_ne b3 (h.obj x o2 hox).1 (by decide) bb hgb hbb.symm
    obtain ⟨D, hD, _⟩ := h.tree.shape c2
    have hSF := h.tree.mem c2
    have n1 : o'.b ∉ [o.b, g] := nK _ (fun e => hij (h.dB j i o' o ho' ho e)) (fun e => owns_ne b3 c1 (by decide) g hgb e.symm)
    have n2 : o'.S ∉ [o.b, g] := nK _ (fun e => h.fB i o ho (e ▸ hSF)) (fun e => h.fR i o ho g hgb (e ▸ hSF))
    refine ⟨rfl, K.below h.n0w (fun x hx => by
      simp at hx
      rcases hx with rfl | rfl
      · exact b5
      · exact (b3.lt x hgb).1), ?_⟩
    have c := same_any O H (os.map Og.b) ((i : Int) + 1) ((j : Int) + 1) o.b o'.b S' o'.S true w' hO hobj (by omega) hb (by omega) (by rw [toNat_succ, List.getElem?_map, ho']; rfl) (cell_at (hk.get k2 (by simp)) 5 rfl) (K.cell (cell_at c1 5 rfl) n1) (cell_at (hk.get k3 (by simp)) 4 k4) C' D (hk.get k3 (by simp)) (K.get hD n2)
    rw [Bool.not_true, Bool.and_false] at c
    exact c
end Go.Proofs.YtmicdbplkfdfnaaGreatDoor
/- The three objects; how long names are. -/
set_option linter.unusedVariables false
namespace Go.Proofs.YtmicdbplkfdfnaaGreatDoor
open Go.RowKit Go.Shelf Go.Maps

theorem flat_len {α : Type} (f : α → List Nat) (m : Nat) (hf : ∀ a, (f a).length ≤ m) : ∀ l : List α, (l.flatMap f).length ≤ m * l.length
  | [] => by simp
  | a :: l => by
    rw [List.flatMap_cons, List.length_append, List.length_cons]
    have := flat_len f m hf l
    have := hf a
    rw [Nat.mul_add]
    omega
theorem ptsS_len : ∀ (l : List Nat), (Un.pts l).length ≤ l.length
  | [] => by simp [Un.pts]
  | [u] => by simp [Un.pts]
  | u :: v :: t => by
    unfold Un.pts
    split
    · have := ptsS_len t
      simp
      omega
    · have := ptsS_len (v :: t)
      simp at this ⊢
      omega
theorem txtS_size (s : ByteArray) (hs : s.size ≤ 1048576) : (txt (unitsS s)).size ≤ maxLen := by
  have h1 : (txt (unitsS s)).size = (txtB (unitsS s)).length := by simp [txt, ByteArray.size]
  have h2 := flat_len Un.encR 4 (fun r => (Un.encR_len r).2) (Un.pts (unitsS s))
  have h3 := ptsS_len (unitsS s)
  have h4 := unitsS_len s
  have h5 : (txtB (unitsS s)).length = ((Un.pts (unitsS s)).flatMap Un.encR).length := rfl
  unfold maxLen
  omega
theorem make1 {w : World} {n0 O H : Nat} {hv : Value} {S0 B : Nat} {F : List Nat} {ps : List (Nat × List Stp)} (h : HSt w n0 O H hv S0 B F ps []) (hO : Objs w H []) :
    Calls Tryz.prog 6 #[.pointer (some ⟨O, 0, none⟩), .string ⟨#[79, 98, 106, 101, 99, 116]⟩, .int .i64 0] w fun e w' => e = .returned (.tuple #[.int .i64 1, .int .i64 0]) ∧ ∃ b hv', HSt w' n0 O H hv' S0 B F ps [⟨b, S0, [], .slice none 0 0, []⟩] ∧ Below n0 w w' := h.make hO (by simp)
theorem make2 {w : World} {n0 O H : Nat} {hv : Value} {S0 B : Nat} {F : List Nat} {ps : List (Nat × List Stp)} {o : Og} (h : HSt w n0 O H hv S0 B F ps [o]) :
    Calls Tryz.prog 6 #[.pointer (some ⟨O, 0, none⟩), .string ⟨#[79, 98, 106, 101, 99, 116]⟩, .int .i64 0] w fun e w' => e = .returned (.tuple #[.int .i64 2, .int .i64 0]) ∧ ∃ b hv', HSt w' n0 O H hv' S0 B F ps [o, ⟨b, S0, [], .slice none 0 0, []⟩] ∧ Below n0 w w' := h.make (h.objs (by simp)) (by simp)
theorem make3 {w : World} {n0 O H : Nat} {hv : Value} {S0 B : Nat} {F : List Nat} {ps : List (Nat × List Stp)} {o o' : Og} (h : HSt w n0 O H hv S0 B F ps [o, o']) :
    Calls Tryz.prog 6 #[.pointer (some ⟨O, 0, none⟩), .string ⟨#[79, 98, 106, 101, 99, 116]⟩, .int .i64 0] w fun e w' => e = .returned (.tuple #[.int .i64 3, .int .i64 0]) ∧ ∃ b hv', HSt w' n0 O H hv' S0 B F ps [o, o', ⟨b, S0, [], .slice none 0 0, []⟩] ∧ Below n0 w w' := h.make (h.objs (by simp)) (by simp)
end Go.Proofs.YtmicdbplkfdfnaaGreatDoor
/- The law's first loop: what stands between its calls. -/
set_option linter.unusedVariables false
namespace Go.Proofs.YtmicdbplkfdfnaaGreatDoor
open Go.RowKit Go.Shelf Go.Maps

def nmOf (s : ByteArray) : ByteArray := txt (unitsS s)
def valid (s : ByteArray) : Prop := s.size ≤ 200 ∧ ixOf (unitsS s) < 0
def descA (k : Int) (x : Nat) (tx : ByteArray) : Array Value := #[.bool true, .bool false, .bool false, .bool true, .bool true, .bool true, .int .i64 k, .float .f64 x, .string tx, .int .i64 0, .int .i64 0, .int .i64 0, .bool true, .bool true, .bool true]
def xT : ByteArray := ⟨#[120]⟩
/-- The names that came, of the keys of a list. -/
def CameK (ks L : List ByteArray) : Prop := L.Nodup ∧ ∀ y, y ∈ L ↔ ∃ s ∈ ks, valid s ∧ nmOf s = y
theorem nms_all (L : List ByteArray) : nms (L.map allS) = L := by
  simp only [nms, List.map_map]
  have : (Prod.fst ∘ allS : ByteArray → ByteArray) = id := rfl
  rw [this, List.map_id]
theorem CameK.skip {ks L : List ByteArray} (h : CameK ks L) {s : ByteArray} (hs : ¬ (valid s ∧ nmOf s ∉ L)) : CameK (ks ++ [s]) L := by
  refine ⟨h.1, fun y => ⟨fun hy => ?_, ?_⟩⟩
  · obtain ⟨t, h1, h2⟩ := (h.2 y).1 hy
    exact ⟨t, by simp [h1], h2⟩
  · rintro ⟨t, h1, h2, h3⟩
    simp only [List.mem_append, List.mem_singleton] at h1
    rcases h1 with h1 | rfl
    · exact (h.2 y).2 ⟨t, h1, h2, h3⟩
    · rw [← h3]
      exact Classical.byContradiction fun hc => hs ⟨h2, hc⟩
theorem CameK.add {ks L : List ByteArray} (h : CameK ks L) {s : ByteArray} (hv : valid s) (hs : nmOf s ∉ L) : CameK (ks ++ [s]) (L ++ [nmOf s]) := by
  refine ⟨?_, fun y => ⟨fun hy => ?_, ?_⟩⟩
  · rw [List.nodup_append]
    refine ⟨h.1, by simp, ?_⟩
    intro a ha b hb
    simp at hb
    rw [hb]
    intro e
    exact hs (e ▸ ha)
  · simp only [List.mem_append, List.mem_singleton] at hy
    rcases hy with hy | rfl
    · obtain ⟨t, h1, h2⟩ := (h.2 y).1 hy
      exact ⟨t, by simp [h1], h2⟩
    · exact ⟨s, by simp, hv, rfl⟩
  · rintro ⟨t, h1, h2, h3⟩
    simp only [List.mem_append, List.mem_singleton] at h1 ⊢
    rcases h1 with h1 | rfl
    · exact .inl ((h.2 y).2 ⟨t, h1, h2, h3⟩)
    · exact .inr h3.symm
theorem HSt.keptF {w w' : World} {n0 O H : Nat} {hv : Value} {S0 B : Nat} {F : List Nat} {ps : List (Nat × List Stp)} {os : List Og} (h : HSt w n0 O H hv S0 B F ps os) {x : Nat} (hf : Free w F H hv os x) {C : Array Value} (hx : w.heap[x]? = some (.cells C 34 (0, 0))) (hk : Kx [x] w w') : HSt w' n0 O H hv S0 B F ps os where
  face := hk.get h.face (by simp; exact cells_ne h.face hx (by decide))
  heap := hk.get h.heap (by simp; exact fun e => hf.2.2.1 e.symm)
  row := hk.owns h.row (fun g hg => by simp; exact fun e => hf.2.2.2.1 g hg e.symm)
  obj := fun i o ho => by
    obtain ⟨h1, h2, h3, h4⟩ := h.obj i o ho
    have f5 := hf.2.2.2.2 i o ho
    exact ⟨hk.get h1 (by simp; exact fun e => f5.1 e.symm), h2, hk.owns h3 (fun g hg => by simp; exact fun e => f5.2 g hg e.symm), h4⟩
  tree := h.tree.kept hk (fun i hi => by simp; exact fun e => hf.2.1 (e ▸ hi))
  root := h.root
  dB := h.dB
  dR := h.dR
  fO := h.fO
  fH := h.fH
  fV := h.fV
  fB := h.fB
  fR := h.fR
  hi := h.hi
  hH := h.hH
  len := h.len
  n0w := Nat.le_trans h.n0w hk.size
/-- Between two rounds of the first loop; La, Lb: the names of the first and of the second object. -/
def Mid (w : World) (O H : Nat) (hv : Value) (S0 D ba bb bc : Nat) (m : Nat) (La Lb : List ByteArray) (k : Int) (x : Nat) (tx : ByteArray) (wr : World) : Prop :=
  ∃ B F ps Sa Sb nva nvb vsa vsb, HSt wr w.heap.size O H hv S0 B F ps [⟨ba, Sa, La.map allS, nva, vsa⟩, ⟨bb, Sb, Lb.map allS, nvb, vsb⟩, ⟨bc, S0, [], .slice none 0 0, []⟩] ∧ B ≤ m ∧ Free wr F H hv [⟨ba, Sa, La.map allS, nva, vsa⟩, ⟨bb, Sb, Lb.map allS, nvb, vsb⟩, ⟨bc, S0, [], .slice none 0 0, []⟩] D ∧
    wr.heap[D]? = some (.cells (descA k x tx) 34 (0, 0)) ∧ Below w.heap.size w wr ∧ w.heap.size ≤ D
theorem Mid.kept0 {w : World} {O H : Nat} {hv : Value} {S0 D ba bb bc m : Nat} {La Lb : List ByteArray} {k : Int} {x : Nat} {tx : ByteArray} {wr W : World} (h : Mid w O H hv S0 D ba bb bc m La Lb k x tx wr) (hk : Kx [] wr W) : Mid w O H hv S0 D ba bb bc m La Lb k x tx W := by
  obtain ⟨B, F, ps, Sa, Sb, nva, nvb, vsa, vsb, h1, h2, h3, h4, h5, h6⟩ := h
  exact ⟨B, F, ps, Sa, Sb, nva, nvb, vsa, vsb, h1.kept0 hk, h2, h3.kept0 hk.size, hk.get h4 (by simp), h5.trans (hk.below h5.size (by simp)), h6⟩
theorem Mid.setD {w : World} {O H : Nat} {hv : Value} {S0 D ba bb bc m : Nat} {La Lb : List ByteArray} {k : Int} {x : Nat} {tx : ByteArray} {wr W : World} (h : Mid w O H hv S0 D ba bb bc m La Lb k x tx wr) (hk : Kx [D] wr W) {k' : Int} {x' : Nat} {tx' : ByteArray} (hD : W.heap[D]? = some (.cells (descA k' x' tx') 34 (0, 0))) : Mid w O H hv S0 D ba bb bc m La Lb k' x' tx' W := by
  obtain ⟨B, F, ps, Sa, Sb, nva, nvb, vsa, vsb, h1, h2, h3, h4, h5, h6⟩ := h
  exact ⟨B, F, ps, Sa, Sb, nva, nvb, vsa, vsb, h1.keptF h3 h4 hk, h2, h3.kept0 hk.size, hD, h5.trans (hk.below h5.size (by simp; exact h6)), h6⟩
theorem Mid.below {w : World} {O H : Nat} {hv : Value} {S0 D ba bb bc m : Nat} {La Lb : List ByteArray} {k : Int} {x : Nat} {tx : ByteArray} {wr : World} (h : Mid w O H hv S0 D ba bb bc m La Lb k x tx wr) : Below w.heap.size w wr := by
  obtain ⟨B, F, ps, Sa, Sb, nva, nvb, vsa, vsb, h1, h2, h3, h4, h5, h6⟩ := h
  exact h5
theorem Mid.desc {w : World} {O H : Nat} {hv : Value} {S0 D ba bb bc m : Nat} {La Lb : List ByteArray} {k : Int} {x : Nat} {tx : ByteArray} {wr : World} (h : Mid w O H hv S0 D ba bb bc m La Lb k x tx wr) : wr.heap[D]? = some (.cells (descA k x tx) 34 (0, 0)) := by
  obtain ⟨B, F, ps, Sa, Sb, nva, nvb, vsa, vsb, h1, h2, h3, h4, h5, h6⟩ := h
  exact h4
theorem Mid.mono {w : World} {O H : Nat} {hv : Value} {S0 D ba bb bc m m' : Nat} {La Lb : List ByteArray} {k : Int} {x : Nat} {tx : ByteArray} {wr : World} (h : Mid w O H hv S0 D ba bb bc m La Lb k x tx wr) (hm : m ≤ m') : Mid w O H hv S0 D ba bb bc m' La Lb k x tx wr := by
  obtain ⟨B, F, ps, Sa, Sb, nva, nvb, vsa, vsb, h1, h2, h3, h4, h5, h6⟩ := h
  exact ⟨B, F, ps, Sa, Sb, nva, nvb, vsa, vsb, h1, by omega, h3, h4, h5, h6⟩
theorem map_snoc (L : List ByteArray) (y : ByteArray) : (L ++ [y]).map allS = L.map allS ++ [allS y] := by simp
theorem Mid.ownA {w : World} {O H : Nat} {hv : Value} {S0 D ba bb bc m : Nat} {La Lb : List ByteArray} {k : Int} {x : Nat} {tx : ByteArray} {wr : World} (h : Mid w O H hv S0 D ba bb bc m La Lb k x tx wr) (hT : Lib.Utf8Tabs 2 3 w) (s : ByteArray) (hss : s.size ≤ 1048576) (hL : La.length ≤ 900) (has : Bool) (hh : has = true ↔ (ixOf (unitsS s) < 0 ∧ nmOf s ∈ La)) :
    Calls Tryz.prog 10 #[.pointer (some ⟨O, 0, none⟩), .int .i64 1, .string s] wr fun e w' => DescIs e has ∧ Kx [] wr w' := by
  obtain ⟨B, F, ps, Sa, Sb, nva, nvb, vsa, vsb, h1, h2, h3, h4, h5, h6⟩ := h
  refine h1.own (i := 0) rfl s (by omega) (txtS_size s hss) (by simp; exact hL) (tabs_below hT h5) has ?_
  rw [nms_all]
  exact hh
theorem Mid.defA {w : World} {O H : Nat} {hv : Value} {S0 D ba bb bc m : Nat} {La Lb : List ByteArray} {k : Int} {x : Nat} {tx : ByteArray} {wr : World} (h : Mid w O H hv S0 D ba bb bc m La Lb 3 x tx wr) (hT : Lib.Utf8Tabs 2 3 w) (s : ByteArray) (hss : s.size ≤ 1048576) (hv' : valid s) (hn : nmOf s ∉ La) (hL : La.length ≤ 900) (hm : m ≤ 900) :
    Calls Tryz.prog 7 #[.pointer (some ⟨O, 0, none⟩), .int .i64 1, .string s, .agg (descA 3 x tx)] wr fun e w' => e = .returned (.int .i64 0) ∧ Mid w O H hv S0 D ba bb bc (m + 1) (La ++ [nmOf s]) Lb 3 x tx w' := by
  obtain ⟨B, F, ps, Sa, Sb, nva, nvb, vsa, vsb, h1, h2, h3, h4, h5, h6⟩ := h
  refine (h1.define (i := 0) rfl s (by omega) hv'.2 (by rw [nms_all]; exact hn) (txtS_size s hss) (by omega) (by simp; exact hL) (tabs_below hT h5) 3 0 0 0 x tx (3, x, ⟨#[]⟩) (fun W hW => value_num O x tx 0 W)).mono ?_
  rintro e w' ⟨rfl, S', nv', F', ps', k1, k2, k3, k4⟩
  refine ⟨rfl, B + 1, F', ps', S', Sb, nv', nvb, vsa ++ [(3, x, ⟨#[]⟩)], vsb, ?_, by omega, ?_, ?_, h5.trans k3, h6⟩
  · rw [map_snoc]; exact k1
  · rw [map_snoc]; exact (k4 D h3).1
  · exact (k4 D h3).2.trans h4
theorem Mid.defB {w : World} {O H : Nat} {hv : Value} {S0 D ba bb bc m : Nat} {La Lb : List ByteArray} {x : Nat} {tx : ByteArray} {wr : World} (h : Mid w O H hv S0 D ba bb bc m La Lb 4 x xT wr) (hT : Lib.Utf8Tabs 2 3 w) (s : ByteArray) (hss : s.size ≤ 1048576) (hv' : valid s) (hn : nmOf s ∉ Lb) (hL : Lb.length ≤ 900) (hm : m ≤ 900) :
    Calls Tryz.prog 7 #[.pointer (some ⟨O, 0, none⟩), .int .i64 2, .string s, .agg (descA 4 x xT)] wr fun e w' => e = .returned (.int .i64 0) ∧ Mid w O H hv S0 D ba bb bc (m + 1) La (Lb ++ [nmOf s]) 4 x xT w' := by
  obtain ⟨B, F, ps, Sa, Sb, nva, nvb, vsa, vsb, h1, h2, h3, h4, h5, h6⟩ := h
  refine (h1.define (i := 1) rfl s (by omega) hv'.2 (by rw [nms_all]; exact hn) (txtS_size s hss) (by omega) (by simp; exact hL) (tabs_below hT h5) 4 0 0 0 x xT (4, 0, txt (unitsS xT)) (fun W hW => value_txt O x xT (by decide) 0 W (tabs_kx (tabs_below hT h5) hW))).mono ?_
  rintro e w' ⟨rfl, S', nv', F', ps', k1, k2, k3, k4⟩
  refine ⟨rfl, B + 1, F', ps', Sa, S', nva, nv', vsa, vsb ++ [(4, 0, txt (unitsS xT))], ?_, by omega, ?_, ?_, h5.trans k3, h6⟩
  · rw [map_snoc]; exact k1
  · rw [map_snoc]; exact (k4 D h3).1
  · exact (k4 D h3).2.trans h4
theorem Mid.same {w : World} {O H : Nat} {hv : Value} {S0 D ba bb bc m : Nat} {L : List ByteArray} {k : Int} {x : Nat} {tx : ByteArray} {wr : World} (h : Mid w O H hv S0 D ba bb bc m L L k x tx wr) :
    Calls Tryz.prog 14 #[.pointer (some ⟨O, 0, none⟩), .int .i64 1, .int .i64 2] wr fun e w' => e = .returned (.bool true) ∧ ∃ q, w' = wr.drewN q := by
  obtain ⟨B, F, ps, Sa, Sb, nva, nvb, vsa, vsb, h1, h2, h3, h4, h5, h6⟩ := h
  exact h1.same (i := 0) (j := 1) rfl rfl true (by simp)
end Go.Proofs.YtmicdbplkfdfnaaGreatDoor
