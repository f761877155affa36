/- Of the law's one object: a name comes; one is shut; the length's number; Fix. -/
import Derived.Test.YtmicdbplkfdfnaaGreatDoorCHo6x
import Derived.Test.YtmicdbplkfdfnaaGreatDoorCTj1x
import Derived.Test.YtmicdbplkfdfnaaGreatDoorCHo3x
import Derived.BigQuiet
import Derived.Deep.DeepCutAuto
import Derived.Deep.CutBlock
set_option linter.unusedVariables false
namespace Go.Proofs.YtmicdbplkfdfnaaGreatDoor
open Go.RowKit Go.Shelf Go.Maps

theorem FSt.setNew {w : World} {n0 O H b : Nat} {arr fx : Bool} {L : List ByteArray} {P : List Pr} {f : Nat → Option Pr} {F : Fp} (h : FSt w n0 O H b arr fx L P f F) (nm : ByteArray) (hok : NameOK nm) (hnm : nm.size ≤ 2000000) (hno : pf L nm = none) (p : Pr) (hal : F.al = false) (hL : L.length + 1 ≤ 100) (hq : F.q + 1 ≤ 200) :
    ∀ W, Kx [] w W → Calls Tryz.prog 59 #[.pointer (some ⟨b, 0, none⟩), .agg #[.string nm, .int .u32 0, .bool false], .agg #[.bool p.1, .bool p.2.1, .bool p.2.2.1, .bool false, .int .i64 3, .float .f64 p.2.2.2, .string ⟨#[]⟩, .pointer none, .pointer none, .pointer none]] W fun e w' => (∃ u, e = .returned u) ∧ Kx (F.blocks O H b) W w' ∧ ∃ F', FSt w' n0 O H b arr fx (L ++ [nm]) (P ++ [p]) f F' ∧ Nxt w O H b F w' F' ∧ F'.al = false := by
  intro W hW
  have hs := h.kept0 hW
  have hmx : nm.size ≤ maxLen := by unfold maxLen; omega
  have hshp := hs.shp
  rw [hs.leaf hal, hal] at hshp
  have hbl := hs.bL
  have hpl := hs.len
  refine (name_comes b F.S F.N F.M F.q n0 _ _ _ _ _ _ _ _ F.nv F.v F.k F.fr L P nm p W hs.obj hshp hs.nms hs.prs (by omega) (by omega) (by omega) hmx hs.n0w (fun W2 hW2 => h.find nm hmx none hno W2 (hW.same hW2))).mono ?_
  rintro e w' ⟨hu, S', v', nv', hS', hB', hSh', hN', hP', hv', hnv', hk⟩
  obtain ⟨m0, m1, m2, m3, m4, m5, m6, m7, m8, m9⟩ := hs.ne
  have hT : ∀ i ∈ b :: F.S :: F.N :: F.M :: (F.v.ownBlock.toList ++ F.nv.ownBlock.toList), i ∈ F.blocks O H b := by
    intro i hi
    simp only [List.mem_cons, List.mem_append] at hi
    rcases hi with h | h | h | h | h | h <;> simp [Fp.blocks, h]
  have hkF : Kx (F.blocks O H b) W w' := hk.mono (fun i hi => .inl (hT i hi))
  have hkw : Kx (F.blocks O H b) w w' := (hW.mono (fun j hj => by cases hj)).trans hkF (fun j hj => .inl hj)
  have hnot : ∀ x, x ≠ b → x ≠ F.S → x ≠ F.N → x ≠ F.M → (∀ g, F.v.ownBlock = some g → x ≠ g) → (∀ g, F.nv.ownBlock = some g → x ≠ g) → x ∉ b :: F.S :: F.N :: F.M :: (F.v.ownBlock.toList ++ F.nv.ownBlock.toList) := by
    intro x h1 h2 h3 h4 h5 h6 hm
    simp only [List.mem_cons, List.mem_append] at hm
    rcases hm with h | h | h | h | h | h
    · exact h1 h
    · exact h2 h
    · exact h3 h
    · exact h4 h
    · exact h5 x (by simpa using h) rfl
    · exact h6 x (by simpa using h) rfl
  have rS : ∀ x, F.v.ownBlock = some x → ∀ {y : Nat} {C : Array Value} {t : TypeId}, W.heap[y]? = some (.cells C t (0, 0)) → t ≠ 9 → y ≠ x := by
    intro x hx y C t hy ht
    obtain ⟨c, hc⟩ := row_cells hs.nms.2.1 x hx
    exact cells_ne hy hc ht
  refine ⟨hu, hkF, { F with S := S', v := v', nv := nv', q := F.q + 1, nx := .map none, fr := .pointer (some ⟨F.S, 0, none⟩) }, ?_, ⟨hkw, ?_, by simp, by simp⟩, hal⟩
  · exact {
      face := hk.get hs.face (hnot _ m1.symm (cells_ne hs.face hs.shp (by decide)) (cells_ne hs.face hs.nms.1 (by decide)) (imap_cells hs.nms.2.2 hs.face) (fun g hg => rS g hg hs.face (by decide)) (fun g hg => ((m0 g hg).1).symm))
      heap := hk.get hs.heap (hnot _ m2.symm (cells_ne hs.heap hs.shp (by decide)) (cells_ne hs.heap hs.nms.1 (by decide)) (imap_cells hs.nms.2.2 hs.heap) (fun g hg => rS g hg hs.heap (by decide)) (fun g hg => ((m0 g hg).2.1).symm))
      row := hk.owns hs.row (fun x hx => by
        obtain ⟨c, hc⟩ := row_cells hs.row x hx
        exact hnot _ (m6 x hx).symm (cells_ne hc hs.shp (by decide)) (cells_ne hc hs.nms.1 (by decide)) (imap_cells hs.nms.2.2 hc) (fun g hg => rS g hg hc (by decide)) (fun g hg => ((m0 g hg).2.2.2.2.2.2.1 x hx).symm))
      obj := hB'
      shp := by
        rw [hal]
        simpa using hSh'
      leaf := fun _ => rfl
      nms := hN'
      prs := by rw [List.length_append]; exact hP'
      str := hk.stAt hs.str (fun y hy => by
        rcases hs.str with ⟨e3, _⟩ | ⟨X, e3, hX⟩
        · rw [e3] at hy; simp [stB] at hy
        · rw [e3] at hy
          simp [stB] at hy
          subst hy
          obtain ⟨z1, z2, z3, z4, z5, z6, z7⟩ := m9 _ e3
          exact hnot _ ((m8 _ e3).symm) z3 z4 z5 z7 (fun g hg => ((m0 g hg).2.2.2.2.2.2.2.2 _ e3).symm))
      sep := hs.sep
      full := hs.full
      len := by simp [hpl]
      nd := by
        rw [List.nodup_append]
        refine ⟨hs.nd, by simp, ?_⟩
        intro a ha b' hb' e
        have hb2 : b' = nm := by simpa using hb'
        subst hb2
        subst e
        obtain ⟨i, hi⟩ := List.mem_iff_getElem?.1 ha
        have := (pf_get _ L rfl hs.nd a i).2 hi
        rw [hno] at this
        cases this
      ok := by
        intro x hx
        rcases List.mem_append.1 hx with hx | hx
        · exact hs.ok x hx
        · have : x = nm := by simpa using hx
          rw [this]
          exact ⟨hok, hnm⟩
      lo := by
        obtain ⟨l1, l2, l3, l4, l5, l6⟩ := hs.lo
        exact ⟨l1, l2, l3, Nat.le_trans hs.n0w hS', l5, l6⟩
      bL := by simp; omega
      bq := by simp; omega
      bm := hs.bm
      ql := by have := hs.ql; simp; omega
      n0w := Nat.le_trans hs.n0w hk.size }
  · intro i hi
    have hsz := hW.size
    simp only [Fp.blocks, List.mem_cons, List.mem_append] at hi ⊢
    rcases hi with h1 | h1 | h1 | h1 | h1 | h1 | ((h1 | h1) | h1) | h1
    · simp [h1]
    · simp [h1]
    · simp [h1]
    · exact .inr (by omega)
    · simp [h1]
    · simp [h1]
    · simp [h1]
    · rcases hv' i (by simpa using h1) with h2 | h2
      · simp [h2]
      · exact .inr (by omega)
    · rcases hnv' i (by simpa using h1) with h2 | h2
      · simp [h2]
      · exact .inr (by omega)
    · simp [h1]
end Go.Proofs.YtmicdbplkfdfnaaGreatDoor
set_option linter.unusedVariables false
namespace Go.Proofs.YtmicdbplkfdfnaaGreatDoor
open Go.RowKit Go.Shelf Go.Maps

/-- What stands behind apart. -/
def Apt (W : World) (n0 : Nat) (F : Fp) (L : List ByteArray) (S' : Nat) (w2 : World) : Prop :=
  ∃ N' M' q' v' k', W.heap.size ≤ S' ∧ w2.heap[S']? = some (.cells #[.pointer (some ⟨N', 0, none⟩), .int .i64 (L.length : Int), .pointer none, .map none, .bool true, .bool false] 118 (0, 0)) ∧ NamesAt w2 n0 N' M' q' v' k' L ∧
    ((N' = F.N ∧ M' = F.M ∧ q' = F.q ∧ v' = F.v ∧ k' = F.k) ∨ (W.heap.size ≤ N' ∧ W.heap.size ≤ M' ∧ q' = L.length ∧ ∀ g, v'.ownBlock = some g → W.heap.size ≤ g))
theorem FSt.apart {w : World} {n0 O H b : Nat} {arr fx : Bool} {L : List ByteArray} {P : List Pr} {f : Nat → Option Pr} {F : Fp} (h : FSt w n0 O H b arr fx L P f F) :
    ∀ W, Kx [] w W → Calls Tryz.prog 86 #[.pointer (some ⟨F.S, 0, none⟩)] W fun e w' => ∃ S', e = .returned (.pointer (some ⟨S', 0, none⟩)) ∧ Kx [] W w' ∧ Apt w n0 F L S' w' := by
  intro W hW
  have hs := h.kept0 hW
  have hsz := hW.size
  have hbl := h.bL
  cases hal : F.al with
  | false =>
    have hshp := hs.shp
    rw [hal] at hshp
    refine (apart_any F.S F.N F.v (.map (some F.M)) F.k F.fr F.nx (.bool false) L L.length W hshp hs.nms.1 (owns_low hs.nms.2.1 (Nat.zero_le _)) (Nat.le_refl _) (by omega) (fun s hs' => by have := (hs.ok s hs').2; unfold maxLen; omega)).mono ?_
    rintro e w' ⟨S', N', M', v', rfl, g1, g2, g3, g4, g5, g6⟩
    rw [List.take_length] at g5
    refine ⟨S', rfl, g6, N', M', L.length, v', .int .i64 0, by omega, g4, ⟨g5.1, owns_low g5.2.1 hs.n0w, g5.2.2⟩, .inr ⟨by omega, by omega, rfl, fun g hg => Nat.le_trans hsz (g5.2.1.lt g hg).1⟩⟩
  | true =>
    have hshp := hs.shp
    rw [hal] at hshp
    obtain ⟨a, c, e⟩ := owns_slice hs.nms.2.1
    have hn := hs.nms.1
    rw [e] at hn
    refine (apart_alone F.S F.N L.length c a (.map (some F.M)) F.k _ _ _ _ W hshp hn).mono ?_
    rintro e2 w' ⟨rfl, rfl⟩
    exact ⟨W.heap.size, rfl, Kx.alloc _ _ _, F.N, F.M, F.q, F.v, F.k, hsz, heap_alloc_new _ _, hs.nms.kept (Kx.alloc [] _ _) (by simp) (by simp) (fun g hg => by simp), .inl ⟨rfl, rfl, rfl, rfl, rfl⟩⟩
theorem FSt.turned {w W w3 w' : World} {n0 O H b : Nat} {arr fx : Bool} {L : List ByteArray} {P : List Pr} {f : Nat → Option Pr} {F : Fp} (h : FSt w n0 O H b arr fx L P f F) (hW : Kx [] w W) {i g cap S' : Nat} {cur cur' : Array Value} (hi : i < P.length) (p : Pr) (he : F.nv = .slice (some ⟨g, 0, none⟩) P.length cap)
    (hG : W.heap[g]? = some (.cells cur 75 (0, 0))) (k3 : Kx [] W w3) (hA : Apt w n0 F L S' w3)
    (hB' : w'.heap[b]? = some (.cells #[.string (clsS arr), .pointer none, .bool fx, .nilIface, .int .i64 1, .pointer (some ⟨S', 0, none⟩), .slice (some ⟨g, 0, none⟩) P.length cap, .slice none 0 0, F.st, .bool false] 111 (0, 0)))
    (hG' : w'.heap[g]? = some (.cells cur' 75 (0, 0))) (hs' : cur'.size = cur.size) (hl' : cur'.toList = cur.toList.take (i * 10) ++ prL p ++ cur.toList.drop (i * 10 + 10)) (hk : Kx [b, g] w3 w') :
    Kx (F.blocks O H b) W w' ∧ ∃ F', FSt w' n0 O H b arr fx L (P.set i p) f F' ∧ Nxt w O H b F w' F' ∧ F'.nv = F.nv := by
  have hs := h.kept0 hW
  have h3 := hs.kept0 k3
  have hsz := hW.size
  have hsz3 := k3.size
  obtain ⟨N', M', q', v', k', a1, a2, a3, a4⟩ := hA
  have hne := h3.ne
  rw [he] at hne
  obtain ⟨m0, m1, m2, m3, m4, m5, m6, m7, m8, m9⟩ := hne
  obtain ⟨x1, x2, x3, x4, x5, x6, x7, x8, x9⟩ := m0 g rfl
  have hgF : g ∈ F.blocks O H b := by simp [Fp.blocks, he, Value.ownBlock]
  have hbF : b ∈ F.blocks O H b := by simp [Fp.blocks]
  have hkF : Kx (F.blocks O H b) W w' := (k3.mono (fun j hj => by cases hj)).trans hk (fun j hj => .inl (by
    simp only [List.mem_cons] at hj
    rcases hj with rfl | rfl | hj
    · exact hbF
    · exact hgF
    · cases hj))
  have hkw : Kx (F.blocks O H b) w w' := (hW.mono (fun j hj => by cases hj)).trans hkF (fun j hj => .inl hj)
  have hnot : ∀ x, x ≠ b → x ≠ g → x ∉ [b, g] := by
    intro x h1 h2 hm
    simp only [List.mem_cons] at hm
    rcases hm with h | h | h
    · exact h1 h
    · exact h2 h
    · cases h
  have hbl := lt_get h.obj
  have hgl : g < w.heap.size := (h.lt g hgF).2
  have new : ∀ x, w.heap.size ≤ x → x ∉ [b, g] := fun x hx => hnot x (by omega) (by omega)
  have hq' : q' ≤ 200 := by
    rcases a4 with ⟨_, _, e, _⟩ | ⟨_, _, e, _⟩
    · rw [e]; exact h.bq
    · rw [e]; have := h.bL; omega
  refine ⟨hkF, { F with al := true, q := q', S := S', N := N', M := M', v := v', k := k', fr := .pointer none, nx := .map none }, ?_, ⟨hkw, ?_, by simp, ?_⟩, rfl⟩
  · exact {
      face := hk.get h3.face (hnot _ m1.symm x1.symm)
      heap := hk.get h3.heap (hnot _ m2.symm x2.symm)
      row := hk.owns h3.row (fun y hy => hnot _ (m6 y hy).symm (x7 y hy).symm)
      obj := by rw [he]; exact hB'
      shp := hk.get a2 (new S' a1)
      leaf := fun h => by cases h
      nms := by
        rcases a4 with ⟨e1, e2, e3, e4, e5⟩ | ⟨e1, e2, e3, e4⟩
        · subst e1 e2 e4
          exact a3.kept hk (hnot _ m4.symm x5.symm) (hnot _ m5.symm x6.symm) (fun y hy => hnot _ (m7 y hy).symm (x8 y hy).symm)
        · exact a3.kept hk (new _ e1) (new _ e2) (fun y hy => new _ (e4 y hy))
      prs := by
        have hprs := h3.prs
        rw [he] at hprs
        have := prs_stored (p := p) rfl hprs (k3.get hG (by simp)) hi hG' hs' hl'
        rw [he, List.length_set]
        exact this
      str := hk.stAt h3.str (fun y hy => by
        rcases h3.str with ⟨e3, _⟩ | ⟨X, e3, hX⟩
        · rw [e3] at hy; simp [stB] at hy
        · rw [e3] at hy
          simp [stB] at hy
          subst hy
          exact hnot _ (m8 _ e3).symm (x9 _ e3).symm)
      full := h.full
      sep := by
        intro X hX
        rcases a4 with ⟨e1, e2, e3, e4, e5⟩ | ⟨e1, e2, e3, e4⟩
        · subst e2
          exact h.sep X hX
        · refine ⟨fun e => ?_, (h.sep X hX).2⟩
          have : X < w.heap.size := (h.lt X (by simp [Fp.blocks, show F.st = .map (some X) from hX, stB])).2
          have e2' : w.heap.size ≤ M' := e2
          rw [show X = M' from e] at this
          omega
      len := by rw [List.length_set]; exact h.len
      nd := h.nd
      ok := h.ok
      lo := by
        obtain ⟨l1, l2, l3, l4, l5, l6⟩ := h.lo
        have hw0 := h.n0w
        refine ⟨l1, l2, l3, Nat.le_trans hw0 a1, ?_, ?_⟩
        · rcases a4 with ⟨e1, _⟩ | ⟨e1, _⟩
          · exact e1 ▸ l5
          · exact Nat.le_trans hw0 e1
        · rcases a4 with ⟨_, e1, _⟩ | ⟨_, e1, _⟩
          · exact e1 ▸ l6
          · exact Nat.le_trans hw0 e1
      bL := h.bL
      bq := hq'
      bm := h.bm
      ql := by
        have := h.ql
        rcases a4 with ⟨_, _, e, _⟩ | ⟨_, _, e, _⟩
        · simp [e]; exact this
        · simp [e]
      n0w := Nat.le_trans h3.n0w hk.size }
  · intro j hj
    simp only [Fp.blocks, List.mem_cons, List.mem_append] at hj ⊢
    rcases hj with h1 | h1 | h1 | h1 | h1 | h1 | ((h1 | h1) | h1) | h1
    · simp [h1]
    · simp [h1]
    · simp [h1]
    · exact .inr (by omega)
    · rcases a4 with ⟨e1, _⟩ | ⟨e1, _⟩
      · simp [h1, e1]
      · exact .inr (by omega)
    · rcases a4 with ⟨_, e1, _⟩ | ⟨_, e1, _⟩
      · simp [h1, e1]
      · exact .inr (by omega)
    · simp [h1]
    · rcases a4 with ⟨_, _, _, e1, _⟩ | ⟨_, _, _, e1⟩
      · rw [e1] at h1; simp [h1]
      · exact .inr (e1 j (by simpa using h1))
    · simp [h1]
    · simp [h1]
  · rcases a4 with ⟨_, _, e, _⟩ | ⟨_, _, e, _⟩
    · simp [e]
    · have := h.ql
      simp [e]
      omega
theorem FSt.setShut {w : World} {n0 O H b : Nat} {arr fx : Bool} {L : List ByteArray} {P : List Pr} {f : Nat → Option Pr} {F : Fp} (h : FSt w n0 O H b arr fx L P f F) (nm : ByteArray) (hnm : nm.size ≤ maxLen) (i : Nat) (hi : pf L nm = some i) (x : Nat) (hp : P[i]? = some (false, true, true, x)) :
    ∀ W, Kx [] w W → Calls Tryz.prog 59 #[.pointer (some ⟨b, 0, none⟩), .agg #[.string nm, .int .u32 0, .bool false], .agg #[.bool false, .bool true, .bool false, .bool false, .int .i64 3, .float .f64 x, .string ⟨#[]⟩, .pointer none, .pointer none, .pointer none]] W fun e w' => (∃ u, e = .returned u) ∧ Kx (F.blocks O H b) W w' ∧ ∃ F', FSt w' n0 O H b arr fx L (P.set i (false, true, false, x)) f F' ∧ Nxt w O H b F w' F' ∧ F'.nv = F.nv := by
  intro W hW
  have hs := h.kept0 hW
  have hil := (List.getElem?_eq_some_iff.1 ((pf_get _ L rfl h.nd _ i).1 hi)).1
  have hl := h.len
  have hbl := h.bL
  obtain ⟨g, cap, e⟩ := ownsRow_pos (by omega) hs.prs
  have hprs := hs.prs
  have hob := hs.obj
  rw [e] at hprs hob
  obtain ⟨cur, hG, hcs, ht⟩ := prs_cur hprs hp (by omega)
  refine (set_shut b F.S g i P.length cap nm 0 x _ _ _ _ _ _ _ _ cur (Apt w n0 F L) W hob hG (by omega) (by omega) hcs (ht 0 (by omega)) (ht 1 (by omega)) (ht 2 (by omega)) (ht 3 (by omega))
    (fun W2 hW2 => h.find nm hnm (some i) hi W2 (hW.same hW2)) (fun W2 hW2 => h.apart W2 (hW.same hW2))).mono ?_
  rintro e2 w' ⟨hu, S', w3, cur', k3, hA, hB', hG', hs', hl', hk⟩
  exact ⟨hu, h.turned hW (by omega) (false, true, false, x) e hG k3 hA hB' hG' hs' hl' hk⟩
theorem FSt.setLen {w : World} {n0 O H b : Nat} {arr fx : Bool} {L : List ByteArray} {P : List Pr} {f : Nat → Option Pr} {F : Fp} (h : FSt w n0 O H b arr fx L P f F) (nm : ByteArray) (hnm : nm.size ≤ maxLen) (i : Nat) (hi : pf L nm = some i) (x : Nat) (hp : P[i]? = some (true, false, false, x)) :
    ∀ W, Kx [] w W → Calls Tryz.prog 59 #[.pointer (some ⟨b, 0, none⟩), .agg #[.string nm, .int .u32 0, .bool false], .agg #[.bool false, .bool false, .bool false, .bool false, .int .i64 3, .float .f64 x, .string ⟨#[]⟩, .pointer none, .pointer none, .pointer none]] W fun e w' => (∃ u, e = .returned u) ∧ Kx (F.blocks O H b) W w' ∧ ∃ F', FSt w' n0 O H b arr fx L (P.set i (false, false, false, x)) f F' ∧ Nxt w O H b F w' F' ∧ F'.nv = F.nv := by
  intro W hW
  have hs := h.kept0 hW
  have hil := (List.getElem?_eq_some_iff.1 ((pf_get _ L rfl h.nd _ i).1 hi)).1
  have hl := h.len
  have hbl := h.bL
  obtain ⟨g, cap, e⟩ := ownsRow_pos (by omega) hs.prs
  have hprs := hs.prs
  have hob := hs.obj
  rw [e] at hprs hob
  obtain ⟨cur, hG, hcs, ht⟩ := prs_cur hprs hp (by omega)
  refine (set_len b F.S g i P.length cap nm 0 x _ _ _ _ _ _ _ _ cur (Apt w n0 F L) W hob hG (by omega) (by omega) hcs (ht 0 (by omega)) (ht 1 (by omega)) (ht 2 (by omega)) (ht 3 (by omega))
    (fun W2 hW2 => h.find nm hnm (some i) hi W2 (hW.same hW2)) (fun W2 hW2 => h.apart W2 (hW.same hW2))).mono ?_
  rintro e2 w' ⟨hu, S', w3, cur', k3, hA, hB', hG', hs', hl', hk⟩
  exact ⟨hu, h.turned hW (by omega) (false, false, false, x) e hG k3 hA hB' hG' hs' hl' hk⟩
/-- The length's number is stored. -/
theorem FSt.lenNum {w : World} {n0 O H b : Nat} {arr fx : Bool} {L : List ByteArray} {P : List Pr} {f : Nat → Option Pr} {F : Fp} (h : FSt w n0 O H b arr fx L P f F) {g cap : Nat} (e : F.nv = .slice (some ⟨g, 0, none⟩) P.length cap) (p0 p1 p2 : Bool) (x0 x : Nat) (hp : P[0]? = some (p0, p1, p2, x0)) :
    FSt (w.setCell ⟨g, 5, none⟩ (.float .f64 x)) n0 O H b arr fx L (P.set 0 (p0, p1, p2, x)) f F ∧ Kx (F.blocks O H b) w (w.setCell ⟨g, 5, none⟩ (.float .f64 x)) := by
  have hpos := (List.getElem?_eq_some_iff.1 hp).1
  have hprs := h.prs
  have hne := h.ne
  rw [e] at hprs hne
  obtain ⟨cur, hG, hcs, ht⟩ := prs_cur hprs hp hpos
  have hG' := heap_setCell hG 5 (.float .f64 x)
  have hk : Kx [g] w (w.setCell ⟨g, 5, none⟩ (.float .f64 x)) := Kx.setCell _ (by simp) _
  have hgF : g ∈ F.blocks O H b := by simp [Fp.blocks, e, Value.ownBlock]
  obtain ⟨n1, n2, n3, n4, n5, n6, n7, n8, n9⟩ := hne.1 g rfl
  have hn : ∀ x, x ≠ g → x ∉ [g] := fun x hx hm => hx (List.mem_singleton.1 hm)
  refine ⟨?_, hk.mono (fun j hj => .inl (by rw [List.mem_singleton.1 hj]; exact hgF))⟩
  exact { h with
    face := hk.get h.face (hn _ n1.symm)
    heap := hk.get h.heap (hn _ n2.symm)
    row := hk.owns h.row (fun y hy => hn _ (n7 y hy).symm)
    obj := hk.get h.obj (hn _ n3.symm)
    shp := hk.get h.shp (hn _ n4.symm)
    nms := h.nms.kept hk (hn _ n5.symm) (hn _ n6.symm) (fun y hy => hn _ (n8 y hy).symm)
    prs := by
      have := prs_stored (p := (p0, p1, p2, x)) (i := 0) rfl hprs hG hpos hG' (by simp) (by
        obtain ⟨c0, c1, c2, c3, c4, c5, c6, c7, c8, c9, rest, hc⟩ : ∃ c0 c1 c2 c3 c4 c5 c6 c7 c8 c9 rest, cur.toList = c0 :: c1 :: c2 :: c3 :: c4 :: c5 :: c6 :: c7 :: c8 :: c9 :: rest := by
          have hl : 10 ≤ cur.toList.length := by rw [Array.length_toList]; omega
          obtain ⟨x0, t0, e0, h0⟩ := cons_of_le (n := 9) hl
          obtain ⟨x1, t1, e1, h1⟩ := cons_of_le h0
          obtain ⟨x2, t2, e2, h2⟩ := cons_of_le h1
          obtain ⟨x3, t3, e3, h3⟩ := cons_of_le h2
          obtain ⟨x4, t4, e4, h4⟩ := cons_of_le h3
          obtain ⟨x5, t5, e5, h5⟩ := cons_of_le h4
          obtain ⟨x6, t6, e6, h6⟩ := cons_of_le h5
          obtain ⟨x7, t7, e7, h7⟩ := cons_of_le h6
          obtain ⟨x8, t8, e8, h8⟩ := cons_of_le h7
          obtain ⟨x9, t9, e9, h9⟩ := cons_of_le h8
          exact ⟨x0, x1, x2, x3, x4, x5, x6, x7, x8, x9, t9, by rw [e0, e1, e2, e3, e4, e5, e6, e7, e8, e9]⟩
        have hcur : cur = (c0 :: c1 :: c2 :: c3 :: c4 :: c5 :: c6 :: c7 :: c8 :: c9 :: rest).toArray := by rw [← hc]
        subst hcur
        have q0 := ht 0 (by omega)
        have q1 := ht 1 (by omega)
        have q2 := ht 2 (by omega)
        have q3 := ht 3 (by omega)
        have q4 := ht 4 (by omega)
        have q6 := ht 6 (by omega)
        have q7 := ht 7 (by omega)
        have q8 := ht 8 (by omega)
        have q9 := ht 9 (by omega)
        simp [prL] at q0 q1 q2 q3 q4 q6 q7 q8 q9
        simp [prL, q0, q1, q2, q3, q4, q6, q7, q8, q9])
      rw [e, List.length_set]
      exact this
    str := hk.stAt h.str (fun y hy => hn _ (by
      rcases h.str with ⟨e3, _⟩ | ⟨X, e3, _⟩
      · rw [e3] at hy; simp [stB] at hy
      · rw [e3] at hy
        simp [stB] at hy
        subst hy
        exact (n9 _ e3).symm))
    len := by rw [List.length_set]; exact h.len
    n0w := Nat.le_trans h.n0w hk.size }
theorem FSt.fixed {w : World} {n0 O H b : Nat} {arr fx : Bool} {L : List ByteArray} {P : List Pr} {f : Nat → Option Pr} {F : Fp} (h : FSt w n0 O H b arr fx L P f F) :
    FSt (w.setCell ⟨b, 2, none⟩ (.bool true)) n0 O H b arr true L P f F ∧ Kx (F.blocks O H b) w (w.setCell ⟨b, 2, none⟩ (.bool true)) := by
  have hk : Kx [b] w (w.setCell ⟨b, 2, none⟩ (.bool true)) := Kx.setCell _ (by simp) _
  obtain ⟨m0, m1, m2, m3, m4, m5, m6, m7, m8, m9⟩ := h.ne
  have hn : ∀ x, x ≠ b → x ∉ [b] := fun x hx hm => hx (List.mem_singleton.1 hm)
  refine ⟨?_, hk.mono (fun j hj => .inl (by rw [List.mem_singleton.1 hj]; simp [Fp.blocks]))⟩
  exact { h with
    face := hk.get h.face (hn _ m1.symm)
    heap := hk.get h.heap (hn _ m2.symm)
    row := hk.owns h.row (fun y hy => hn _ (m6 y hy).symm)
    obj := heap_set_at h.obj 2 _ rfl
    shp := hk.get h.shp (hn _ m3.symm)
    nms := h.nms.kept hk (hn _ m4.symm) (hn _ m5.symm) (fun y hy => hn _ (m7 y hy).symm)
    prs := hk.owns h.prs (fun y hy => hn _ (m0 y hy).2.2.1)
    str := hk.stAt h.str (fun y hy => hn _ (by
      rcases h.str with ⟨e3, _⟩ | ⟨X, e3, _⟩
      · rw [e3] at hy; simp [stB] at hy
      · rw [e3] at hy
        simp [stB] at hy
        subst hy
        exact (m8 _ e3).symm))
    n0w := Nat.le_trans h.n0w hk.size }
end Go.Proofs.YtmicdbplkfdfnaaGreatDoor
set_option linter.unusedVariables false
namespace Go.Proofs.YtmicdbplkfdfnaaGreatDoor
open Go.RowKit Go.Shelf Go.Maps
attribute [local go_sem] run_store_flt

set_option maxRecDepth 100000 in
set_option maxHeartbeats 4000000 in
theorem define_newN (b : Nat) (C nm : ByteArray) (pl : Int) (t0 t1 t2 hv hw he hc : Bool) (t4 : Int) (t5 : Nat) (t6 : ByteArray) (t7 : Option Addr) (q0 q1 q2 p0 p1 p2 : Bool) (q4 p4 : Int) (q5 p5 : Nat) (q6 p6 : ByteArray) (q7 p7 : Option Addr) (T : List Nat) (R : World → Prop) (w : World)
    (hb : w.cell? ⟨b, 0, none⟩ = some (.string C)) (hC : (C.toList == [65, 114, 114, 97, 121]) = false) (hT : ∀ i ∈ T, i < w.heap.size)
    (cO : ∀ W, Kx [] w W → Calls Tryz.prog 25 #[.pointer (some ⟨b, 0, none⟩), .agg #[.string nm, .int .u32 pl, .bool false]] W fun e w' => e = .returned (.tuple #[.agg #[.bool q0, .bool q1, .bool q2, .bool false, .int .i64 q4, .float .f64 q5, .string q6, .pointer q7, .pointer none, .pointer none], .bool false]) ∧ Kx [] W w')
    (cR : ∀ W, Kx [] w W → Calls Tryz.prog 68 #[.pointer (some ⟨b, 0, none⟩), .agg #[.string nm, .int .u32 pl, .bool false]] W fun e w' => e = .returned (.bool true) ∧ Kx [] W w')
    (cW : ∀ W, Kx [] w W → Calls Tryz.prog 69 #[.agg #[.bool q0, .bool q1, .bool q2, .bool false, .int .i64 q4, .float .f64 q5, .string q6, .pointer q7, .pointer none, .pointer none], .agg #[.bool t0, .bool t1, .bool t2, .bool false, .int .i64 t4, .float .f64 t5, .string t6, .pointer t7, .pointer none, .pointer none, .bool hv, .bool false, .bool false, .bool hw, .bool he, .bool hc]] W fun e w' => e = .returned (.agg #[.bool p0, .bool p1, .bool p2, .bool false, .int .i64 p4, .float .f64 p5, .string p6, .pointer p7, .pointer none, .pointer none]) ∧ Kx [] W w')
    (cS : ∀ W, Kx [] w W → Calls Tryz.prog 59 #[.pointer (some ⟨b, 0, none⟩), .agg #[.string nm, .int .u32 pl, .bool false], .agg #[.bool p0, .bool p1, .bool p2, .bool false, .int .i64 p4, .float .f64 p5, .string p6, .pointer p7, .pointer none, .pointer none]] W fun e w' => (∃ u, e = .returned u) ∧ Kx T W w' ∧ R w')
    (cL : ∀ W, R W → Calls Tryz.prog 70 #[.pointer (some ⟨b, 0, none⟩)] W fun e w' => e = .returned (.pointer none) ∧ w' = W) :
    Calls Tryz.prog 41 #[.pointer (some ⟨b, 0, none⟩), .agg #[.string nm, .int .u32 pl, .bool false], .agg #[.bool t0, .bool t1, .bool t2, .bool false, .int .i64 t4, .float .f64 t5, .string t6, .pointer t7, .pointer none, .pointer none, .bool hv, .bool false, .bool false, .bool hw, .bool he, .bool hc]] w fun e w' => e = .returned .nilIface ∧ ∃ W q, R W ∧ w' = W.drewN q := by
  have c1 := fun W => tellsF_any (.bool t0) (.bool t1) (.bool t2) (.bool false) (.int .i64 t4) (.float .f64 t5) (.string t6) (.pointer t7) (.pointer none) (.pointer none) hv false false hw he hc W
  rw [Bool.or_false] at c1
  obtain ⟨W1, hW1⟩ : ∃ W1, W1 = ((w.alloc (Obj.cells #[.string nm, .int .u32 pl, .bool false] 67)).alloc (Obj.cells #[.bool t0, .bool t1, .bool t2, .bool false, .int .i64 t4, .float .f64 t5, .string t6, .pointer t7, .pointer none, .pointer none, .bool hv, .bool false, .bool false, .bool hw, .bool he, .bool hc] 99)).alloc (Obj.cells #[.bool t0, .bool t1, .bool t2, .bool false, .int .i64 t4, .float .f64 t5, .string t6, .pointer t7, .pointer none, .pointer none, .bool hv, .bool false, .bool false, .bool hw, .bool he, .bool hc] 99) := ⟨_, rfl⟩
  have hk1 : Kx [] w W1 := by rw [hW1]; exact (show Kx [] w _ from ((Kx.alloc _ _ _).alc _).alc _)
  have hK1 : W1.heap[w.heap.size]? = some (Obj.cells #[.string nm, .int .u32 pl, .bool false] 67 (0, 0)) := by rw [hW1]; exact heap_old (heap_old (heap_alloc_new _ _) _) _
  have hT1 : W1.heap[w.heap.size + 1]? = some (Obj.cells #[.bool t0, .bool t1, .bool t2, .bool false, .int .i64 t4, .float .f64 t5, .string t6, .pointer t7, .pointer none, .pointer none, .bool hv, .bool false, .bool false, .bool hw, .bool he, .bool hc] 99 (0, 0)) := by rw [hW1]; exact heap_old (heap_alloc2_new _ _ _) _
  have b0 : W1.cell? ⟨b, 0, none⟩ = some (.string C) := hk1.cell hb (by simp)
  have CO := (show Hid (∀ W, Kx [] w W → Calls Tryz.prog 25 #[.pointer (some ⟨b, 0, none⟩), .agg #[.string nm, .int .u32 pl, .bool false]] W fun e w' => e = .returned (.tuple #[.agg #[.bool q0, .bool q1, .bool q2, .bool false, .int .i64 q4, .float .f64 q5, .string q6, .pointer q7, .pointer none, .pointer none], .bool false]) ∧ Kx [] W w') from cO)
  clear cO
  have CR := (show Hid (∀ W, Kx [] w W → Calls Tryz.prog 68 #[.pointer (some ⟨b, 0, none⟩), .agg #[.string nm, .int .u32 pl, .bool false]] W fun e w' => e = .returned (.bool true) ∧ Kx [] W w') from cR)
  clear cR
  have CW := (show Hid (∀ W, Kx [] w W → Calls Tryz.prog 69 #[.agg #[.bool q0, .bool q1, .bool q2, .bool false, .int .i64 q4, .float .f64 q5, .string q6, .pointer q7, .pointer none, .pointer none], .agg #[.bool t0, .bool t1, .bool t2, .bool false, .int .i64 t4, .float .f64 t5, .string t6, .pointer t7, .pointer none, .pointer none, .bool hv, .bool false, .bool false, .bool hw, .bool he, .bool hc]] W fun e w' => e = .returned (.agg #[.bool p0, .bool p1, .bool p2, .bool false, .int .i64 p4, .float .f64 p5, .string p6, .pointer p7, .pointer none, .pointer none]) ∧ Kx [] W w') from cW)
  clear cW
  have CS := (show Hid (∀ W, Kx [] w W → Calls Tryz.prog 59 #[.pointer (some ⟨b, 0, none⟩), .agg #[.string nm, .int .u32 pl, .bool false], .agg #[.bool p0, .bool p1, .bool p2, .bool false, .int .i64 p4, .float .f64 p5, .string p6, .pointer p7, .pointer none, .pointer none]] W fun e w' => (∃ u, e = .returned u) ∧ Kx T W w' ∧ R w') from cS)
  clear cS
  have CL := (show Hid (∀ W, R W → Calls Tryz.prog 70 #[.pointer (some ⟨b, 0, none⟩)] W fun e w' => e = .returned (.pointer none) ∧ w' = W) from cL)
  clear cL
  have HT := (show Hid (∀ i ∈ T, i < w.heap.size) from hT)
  have C1 := (show Hid _ from c1)
  have HK1 := (show Hid (Kx [] w W1) from hk1)
  have HKB := (show Hid (W1.heap[w.heap.size]? = some (Obj.cells #[.string nm, .int .u32 pl, .bool false] 67 (0, 0))) from hK1)
  have HTB := (show Hid (W1.heap[w.heap.size + 1]? = some (Obj.cells #[.bool t0, .bool t1, .bool t2, .bool false, .int .i64 t4, .float .f64 t5, .string t6, .pointer t7, .pointer none, .pointer none, .bool hv, .bool false, .bool false, .bool hw, .bool he, .bool hc] 99 (0, 0))) from hT1)
  clear hT c1 hk1 hK1 hT1 hb
  have B0 := (show Hid (W1.cell? ⟨b, 0, none⟩ = some (.string C)) from b0)
  clear b0
  go_enter Tryz.func41, Tryz.ntmps41
  go_wp2_with (first | (go_at_call 64; fail))
  refine (C1.out _).mono ?_
  rintro e w1 ⟨rfl, rfl⟩
  rw [← hW1]
  clear hW1 C1
  have b0 := B0.out
  have k0 := cell_at HKB.out 0 rfl
  have k1 := cell_at HKB.out 1 rfl
  have k2 := cell_at HKB.out 2 rfl
  go_wp2_with (first | (go_at_call 25; fail))
  refine (CO.out W1 HK1.out).mono ?_
  rintro e w2 ⟨rfl, hk2⟩
  clear b0 k0 k1 k2 CO B0
  have hk2' : Kx [] W1 (w2.alloc (Obj.cells #[.bool q0, .bool q1, .bool q2, .bool false, .int .i64 q4, .float .f64 q5, .string q6, .pointer q7, .pointer none, .pointer none] 75)) := hk2.alc _
  replace HKB : Hid ((w2.alloc (Obj.cells #[.bool q0, .bool q1, .bool q2, .bool false, .int .i64 q4, .float .f64 q5, .string q6, .pointer q7, .pointer none, .pointer none] 75)).heap[w.heap.size]? = some (Obj.cells #[.string nm, .int .u32 pl, .bool false] 67 (0, 0))) := hk2'.get HKB.out (by simp)
  replace HTB : Hid ((w2.alloc (Obj.cells #[.bool q0, .bool q1, .bool q2, .bool false, .int .i64 q4, .float .f64 q5, .string q6, .pointer q7, .pointer none, .pointer none] 75)).heap[w.heap.size + 1]? = some (Obj.cells #[.bool t0, .bool t1, .bool t2, .bool false, .int .i64 t4, .float .f64 t5, .string t6, .pointer t7, .pointer none, .pointer none, .bool hv, .bool false, .bool false, .bool hw, .bool he, .bool hc] 99 (0, 0))) := hk2'.get HTB.out (by simp)
  have HPB : Hid ((w2.alloc (Obj.cells #[.bool q0, .bool q1, .bool q2, .bool false, .int .i64 q4, .float .f64 q5, .string q6, .pointer q7, .pointer none, .pointer none] 75)).heap[w2.heap.size]? = some (Obj.cells #[.bool q0, .bool q1, .bool q2, .bool false, .int .i64 q4, .float .f64 q5, .string q6, .pointer q7, .pointer none, .pointer none] 75 (0, 0))) := heap_alloc_new _ _
  replace HK1 : Hid (Kx [] w (w2.alloc (Obj.cells #[.bool q0, .bool q1, .bool q2, .bool false, .int .i64 q4, .float .f64 q5, .string q6, .pointer q7, .pointer none, .pointer none] 75))) := (show Kx [] w _ from HK1.out.same hk2')
  obtain ⟨B2, hB2⟩ : ∃ B2, B2 = w2.heap.size := ⟨_, rfl⟩
  clear hk2 hk2'
  have k0 := cell_at HKB.out 0 rfl
  have k1 := cell_at HKB.out 1 rfl
  have k2 := cell_at HKB.out 2 rfl
  go_wp2_with (first | (go_at_call 68; fail))
  refine (CR.out _ HK1.out).mono ?_
  rintro e w3 ⟨rfl, hk3⟩
  clear k0 k1 k2
  replace HKB : Hid (w3.heap[w.heap.size]? = some (Obj.cells #[.string nm, .int .u32 pl, .bool false] 67 (0, 0))) := hk3.get HKB.out (by simp)
  replace HTB : Hid (w3.heap[w.heap.size + 1]? = some (Obj.cells #[.bool t0, .bool t1, .bool t2, .bool false, .int .i64 t4, .float .f64 t5, .string t6, .pointer t7, .pointer none, .pointer none, .bool hv, .bool false, .bool false, .bool hw, .bool he, .bool hc] 99 (0, 0))) := hk3.get HTB.out (by simp)
  replace HPB : Hid (w3.heap[w2.heap.size]? = some (Obj.cells #[.bool q0, .bool q1, .bool q2, .bool false, .int .i64 q4, .float .f64 q5, .string q6, .pointer q7, .pointer none, .pointer none] 75 (0, 0))) := hk3.get HPB.out (by simp)
  rw [← hB2] at HPB
  replace HK1 : Hid (Kx [] w w3) := (show Kx [] w w3 from HK1.out.same hk3)
  clear hk3 CR
  have k0 := cell_at HKB.out 0 rfl
  have k1 := cell_at HKB.out 1 rfl
  have k2 := cell_at HKB.out 2 rfl
  rw [← hB2]
  clear hB2
  go_upto_region 8 with fail
  go_quiet (fail)
  obtain ⟨w6, hw6⟩ : ∃ w6, w6 = w3.drewN nq := ⟨_, rfl⟩
  rw [← hw6]
  replace HKB : Hid (w6.heap[w.heap.size]? = some (Obj.cells #[.string nm, .int .u32 pl, .bool false] 67 (0, 0))) := by rw [hw6]; exact HKB.out
  replace HTB : Hid (w6.heap[w.heap.size + 1]? = some (Obj.cells #[.bool t0, .bool t1, .bool t2, .bool false, .int .i64 t4, .float .f64 t5, .string t6, .pointer t7, .pointer none, .pointer none, .bool hv, .bool false, .bool false, .bool hw, .bool he, .bool hc] 99 (0, 0))) := by rw [hw6]; exact HTB.out
  replace HPB : Hid (w6.heap[B2]? = some (Obj.cells #[.bool q0, .bool q1, .bool q2, .bool false, .int .i64 q4, .float .f64 q5, .string q6, .pointer q7, .pointer none, .pointer none] 75 (0, 0))) := by rw [hw6]; exact HPB.out
  replace HK1 : Hid (Kx [] w w6) := by rw [hw6]; exact HK1.out.drw _
  clear hw6 k0 k1 k2
  have k0 := cell_at HKB.out 0 rfl
  have k1 := cell_at HKB.out 1 rfl
  have k2 := cell_at HKB.out 2 rfl
  have ct0 := cell_at HTB.out 0 rfl
  have ct1 := cell_at HTB.out 1 rfl
  have ct2 := cell_at HTB.out 2 rfl
  have ct3 := cell_at HTB.out 3 rfl
  have ct4 := cell_at HTB.out 4 rfl
  have ct5 := cell_at HTB.out 5 rfl
  have ct6 := cell_at HTB.out 6 rfl
  have ct7 := cell_at HTB.out 7 rfl
  have ct8 := cell_at HTB.out 8 rfl
  have ct9 := cell_at HTB.out 9 rfl
  have ct10 := cell_at HTB.out 10 rfl
  have ct11 := cell_at HTB.out 11 rfl
  have ct12 := cell_at HTB.out 12 rfl
  have ct13 := cell_at HTB.out 13 rfl
  have ct14 := cell_at HTB.out 14 rfl
  have ct15 := cell_at HTB.out 15 rfl
  have cz0 := cell_at HPB.out 0 rfl
  have cz1 := cell_at HPB.out 1 rfl
  have cz2 := cell_at HPB.out 2 rfl
  have cz3 := cell_at HPB.out 3 rfl
  have cz4 := cell_at HPB.out 4 rfl
  have cz5 := cell_at HPB.out 5 rfl
  have cz6 := cell_at HPB.out 6 rfl
  have cz7 := cell_at HPB.out 7 rfl
  have cz8 := cell_at HPB.out 8 rfl
  have cz9 := cell_at HPB.out 9 rfl
  go_wp2_with (first | (go_at_call 69; fail) | (go_at_call 59; fail))
  go_region_law (first | (go_simp; go_at_call 69; refine (CW.out _ (by first | exact HK1.out | exact HK1.out.drw1 | exact HK1.out.drw _)).mono ?_; rintro e w4 ⟨rfl, hk4⟩; have HKC : Hid (w4.heap[w.heap.size]? = some (Obj.cells #[.string nm, .int .u32 pl, .bool false] 67 (0, 0))) := hk4.get HKB.out (by simp); have y0 := cell_at HKC.out 0 rfl; have y1 := cell_at HKC.out 1 rfl; have y2 := cell_at HKC.out 2 rfl; have HK4 : Hid (Kx [] w w4) := (show Kx [] w w4 from (HK1.out.drw1).same hk4)) | (go_simp; go_at_call 59; refine (CS.out _ HK4.out).mono ?_; rintro e w5 ⟨⟨u, rfl⟩, hk5, hR5⟩))
  all_goals have HR5 : Hid (R w5) := hR5
  all_goals have HKD : Hid (w5.heap[w.heap.size]? = some (Obj.cells #[.string nm, .int .u32 pl, .bool false] 67 (0, 0))) := hk5.get HKC.out (fun hm => by have := HT.out _ hm; omega)
  all_goals have c70 := CL.out w5 HR5.out
  all_goals clear hR5 hk4 hk5 CS CW HK1 HK4 HKB HTB HPB HKC y0 y1 y2 k0 k1 k2 ct0 ct1 ct2 ct3 ct4 ct5 ct6 ct7 ct8 ct9 ct10 ct11 ct12 ct13 ct14 ct15 cz0 cz1 cz2 cz3 cz4 cz5 cz6 cz7 cz8 cz9 HT CL hC
  all_goals clear HKD
  all_goals
    go_wp2_with (first | (go_at_call 70; refine c70.mono ?_; rintro e w7 ⟨rfl, rfl⟩))
    go_ret
    exact ⟨rfl, _, 0, HR5.out, rfl⟩
end Go.Proofs.YtmicdbplkfdfnaaGreatDoor
