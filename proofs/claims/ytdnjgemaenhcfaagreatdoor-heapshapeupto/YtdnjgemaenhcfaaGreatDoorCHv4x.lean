/- New, plain.Make, Same, Keys at the state. -/
import Derived.Test.YtdnjgemaenhcfaaGreatDoorCHv1x
set_option linter.unusedVariables false
namespace Go.Proofs.YtdnjgemaenhcfaaGreatDoor
open Go.RowKit Go.Shelf Go.Maps

theorem wNew_facts (w : World) : (wNew w).heap[w.heap.size]? = some (.map #[] 0) ∧ (wNew w).heap[w.heap.size + 1]? = some (.cells #[.slice none 0 0, .map (some w.heap.size), .int .i64 0] 121 (0, 0)) ∧ (wNew w).heap[w.heap.size + 1 + 1]? = some (.cells #[.pointer (some ⟨w.heap.size + 1, 0, none⟩), .int .i64 0, .pointer none, .map none, .bool false, .bool false] 118 (0, 0)) ∧
    (wNew w).heap[w.heap.size + 1 + 1 + 1]? = some (.cells #[.slice none 0 0, .int .i64 0, .pointer (some ⟨w.heap.size + 1 + 1, 0, none⟩)] 91 (0, 0)) ∧ (wNew w).heap[w.heap.size + 1 + 1 + 1 + 1]? = some (.cells #[.pointer (some ⟨w.heap.size + 1 + 1 + 1, 0, none⟩)] 54 (0, 0)) ∧ Kx [] w (wNew w) ∧ (wNew w).heap.size = w.heap.size + 5 := by
  have e1 : (w.alloc (Obj.map #[] 0)).heap.size = w.heap.size + 1 := by simp
  have e2 : ((w.alloc (Obj.map #[] 0)).alloc (Obj.cells #[.slice none 0 0, .map (some w.heap.size), .int .i64 0] 121)).heap.size = w.heap.size + 1 + 1 := by simp
  have e3 := wShape_size w
  have e4 := wHeap_size w
  refine ⟨?_, ?_, ?_, ?_, ?_, ?_, ?_⟩
  · exact heap_old (heap_old (heap_old (heap_old (heap_alloc_new _ _) _) _) _) _
  · refine heap_old (heap_old (heap_old ?_ _) _) _
    rw [← e1]
    exact heap_alloc_new _ _
  · refine heap_old (heap_old ?_ _) _
    rw [← e2]
    exact heap_alloc_new _ _
  · refine heap_old ?_ _
    rw [← e3]
    exact heap_alloc_new _ _
  · rw [← e4]
    exact heap_alloc_new _ _
  · exact ((((Kx.alloc _ _ _).alc _).alc _).alc _).alc _
  · simp [wNew, e4]
theorem new_state (w : World) : HSt (wNew w) w.heap.size (w.heap.size + 1 + 1 + 1 + 1) (w.heap.size + 1 + 1 + 1) (.slice none 0 0) (w.heap.size + 1 + 1) 0 [w.heap.size + 1 + 1, w.heap.size + 1, w.heap.size] [(w.heap.size + 1 + 1, [])] [] ∧ Objs (wNew w) (w.heap.size + 1 + 1 + 1) [] := by
  obtain ⟨f1, f2, f3, f4, f5, f6, f7⟩ := wNew_facts w
  have hm : IMap (wNew w) w.heap.size 0 (pf []) := by
    have h0 := imap_made w
    obtain ⟨D, ⟨es, clock, hb, rest⟩, hD⟩ := h0
    rw [heap_alloc_new] at hb
    cases hb
    exact ⟨D, ⟨#[], 0, f1, rest⟩, hD⟩
  refine ⟨?_, by simp, .inl ⟨rfl, cell_at f4 0 rfl⟩⟩
  refine { face := f5, heap := f4, row := World.ownsRow_nil _ _ _ _, obj := fun i o ho => by simp at ho, tree := ?_, root := by simp, dB := fun i j o o' ho => by simp at ho, dR := fun i j o o' g ho => by simp at ho, fO := by simp; omega, fH := by simp; omega, fV := fun g hg => by simp [Value.ownBlock] at hg, fB := fun i o ho => by simp at ho, fR := fun i o ho => by simp at ho, hi := ?_, hH := by omega, len := by simp, n0w := by omega }
  · refine ⟨[⟨w.heap.size + 1 + 1, w.heap.size + 1, [], none⟩], [⟨w.heap.size + 1, w.heap.size, 0, .slice none 0 0, .int .i64 0, []⟩], ?_, by simp⟩
    refine { shape := ?_, next := ?_, last := ?_, par := ?_, has := ?_, names := ?_, dS := ?_, dP := ?_, dX := ?_, dN := ?_, dM := ?_, dXM := ?_, dR := ?_, fS := ?_, fX := ?_, fN := ?_, fM := ?_, fR := ?_, low := ?_ }
    · intro s hs
      simp at hs
      subst hs
      exact ⟨_, _, f3⟩
    · intro s hs x hx
      simp at hs
      subst hs
      cases hx
    · intro s hs hx t ht p hp
      simp at ht
      subst ht
      have := congrArg List.length hp
      simp at this
    · intro t ht q p hq
      simp at ht
      subst ht
      have := congrArg List.length hq
      simp at this
    · intro s hs
      simp at hs
      subst hs
      exact ⟨⟨w.heap.size + 1, w.heap.size, 0, .slice none 0 0, .int .i64 0, []⟩, by simp, rfl, by simp [nms]⟩
    · intro m hm2
      simp at hm2
      subst hm2
      exact ⟨⟨f2, World.ownsRow_nil _ _ _ _, hm⟩, Nat.le_refl _, by simp, by simp, by simp⟩
    · intro s hs t ht _
      simp at hs ht
      rw [hs, ht]
    · intro s hs t ht _
      simp at hs ht
      rw [hs, ht]
    · intro s hs t ht _ _ _
      simp at hs ht
      rw [hs, ht]
    · intro s hs t ht _
      simp at hs ht
      rw [hs, ht]
    · intro s hs t ht _
      simp at hs ht
      rw [hs, ht]
    · intro s hs x hx
      simp at hs
      subst hs
      cases hx
    · intro s hs t ht _ _ _
      simp at hs ht
      rw [hs, ht]
    · intro s hs
      simp at hs
      subst hs
      simp
    · intro s hs x hx
      simp at hs
      subst hs
      cases hx
    · intro s hs
      simp at hs
      subst hs
      simp
    · intro s hs
      simp at hs
      subst hs
      simp
    · intro s hs g hg
      simp at hs
      subst hs
      simp [Value.ownBlock] at hg
    · intro i hi
      simp at hi
      omega
  · intro i hi
    simp at hi
    omega
theorem HSt.make {w : World} {n0 O H : Nat} {hv : Value} {S0 B : Nat} {F : List Nat} {ps : List (Nat × List Stp)} {os : List Og} (h : HSt w n0 O H hv S0 B F ps os) (hO : Objs w H (os.map Og.b)) (hl : os.length < 100) :
    Calls Tryz.prog 6 #[.pointer (some ⟨O, 0, none⟩), .string objC, .int .i64 0] w fun e w' => e = .returned (.tuple #[.int .i64 ((os.length : Int) + 1), .int .i64 0]) ∧ ∃ b hv', HSt w' n0 O H hv' S0 B F ps (os ++ [⟨b, S0, [], .slice none 0 0, []⟩]) ∧ Below n0 w w' := by
  refine (make_plain O objC ((os.length : Int) + 1) (fun w' => ∃ b hv', HSt w' n0 O H hv' S0 B F ps (os ++ [⟨b, S0, [], .slice none 0 0, []⟩]) ∧ Below n0 w w') w ?_).mono ?_
  · refine (make_face O H objC (os.map Og.b) (fun b w' => ∃ hv', HSt w' n0 O H hv' S0 B F ps (os ++ [⟨b, S0, [], .slice none 0 0, []⟩]) ∧ Below n0 w w') w (by decide) h.O0 hO ((os.length : Int) + 1) ?_).mono ?_
    · intro W hW
      have h' := h.kept0 hW
      refine (make_heap H S0 n0 (os.map Og.b) hv objC W (by rw [List.length_map]; exact h'.heap) (by rw [List.length_map]; exact h'.row) (by rw [List.length_map]; omega) (Nat.le_trans h.n0w hW.size) objC_no).mono ?_
      rintro e w' ⟨b, v', rfl, k1, k2, k3, k4, k5, k6⟩
      rw [List.length_map] at k2 k3 k4
      have hbl := lt_get k2
      have nV : ∀ g, hv.ownBlock = some g → g < W.heap.size := fun g hg => (h'.row.lt g hg).2
      have nK : ∀ j, j ≠ H → (∀ g, hv.ownBlock = some g → j ≠ g) → j ∉ H :: hv.ownBlock.toList := by
        intro j e1 e2 hm
        simp only [List.mem_cons] at hm
        rcases hm with hm | hm
        · exact e1 hm
        · exact e2 j (by simpa using hm) rfl
      have getS : ∀ (j : Nat) (o2 : Og), (os ++ [⟨b, S0, [], .slice none 0 0, []⟩])[j]? = some o2 → os[j]? = some o2 ∨ (j = os.length ∧ o2 = ⟨b, S0, [], .slice none 0 0, []⟩) := by
        intro j o2 h2
        by_cases hj : j < os.length
        · rw [List.getElem?_append_left hj] at h2
          exact .inl h2
        · rw [List.getElem?_append_right (by omega)] at h2
          by_cases e : j = os.length
          · subst e
            simp at h2
            exact .inr ⟨rfl, h2.symm⟩
          · rw [List.getElem?_eq_none (by simp; omega)] at h2
            cases h2
      have hFl := h'.tree.low
      refine ⟨b, rfl, cell_at k2 4 rfl, v', ?_, ?_⟩
      · refine { face := ?_, heap := ?_, row := ?_, obj := ?_, tree := ?_, root := h.root, dB := ?_, dR := ?_, fO := h.fO, fH := h.fH, fV := ?_, fB := ?_, fR := ?_, hi := h.hi, hH := h.hH, len := by simp; omega, n0w := Nat.le_trans h'.n0w k6.size }
        · exact k6.get h'.face (nK O (cells_ne h'.face h'.heap (by decide)) (fun g hg e => owns_ne h'.row h'.face (by decide) g hg e.symm))
        · simpa using k3
        · rw [List.map_append, List.length_append]
          exact k4
        · intro j o2 h2
          rcases getS j o2 h2 with h3 | ⟨rfl, rfl⟩
          · obtain ⟨c1, c2, c3, c4, c5⟩ := h'.obj j o2 h3
            obtain ⟨a1, a2, a3, a4, a5⟩ := h'.bO h3
            exact ⟨k6.get c1 (nK _ (fun e => a2 e.symm) (fun g hg e => a3 g hg e.symm)), c2, k6.owns c3 (fun g hg => nK g (fun e => (a4 g hg).2.1 e.symm) (fun g' hg' e => a5 g g' hg hg' e.symm)), c4, c5⟩
          · exact ⟨k2, h.root, World.ownsRow_nil _ _ _ _, rfl, Nat.le_trans h'.n0w k1⟩
        · exact h'.tree.kept k6 (fun j hj => nK j (fun e => h.fH (e ▸ hj)) (fun g hg e => h.fV g hg (e ▸ hj)))
        · intro i j o o' ho ho' e
          rcases getS i o ho with h3 | ⟨rfl, rfl⟩ <;> rcases getS j o' ho' with h4 | ⟨rfl, rfl⟩
          · exact h.dB i j o o' h3 h4 e
          · have := lt_get (h'.obj i o h3).1
            simp at e
            omega
          · have := lt_get (h'.obj j o' h4).1
            simp at e
            omega
          · rfl
        · intro i j o o' g ho ho' e e'
          rcases getS i o ho with h3 | ⟨rfl, rfl⟩ <;> rcases getS j o' ho' with h4 | ⟨rfl, rfl⟩
          · exact h.dR i j o o' g h3 h4 e e'
          · simp [Value.ownBlock] at e'
          · simp [Value.ownBlock] at e
          · rfl
        · intro g hg hc
          rcases k5 g hg with e | e
          · exact h.fV g e hc
          · have := hFl g hc
            omega
        · intro i o ho hc
          rcases getS i o ho with h3 | ⟨rfl, rfl⟩
          · exact h.fB i o h3 hc
          · have := hFl _ hc
            simp at this
            omega
        · intro i o ho g hg hc
          rcases getS i o ho with h3 | ⟨rfl, rfl⟩
          · exact h.fR i o h3 g hg hc
          · simp [Value.ownBlock] at hg
      · refine (hW.below h.n0w (by simp)).trans (k6.below h'.n0w ?_)
        intro j hj
        simp only [List.mem_cons] at hj
        rcases hj with rfl | hj
        · exact h.hH
        · exact (h.row.lt j (by simpa using hj)).1
    · rintro e w' ⟨rfl, b, hv', k1, k2⟩
      exact ⟨rfl, b, hv', k1, k2⟩
  · rintro e w' ⟨rfl, W, ⟨b, hv', k1, k2⟩, hk⟩
    exact ⟨rfl, b, hv', k1.kept0 hk, k2.trans (hk.below k1.n0w (by simp))⟩
theorem HSt.same {w : World} {n0 O H : Nat} {hv : Value} {S0 B : Nat} {F : List Nat} {ps : List (Nat × List Stp)} {os : List Og} (h : HSt w n0 O H hv S0 B F ps os) {i j : Nat} {o o' : Og} (ho : os[i]? = some o) (ho' : os[j]? = some o') (sm : Bool) (hsm : sm = true ↔ o.path = o'.path) :
    Calls Tryz.prog 14 #[.pointer (some ⟨O, 0, none⟩), .int .i64 ((i : Int) + 1), .int .i64 ((j : Int) + 1)] w fun e w' => e = .returned (.bool sm) ∧ ∃ q, w' = w.drewN q := by
  have hne : os ≠ [] := by rintro rfl; simp at ho
  obtain ⟨b1, b2, _⟩ := h.obj i o ho
  obtain ⟨c1, c2, _⟩ := h.obj j o' ho'
  obtain ⟨C, hC, hC4⟩ := h.tree.shape b2
  obtain ⟨D, hD, _⟩ := h.tree.shape c2
  have c := same_any O H (os.map Og.b) ((i : Int) + 1) ((j : Int) + 1) o.b o'.b o.S o'.S false w h.O0 (h.objs hne) (by omega) (by rw [toNat_succ, List.getElem?_map, ho]; rfl) (by omega) (by rw [toNat_succ, List.getElem?_map, ho']; rfl) (cell_at b1 5 rfl) (cell_at c1 5 rfl) (cell_at hC 4 hC4) C D hC hD
  have e : (decide (o.S = o'.S) && !false) = sm := by
    rw [Bool.not_false, Bool.and_true]
    cases sm with
    | true => exact decide_eq_true ((h.tree.inj b2 c2).2 (hsm.1 rfl))
    | false => exact decide_eq_false (fun e => by cases hsm.2 ((h.tree.inj b2 c2).1 e))
  rw [e] at c
  exact c
theorem HSt.keys {w : World} {n0 O H : Nat} {hv : Value} {S0 B : Nat} {F : List Nat} {ps : List (Nat × List Stp)} {os : List Og} (h : HSt w n0 O H hv S0 B F ps os) {i : Nat} {o : Og} (ho : os[i]? = some o) (hB : B ≤ 900) :
    Calls Tryz.prog 8 #[.pointer (some ⟨O, 0, none⟩), .int .i64 ((i : Int) + 1)] w fun e w' => ∃ v, e = .returned v ∧ w'.ownsRow w.heap.size 9 1 v (nms o.path).length ((nms o.path).map Value.string) ∧ Kx [] w w' := by
  have hne : os ≠ [] := by rintro rfl; simp at ho
  obtain ⟨b1, b2, _⟩ := h.obj i o ho
  obtain ⟨N, M, n, v, k, L, fr, nx, kp, a1, a2, a3, a4, a5, a6, a7⟩ := h.tree.names b2
  obtain ⟨va, vc, rfl⟩ := owns_slice a2.2.1
  have hl := a3.length_le
  have htk : L.take o.path.length = nms o.path := by
    have := List.prefix_iff_eq_take.1 a3
    rw [nms_len] at this
    exact this.symm
  have c := keys_obj o.b o.S N M n 0 vc va k fr nx (.bool false) (.bool kp) none _ _ _ _ _ o.nv (.bool false) _ L o.path.length w b1 a1 a2.1 a2.2.1 a2.2.2 a4 a7 (by omega) (by rw [nms_len] at hl; exact hl)
  rw [htk] at c
  refine keys_face O H o.b (os.map Og.b) ((i : Int) + 1) (nms o.path) w h.O0 (h.objs hne) (by omega) (by rw [toNat_succ, List.getElem?_map, ho]; rfl) (by omega) ?_
  rw [nms_len]
  exact c
end Go.Proofs.YtdnjgemaenhcfaaGreatDoor
/- plain.Delete at the state, and Same behind it. -/
set_option linter.unusedVariables false
namespace Go.Proofs.YtdnjgemaenhcfaaGreatDoor
open Go.RowKit Go.Shelf Go.Maps

theorem HSt.delSame {w : World} {n0 O H : Nat} {hv : Value} {S0 B : Nat} {F : List Nat} {ps : List (Nat × List Stp)} {os : List Og} (h : HSt w n0 O H hv S0 B F ps os) {i j : Nat} {o o' : Og} (ho : os[i]? = some o) (ho' : os[j]? = some o') (hij : j ≠ i) (s : ByteArray) (hs : s.size ≤ 2000000) (hx : ixOf (unitsS s) < 0) (hm : txt (unitsS s) ∈ nms o.path) (hB : B ≤ 900) (hp : o.path.length ≤ 900) (hT : Lib.Utf8Tabs 2 3 w) :
    Calls Tryz.prog 12 #[.pointer (some ⟨O, 0, none⟩), .int .i64 ((i : Int) + 1), .string s] w fun e w' => e = .returned (.int .i64 0) ∧ Below n0 w w' ∧ Calls Tryz.prog 14 #[.pointer (some ⟨O, 0, none⟩), .int .i64 ((i : Int) + 1), .int .i64 ((j : Int) + 1)] w' fun e w'' => e = .returned (.bool false) ∧ ∃ q, w'' = w'.drewN q := by
  have hne : os ≠ [] := by rintro rfl; simp at ho
  have hb : (os.map Og.b)[(((i : Int) + 1) - 1).toNat]? = some o.b := by rw [toNat_succ, List.getElem?_map, ho]; rfl
  obtain ⟨b1, b2, b3, b4, b5⟩ := h.obj i o ho
  obtain ⟨q, hq⟩ := List.getElem?_of_mem hm
  have hql : q < o.path.length := by
    have := (List.getElem?_eq_some_iff.1 hq).1
    rwa [nms_len] at this
  obtain ⟨v, cO⟩ := h.ownYes ho (txt (unitsS s)) hq hp
  obtain ⟨g, cap, eg⟩ := ownsRow_pos (by omega) b3
  have hgb : o.nv.ownBlock = some g := by rw [eg]; rfl
  obtain ⟨N, M, n, vL, k, L, fr, nx, kp, a1, a2, a3, a4, a5, a6, a7⟩ := h.tree.names b2
  have hl := a3.length_le
  rw [nms_len] at hl
  have htk : L.take o.path.length = nms o.path := by
    have := List.prefix_iff_eq_take.1 a3
    rw [nms_len] at this
    exact this.symm
  have hsz : (txt (unitsS s)).size ≤ maxLen := a7 _ (a3.subset hm)
  refine (delete_plain O ((i : Int) + 1) s (fun w' => ∃ S' C', w.heap.size ≤ S' ∧ w'.heap[o.b]? = some (.cells (obV ((i : Int) + 1) S' o.nv) 111 (0, 0)) ∧ w'.heap[S']? = some (.cells C' 118 (0, 0)) ∧ C'[4]? = some (.bool true) ∧ Kx [o.b, g] w w') w ?_).mono ?_
  · refine delete_face O H o.b (os.map Og.b) ((i : Int) + 1) s (txt (unitsS s)) 0 false _ w h.O0 (h.objs hne) (by omega) hb (key_name s hs hx w hT) ?_
    intro W hW
    refine delete_obj o.b (txt (unitsS s)) 0 true true v.1 v.2.1 v.2.2 none none none _ W (fun W2 h2 => cO W2 (hW.same h2)) ?_
    intro W2 h2
    have hk : Kx [] w W2 := hW.same h2
    have h' := h.kept0 hk
    obtain ⟨c1, c2, c3, c4, c5⟩ := h'.obj i o ho
    have c1' := c1
    unfold obV at c1'
    rw [eg] at c1' c3
    have hs2 := hk.size
    refine (remove_name o.b o.S q o.path.length g cap o.path.length (txt (unitsS s)) 0 _ _ _ _ _ _ _ _ (propsL o.vs) (nms o.path) W2 c1' (owns_low c3 (Nat.zero_le _)) hql (by omega) hsz ?_ ?_ (nms_len _) (by omega) ?_ ?_).mono ?_
    · rw [← htk]
      exact (List.take_sublist _ _).nodup a4
    · intro x hx
      exact a7 x (a3.subset hx)
    · intro W3 h3
      exact (h'.tree.kept0 h3).find_yes c2 hq
    · intro W3 h3
      have hk3 := hk.same h3
      have c := apart_any o.S N vL (.map (some M)) k fr nx (.bool kp) L o.path.length W3 (hk3.get a1 (by simp)) (hk3.get a2.1 (by simp)) (hk3.owns a2.2.1 (fun g hg => by simp)) hl (by omega) a7
      rw [htk] at c
      exact c
    · rintro e w' ⟨hu, S', C', k1, k2, k3, k4, k5⟩
      refine ⟨hu, S', C', by omega, ?_, k3, k4, (hk.mono (fun j hj => by cases hj)).same k5⟩
      unfold obV
      rw [eg]
      exact k2
  · rintro e w' ⟨rfl, W, ⟨S', C', k1, k2, k3, k4, k5⟩, hk⟩
    obtain ⟨d1, d2, d3, d4, d5⟩ := h.bO ho
    obtain ⟨c1, c2, c3, c4, c5⟩ := h.obj j o' ho'
    have K : Kx [o.b, g] w w' := k5.same (hk.mono (fun j hj => by cases hj))
    have nK : ∀ x, x ≠ o.b → x ≠ g → x ∉ [o.b, g] := fun x e1 e2 hm => by
      simp at hm
      rcases hm with hm | hm
      · exact e1 hm
      · exact e2 hm
    have hO : w'.cell? ⟨O, 0, none⟩ = some (.pointer (some ⟨H, 0, none⟩)) := K.cell h.O0 (nK O d1 (d4 g hgb).1)
    have hobj : Objs w' H (os.map Og.b) := by
      obtain ⟨hl2, ⟨e1, _⟩ | ⟨e1, gg, cc, e2, e3⟩⟩ := h.objs hne
      · exact absurd (by simpa using e1) hne
      · have hgv : hv.ownBlock = some gg := by
          have := cell_at h.heap 0 rfl
          rw [e2] at this
          have e4 : Value.slice (some ⟨gg, 0, none⟩) (os.map Og.b).length cc = hv := Option.some.inj this
          rw [← e4]
          rfl
        refine ⟨hl2, .inr ⟨e1, gg, cc, K.cell e2 (nK H d2 (d4 g hgb).2.1), fun x bb hbb => ⟨K.cell (e3 x bb hbb).1 (nK gg (d3 gg hgv) (d5 g gg hgb hgv)), ?_⟩⟩⟩
        by_cases eb : bb = o.b
        · subst eb
          rw [List.getElem?_map] at hbb
          cases hox : os[x]? with
          | none => rw [hox] at hbb; cases hbb
          | some o2 =>
            rw [hox] at hbb
            simp at hbb
            have := h.dB x i o2 o hox ho hbb
            subst this
            exact cell_at (hk.get k2 (by simp)) 4 rfl
        · refine K.cell (e3 x bb hbb).2 (nK bb eb ?_)
          rintro rfl
          rw [List.getElem?_map] at hbb
          cases hox : os[x]? with
          | none => rw [hox] at hbb; cases hbb
          | some o2 =>
            rw [hox] at hbb
            simp at hbb
            exact owns_ne b3 (h.obj x o2 hox).1 (by decide) bb hgb hbb.symm
    obtain ⟨D, hD, _⟩ := h.tree.shape c2
    have hSF := h.tree.mem c2
    have n1 : o'.b ∉ [o.b, g] := nK _ (fun e => hij (h.dB j i o' o ho' ho e)) (fun e => owns_ne b3 c1 (by decide) g hgb e.symm)
    have n2 : o'.S ∉ [o.b, g] := nK _ (fun e => h.fB i o ho (e ▸ hSF)) (fun e => h.fR i o ho g hgb (e ▸ hSF))
    refine ⟨rfl, K.below h.n0w (fun x hx => by
      simp at hx
      rcases hx with rfl | rfl
      · exact b5
      · exact (b3.lt x hgb).1), ?_⟩
    have c := same_any O H (os.map Og.b) ((i : Int) + 1) ((j : Int) + 1) o.b o'.b S' o'.S true w' hO hobj (by omega) hb (by omega) (by rw [toNat_succ, List.getElem?_map, ho']; rfl) (cell_at (hk.get k2 (by simp)) 5 rfl) (K.cell (cell_at c1 5 rfl) n1) (cell_at (hk.get k3 (by simp)) 4 k4) C' D (hk.get k3 (by simp)) (K.get hD n2)
    rw [Bool.not_true, Bool.and_false] at c
    exact c
end Go.Proofs.YtdnjgemaenhcfaaGreatDoor
/- The three objects; how long names are. -/
set_option linter.unusedVariables false
namespace Go.Proofs.YtdnjgemaenhcfaaGreatDoor
open Go.RowKit Go.Shelf Go.Maps

theorem flat_len {α : Type} (f : α → List Nat) (m : Nat) (hf : ∀ a, (f a).length ≤ m) : ∀ l : List α, (l.flatMap f).length ≤ m * l.length
  | [] => by simp
  | a :: l => by
    rw [List.flatMap_cons, List.length_append, List.length_cons]
    have := flat_len f m hf l
    have := hf a
    rw [Nat.mul_add]
    omega
theorem pts_len : ∀ (l : List Nat), (Un.pts l).length ≤ l.length
  | [] => by simp [Un.pts]
  | [u] => by simp [Un.pts]
  | u :: v :: t => by
    unfold Un.pts
    split
    · have := pts_len t
      simp
      omega
    · have := pts_len (v :: t)
      simp at this ⊢
      omega
theorem txt_size (s : ByteArray) (hs : s.size ≤ 1048576) : (txt (unitsS s)).size ≤ maxLen := by
  have h1 : (txt (unitsS s)).size = (txtB (unitsS s)).length := by simp [txt, ByteArray.size]
  have h2 := flat_len Un.encR 4 (fun r => (Un.encR_len r).2) (Un.pts (unitsS s))
  have h3 := pts_len (unitsS s)
  have h4 := unitsS_len s
  have h5 : (txtB (unitsS s)).length = ((Un.pts (unitsS s)).flatMap Un.encR).length := rfl
  unfold maxLen
  omega
theorem make1 {w : World} {n0 O H : Nat} {hv : Value} {S0 B : Nat} {F : List Nat} {ps : List (Nat × List Stp)} (h : HSt w n0 O H hv S0 B F ps []) (hO : Objs w H []) :
    Calls Tryz.prog 6 #[.pointer (some ⟨O, 0, none⟩), .string ⟨#[79, 98, 106, 101, 99, 116]⟩, .int .i64 0] w fun e w' => e = .returned (.tuple #[.int .i64 1, .int .i64 0]) ∧ ∃ b hv', HSt w' n0 O H hv' S0 B F ps [⟨b, S0, [], .slice none 0 0, []⟩] ∧ Below n0 w w' := h.make hO (by simp)
theorem make2 {w : World} {n0 O H : Nat} {hv : Value} {S0 B : Nat} {F : List Nat} {ps : List (Nat × List Stp)} {o : Og} (h : HSt w n0 O H hv S0 B F ps [o]) :
    Calls Tryz.prog 6 #[.pointer (some ⟨O, 0, none⟩), .string ⟨#[79, 98, 106, 101, 99, 116]⟩, .int .i64 0] w fun e w' => e = .returned (.tuple #[.int .i64 2, .int .i64 0]) ∧ ∃ b hv', HSt w' n0 O H hv' S0 B F ps [o, ⟨b, S0, [], .slice none 0 0, []⟩] ∧ Below n0 w w' := h.make (h.objs (by simp)) (by simp)
theorem make3 {w : World} {n0 O H : Nat} {hv : Value} {S0 B : Nat} {F : List Nat} {ps : List (Nat × List Stp)} {o o' : Og} (h : HSt w n0 O H hv S0 B F ps [o, o']) :
    Calls Tryz.prog 6 #[.pointer (some ⟨O, 0, none⟩), .string ⟨#[79, 98, 106, 101, 99, 116]⟩, .int .i64 0] w fun e w' => e = .returned (.tuple #[.int .i64 3, .int .i64 0]) ∧ ∃ b hv', HSt w' n0 O H hv' S0 B F ps [o, o', ⟨b, S0, [], .slice none 0 0, []⟩] ∧ Below n0 w w' := h.make (h.objs (by simp)) (by simp)
end Go.Proofs.YtdnjgemaenhcfaaGreatDoor
/- The law's first loop: what stands between its calls. -/
set_option linter.unusedVariables false
namespace Go.Proofs.YtdnjgemaenhcfaaGreatDoor
open Go.RowKit Go.Shelf Go.Maps

def nmOf (s : ByteArray) : ByteArray := txt (unitsS s)
def valid (s : ByteArray) : Prop := s.size ≤ 200 ∧ ixOf (unitsS s) < 0
def descA (k : Int) (x : Nat) (tx : ByteArray) : Array Value := #[.bool true, .bool false, .bool false, .bool true, .bool true, .bool true, .int .i64 k, .float .f64 x, .string tx, .int .i64 0, .int .i64 0, .int .i64 0, .bool true, .bool true, .bool true]
def xT : ByteArray := ⟨#[120]⟩
/-- The names that came, of the keys of a list. -/
def Came (ks L : List ByteArray) : Prop := L.Nodup ∧ ∀ y, y ∈ L ↔ ∃ s ∈ ks, valid s ∧ nmOf s = y
theorem nms_all (L : List ByteArray) : nms (L.map allS) = L := by
  simp only [nms, List.map_map]
  have : (Prod.fst ∘ allS : ByteArray → ByteArray) = id := rfl
  rw [this, List.map_id]
theorem Came.skip {ks L : List ByteArray} (h : Came ks L) {s : ByteArray} (hs : ¬ (valid s ∧ nmOf s ∉ L)) : Came (ks ++ [s]) L := by
  refine ⟨h.1, fun y => ⟨fun hy => ?_, ?_⟩⟩
  · obtain ⟨t, h1, h2⟩ := (h.2 y).1 hy
    exact ⟨t, by simp [h1], h2⟩
  · rintro ⟨t, h1, h2, h3⟩
    simp only [List.mem_append, List.mem_singleton] at h1
    rcases h1 with h1 | rfl
    · exact (h.2 y).2 ⟨t, h1, h2, h3⟩
    · rw [← h3]
      exact Classical.byContradiction fun hc => hs ⟨h2, hc⟩
theorem Came.add {ks L : List ByteArray} (h : Came ks L) {s : ByteArray} (hv : valid s) (hs : nmOf s ∉ L) : Came (ks ++ [s]) (L ++ [nmOf s]) := by
  refine ⟨?_, fun y => ⟨fun hy => ?_, ?_⟩⟩
  · rw [List.nodup_append]
    refine ⟨h.1, by simp, ?_⟩
    intro a ha b hb
    simp at hb
    rw [hb]
    intro e
    exact hs (e ▸ ha)
  · simp only [List.mem_append, List.mem_singleton] at hy
    rcases hy with hy | rfl
    · obtain ⟨t, h1, h2⟩ := (h.2 y).1 hy
      exact ⟨t, by simp [h1], h2⟩
    · exact ⟨s, by simp, hv, rfl⟩
  · rintro ⟨t, h1, h2, h3⟩
    simp only [List.mem_append, List.mem_singleton] at h1 ⊢
    rcases h1 with h1 | rfl
    · exact .inl ((h.2 y).2 ⟨t, h1, h2, h3⟩)
    · exact .inr h3.symm
theorem HSt.keptF {w w' : World} {n0 O H : Nat} {hv : Value} {S0 B : Nat} {F : List Nat} {ps : List (Nat × List Stp)} {os : List Og} (h : HSt w n0 O H hv S0 B F ps os) {x : Nat} (hf : Free w F H hv os x) {C : Array Value} (hx : w.heap[x]? = some (.cells C 34 (0, 0))) (hk : Kx [x] w w') : HSt w' n0 O H hv S0 B F ps os where
  face := hk.get h.face (by simp; exact cells_ne h.face hx (by decide))
  heap := hk.get h.heap (by simp; exact fun e => hf.2.2.1 e.symm)
  row := hk.owns h.row (fun g hg => by simp; exact fun e => hf.2.2.2.1 g hg e.symm)
  obj := fun i o ho => by
    obtain ⟨h1, h2, h3, h4⟩ := h.obj i o ho
    have f5 := hf.2.2.2.2 i o ho
    exact ⟨hk.get h1 (by simp; exact fun e => f5.1 e.symm), h2, hk.owns h3 (fun g hg => by simp; exact fun e => f5.2 g hg e.symm), h4⟩
  tree := h.tree.kept hk (fun i hi => by simp; exact fun e => hf.2.1 (e ▸ hi))
  root := h.root
  dB := h.dB
  dR := h.dR
  fO := h.fO
  fH := h.fH
  fV := h.fV
  fB := h.fB
  fR := h.fR
  hi := h.hi
  hH := h.hH
  len := h.len
  n0w := Nat.le_trans h.n0w hk.size
/-- Between two rounds of the first loop; La, Lb: the names of the first and of the second object. -/
def Mid (w : World) (O H : Nat) (hv : Value) (S0 D ba bb bc : Nat) (m : Nat) (La Lb : List ByteArray) (k : Int) (x : Nat) (tx : ByteArray) (wr : World) : Prop :=
  ∃ B F ps Sa Sb nva nvb vsa vsb, HSt wr w.heap.size O H hv S0 B F ps [⟨ba, Sa, La.map allS, nva, vsa⟩, ⟨bb, Sb, Lb.map allS, nvb, vsb⟩, ⟨bc, S0, [], .slice none 0 0, []⟩] ∧ B ≤ m ∧ Free wr F H hv [⟨ba, Sa, La.map allS, nva, vsa⟩, ⟨bb, Sb, Lb.map allS, nvb, vsb⟩, ⟨bc, S0, [], .slice none 0 0, []⟩] D ∧
    wr.heap[D]? = some (.cells (descA k x tx) 34 (0, 0)) ∧ Below w.heap.size w wr ∧ w.heap.size ≤ D
theorem Mid.kept0 {w : World} {O H : Nat} {hv : Value} {S0 D ba bb bc m : Nat} {La Lb : List ByteArray} {k : Int} {x : Nat} {tx : ByteArray} {wr W : World} (h : Mid w O H hv S0 D ba bb bc m La Lb k x tx wr) (hk : Kx [] wr W) : Mid w O H hv S0 D ba bb bc m La Lb k x tx W := by
  obtain ⟨B, F, ps, Sa, Sb, nva, nvb, vsa, vsb, h1, h2, h3, h4, h5, h6⟩ := h
  exact ⟨B, F, ps, Sa, Sb, nva, nvb, vsa, vsb, h1.kept0 hk, h2, h3.kept0 hk.size, hk.get h4 (by simp), h5.trans (hk.below h5.size (by simp)), h6⟩
theorem Mid.setD {w : World} {O H : Nat} {hv : Value} {S0 D ba bb bc m : Nat} {La Lb : List ByteArray} {k : Int} {x : Nat} {tx : ByteArray} {wr W : World} (h : Mid w O H hv S0 D ba bb bc m La Lb k x tx wr) (hk : Kx [D] wr W) {k' : Int} {x' : Nat} {tx' : ByteArray} (hD : W.heap[D]? = some (.cells (descA k' x' tx') 34 (0, 0))) : Mid w O H hv S0 D ba bb bc m La Lb k' x' tx' W := by
  obtain ⟨B, F, ps, Sa, Sb, nva, nvb, vsa, vsb, h1, h2, h3, h4, h5, h6⟩ := h
  exact ⟨B, F, ps, Sa, Sb, nva, nvb, vsa, vsb, h1.keptF h3 h4 hk, h2, h3.kept0 hk.size, hD, h5.trans (hk.below h5.size (by simp; exact h6)), h6⟩
theorem Mid.below {w : World} {O H : Nat} {hv : Value} {S0 D ba bb bc m : Nat} {La Lb : List ByteArray} {k : Int} {x : Nat} {tx : ByteArray} {wr : World} (h : Mid w O H hv S0 D ba bb bc m La Lb k x tx wr) : Below w.heap.size w wr := by
  obtain ⟨B, F, ps, Sa, Sb, nva, nvb, vsa, vsb, h1, h2, h3, h4, h5, h6⟩ := h
  exact h5
theorem Mid.desc {w : World} {O H : Nat} {hv : Value} {S0 D ba bb bc m : Nat} {La Lb : List ByteArray} {k : Int} {x : Nat} {tx : ByteArray} {wr : World} (h : Mid w O H hv S0 D ba bb bc m La Lb k x tx wr) : wr.heap[D]? = some (.cells (descA k x tx) 34 (0, 0)) := by
  obtain ⟨B, F, ps, Sa, Sb, nva, nvb, vsa, vsb, h1, h2, h3, h4, h5, h6⟩ := h
  exact h4
theorem Mid.mono {w : World} {O H : Nat} {hv : Value} {S0 D ba bb bc m m' : Nat} {La Lb : List ByteArray} {k : Int} {x : Nat} {tx : ByteArray} {wr : World} (h : Mid w O H hv S0 D ba bb bc m La Lb k x tx wr) (hm : m ≤ m') : Mid w O H hv S0 D ba bb bc m' La Lb k x tx wr := by
  obtain ⟨B, F, ps, Sa, Sb, nva, nvb, vsa, vsb, h1, h2, h3, h4, h5, h6⟩ := h
  exact ⟨B, F, ps, Sa, Sb, nva, nvb, vsa, vsb, h1, by omega, h3, h4, h5, h6⟩
theorem map_snoc (L : List ByteArray) (y : ByteArray) : (L ++ [y]).map allS = L.map allS ++ [allS y] := by simp
theorem Mid.ownA {w : World} {O H : Nat} {hv : Value} {S0 D ba bb bc m : Nat} {La Lb : List ByteArray} {k : Int} {x : Nat} {tx : ByteArray} {wr : World} (h : Mid w O H hv S0 D ba bb bc m La Lb k x tx wr) (hT : Lib.Utf8Tabs 2 3 w) (s : ByteArray) (hss : s.size ≤ 1048576) (hL : La.length ≤ 900) (has : Bool) (hh : has = true ↔ (ixOf (unitsS s) < 0 ∧ nmOf s ∈ La)) :
    Calls Tryz.prog 10 #[.pointer (some ⟨O, 0, none⟩), .int .i64 1, .string s] wr fun e w' => DescIs e has ∧ Kx [] wr w' := by
  obtain ⟨B, F, ps, Sa, Sb, nva, nvb, vsa, vsb, h1, h2, h3, h4, h5, h6⟩ := h
  refine h1.own (i := 0) rfl s (by omega) (txt_size s hss) (by simp; exact hL) (tabs_below hT h5) has ?_
  rw [nms_all]
  exact hh
theorem Mid.defA {w : World} {O H : Nat} {hv : Value} {S0 D ba bb bc m : Nat} {La Lb : List ByteArray} {k : Int} {x : Nat} {tx : ByteArray} {wr : World} (h : Mid w O H hv S0 D ba bb bc m La Lb 3 x tx wr) (hT : Lib.Utf8Tabs 2 3 w) (s : ByteArray) (hss : s.size ≤ 1048576) (hv' : valid s) (hn : nmOf s ∉ La) (hL : La.length ≤ 900) (hm : m ≤ 900) :
    Calls Tryz.prog 7 #[.pointer (some ⟨O, 0, none⟩), .int .i64 1, .string s, .agg (descA 3 x tx)] wr fun e w' => e = .returned (.int .i64 0) ∧ Mid w O H hv S0 D ba bb bc (m + 1) (La ++ [nmOf s]) Lb 3 x tx w' := by
  obtain ⟨B, F, ps, Sa, Sb, nva, nvb, vsa, vsb, h1, h2, h3, h4, h5, h6⟩ := h
  refine (h1.define (i := 0) rfl s (by omega) hv'.2 (by rw [nms_all]; exact hn) (txt_size s hss) (by omega) (by simp; exact hL) (tabs_below hT h5) 3 0 0 0 x tx (3, x, ⟨#[]⟩) (fun W hW => value_num O x tx 0 W)).mono ?_
  rintro e w' ⟨rfl, S', nv', F', ps', k1, k2, k3, k4⟩
  refine ⟨rfl, B + 1, F', ps', S', Sb, nv', nvb, vsa ++ [(3, x, ⟨#[]⟩)], vsb, ?_, by omega, ?_, ?_, h5.trans k3, h6⟩
  · rw [map_snoc]; exact k1
  · rw [map_snoc]; exact (k4 D h3).1
  · exact (k4 D h3).2.trans h4
theorem Mid.defB {w : World} {O H : Nat} {hv : Value} {S0 D ba bb bc m : Nat} {La Lb : List ByteArray} {x : Nat} {tx : ByteArray} {wr : World} (h : Mid w O H hv S0 D ba bb bc m La Lb 4 x xT wr) (hT : Lib.Utf8Tabs 2 3 w) (s : ByteArray) (hss : s.size ≤ 1048576) (hv' : valid s) (hn : nmOf s ∉ Lb) (hL : Lb.length ≤ 900) (hm : m ≤ 900) :
    Calls Tryz.prog 7 #[.pointer (some ⟨O, 0, none⟩), .int .i64 2, .string s, .agg (descA 4 x xT)] wr fun e w' => e = .returned (.int .i64 0) ∧ Mid w O H hv S0 D ba bb bc (m + 1) La (Lb ++ [nmOf s]) 4 x xT w' := by
  obtain ⟨B, F, ps, Sa, Sb, nva, nvb, vsa, vsb, h1, h2, h3, h4, h5, h6⟩ := h
  refine (h1.define (i := 1) rfl s (by omega) hv'.2 (by rw [nms_all]; exact hn) (txt_size s hss) (by omega) (by simp; exact hL) (tabs_below hT h5) 4 0 0 0 x xT (4, 0, txt (unitsS xT)) (fun W hW => value_txt O x xT (by decide) 0 W (tabs_kx (tabs_below hT h5) hW))).mono ?_
  rintro e w' ⟨rfl, S', nv', F', ps', k1, k2, k3, k4⟩
  refine ⟨rfl, B + 1, F', ps', Sa, S', nva, nv', vsa, vsb ++ [(4, 0, txt (unitsS xT))], ?_, by omega, ?_, ?_, h5.trans k3, h6⟩
  · rw [map_snoc]; exact k1
  · rw [map_snoc]; exact (k4 D h3).1
  · exact (k4 D h3).2.trans h4
theorem Mid.same {w : World} {O H : Nat} {hv : Value} {S0 D ba bb bc m : Nat} {L : List ByteArray} {k : Int} {x : Nat} {tx : ByteArray} {wr : World} (h : Mid w O H hv S0 D ba bb bc m L L k x tx wr) :
    Calls Tryz.prog 14 #[.pointer (some ⟨O, 0, none⟩), .int .i64 1, .int .i64 2] wr fun e w' => e = .returned (.bool true) ∧ ∃ q, w' = wr.drewN q := by
  obtain ⟨B, F, ps, Sa, Sb, nva, nvb, vsa, vsb, h1, h2, h3, h4, h5, h6⟩ := h
  exact h1.same (i := 0) (j := 1) rfl rfl true (by simp)
end Go.Proofs.YtdnjgemaenhcfaaGreatDoor
